/-
  What panics: insist, and the height behind an instruction. Conditions: the program's own error lies in its variable.
-/
import Derived.Test.YtdmcpabpjhinhaaDoorEffP
import Derived.Test.YtdmcpabpjhinhaaDoorHgtP
import Derived.Test.YtdmcpabpjhinhaaDoorSprd
import Derived.WalkLawsBesides
namespace Go.Proofs.YtdmcpabpjhinhaaDoor
set_option linter.unusedVariables false
open Go.RowKit

/-- The program's error lies in its variable. -/
def Stuck (tp : TypeId) (p : Value) (w : World) : Prop := w.cell? ⟨0, 0, none⟩ = some (.iface tp p)
theorem Stuck.next {tp : TypeId} {p : Value} {w w' : World} (h : Stuck tp p w) (hb : Below w.heap.size w w') : Stuck tp p w' := (hb.cell (p := ⟨0, 0, none⟩) (cell_lt h)).trans h
theorem insist_no (tp : TypeId) (p : Value) (w : World) (h : Stuck tp p w) : Calls Tryd.prog 27 #[.bool false] w fun e w' => e = .panicked [{ v := .iface tp p, recovered := false }] ∧ w' = w := by
  have h' : w.cell? ⟨0, 0, none⟩ = some (.iface tp p) := h
  go_enter Tryd.func27, Tryd.ntmps27
  go_wp2_with fail
  exact ⟨rfl, rfl, rfl⟩
set_option maxRecDepth 100000 in
set_option maxHeartbeats 2000000 in
/-- stackBehind where the stack fits. -/
theorem behind_ok (op a h : Int) (w : World) (ho : 0 ≤ op ∧ op ≤ 11) (hf : fitB op h = true) (hh : -10 ≤ h ∧ h ≤ 10) :
    Calls Tryd.prog 26 #[.agg #[.int .i64 op, .int .i64 a], .int .i64 h] w fun e w' => e = .returned (.int .i64 (h - popB op + pushB op)) ∧ Below w.heap.size w w' := by
  have hb0 := bnew w (.cells #[.int .i64 op, .int .i64 a] 38)
  have h1 := popB_02 op
  have h2 := pushB_01 op
  have e1 : IntKind.i64.wrap (h - popB op) = h - popB op := IntWalk.i64_in _ (by omega)
  have e2 : IntKind.i64.wrap (h - popB op + pushB op) = h - popB op + pushB op := IntWalk.i64_in _ (by omega)
  have HF := Lib.hid hf
  clear hf
  go_enter Tryd.func26, Tryd.ntmps26
  go_wp2_with fail
  generalize w.alloc (.cells #[.int .i64 op, .int .i64 a] 38) = W at hb0 ⊢
  refine (form_c op a W ho).mono ?_
  rintro e w1 ⟨rfl, hb1⟩
  have HFI := Lib.hid (fun W => fits_c op h W)
  rw [HF.out] at HFI
  have hR := blk_new w1 56 (opV op) w1.heap.size rfl
  have hb2 := bnew w1 (.cells (opV op) 56)
  have hR3 := fun W (hW : Below (w1.alloc (.cells (opV op) 56)).heap.size (w1.alloc (.cells (opV op) 56)) W) => hR.next hW
  unfold opV at hR hb2 HFI hR3 ⊢
  go_wp2_with fail
  refine (HFI.out _).mono ?_
  rintro e w2 ⟨rfl, hb3⟩
  have q3 := (hR3 w2 hb3).cell 3
  have q4 := (hR3 w2 hb3).cell 4
  simp at q3 q4
  have hbb := bon (bon (bon hb0 hb1) hb2) hb3
  have HBB := Lib.hid hbb
  clear hR hR3 hb2 hb3 hbb
  go_wp2_with fail
  refine (insist_yes w2).mono ?_
  rintro e w3 ⟨⟨v, rfl⟩, rfl⟩
  go_wp2_with fail
  go_ret
  exact ⟨rfl, HBB.out⟩

set_option maxRecDepth 100000 in
set_option maxHeartbeats 2000000 in
/-- .. and where it doesn't. -/
theorem behind_no (tp : TypeId) (pv : Value) (op a h : Int) (w : World) (ho : 0 ≤ op ∧ op ≤ 11) (hf : fitB op h = false) (hs : Stuck tp pv w) :
    Calls Tryd.prog 26 #[.agg #[.int .i64 op, .int .i64 a], .int .i64 h] w fun e w' => e = .panicked [{ v := .iface tp pv, recovered := false }] ∧ Below w.heap.size w w' := by
  have hb0 := bnew w (.cells #[.int .i64 op, .int .i64 a] 38)
  have HF := Lib.hid hf
  have HS := Lib.hid hs
  clear hf hs
  go_enter Tryd.func26, Tryd.ntmps26
  go_wp2_with fail
  generalize w.alloc (.cells #[.int .i64 op, .int .i64 a] 38) = W at hb0 ⊢
  refine (form_c op a W ho).mono ?_
  rintro e w1 ⟨rfl, hb1⟩
  have HFI := Lib.hid (fun W => fits_c op h W)
  rw [HF.out] at HFI
  have hb2 := bnew w1 (.cells (opV op) 56)
  unfold opV at hb2 HFI ⊢
  go_wp2_with fail
  refine (HFI.out _).mono ?_
  rintro e w2 ⟨rfl, hb3⟩
  have hbb := bon (bon (bon hb0 hb1) hb2) hb3
  have HBB := Lib.hid hbb
  clear hb2 hb3 hbb
  go_wp2_with fail
  refine (insist_no tp pv w2 (HS.out.next HBB.out)).mono ?_
  rintro e w3 ⟨rfl, rfl⟩
  go_wp2_with fail
  exact ⟨rfl, rfl, HBB.out⟩
end Go.Proofs.YtdmcpabpjhinhaaDoor
