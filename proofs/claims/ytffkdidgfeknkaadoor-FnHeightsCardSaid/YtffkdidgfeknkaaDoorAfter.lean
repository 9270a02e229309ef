/-
  The program's machine behind a step (it takes the machine by value and gives the one behind the step, or the one as it was, and how the step stops). Conditions: valid code, a valid config.
-/
import Derived.Test.YtffkdidgfeknkaaDoorCallF
import Derived.Test.YtffkdidgfeknkaaDoorBunB
import Derived.Great.BuildSlice
namespace Go.Proofs.YtffkdidgfeknkaaDoor
set_option linter.unusedVariables false
open Go.RowKit

theorem mc_size (L : List Int) : (mc L).size = L.length := by simp [mc]
theorem mc_one (L : List Int) : (mc L).all (·.oneCell') = true := by
  unfold mc
  rw [Array.all_eq_true']
  intro v hv
  have hv' : v ∈ L.map ic := by simpa using hv
  obtain ⟨x, _, rfl⟩ := List.mem_map.1 hv'
  rfl
theorem BlkIs.out {w w' : World} {g lo hi : Nat} {t : TypeId} {cs : Array Value} (h : BlkIs w g t cs) (ho : Out lo hi w w') (hn : g < lo ∨ hi ≤ g) : BlkIs w' g t cs := (ho.block g h.lt (by omega)).trans h
theorem BlkIs.setRow {w : World} {g g' : Nat} {t : TypeId} {cs cs' : Array Value} (h : BlkIs w g t cs) (hne : g' ≠ g) : BlkIs (w.setRow g' cs') g t cs := by
  unfold BlkIs at h ⊢
  have : (w.setRow g' cs').heap[g]? = w.heap[g]? := by
    simp only [World.setRow]
    rw [Array.getElem?_modify, if_neg hne]
  rw [this]; exact h
theorem blk_setRow {w : World} {g : Nat} {t : TypeId} {cs cs' : Array Value} (h : BlkIs w g t cs) : BlkIs (w.setRow g cs') g t cs' := by
  unfold BlkIs at h ⊢
  simp only [World.setRow]
  rw [Array.getElem?_modify, if_pos rfl, h]
  rfl
theorem out_setRow {w : World} {g lo hi : Nat} {cs' : Array Value} (hg : lo ≤ g ∧ g < hi) : Out lo hi w (w.setRow g cs') := by
  refine ⟨rfl, rfl, rfl, ?_, ?_⟩
  · simp [World.setRow]
  · intro k hk hn
    simp only [World.setRow]
    rw [Array.getElem?_modify, if_neg (by omega)]
theorem mach_info {L : List Int} (h : L.length = 20) : (Tryd.prog.info? 94).map (·.size) = some (mc L).size := by rw [mc_size, h]; kernel_rfl
theorem results_mach {fn : Func} {p q : Tmp} (h : fn.results = #[.cell p 94, .tmp q]) (tmps : Array Value) (w : World) (g : Nat) (L : List Int) (v : Value) (hl : L.length = 20)
    (hp : tmps.getD p undef = .pointer (some ⟨g, 0, none⟩)) (hq : tmps.getD q undef = v) (hg : BlkIs w g 94 (mc L)) :
    (results fn tmps).run Tryd.prog w = .ok (.tuple #[.agg (mc L), v]) w := by
  have hp' : tmps[p]?.getD undef = .pointer (some ⟨g, 0, none⟩) := by simpa using hp
  have hq' : tmps[q]?.getD undef = v := by simpa using hq
  simp [results, h, hp', hq', asAddr, run_loadVar_row w g 94 94 (mc L) (0, 0) _ hg Tryd.underlying94 rfl (mach_info hl)]

/-- What after gives. -/
def AftQ (cs : List (Int × Int)) (L vs zs st : List Int) (p : Int) (w : World) : Ending → World → Prop := fun e w' =>
  ∃ L', e = .returned (.tuple #[.agg (mc L'), .int .i64 (outN cs st p)]) ∧ L'.length = 20 ∧ (outN cs st p ≠ 0 → L' = L) ∧
    (outN cs st p = 0 → Rep L' (nextN cs (vs, zs, st, p)).1 (nextN cs (vs, zs, st, p)).2.1 (nextN cs (vs, zs, st, p)).2.2.1 (nextN cs (vs, zs, st, p)).2.2.2) ∧ Below w.heap.size w w'

set_option maxRecDepth 100000 in
set_option maxHeartbeats 4000000 in
theorem after_beyond (C : Option Addr) (k cc : Nat) (cs : List (Int × Int)) (L vs zs st : List Int) (p : Int) (w : World) (hk : cs.length = k) (r : Rep L vs zs st p) (hp : (k : Int) ≤ p) :
    Calls Tryd.prog 91 #[.agg (mc L), .slice C k cc] w (AftQ cs L vs zs st p w) := by
  have ho : outN cs st p = 5 := outN_beyond (by omega)
  have hb0 : Below w.heap.size w ((w.alloc (.cells (mc L) 94)).alloc (.cells #[.int .i64 0, .int .i64 0, .int .i64 0, .int .i64 0, .int .i64 0, .int .i64 0, .int .i64 0, .int .i64 0, .int .i64 0, .int .i64 0, .int .i64 0, .int .i64 0, .int .i64 0, .int .i64 0, .int .i64 0, .int .i64 0, .int .i64 0, .int .i64 0, .int .i64 0, .int .i64 0] 94)) := bon (bnew _ _) (bnew _ _)
  have hM : MachIs ((w.alloc (.cells (mc L) 94)).alloc (.cells #[.int .i64 0, .int .i64 0, .int .i64 0, .int .i64 0, .int .i64 0, .int .i64 0, .int .i64 0, .int .i64 0, .int .i64 0, .int .i64 0, .int .i64 0, .int .i64 0, .int .i64 0, .int .i64 0, .int .i64 0, .int .i64 0, .int .i64 0, .int .i64 0, .int .i64 0, .int .i64 0] 94)) w.heap.size L := ⟨(blk_new _ _ _ _ rfl).next (bnew _ _), r.len⟩
  have hR : BlkIs ((w.alloc (.cells (mc L) 94)).alloc (.cells #[.int .i64 0, .int .i64 0, .int .i64 0, .int .i64 0, .int .i64 0, .int .i64 0, .int .i64 0, .int .i64 0, .int .i64 0, .int .i64 0, .int .i64 0, .int .i64 0, .int .i64 0, .int .i64 0, .int .i64 0, .int .i64 0, .int .i64 0, .int .i64 0, .int .i64 0, .int .i64 0] 94)) (w.heap.size + 1) 94 #[.int .i64 0, .int .i64 0, .int .i64 0, .int .i64 0, .int .i64 0, .int .i64 0, .int .i64 0, .int .i64 0, .int .i64 0, .int .i64 0, .int .i64 0, .int .i64 0, .int .i64 0, .int .i64 0, .int .i64 0, .int .i64 0, .int .i64 0, .int .i64 0, .int .i64 0, .int .i64 0] := blk_new _ _ _ _ (by simp)
  have p19 := hM.at_ r.a
  have hi := mach_info r.len
  have hs : (#[.int .i64 0, .int .i64 0, .int .i64 0, .int .i64 0, .int .i64 0, .int .i64 0, .int .i64 0, .int .i64 0, .int .i64 0, .int .i64 0, .int .i64 0, .int .i64 0, .int .i64 0, .int .i64 0, .int .i64 0, .int .i64 0, .int .i64 0, .int .i64 0, .int .i64 0, .int .i64 0] : Array Value).size = (mc L).size := by rw [mc_size, r.len]; rfl
  have h1 := mc_one L
  clear r
  go_enter Tryd.func91, Tryd.ntmps91
  go_wp2_with (first
    | (refine wpList_load_row rfl 94 _ rfl w.heap.size rfl 94 (mc L) (0, 0) _ hM.1 Tryd.underlying94 rfl hi ?_)
    | (refine wpList_store_rowTo rfl 94 _ _ rfl rfl (w.heap.size + 1) (mc L) rfl rfl 94 #[.int .i64 0, .int .i64 0, .int .i64 0, .int .i64 0, .int .i64 0, .int .i64 0, .int .i64 0, .int .i64 0, .int .i64 0, .int .i64 0, .int .i64 0, .int .i64 0, .int .i64 0, .int .i64 0, .int .i64 0, .int .i64 0, .int .i64 0, .int .i64 0, .int .i64 0, .int .i64 0] hR hi hs h1 ?_)
    | fail)
  generalize (w.alloc (.cells (mc L) 94)).alloc (.cells #[.int .i64 0, .int .i64 0, .int .i64 0, .int .i64 0, .int .i64 0, .int .i64 0, .int .i64 0, .int .i64 0, .int .i64 0, .int .i64 0, .int .i64 0, .int .i64 0, .int .i64 0, .int .i64 0, .int .i64 0, .int .i64 0, .int .i64 0, .int .i64 0, .int .i64 0, .int .i64 0] 94) = W at hb0 hM hR p19 ⊢
  refine bodyPost_ret (results_mach rfl _ _ (w.heap.size + 1) L (.int .i64 5) hM.2 rfl rfl (blk_setRow hR)) rfl ?_
  exact ⟨L, by rw [ho], hM.2, fun _ => rfl, fun h => by rw [ho] at h; exact absurd h (by decide), hb0.trans ((out_setRow (lo := w.heap.size) (hi := w.heap.size + 2) ⟨by omega, by omega⟩).below (Nat.le_refl _) hb0.size)⟩

set_option maxRecDepth 100000 in
set_option maxHeartbeats 8000000 in
theorem after_unfit (C : Option Addr) (k cc : Nat) (cs : List (Int × Int)) (L vs zs st : List Int) (p : Nat) (op a : Int) (w : World) (hC : InC w w.heap.size C k cs) (r : Rep L vs zs st p) (h6 : st.length ≤ 6) (hk8 : k ≤ 80) (hx : cs[p]? = some (op, a)) (hop : 0 ≤ op ∧ op ≤ 11) (hf : fitB op (st.length : Int) = false) :
    Calls Tryd.prog 91 #[.agg (mc L), .slice C k cc] w (AftQ cs L vs zs st p w) := by
  have ho : outN cs st p = 5 := outN_unfit (x := (op, a)) (by simpa using hx) hf
  have hlt : p < k := by have := (List.getElem?_eq_some_iff.1 hx).1; have := hC.1; omega
  have hb0 : Below w.heap.size w ((w.alloc (.cells (mc L) 94)).alloc (.cells #[.int .i64 0, .int .i64 0, .int .i64 0, .int .i64 0, .int .i64 0, .int .i64 0, .int .i64 0, .int .i64 0, .int .i64 0, .int .i64 0, .int .i64 0, .int .i64 0, .int .i64 0, .int .i64 0, .int .i64 0, .int .i64 0, .int .i64 0, .int .i64 0, .int .i64 0, .int .i64 0] 94)) := bon (bnew _ _) (bnew _ _)
  have hM : MachIs ((w.alloc (.cells (mc L) 94)).alloc (.cells #[.int .i64 0, .int .i64 0, .int .i64 0, .int .i64 0, .int .i64 0, .int .i64 0, .int .i64 0, .int .i64 0, .int .i64 0, .int .i64 0, .int .i64 0, .int .i64 0, .int .i64 0, .int .i64 0, .int .i64 0, .int .i64 0, .int .i64 0, .int .i64 0, .int .i64 0, .int .i64 0] 94)) w.heap.size L := ⟨(blk_new _ _ _ _ rfl).next (bnew _ _), r.len⟩
  have hR : BlkIs ((w.alloc (.cells (mc L) 94)).alloc (.cells #[.int .i64 0, .int .i64 0, .int .i64 0, .int .i64 0, .int .i64 0, .int .i64 0, .int .i64 0, .int .i64 0, .int .i64 0, .int .i64 0, .int .i64 0, .int .i64 0, .int .i64 0, .int .i64 0, .int .i64 0, .int .i64 0, .int .i64 0, .int .i64 0, .int .i64 0, .int .i64 0] 94)) (w.heap.size + 1) 94 #[.int .i64 0, .int .i64 0, .int .i64 0, .int .i64 0, .int .i64 0, .int .i64 0, .int .i64 0, .int .i64 0, .int .i64 0, .int .i64 0, .int .i64 0, .int .i64 0, .int .i64 0, .int .i64 0, .int .i64 0, .int .i64 0, .int .i64 0, .int .i64 0, .int .i64 0, .int .i64 0] := blk_new _ _ _ _ (by simp)
  have p19 := hM.at_ r.a
  have hi := mach_info r.len
  have hs : (#[.int .i64 0, .int .i64 0, .int .i64 0, .int .i64 0, .int .i64 0, .int .i64 0, .int .i64 0, .int .i64 0, .int .i64 0, .int .i64 0, .int .i64 0, .int .i64 0, .int .i64 0, .int .i64 0, .int .i64 0, .int .i64 0, .int .i64 0, .int .i64 0, .int .i64 0, .int .i64 0] : Array Value).size = (mc L).size := by rw [mc_size, r.len]; rfl
  have h1 := mc_one L
  obtain ⟨b, off, t, rfl, hbl, ht, q0, q1⟩ := (hC.next hb0 (Nat.le_refl _)).at_ hlt
  obtain rfl : t = (op, a) := by rw [hx] at ht; injection ht with ht; exact ht.symm
  have hsz : ((w.alloc (.cells (mc L) 94)).alloc (.cells #[.int .i64 0, .int .i64 0, .int .i64 0, .int .i64 0, .int .i64 0, .int .i64 0, .int .i64 0, .int .i64 0, .int .i64 0, .int .i64 0, .int .i64 0, .int .i64 0, .int .i64 0, .int .i64 0, .int .i64 0, .int .i64 0, .int .i64 0, .int .i64 0, .int .i64 0, .int .i64 0] 94)).heap.size = w.heap.size + 2 := by simp
  have hh := r.h
  have ra := r.a
  have e1 : ((k : Int) ≤ (p : Int)) = False := by simp; omega
  have e2 : (0 : Int) ≤ (p : Int) := by omega
  have e3 : (p : Int) < (k : Int) := by omega
  have hFIT := fits_c op st.length
  rw [hf] at hFIT
  have HFIT := Lib.hid hFIT
  have HFO := Lib.hid (fun W => form_c op a W hop)
  have HLEN := Lib.hid r.len
  clear hC ht hFIT hf
  go_enter Tryd.func91, Tryd.ntmps91
  go_wp2_with (first
    | (refine wpList_load_row rfl 94 _ rfl w.heap.size rfl 94 (mc L) (0, 0) _ hM.1 Tryd.underlying94 rfl hi ?_)
    | (refine wpList_store_rowTo rfl 94 _ _ rfl rfl (w.heap.size + 1) (mc L) rfl rfl 94 #[.int .i64 0, .int .i64 0, .int .i64 0, .int .i64 0, .int .i64 0, .int .i64 0, .int .i64 0, .int .i64 0, .int .i64 0, .int .i64 0, .int .i64 0, .int .i64 0, .int .i64 0, .int .i64 0, .int .i64 0, .int .i64 0, .int .i64 0, .int .i64 0, .int .i64 0, .int .i64 0] hR hi hs h1 ?_)
    | fail)
  generalize (w.alloc (.cells (mc L) 94)).alloc (.cells #[.int .i64 0, .int .i64 0, .int .i64 0, .int .i64 0, .int .i64 0, .int .i64 0, .int .i64 0, .int .i64 0, .int .i64 0, .int .i64 0, .int .i64 0, .int .i64 0, .int .i64 0, .int .i64 0, .int .i64 0, .int .i64 0, .int .i64 0, .int .i64 0, .int .i64 0, .int .i64 0] 94) = W at hb0 hM hR p19 q0 q1 hsz ⊢
  have hX : BlkIs (W.alloc (.cells #[.int .i64 op, .int .i64 a] 87)) W.heap.size 87 #[.int .i64 op, .int .i64 a] := blk_new _ _ _ _ rfl
  have hbX := bnew W (.cells #[.int .i64 op, .int .i64 a] 87)
  refine (HFO.out _).mono ?_
  rintro e w2 ⟨rfl, hb2⟩
  have hb02 := bon hbX hb2
  have hF : BlkIs (w2.alloc (.cells (opV op) 121)) w2.heap.size 121 (opV op) := blk_new _ _ _ _ rfl
  have hb3 := bnew w2 (.cells (opV op) 121)
  have hs2 := hb02.size
  have hs2' := hb2.size
  have hs2x := hX.lt
  have hb03 := bon hb02 hb3
  have hX3 := (hX.next hb2).next hb3
  have p18 := (hM.next hb03).at_ hh
  have f0 : (w2.alloc (.cells (opV op) 121)).cell? ⟨w2.heap.size, 0, none⟩ = some (.string (nmB op)) := hF.cell 0
  have f1 : (w2.alloc (.cells (opV op) 121)).cell? ⟨w2.heap.size, 1, none⟩ = some (.int .i64 (loB op)) := hF.cell 1
  have f2 : (w2.alloc (.cells (opV op) 121)).cell? ⟨w2.heap.size, 2, none⟩ = some (.int .i64 (hiB op)) := hF.cell 2
  have f3 : (w2.alloc (.cells (opV op) 121)).cell? ⟨w2.heap.size, 3, none⟩ = some (.int .i64 (popB op)) := hF.cell 3
  have f4 : (w2.alloc (.cells (opV op) 121)).cell? ⟨w2.heap.size, 4, none⟩ = some (.int .i64 (pushB op)) := hF.cell 4
  have f5 : (w2.alloc (.cells (opV op) 121)).cell? ⟨w2.heap.size, 5, none⟩ = some (.func (Fn.func (efB op)) #[] #[]) := hF.cell 5
  have hsF := hF.lt
  clear q0 q1 p19 hbX hb2 hX hb3 HFO
  unfold opV at f0 f1 f2 f3 f4 f5 hb03 p18 hX3 hF hsF ⊢
  go_wp2_with fail
  generalize w2.alloc (.cells #[.string (nmB op), .int .i64 (loB op), .int .i64 (hiB op), .int .i64 (popB op), .int .i64 (pushB op), .func (Fn.func (efB op)) #[] #[]] 121) = W3 at f0 f1 f2 f3 f4 f5 hb03 p18 hX3 hF hsF ⊢
  refine (HFIT.out _).mono ?_
  rintro e w4 ⟨rfl, hb4⟩
  have hb04 := bon hb03 hb4
  have hM4 := hM.next hb04
  have hR4 := hR.next hb04
  have hF4 := hF.next hb4
  have hX4 := hX3.next hb4
  have hs4 := hb4.size
  have hbw := bon hb0 hb04
  clear f0 f1 f2 f3 f4 f5 p18 hM hR hb0 hb03 hb02 hb4 hb04 hF hX3 HFIT
  clear r
  go_wp2_with (first
    | (refine wpList_load_row rfl 94 _ rfl w.heap.size rfl 94 (mc L) (0, 0) _ hM4.1 Tryd.underlying94 rfl hi ?_)
    | (refine wpList_store_rowTo rfl 94 _ _ rfl rfl (w.heap.size + 1) (mc L) rfl rfl 94 #[.int .i64 0, .int .i64 0, .int .i64 0, .int .i64 0, .int .i64 0, .int .i64 0, .int .i64 0, .int .i64 0, .int .i64 0, .int .i64 0, .int .i64 0, .int .i64 0, .int .i64 0, .int .i64 0, .int .i64 0, .int .i64 0, .int .i64 0, .int .i64 0, .int .i64 0, .int .i64 0] hR4 hi hs h1 ?_)
    | fail)
  refine bodyPost_ret (results_mach rfl _ _ (w.heap.size + 1) L (.int .i64 5) HLEN.out rfl rfl (blk_setRow hR4)) rfl ?_
  exact ⟨L, by rw [ho], HLEN.out, fun _ => rfl, fun h => by rw [ho] at h; exact absurd h (by decide), hbw.trans ((out_setRow (lo := w.heap.size) (hi := w.heap.size + 2) ⟨by omega, by omega⟩).below (Nat.le_refl _) hbw.size)⟩

set_option maxRecDepth 100000 in
set_option maxHeartbeats 8000000 in
theorem after_stop (C : Option Addr) (k cc : Nat) (cs : List (Int × Int)) (L vs zs st : List Int) (p : Nat) (op a : Int) (w : World) (hC : InC w w.heap.size C k cs) (r : Rep L vs zs st p) (h6 : st.length ≤ 6) (hk8 : k ≤ 80) (hx : cs[p]? = some (op, a)) (hop : 0 ≤ op ∧ op ≤ 11) (hf : fitB op (st.length : Int) = true) (hc : codeB cs = true) (v : CfV vs zs st p) (hz : outO op a st ≠ 0) :
    Calls Tryd.prog 91 #[.agg (mc L), .slice C k cc] w (AftQ cs L vs zs st p w) := by
  have hx' : cs[(p : Int).toNat]? = some (op, a) := by simpa using hx
  have ho : outN cs st p = outO op a st := outN_fit (x := (op, a)) hx' hf
  have ez : (outO op a st != 0) = true := by simpa using hz
  have HZ := Lib.hid hz
  clear hz
  have HNX := Lib.hid (nextN_some (vs := vs) (zs := zs) (st := st) hx')
  have HIB := Lib.hid (show instrB op a = true from codeB_at hc hx')
  have HEF := Lib.hid (fun (g : Nat) (L' : List Int) (W : World) (hM : MachIs W g L') (r' : Rep L' vs zs st ((p : Int) + 1)) => eff_c hM r' v hf HIB.out)
  clear hx'
  have hlt : p < k := by have := (List.getElem?_eq_some_iff.1 hx).1; have := hC.1; omega
  have hb0 : Below w.heap.size w ((w.alloc (.cells (mc L) 94)).alloc (.cells #[.int .i64 0, .int .i64 0, .int .i64 0, .int .i64 0, .int .i64 0, .int .i64 0, .int .i64 0, .int .i64 0, .int .i64 0, .int .i64 0, .int .i64 0, .int .i64 0, .int .i64 0, .int .i64 0, .int .i64 0, .int .i64 0, .int .i64 0, .int .i64 0, .int .i64 0, .int .i64 0] 94)) := bon (bnew _ _) (bnew _ _)
  have hM : MachIs ((w.alloc (.cells (mc L) 94)).alloc (.cells #[.int .i64 0, .int .i64 0, .int .i64 0, .int .i64 0, .int .i64 0, .int .i64 0, .int .i64 0, .int .i64 0, .int .i64 0, .int .i64 0, .int .i64 0, .int .i64 0, .int .i64 0, .int .i64 0, .int .i64 0, .int .i64 0, .int .i64 0, .int .i64 0, .int .i64 0, .int .i64 0] 94)) w.heap.size L := ⟨(blk_new _ _ _ _ rfl).next (bnew _ _), r.len⟩
  have hR : BlkIs ((w.alloc (.cells (mc L) 94)).alloc (.cells #[.int .i64 0, .int .i64 0, .int .i64 0, .int .i64 0, .int .i64 0, .int .i64 0, .int .i64 0, .int .i64 0, .int .i64 0, .int .i64 0, .int .i64 0, .int .i64 0, .int .i64 0, .int .i64 0, .int .i64 0, .int .i64 0, .int .i64 0, .int .i64 0, .int .i64 0, .int .i64 0] 94)) (w.heap.size + 1) 94 #[.int .i64 0, .int .i64 0, .int .i64 0, .int .i64 0, .int .i64 0, .int .i64 0, .int .i64 0, .int .i64 0, .int .i64 0, .int .i64 0, .int .i64 0, .int .i64 0, .int .i64 0, .int .i64 0, .int .i64 0, .int .i64 0, .int .i64 0, .int .i64 0, .int .i64 0, .int .i64 0] := blk_new _ _ _ _ (by simp)
  have p19 := hM.at_ r.a
  have hi := mach_info r.len
  have hs : (#[.int .i64 0, .int .i64 0, .int .i64 0, .int .i64 0, .int .i64 0, .int .i64 0, .int .i64 0, .int .i64 0, .int .i64 0, .int .i64 0, .int .i64 0, .int .i64 0, .int .i64 0, .int .i64 0, .int .i64 0, .int .i64 0, .int .i64 0, .int .i64 0, .int .i64 0, .int .i64 0] : Array Value).size = (mc L).size := by rw [mc_size, r.len]; rfl
  have h1 := mc_one L
  obtain ⟨b, off, t, rfl, hbl, ht, q0, q1⟩ := (hC.next hb0 (Nat.le_refl _)).at_ hlt
  obtain rfl : t = (op, a) := by rw [hx] at ht; injection ht with ht; exact ht.symm
  have hsz : ((w.alloc (.cells (mc L) 94)).alloc (.cells #[.int .i64 0, .int .i64 0, .int .i64 0, .int .i64 0, .int .i64 0, .int .i64 0, .int .i64 0, .int .i64 0, .int .i64 0, .int .i64 0, .int .i64 0, .int .i64 0, .int .i64 0, .int .i64 0, .int .i64 0, .int .i64 0, .int .i64 0, .int .i64 0, .int .i64 0, .int .i64 0] 94)).heap.size = w.heap.size + 2 := by simp
  have hh := r.h
  have ra := r.a
  have e1 : ((k : Int) ≤ (p : Int)) = False := by simp; omega
  have e2 : (0 : Int) ≤ (p : Int) := by omega
  have e3 : (p : Int) < (k : Int) := by omega
  have hFIT := fits_c op st.length
  rw [hf] at hFIT
  have HFIT := Lib.hid hFIT
  have HFO := Lib.hid (fun W => form_c op a W hop)
  have HLEN := Lib.hid r.len
  clear hC ht hFIT hf
  go_enter Tryd.func91, Tryd.ntmps91
  go_wp2_with (first
    | (refine wpList_load_row rfl 94 _ rfl w.heap.size rfl 94 (mc L) (0, 0) _ hM.1 Tryd.underlying94 rfl hi ?_)
    | (refine wpList_store_rowTo rfl 94 _ _ rfl rfl (w.heap.size + 1) (mc L) rfl rfl 94 #[.int .i64 0, .int .i64 0, .int .i64 0, .int .i64 0, .int .i64 0, .int .i64 0, .int .i64 0, .int .i64 0, .int .i64 0, .int .i64 0, .int .i64 0, .int .i64 0, .int .i64 0, .int .i64 0, .int .i64 0, .int .i64 0, .int .i64 0, .int .i64 0, .int .i64 0, .int .i64 0] hR hi hs h1 ?_)
    | fail)
  generalize (w.alloc (.cells (mc L) 94)).alloc (.cells #[.int .i64 0, .int .i64 0, .int .i64 0, .int .i64 0, .int .i64 0, .int .i64 0, .int .i64 0, .int .i64 0, .int .i64 0, .int .i64 0, .int .i64 0, .int .i64 0, .int .i64 0, .int .i64 0, .int .i64 0, .int .i64 0, .int .i64 0, .int .i64 0, .int .i64 0, .int .i64 0] 94) = W at hb0 hM hR p19 q0 q1 hsz ⊢
  have hX : BlkIs (W.alloc (.cells #[.int .i64 op, .int .i64 a] 87)) W.heap.size 87 #[.int .i64 op, .int .i64 a] := blk_new _ _ _ _ rfl
  have hbX := bnew W (.cells #[.int .i64 op, .int .i64 a] 87)
  refine (HFO.out _).mono ?_
  rintro e w2 ⟨rfl, hb2⟩
  have hb02 := bon hbX hb2
  have hF : BlkIs (w2.alloc (.cells (opV op) 121)) w2.heap.size 121 (opV op) := blk_new _ _ _ _ rfl
  have hb3 := bnew w2 (.cells (opV op) 121)
  have hs2 := hb02.size
  have hs2' := hb2.size
  have hs2x := hX.lt
  have hb03 := bon hb02 hb3
  have hX3 := (hX.next hb2).next hb3
  have p18 := (hM.next hb03).at_ hh
  have f0 : (w2.alloc (.cells (opV op) 121)).cell? ⟨w2.heap.size, 0, none⟩ = some (.string (nmB op)) := hF.cell 0
  have f1 : (w2.alloc (.cells (opV op) 121)).cell? ⟨w2.heap.size, 1, none⟩ = some (.int .i64 (loB op)) := hF.cell 1
  have f2 : (w2.alloc (.cells (opV op) 121)).cell? ⟨w2.heap.size, 2, none⟩ = some (.int .i64 (hiB op)) := hF.cell 2
  have f3 : (w2.alloc (.cells (opV op) 121)).cell? ⟨w2.heap.size, 3, none⟩ = some (.int .i64 (popB op)) := hF.cell 3
  have f4 : (w2.alloc (.cells (opV op) 121)).cell? ⟨w2.heap.size, 4, none⟩ = some (.int .i64 (pushB op)) := hF.cell 4
  have f5 : (w2.alloc (.cells (opV op) 121)).cell? ⟨w2.heap.size, 5, none⟩ = some (.func (Fn.func (efB op)) #[] #[]) := hF.cell 5
  have hsF := hF.lt
  clear q0 q1 p19 hbX hb2 hX hb3 HFO
  unfold opV at f0 f1 f2 f3 f4 f5 hb03 p18 hX3 hF hsF ⊢
  go_wp2_with fail
  generalize w2.alloc (.cells #[.string (nmB op), .int .i64 (loB op), .int .i64 (hiB op), .int .i64 (popB op), .int .i64 (pushB op), .func (Fn.func (efB op)) #[] #[]] 121) = W3 at f0 f1 f2 f3 f4 f5 hb03 p18 hX3 hF hsF ⊢
  refine (HFIT.out _).mono ?_
  rintro e w4 ⟨rfl, hb4⟩
  have hb04 := bon hb03 hb4
  have hM4 := hM.next hb04
  have hR4 := hR.next hb04
  have hF4 := hF.next hb4
  have hX4 := hX3.next hb4
  have hs4 := hb4.size
  have hbw := bon hb0 hb04
  clear f0 f1 f2 f3 f4 f5 p18 hM hR hb0 hb03 hb02 hb4 hb04 hF hX3 HFIT
  have hne1 : w2.heap.size ≠ w4.heap.size := by omega
  have hne2 : W.heap.size ≠ w4.heap.size := by omega
  have hne3 : w.heap.size ≠ w4.heap.size := by omega
  have hne4 : w.heap.size + 1 ≠ w4.heap.size := by omega
  have hR8 : BlkIs (w4.alloc (.cells #[.int .i64 0, .int .i64 0, .int .i64 0, .int .i64 0, .int .i64 0, .int .i64 0, .int .i64 0, .int .i64 0, .int .i64 0, .int .i64 0, .int .i64 0, .int .i64 0, .int .i64 0, .int .i64 0, .int .i64 0, .int .i64 0, .int .i64 0, .int .i64 0, .int .i64 0, .int .i64 0] 94)) w4.heap.size 94 #[.int .i64 0, .int .i64 0, .int .i64 0, .int .i64 0, .int .i64 0, .int .i64 0, .int .i64 0, .int .i64 0, .int .i64 0, .int .i64 0, .int .i64 0, .int .i64 0, .int .i64 0, .int .i64 0, .int .i64 0, .int .i64 0, .int .i64 0, .int .i64 0, .int .i64 0, .int .i64 0] := blk_new _ _ _ _ rfl
  have hM5 : MachIs ((w4.alloc (.cells #[.int .i64 0, .int .i64 0, .int .i64 0, .int .i64 0, .int .i64 0, .int .i64 0, .int .i64 0, .int .i64 0, .int .i64 0, .int .i64 0, .int .i64 0, .int .i64 0, .int .i64 0, .int .i64 0, .int .i64 0, .int .i64 0, .int .i64 0, .int .i64 0, .int .i64 0, .int .i64 0] 94)).setRow w4.heap.size (mc L)) w4.heap.size L := ⟨blk_setRow hR8, HLEN.out⟩
  have g19 := hM5.at_ ra
  have gf19 := hM5.frozen 19
  have hM6 := hM5.set 19 ((p : Int) + 1)
  have hO6 : Out w4.heap.size (w4.heap.size + 1) (w4.alloc (.cells #[.int .i64 0, .int .i64 0, .int .i64 0, .int .i64 0, .int .i64 0, .int .i64 0, .int .i64 0, .int .i64 0, .int .i64 0, .int .i64 0, .int .i64 0, .int .i64 0, .int .i64 0, .int .i64 0, .int .i64 0, .int .i64 0, .int .i64 0, .int .i64 0, .int .i64 0, .int .i64 0] 94)) (((w4.alloc (.cells #[.int .i64 0, .int .i64 0, .int .i64 0, .int .i64 0, .int .i64 0, .int .i64 0, .int .i64 0, .int .i64 0, .int .i64 0, .int .i64 0, .int .i64 0, .int .i64 0, .int .i64 0, .int .i64 0, .int .i64 0, .int .i64 0, .int .i64 0, .int .i64 0, .int .i64 0, .int .i64 0] 94)).setRow w4.heap.size (mc L)).setCell ⟨w4.heap.size, 19, none⟩ (.int .i64 ((p : Int) + 1))) := out_set (out_setRow (by omega)) (by omega)
  have hF6 : BlkIs (((w4.alloc (.cells #[.int .i64 0, .int .i64 0, .int .i64 0, .int .i64 0, .int .i64 0, .int .i64 0, .int .i64 0, .int .i64 0, .int .i64 0, .int .i64 0, .int .i64 0, .int .i64 0, .int .i64 0, .int .i64 0, .int .i64 0, .int .i64 0, .int .i64 0, .int .i64 0, .int .i64 0, .int .i64 0] 94)).setRow w4.heap.size (mc L)).setCell ⟨w4.heap.size, 19, none⟩ (.int .i64 ((p : Int) + 1))) w2.heap.size 121 _ := (hF4.next (bnew _ _)).out hO6 (by omega)
  have hX6 : BlkIs (((w4.alloc (.cells #[.int .i64 0, .int .i64 0, .int .i64 0, .int .i64 0, .int .i64 0, .int .i64 0, .int .i64 0, .int .i64 0, .int .i64 0, .int .i64 0, .int .i64 0, .int .i64 0, .int .i64 0, .int .i64 0, .int .i64 0, .int .i64 0, .int .i64 0, .int .i64 0, .int .i64 0, .int .i64 0] 94)).setRow w4.heap.size (mc L)).setCell ⟨w4.heap.size, 19, none⟩ (.int .i64 ((p : Int) + 1))) W.heap.size 87 _ := (hX4.next (bnew _ _)).out hO6 (by omega)
  have hMo : BlkIs (((w4.alloc (.cells #[.int .i64 0, .int .i64 0, .int .i64 0, .int .i64 0, .int .i64 0, .int .i64 0, .int .i64 0, .int .i64 0, .int .i64 0, .int .i64 0, .int .i64 0, .int .i64 0, .int .i64 0, .int .i64 0, .int .i64 0, .int .i64 0, .int .i64 0, .int .i64 0, .int .i64 0, .int .i64 0] 94)).setRow w4.heap.size (mc L)).setCell ⟨w4.heap.size, 19, none⟩ (.int .i64 ((p : Int) + 1))) w.heap.size 94 (mc L) := (hM4.1.next (bnew _ _)).out hO6 (by omega)
  have hRo : BlkIs (((w4.alloc (.cells #[.int .i64 0, .int .i64 0, .int .i64 0, .int .i64 0, .int .i64 0, .int .i64 0, .int .i64 0, .int .i64 0, .int .i64 0, .int .i64 0, .int .i64 0, .int .i64 0, .int .i64 0, .int .i64 0, .int .i64 0, .int .i64 0, .int .i64 0, .int .i64 0, .int .i64 0, .int .i64 0] 94)).setRow w4.heap.size (mc L)).setCell ⟨w4.heap.size, 19, none⟩ (.int .i64 ((p : Int) + 1))) (w.heap.size + 1) 94 #[.int .i64 0, .int .i64 0, .int .i64 0, .int .i64 0, .int .i64 0, .int .i64 0, .int .i64 0, .int .i64 0, .int .i64 0, .int .i64 0, .int .i64 0, .int .i64 0, .int .i64 0, .int .i64 0, .int .i64 0, .int .i64 0, .int .i64 0, .int .i64 0, .int .i64 0, .int .i64 0] := (hR4.next (bnew _ _)).out hO6 (by omega)
  have f5 : (((w4.alloc (.cells #[.int .i64 0, .int .i64 0, .int .i64 0, .int .i64 0, .int .i64 0, .int .i64 0, .int .i64 0, .int .i64 0, .int .i64 0, .int .i64 0, .int .i64 0, .int .i64 0, .int .i64 0, .int .i64 0, .int .i64 0, .int .i64 0, .int .i64 0, .int .i64 0, .int .i64 0, .int .i64 0] 94)).setRow w4.heap.size (mc L)).setCell ⟨w4.heap.size, 19, none⟩ (.int .i64 ((p : Int) + 1))).cell? ⟨w2.heap.size, 5, none⟩ = some (.func (Fn.func (efB op)) #[] #[]) := hF6.cell 5
  have x1 : (((w4.alloc (.cells #[.int .i64 0, .int .i64 0, .int .i64 0, .int .i64 0, .int .i64 0, .int .i64 0, .int .i64 0, .int .i64 0, .int .i64 0, .int .i64 0, .int .i64 0, .int .i64 0, .int .i64 0, .int .i64 0, .int .i64 0, .int .i64 0, .int .i64 0, .int .i64 0, .int .i64 0, .int .i64 0] 94)).setRow w4.heap.size (mc L)).setCell ⟨w4.heap.size, 19, none⟩ (.int .i64 ((p : Int) + 1))).cell? ⟨w.heap.size + 2, 1, none⟩ = some (.int .i64 a) := by rw [← hsz]; exact hX6.cell 1
  have hcf := callFunc_ef op hop
  have wr : IntKind.i64.wrap ((p : Int) + 1) = (p : Int) + 1 := IntWalk.i64_in _ (by omega)
  have hsE : (w4.alloc (.cells #[.int .i64 0, .int .i64 0, .int .i64 0, .int .i64 0, .int .i64 0, .int .i64 0, .int .i64 0, .int .i64 0, .int .i64 0, .int .i64 0, .int .i64 0, .int .i64 0, .int .i64 0, .int .i64 0, .int .i64 0, .int .i64 0, .int .i64 0, .int .i64 0, .int .i64 0, .int .i64 0] 94)).heap.size = w4.heap.size + 1 := by simp
  have hb6 : Below w.heap.size w (((w4.alloc (.cells #[.int .i64 0, .int .i64 0, .int .i64 0, .int .i64 0, .int .i64 0, .int .i64 0, .int .i64 0, .int .i64 0, .int .i64 0, .int .i64 0, .int .i64 0, .int .i64 0, .int .i64 0, .int .i64 0, .int .i64 0, .int .i64 0, .int .i64 0, .int .i64 0, .int .i64 0, .int .i64 0] 94)).setRow w4.heap.size (mc L)).setCell ⟨w4.heap.size, 19, none⟩ (.int .i64 ((p : Int) + 1))) := (bon hbw (bnew _ _)).trans (hO6.below (by omega) (by have := hbw.size; omega))
  have hs6 := hM6.1.lt
  have hr6 := r.place ((p : Int) + 1) h6
  have HEFF := Lib.hid (HEF.out w4.heap.size _ (((w4.alloc (.cells #[.int .i64 0, .int .i64 0, .int .i64 0, .int .i64 0, .int .i64 0, .int .i64 0, .int .i64 0, .int .i64 0, .int .i64 0, .int .i64 0, .int .i64 0, .int .i64 0, .int .i64 0, .int .i64 0, .int .i64 0, .int .i64 0, .int .i64 0, .int .i64 0, .int .i64 0, .int .i64 0] 94)).setRow w4.heap.size (mc L)).setCell ⟨w4.heap.size, 19, none⟩ (.int .i64 ((p : Int) + 1))) hM6 hr6)
  clear hM5 hM6 hr6 r hO6 hF6 hX6 hF4 hX4 HEF hx
  go_wp2_with (first
    | (refine wpList_load_row rfl 94 _ rfl w.heap.size rfl 94 (mc L) (0, 0) _ hM4.1 Tryd.underlying94 rfl hi ?_)
    | (refine wpList_store_rowTo rfl 94 _ _ rfl rfl w4.heap.size (mc L) rfl rfl 94 #[.int .i64 0, .int .i64 0, .int .i64 0, .int .i64 0, .int .i64 0, .int .i64 0, .int .i64 0, .int .i64 0, .int .i64 0, .int .i64 0, .int .i64 0, .int .i64 0, .int .i64 0, .int .i64 0, .int .i64 0, .int .i64 0, .int .i64 0, .int .i64 0, .int .i64 0, .int .i64 0] hR8 hi hs h1 ?_)
    | fail)
  refine HEFF.out.mono ?_
  rintro e w7 ⟨rfl, ho7, hq7⟩
  clear hcf
  have hbl7 := hb6.trans (ho7.below (by omega) hb6.size)
  have hRo7 := hRo.out ho7 (by omega)
  have hs7 := ho7.size
  have hMo7 := hMo.out ho7 (by omega)
  have HQ := Lib.hid hq7
  clear hq7 hMo hRo HEFF
  go_wp2_with (first
    | (refine wpList_load_row rfl 94 _ rfl w.heap.size rfl 94 (mc L) (0, 0) _ hMo7 Tryd.underlying94 rfl hi ?_)
    | (refine wpList_store_rowTo rfl 94 _ _ rfl rfl (w.heap.size + 1) (mc L) rfl rfl 94 #[.int .i64 0, .int .i64 0, .int .i64 0, .int .i64 0, .int .i64 0, .int .i64 0, .int .i64 0, .int .i64 0, .int .i64 0, .int .i64 0, .int .i64 0, .int .i64 0, .int .i64 0, .int .i64 0, .int .i64 0, .int .i64 0, .int .i64 0, .int .i64 0, .int .i64 0, .int .i64 0] hRo7 hi hs h1 ?_)
    | fail)
  refine bodyPost_ret (results_mach rfl _ _ (w.heap.size + 1) L (.int .i64 (outO op a st)) HLEN.out rfl rfl (blk_setRow hRo7)) rfl ?_
  exact ⟨L, by rw [ho], HLEN.out, fun _ => rfl, fun h => by rw [ho] at h; exact absurd h HZ.out, hbl7.trans ((out_setRow (lo := w.heap.size) (hi := w.heap.size + 2) ⟨by omega, by omega⟩).below (Nat.le_refl _) hbl7.size)⟩

set_option maxRecDepth 100000 in
set_option maxHeartbeats 8000000 in
theorem after_go (C : Option Addr) (k cc : Nat) (cs : List (Int × Int)) (L vs zs st : List Int) (p : Nat) (op a : Int) (w : World) (hC : InC w w.heap.size C k cs) (r : Rep L vs zs st p) (h6 : st.length ≤ 6) (hk8 : k ≤ 80) (hx : cs[p]? = some (op, a)) (hop : 0 ≤ op ∧ op ≤ 11) (hf : fitB op (st.length : Int) = true) (hc : codeB cs = true) (v : CfV vs zs st p) (hz : outO op a st = 0) :
    Calls Tryd.prog 91 #[.agg (mc L), .slice C k cc] w (AftQ cs L vs zs st p w) := by
  have hx' : cs[(p : Int).toNat]? = some (op, a) := by simpa using hx
  have ho : outN cs st p = outO op a st := outN_fit (x := (op, a)) hx' hf
  have ez : (outO op a st != 0) = false := by simpa using hz
  have HZ := Lib.hid hz
  clear hz
  have HNX := Lib.hid (nextN_some (vs := vs) (zs := zs) (st := st) hx')
  have HIB := Lib.hid (show instrB op a = true from codeB_at hc hx')
  have HEF := Lib.hid (fun (g : Nat) (L' : List Int) (W : World) (hM : MachIs W g L') (r' : Rep L' vs zs st ((p : Int) + 1)) => eff_c hM r' v hf HIB.out)
  clear hx'
  have hlt : p < k := by have := (List.getElem?_eq_some_iff.1 hx).1; have := hC.1; omega
  have hb0 : Below w.heap.size w ((w.alloc (.cells (mc L) 94)).alloc (.cells #[.int .i64 0, .int .i64 0, .int .i64 0, .int .i64 0, .int .i64 0, .int .i64 0, .int .i64 0, .int .i64 0, .int .i64 0, .int .i64 0, .int .i64 0, .int .i64 0, .int .i64 0, .int .i64 0, .int .i64 0, .int .i64 0, .int .i64 0, .int .i64 0, .int .i64 0, .int .i64 0] 94)) := bon (bnew _ _) (bnew _ _)
  have hM : MachIs ((w.alloc (.cells (mc L) 94)).alloc (.cells #[.int .i64 0, .int .i64 0, .int .i64 0, .int .i64 0, .int .i64 0, .int .i64 0, .int .i64 0, .int .i64 0, .int .i64 0, .int .i64 0, .int .i64 0, .int .i64 0, .int .i64 0, .int .i64 0, .int .i64 0, .int .i64 0, .int .i64 0, .int .i64 0, .int .i64 0, .int .i64 0] 94)) w.heap.size L := ⟨(blk_new _ _ _ _ rfl).next (bnew _ _), r.len⟩
  have hR : BlkIs ((w.alloc (.cells (mc L) 94)).alloc (.cells #[.int .i64 0, .int .i64 0, .int .i64 0, .int .i64 0, .int .i64 0, .int .i64 0, .int .i64 0, .int .i64 0, .int .i64 0, .int .i64 0, .int .i64 0, .int .i64 0, .int .i64 0, .int .i64 0, .int .i64 0, .int .i64 0, .int .i64 0, .int .i64 0, .int .i64 0, .int .i64 0] 94)) (w.heap.size + 1) 94 #[.int .i64 0, .int .i64 0, .int .i64 0, .int .i64 0, .int .i64 0, .int .i64 0, .int .i64 0, .int .i64 0, .int .i64 0, .int .i64 0, .int .i64 0, .int .i64 0, .int .i64 0, .int .i64 0, .int .i64 0, .int .i64 0, .int .i64 0, .int .i64 0, .int .i64 0, .int .i64 0] := blk_new _ _ _ _ (by simp)
  have p19 := hM.at_ r.a
  have hi := mach_info r.len
  have hs : (#[.int .i64 0, .int .i64 0, .int .i64 0, .int .i64 0, .int .i64 0, .int .i64 0, .int .i64 0, .int .i64 0, .int .i64 0, .int .i64 0, .int .i64 0, .int .i64 0, .int .i64 0, .int .i64 0, .int .i64 0, .int .i64 0, .int .i64 0, .int .i64 0, .int .i64 0, .int .i64 0] : Array Value).size = (mc L).size := by rw [mc_size, r.len]; rfl
  have h1 := mc_one L
  obtain ⟨b, off, t, rfl, hbl, ht, q0, q1⟩ := (hC.next hb0 (Nat.le_refl _)).at_ hlt
  obtain rfl : t = (op, a) := by rw [hx] at ht; injection ht with ht; exact ht.symm
  have hsz : ((w.alloc (.cells (mc L) 94)).alloc (.cells #[.int .i64 0, .int .i64 0, .int .i64 0, .int .i64 0, .int .i64 0, .int .i64 0, .int .i64 0, .int .i64 0, .int .i64 0, .int .i64 0, .int .i64 0, .int .i64 0, .int .i64 0, .int .i64 0, .int .i64 0, .int .i64 0, .int .i64 0, .int .i64 0, .int .i64 0, .int .i64 0] 94)).heap.size = w.heap.size + 2 := by simp
  have hh := r.h
  have ra := r.a
  have e1 : ((k : Int) ≤ (p : Int)) = False := by simp; omega
  have e2 : (0 : Int) ≤ (p : Int) := by omega
  have e3 : (p : Int) < (k : Int) := by omega
  have hFIT := fits_c op st.length
  rw [hf] at hFIT
  have HFIT := Lib.hid hFIT
  have HFO := Lib.hid (fun W => form_c op a W hop)
  have HLEN := Lib.hid r.len
  clear hC ht hFIT hf
  go_enter Tryd.func91, Tryd.ntmps91
  go_wp2_with (first
    | (refine wpList_load_row rfl 94 _ rfl w.heap.size rfl 94 (mc L) (0, 0) _ hM.1 Tryd.underlying94 rfl hi ?_)
    | (refine wpList_store_rowTo rfl 94 _ _ rfl rfl (w.heap.size + 1) (mc L) rfl rfl 94 #[.int .i64 0, .int .i64 0, .int .i64 0, .int .i64 0, .int .i64 0, .int .i64 0, .int .i64 0, .int .i64 0, .int .i64 0, .int .i64 0, .int .i64 0, .int .i64 0, .int .i64 0, .int .i64 0, .int .i64 0, .int .i64 0, .int .i64 0, .int .i64 0, .int .i64 0, .int .i64 0] hR hi hs h1 ?_)
    | fail)
  generalize (w.alloc (.cells (mc L) 94)).alloc (.cells #[.int .i64 0, .int .i64 0, .int .i64 0, .int .i64 0, .int .i64 0, .int .i64 0, .int .i64 0, .int .i64 0, .int .i64 0, .int .i64 0, .int .i64 0, .int .i64 0, .int .i64 0, .int .i64 0, .int .i64 0, .int .i64 0, .int .i64 0, .int .i64 0, .int .i64 0, .int .i64 0] 94) = W at hb0 hM hR p19 q0 q1 hsz ⊢
  have hX : BlkIs (W.alloc (.cells #[.int .i64 op, .int .i64 a] 87)) W.heap.size 87 #[.int .i64 op, .int .i64 a] := blk_new _ _ _ _ rfl
  have hbX := bnew W (.cells #[.int .i64 op, .int .i64 a] 87)
  refine (HFO.out _).mono ?_
  rintro e w2 ⟨rfl, hb2⟩
  have hb02 := bon hbX hb2
  have hF : BlkIs (w2.alloc (.cells (opV op) 121)) w2.heap.size 121 (opV op) := blk_new _ _ _ _ rfl
  have hb3 := bnew w2 (.cells (opV op) 121)
  have hs2 := hb02.size
  have hs2' := hb2.size
  have hs2x := hX.lt
  have hb03 := bon hb02 hb3
  have hX3 := (hX.next hb2).next hb3
  have p18 := (hM.next hb03).at_ hh
  have f0 : (w2.alloc (.cells (opV op) 121)).cell? ⟨w2.heap.size, 0, none⟩ = some (.string (nmB op)) := hF.cell 0
  have f1 : (w2.alloc (.cells (opV op) 121)).cell? ⟨w2.heap.size, 1, none⟩ = some (.int .i64 (loB op)) := hF.cell 1
  have f2 : (w2.alloc (.cells (opV op) 121)).cell? ⟨w2.heap.size, 2, none⟩ = some (.int .i64 (hiB op)) := hF.cell 2
  have f3 : (w2.alloc (.cells (opV op) 121)).cell? ⟨w2.heap.size, 3, none⟩ = some (.int .i64 (popB op)) := hF.cell 3
  have f4 : (w2.alloc (.cells (opV op) 121)).cell? ⟨w2.heap.size, 4, none⟩ = some (.int .i64 (pushB op)) := hF.cell 4
  have f5 : (w2.alloc (.cells (opV op) 121)).cell? ⟨w2.heap.size, 5, none⟩ = some (.func (Fn.func (efB op)) #[] #[]) := hF.cell 5
  have hsF := hF.lt
  clear q0 q1 p19 hbX hb2 hX hb3 HFO
  unfold opV at f0 f1 f2 f3 f4 f5 hb03 p18 hX3 hF hsF ⊢
  go_wp2_with fail
  generalize w2.alloc (.cells #[.string (nmB op), .int .i64 (loB op), .int .i64 (hiB op), .int .i64 (popB op), .int .i64 (pushB op), .func (Fn.func (efB op)) #[] #[]] 121) = W3 at f0 f1 f2 f3 f4 f5 hb03 p18 hX3 hF hsF ⊢
  refine (HFIT.out _).mono ?_
  rintro e w4 ⟨rfl, hb4⟩
  have hb04 := bon hb03 hb4
  have hM4 := hM.next hb04
  have hR4 := hR.next hb04
  have hF4 := hF.next hb4
  have hX4 := hX3.next hb4
  have hs4 := hb4.size
  have hbw := bon hb0 hb04
  clear f0 f1 f2 f3 f4 f5 p18 hM hR hb0 hb03 hb02 hb4 hb04 hF hX3 HFIT
  have hne1 : w2.heap.size ≠ w4.heap.size := by omega
  have hne2 : W.heap.size ≠ w4.heap.size := by omega
  have hne3 : w.heap.size ≠ w4.heap.size := by omega
  have hne4 : w.heap.size + 1 ≠ w4.heap.size := by omega
  have hR8 : BlkIs (w4.alloc (.cells #[.int .i64 0, .int .i64 0, .int .i64 0, .int .i64 0, .int .i64 0, .int .i64 0, .int .i64 0, .int .i64 0, .int .i64 0, .int .i64 0, .int .i64 0, .int .i64 0, .int .i64 0, .int .i64 0, .int .i64 0, .int .i64 0, .int .i64 0, .int .i64 0, .int .i64 0, .int .i64 0] 94)) w4.heap.size 94 #[.int .i64 0, .int .i64 0, .int .i64 0, .int .i64 0, .int .i64 0, .int .i64 0, .int .i64 0, .int .i64 0, .int .i64 0, .int .i64 0, .int .i64 0, .int .i64 0, .int .i64 0, .int .i64 0, .int .i64 0, .int .i64 0, .int .i64 0, .int .i64 0, .int .i64 0, .int .i64 0] := blk_new _ _ _ _ rfl
  have hM5 : MachIs ((w4.alloc (.cells #[.int .i64 0, .int .i64 0, .int .i64 0, .int .i64 0, .int .i64 0, .int .i64 0, .int .i64 0, .int .i64 0, .int .i64 0, .int .i64 0, .int .i64 0, .int .i64 0, .int .i64 0, .int .i64 0, .int .i64 0, .int .i64 0, .int .i64 0, .int .i64 0, .int .i64 0, .int .i64 0] 94)).setRow w4.heap.size (mc L)) w4.heap.size L := ⟨blk_setRow hR8, HLEN.out⟩
  have g19 := hM5.at_ ra
  have gf19 := hM5.frozen 19
  have hM6 := hM5.set 19 ((p : Int) + 1)
  have hO6 : Out w4.heap.size (w4.heap.size + 1) (w4.alloc (.cells #[.int .i64 0, .int .i64 0, .int .i64 0, .int .i64 0, .int .i64 0, .int .i64 0, .int .i64 0, .int .i64 0, .int .i64 0, .int .i64 0, .int .i64 0, .int .i64 0, .int .i64 0, .int .i64 0, .int .i64 0, .int .i64 0, .int .i64 0, .int .i64 0, .int .i64 0, .int .i64 0] 94)) (((w4.alloc (.cells #[.int .i64 0, .int .i64 0, .int .i64 0, .int .i64 0, .int .i64 0, .int .i64 0, .int .i64 0, .int .i64 0, .int .i64 0, .int .i64 0, .int .i64 0, .int .i64 0, .int .i64 0, .int .i64 0, .int .i64 0, .int .i64 0, .int .i64 0, .int .i64 0, .int .i64 0, .int .i64 0] 94)).setRow w4.heap.size (mc L)).setCell ⟨w4.heap.size, 19, none⟩ (.int .i64 ((p : Int) + 1))) := out_set (out_setRow (by omega)) (by omega)
  have hF6 : BlkIs (((w4.alloc (.cells #[.int .i64 0, .int .i64 0, .int .i64 0, .int .i64 0, .int .i64 0, .int .i64 0, .int .i64 0, .int .i64 0, .int .i64 0, .int .i64 0, .int .i64 0, .int .i64 0, .int .i64 0, .int .i64 0, .int .i64 0, .int .i64 0, .int .i64 0, .int .i64 0, .int .i64 0, .int .i64 0] 94)).setRow w4.heap.size (mc L)).setCell ⟨w4.heap.size, 19, none⟩ (.int .i64 ((p : Int) + 1))) w2.heap.size 121 _ := (hF4.next (bnew _ _)).out hO6 (by omega)
  have hX6 : BlkIs (((w4.alloc (.cells #[.int .i64 0, .int .i64 0, .int .i64 0, .int .i64 0, .int .i64 0, .int .i64 0, .int .i64 0, .int .i64 0, .int .i64 0, .int .i64 0, .int .i64 0, .int .i64 0, .int .i64 0, .int .i64 0, .int .i64 0, .int .i64 0, .int .i64 0, .int .i64 0, .int .i64 0, .int .i64 0] 94)).setRow w4.heap.size (mc L)).setCell ⟨w4.heap.size, 19, none⟩ (.int .i64 ((p : Int) + 1))) W.heap.size 87 _ := (hX4.next (bnew _ _)).out hO6 (by omega)
  have hMo : BlkIs (((w4.alloc (.cells #[.int .i64 0, .int .i64 0, .int .i64 0, .int .i64 0, .int .i64 0, .int .i64 0, .int .i64 0, .int .i64 0, .int .i64 0, .int .i64 0, .int .i64 0, .int .i64 0, .int .i64 0, .int .i64 0, .int .i64 0, .int .i64 0, .int .i64 0, .int .i64 0, .int .i64 0, .int .i64 0] 94)).setRow w4.heap.size (mc L)).setCell ⟨w4.heap.size, 19, none⟩ (.int .i64 ((p : Int) + 1))) w.heap.size 94 (mc L) := (hM4.1.next (bnew _ _)).out hO6 (by omega)
  have hRo : BlkIs (((w4.alloc (.cells #[.int .i64 0, .int .i64 0, .int .i64 0, .int .i64 0, .int .i64 0, .int .i64 0, .int .i64 0, .int .i64 0, .int .i64 0, .int .i64 0, .int .i64 0, .int .i64 0, .int .i64 0, .int .i64 0, .int .i64 0, .int .i64 0, .int .i64 0, .int .i64 0, .int .i64 0, .int .i64 0] 94)).setRow w4.heap.size (mc L)).setCell ⟨w4.heap.size, 19, none⟩ (.int .i64 ((p : Int) + 1))) (w.heap.size + 1) 94 #[.int .i64 0, .int .i64 0, .int .i64 0, .int .i64 0, .int .i64 0, .int .i64 0, .int .i64 0, .int .i64 0, .int .i64 0, .int .i64 0, .int .i64 0, .int .i64 0, .int .i64 0, .int .i64 0, .int .i64 0, .int .i64 0, .int .i64 0, .int .i64 0, .int .i64 0, .int .i64 0] := (hR4.next (bnew _ _)).out hO6 (by omega)
  have f5 : (((w4.alloc (.cells #[.int .i64 0, .int .i64 0, .int .i64 0, .int .i64 0, .int .i64 0, .int .i64 0, .int .i64 0, .int .i64 0, .int .i64 0, .int .i64 0, .int .i64 0, .int .i64 0, .int .i64 0, .int .i64 0, .int .i64 0, .int .i64 0, .int .i64 0, .int .i64 0, .int .i64 0, .int .i64 0] 94)).setRow w4.heap.size (mc L)).setCell ⟨w4.heap.size, 19, none⟩ (.int .i64 ((p : Int) + 1))).cell? ⟨w2.heap.size, 5, none⟩ = some (.func (Fn.func (efB op)) #[] #[]) := hF6.cell 5
  have x1 : (((w4.alloc (.cells #[.int .i64 0, .int .i64 0, .int .i64 0, .int .i64 0, .int .i64 0, .int .i64 0, .int .i64 0, .int .i64 0, .int .i64 0, .int .i64 0, .int .i64 0, .int .i64 0, .int .i64 0, .int .i64 0, .int .i64 0, .int .i64 0, .int .i64 0, .int .i64 0, .int .i64 0, .int .i64 0] 94)).setRow w4.heap.size (mc L)).setCell ⟨w4.heap.size, 19, none⟩ (.int .i64 ((p : Int) + 1))).cell? ⟨w.heap.size + 2, 1, none⟩ = some (.int .i64 a) := by rw [← hsz]; exact hX6.cell 1
  have hcf := callFunc_ef op hop
  have wr : IntKind.i64.wrap ((p : Int) + 1) = (p : Int) + 1 := IntWalk.i64_in _ (by omega)
  have hsE : (w4.alloc (.cells #[.int .i64 0, .int .i64 0, .int .i64 0, .int .i64 0, .int .i64 0, .int .i64 0, .int .i64 0, .int .i64 0, .int .i64 0, .int .i64 0, .int .i64 0, .int .i64 0, .int .i64 0, .int .i64 0, .int .i64 0, .int .i64 0, .int .i64 0, .int .i64 0, .int .i64 0, .int .i64 0] 94)).heap.size = w4.heap.size + 1 := by simp
  have hb6 : Below w.heap.size w (((w4.alloc (.cells #[.int .i64 0, .int .i64 0, .int .i64 0, .int .i64 0, .int .i64 0, .int .i64 0, .int .i64 0, .int .i64 0, .int .i64 0, .int .i64 0, .int .i64 0, .int .i64 0, .int .i64 0, .int .i64 0, .int .i64 0, .int .i64 0, .int .i64 0, .int .i64 0, .int .i64 0, .int .i64 0] 94)).setRow w4.heap.size (mc L)).setCell ⟨w4.heap.size, 19, none⟩ (.int .i64 ((p : Int) + 1))) := (bon hbw (bnew _ _)).trans (hO6.below (by omega) (by have := hbw.size; omega))
  have hs6 := hM6.1.lt
  have hr6 := r.place ((p : Int) + 1) h6
  have HEFF := Lib.hid (HEF.out w4.heap.size _ (((w4.alloc (.cells #[.int .i64 0, .int .i64 0, .int .i64 0, .int .i64 0, .int .i64 0, .int .i64 0, .int .i64 0, .int .i64 0, .int .i64 0, .int .i64 0, .int .i64 0, .int .i64 0, .int .i64 0, .int .i64 0, .int .i64 0, .int .i64 0, .int .i64 0, .int .i64 0, .int .i64 0, .int .i64 0] 94)).setRow w4.heap.size (mc L)).setCell ⟨w4.heap.size, 19, none⟩ (.int .i64 ((p : Int) + 1))) hM6 hr6)
  clear hM5 hM6 hr6 r hO6 hF6 hX6 hF4 hX4 HEF hx
  go_wp2_with (first
    | (refine wpList_load_row rfl 94 _ rfl w.heap.size rfl 94 (mc L) (0, 0) _ hM4.1 Tryd.underlying94 rfl hi ?_)
    | (refine wpList_store_rowTo rfl 94 _ _ rfl rfl w4.heap.size (mc L) rfl rfl 94 #[.int .i64 0, .int .i64 0, .int .i64 0, .int .i64 0, .int .i64 0, .int .i64 0, .int .i64 0, .int .i64 0, .int .i64 0, .int .i64 0, .int .i64 0, .int .i64 0, .int .i64 0, .int .i64 0, .int .i64 0, .int .i64 0, .int .i64 0, .int .i64 0, .int .i64 0, .int .i64 0] hR8 hi hs h1 ?_)
    | fail)
  refine HEFF.out.mono ?_
  rintro e w7 ⟨rfl, ho7, hq7⟩
  clear hcf
  have hbl7 := hb6.trans (ho7.below (by omega) hb6.size)
  have hRo7 := hRo.out ho7 (by omega)
  have hs7 := ho7.size
  obtain ⟨L', hM7, hr7⟩ := hq7 HZ.out
  have hi' := mach_info hr7.len
  have hs' : (#[.int .i64 0, .int .i64 0, .int .i64 0, .int .i64 0, .int .i64 0, .int .i64 0, .int .i64 0, .int .i64 0, .int .i64 0, .int .i64 0, .int .i64 0, .int .i64 0, .int .i64 0, .int .i64 0, .int .i64 0, .int .i64 0, .int .i64 0, .int .i64 0, .int .i64 0, .int .i64 0] : Array Value).size = (mc L').size := by rw [mc_size, hr7.len]; rfl
  have h1' := mc_one L'
  have HREP := Lib.hid hr7
  clear hq7 hMo hRo HEFF hr7
  go_wp2_with (first
    | (refine wpList_load_row rfl 94 _ rfl w4.heap.size rfl 94 (mc L') (0, 0) _ hM7.1 Tryd.underlying94 rfl hi' ?_)
    | (refine wpList_store_rowTo rfl 94 _ _ rfl rfl (w.heap.size + 1) (mc L') rfl rfl 94 #[.int .i64 0, .int .i64 0, .int .i64 0, .int .i64 0, .int .i64 0, .int .i64 0, .int .i64 0, .int .i64 0, .int .i64 0, .int .i64 0, .int .i64 0, .int .i64 0, .int .i64 0, .int .i64 0, .int .i64 0, .int .i64 0, .int .i64 0, .int .i64 0, .int .i64 0, .int .i64 0] hRo7 hi' hs' h1' ?_)
    | fail)
  refine bodyPost_ret (results_mach rfl _ _ (w.heap.size + 1) L' (.int .i64 0) HREP.out.len rfl rfl (blk_setRow hRo7)) rfl ?_
  exact ⟨L', by rw [ho, HZ.out], HREP.out.len, fun h => absurd (ho.trans HZ.out) h, fun _ => by rw [HNX.out]; exact HREP.out, hbl7.trans ((out_setRow (lo := w.heap.size) (hi := w.heap.size + 2) ⟨by omega, by omega⟩).below (Nat.le_refl _) hbl7.size)⟩

/-- The machine behind a step, for valid code and a valid config. -/
theorem after_c (C : Option Addr) (k cc : Nat) (cs : List (Int × Int)) (L vs zs st : List Int) (p : Int) (w : World) (hC : InC w w.heap.size C k cs) (hc : codeB cs = true) (r : Rep L vs zs st p) (v : CfV vs zs st p) :
    Calls Tryd.prog 91 #[.agg (mc L), .slice C k cc] w (AftQ cs L vs zs st p w) := by
  have hk8 : k ≤ 80 := by have := (codeB_parts hc).2.1; have := hC.1; omega
  have h0 := v.p0
  rcases Int.lt_or_le p (k : Int) with hlt | hge
  · obtain ⟨q, rfl⟩ : ∃ q : Nat, p = q := ⟨p.toNat, by omega⟩
    obtain ⟨⟨op, a⟩, hx⟩ : ∃ x, cs[q]? = some x := ⟨_, List.getElem?_eq_getElem (by have := hC.1; omega)⟩
    have hib : instrB op a = true := codeB_at hc hx
    have hop : 0 ≤ op ∧ op ≤ 11 := by have := instrB_parts hib; exact ⟨this.1, this.2.1⟩
    cases hf : fitB op (st.length : Int) with
    | false => exact after_unfit C k cc cs L vs zs st q op a w hC r v.ls hk8 hx hop hf
    | true =>
      by_cases hz : outO op a st = 0
      · exact after_go C k cc cs L vs zs st q op a w hC r v.ls hk8 hx hop hf hc v hz
      · exact after_stop C k cc cs L vs zs st q op a w hC r v.ls hk8 hx hop hf hc v hz
  · exact after_beyond C k cc cs L vs zs st p w hC.1 r hge
end Go.Proofs.YtffkdidgfeknkaaDoor
