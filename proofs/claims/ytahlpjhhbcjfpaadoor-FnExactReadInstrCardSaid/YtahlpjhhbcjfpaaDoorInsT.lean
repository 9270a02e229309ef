/-
  The text of an instruction, in the model and in the program. Conditions: the table of the powers of ten lies as the library's text lays it.
-/
import Derived.Test.YtahlpjhhbcjfpaaDoorInsP
import Derived.Test.YtahlpjhhbcjfpaaDoorTab10
import Derived.Shelf.Lay
import Derived.Shelf.Strings.OnBuilder
namespace Go.Proofs
open Go.Shelf
shelf_lay Lays.n156 Nm 156 at Tryd as Tryd.lays156
theorem Tryd.extra156 : Builder.Extra Tryd.prog Tryd.lays156_ren where
  sizeBuilder := by kernel_rfl
  liesBuilder := by kernel_rfl
  t5 := by kernel_rfl
  a5 := fun w => by kernel_rfl
  z5 := fun w => by kernel_rfl
  v5 := fun w => by kernel_rfl
  infoByte := by kernel_rfl
  cellsByte := by kernel_rfl
  sizeByte := by kernel_rfl
  neB5 := by decide
end Go.Proofs
namespace Go.Proofs.YtahlpjhhbcjfpaaDoor
set_option linter.unusedVariables false
open Go.RowKit

set_option maxRecDepth 100000 in
set_option maxHeartbeats 4000000 in
theorem l07Word_c (op : Int) (w : World) (h : 0 ≤ op ∧ op ≤ 11) :
    Calls Tryd.prog 100 #[.int .i64 op] w fun e w' => e = .returned (.string (nmB op)) ∧ Below w.heap.size w w' := by
  have hc : op = 0 ∨ op = 1 ∨ op = 2 ∨ op = 3 ∨ op = 4 ∨ op = 5 ∨ op = 6 ∨ op = 7 ∨ op = 8 ∨ op = 9 ∨ op = 10 ∨ op = 11 := by omega
  clear h
  rcases hc with rfl | rfl | rfl | rfl | rfl | rfl | rfl | rfl | rfl | rfl | rfl | rfl <;>
  · go_enter Tryd.func100, Tryd.ntmps100
    go_wp2_with fail
    go_ret
    exact ⟨by rfl, bnew _ _⟩

set_option maxRecDepth 100000 in
set_option maxHeartbeats 4000000 in
theorem l07Args_c (op : Int) (w : World) (h : 0 ≤ op ∧ op ≤ 11) :
    Calls Tryd.prog 99 #[.int .i64 op] w fun e w' => e = .returned (.bool (decide (0 < hiB op))) ∧ w = w' := by
  have hc : op = 0 ∨ op = 1 ∨ op = 2 ∨ op = 3 ∨ op = 4 ∨ op = 5 ∨ op = 6 ∨ op = 7 ∨ op = 8 ∨ op = 9 ∨ op = 10 ∨ op = 11 := by omega
  clear h
  rcases hc with rfl | rfl | rfl | rfl | rfl | rfl | rfl | rfl | rfl | rfl | rfl | rfl <;>
  · go_enter Tryd.func99, Tryd.ntmps99
    go_wp2_with fail
    go_ret
    exact ⟨by rfl, rfl⟩

theorem nm_size (op : Int) (h : 0 ≤ op ∧ op ≤ 11) : (nmB op).size ≤ 5 := by
  have hc : op = 0 ∨ op = 1 ∨ op = 2 ∨ op = 3 ∨ op = 4 ∨ op = 5 ∨ op = 6 ∨ op = 7 ∨ op = 8 ∨ op = 9 ∨ op = 10 ∨ op = 11 := by omega
  rcases hc with rfl | rfl | rfl | rfl | rfl | rfl | rfl | rfl | rfl | rfl | rfl | rfl <;> decide
set_option maxRecDepth 100000 in
set_option maxHeartbeats 4000000 in
theorem l07Line_c (op a : Int) (w : World) (h : 0 ≤ op ∧ op ≤ 11) (ha : -1000000 ≤ a ∧ a ≤ 1000000) :
    Calls Tryd.prog 46 #[.agg #[.int .i64 op, .int .i64 a]] w fun e w' => e = .returned (.string (lineB op a)) ∧ Below w.heap.size w w' := by
  have hb0 := bnew w (.cells #[.int .i64 op, .int .i64 a] 26)
  have p0 : (w.alloc (.cells #[.int .i64 op, .int .i64 a] 26)).cell? ⟨w.heap.size, 0, none⟩ = some (.int .i64 op) := by simp
  have p1 : (w.alloc (.cells #[.int .i64 op, .int .i64 a] 26)).cell? ⟨w.heap.size, 1, none⟩ = some (.int .i64 a) := by simp
  have HA0 := l07Args_c op (w.alloc (.cells #[.int .i64 op, .int .i64 a] 26)) h
  have HW := Lib.hid (fun W => l07Word_c op W h)
  have HD := Lib.hid (fun W => l01Dec_c a (by omega) (by omega) W)
  by_cases hh : 0 < hiB op
  · have HL := Lib.hid (lineB_arg a hh)
    rw [decide_eq_true hh] at HA0
    have hs5 := nm_size op h
    have hil := Lib.itoa_length_le a (by omega) (by omega)
    have s1 : ¬ 9223372036854775807 < (nmB op).size + 1 := by omega
    have s2 : ¬ 9223372036854775807 < (nmB op).size + 1 + (Lib.itoa a).length := by omega
    have HA := Lib.hid HA0
    clear HA0 hh h
    go_enter Tryd.func46, Tryd.ntmps46
    go_wp2_with fail
    generalize w.alloc (.cells #[.int .i64 op, .int .i64 a] 26) = W at hb0 p0 p1 HA ⊢
    refine HA.out.mono ?_
    rintro e w1 ⟨rfl, rfl⟩
    go_wp2_with fail
    refine wp_region_held_drew (S := fun w' => w'.cell? ⟨w.heap.size, 0, none⟩ = some (.int .i64 op) ∧ w'.cell? ⟨w.heap.size, 1, none⟩ = some (.int .i64 a)) (by kernel_rfl) ⟨p0, p1⟩ ?_
    intro hH0
    refine wpAnyH_take (i := 0) (v := ?_) rfl (by kernel_rfl) (by kernel_rfl) (by kernel_rfl) (fun _ _ _ h => h) (Or.inl ⟨by kernel_rfl, ?_⟩) (by assumption) ?_
    rotate_left
    · intro w9 hS9; (try dsimp only at hS9); go_simp; (try with_reducible rfl)
    set_option linter.unusedSimpArgs false in try simp only [Act.put, List.getElem_toArray, List.getElem_cons_succ, List.getElem_cons_zero, List.setIfInBounds_toArray, List.set_cons_zero, List.set_cons_succ]
    refine wpAnyH_take (i := 1) (v := ?_) rfl (by kernel_rfl) (by kernel_rfl) (by kernel_rfl) (fun _ _ _ h => h) (Or.inl ⟨by kernel_rfl, ?_⟩) (by assumption) ?_
    rotate_left
    · intro w9 hS9; (try dsimp only at hS9); go_simp; (try with_reducible rfl)
    set_option linter.unusedSimpArgs false in try simp only [Act.put, List.getElem_toArray, List.getElem_cons_succ, List.getElem_cons_zero, List.setIfInBounds_toArray, List.set_cons_zero, List.set_cons_succ]
    refine wpAnyH_take (i := 4) (v := ?_) rfl (by kernel_rfl) (by kernel_rfl) (by kernel_rfl) (fun _ _ _ h => h) (Or.inl ⟨by kernel_rfl, ?_⟩) (by assumption) ?_
    rotate_left
    · intro w9 hS9; (try dsimp only at hS9); go_simp; (try with_reducible rfl)
    set_option linter.unusedSimpArgs false in try simp only [Act.put, List.getElem_toArray, List.getElem_cons_succ, List.getElem_cons_zero, List.setIfInBounds_toArray, List.set_cons_zero, List.set_cons_succ]
    refine wpAnyH_take (i := 5) (v := ?_) rfl (by kernel_rfl) (by kernel_rfl) (by kernel_rfl) (fun _ _ _ h => h) (Or.inl ⟨by kernel_rfl, ?_⟩) (by assumption) ?_
    rotate_left
    · intro w9 hS9; (try dsimp only at hS9); go_simp; (try with_reducible rfl)
    set_option linter.unusedSimpArgs false in try simp only [Act.put, List.getElem_toArray, List.getElem_cons_succ, List.getElem_cons_zero, List.setIfInBounds_toArray, List.set_cons_zero, List.set_cons_succ]
    refine wpAnyH_ready (rs := [2]) (by kernel_rfl) (by simp) ?_
    refine AllReadyH.cons rfl (fun K hK => ?_) AllReadyH.nil
    go_simp
    go_wp2_with (go_at_call 100; refine (HW.out _).mono ?_; rintro e w8 ⟨rfl, hb8⟩)
    refine hK.out _ _ ⟨cell_on p0 hb8, cell_on p1 hb8⟩ (fun hH1 => ?_)
    clear hK K hH0
    set_option linter.unusedSimpArgs false in try simp only [Act.put, List.getElem_toArray, List.getElem_cons_succ, List.getElem_cons_zero, List.setIfInBounds_toArray, List.set_cons_zero, List.set_cons_succ]
    refine wpAnyH_take (i := 3) (v := ?_) rfl (by kernel_rfl) (by kernel_rfl) (by kernel_rfl) (fun _ _ _ h => h) (Or.inl ⟨by kernel_rfl, ?_⟩) (by assumption) ?_
    rotate_left
    · intro w9 hS9; (try dsimp only at hS9); go_simp; (try with_reducible rfl)
    set_option linter.unusedSimpArgs false in try simp only [Act.put, List.getElem_toArray, List.getElem_cons_succ, List.getElem_cons_zero, List.setIfInBounds_toArray, List.set_cons_zero, List.set_cons_succ]
    refine wpAnyH_ready (rs := [6]) (by kernel_rfl) (by simp) ?_
    refine AllReadyH.cons rfl (fun K hK => ?_) AllReadyH.nil
    go_simp
    go_wp2_with (go_at_call 101; refine (HD.out _).mono ?_; rintro e w9 ⟨rfl, hb9⟩)
    refine hK.out _ _ ⟨cell_on2 p0 hb8 hb9, cell_on2 p1 hb8 hb9⟩ (fun hH2 => ?_)
    clear hK K hH1
    set_option linter.unusedSimpArgs false in try simp only [Act.put, List.getElem_toArray, List.getElem_cons_succ, List.getElem_cons_zero, List.setIfInBounds_toArray, List.set_cons_zero, List.set_cons_succ]
    refine wpAnyH_take (i := 7) (v := ?_) rfl (by kernel_rfl) (by kernel_rfl) (by kernel_rfl) (fun _ _ _ h => h) (Or.inl ⟨by kernel_rfl, ?_⟩) (by assumption) ?_
    rotate_left
    · intro w9 hS9; (try dsimp only at hS9); go_simp; (try with_reducible rfl)
    set_option linter.unusedSimpArgs false in try simp only [Act.put, List.getElem_toArray, List.getElem_cons_succ, List.getElem_cons_zero, List.setIfInBounds_toArray, List.set_cons_zero, List.set_cons_succ]
    refine wpAnyH_take (i := 8) (v := ?_) rfl (by kernel_rfl) (by kernel_rfl) (by kernel_rfl) (fun _ _ _ h => h) (Or.inl ⟨by kernel_rfl, ?_⟩) (by assumption) ?_
    rotate_left
    · intro w9 hS9; (try dsimp only at hS9); go_simp; (try with_reducible rfl)
    set_option linter.unusedSimpArgs false in try simp only [Act.put, List.getElem_toArray, List.getElem_cons_succ, List.getElem_cons_zero, List.setIfInBounds_toArray, List.set_cons_zero, List.set_cons_succ]
    refine wpAnyH_done (by kernel_rfl) ?_ _
    go_wp2_with fail
    go_ret
    exact ⟨congrArg (fun s => Ending.returned (Value.string s)) HL.out.symm, bon hb0 (bon (bstep hb8) hb9)⟩
  · have HL := Lib.hid (lineB_bare a hh)
    rw [decide_eq_false hh] at HA0
    have HA := Lib.hid HA0
    clear HA0 hh h
    go_enter Tryd.func46, Tryd.ntmps46
    go_wp2_with fail
    generalize w.alloc (.cells #[.int .i64 op, .int .i64 a] 26) = W at hb0 p0 p1 HA ⊢
    refine HA.out.mono ?_
    rintro e w1 ⟨rfl, rfl⟩
    go_wp2_with fail
    refine (HW.out _).mono ?_
    rintro e w8 ⟨rfl, hb8⟩
    go_wp2_with fail
    go_ret
    exact ⟨congrArg (fun s => Ending.returned (Value.string s)) HL.out.symm, bon hb0 hb8⟩

/-- The text of an instruction, and whether it has one. -/
def insR (op a : Int) : ByteArray × Bool := if instrB op a = true then (lineB op a, true) else (⟨#[]⟩, false)
theorem insR_yes {op a : Int} (h : instrB op a = true) : insR op a = (lineB op a, true) := if_pos h
theorem insR_no {op a : Int} (h : instrB op a = false) : insR op a = (⟨#[]⟩, false) := if_neg (by rw [h]; decide)
theorem instrB_lim {op a : Int} (h : instrB op a = true) : (0 ≤ op ∧ op ≤ 11) ∧ (-1000000 ≤ a ∧ a ≤ 1000000) := by
  obtain ⟨h0, h1, h2, h3⟩ := instrB_parts h
  refine ⟨⟨h0, h1⟩, ?_, ?_⟩
  · unfold loB at h2; split at h2 <;> omega
  · unfold hiB at h3; split at h3 <;> (try split at h3) <;> (try split at h3) <;> omega

set_option maxRecDepth 100000 in
set_option maxHeartbeats 4000000 in
theorem specText_c (op a : Int) (w : World) :
    Calls Tryd.prog 10 #[.agg #[.int .i64 op, .int .i64 a]] w fun e w' => e = .returned (.tuple #[.string (insR op a).1, .bool (insR op a).2]) ∧ Below w.heap.size w w' := by
  have hb0 := bnew w (.cells #[.int .i64 op, .int .i64 a] 26)
  have hP : BlkIs (w.alloc (.cells #[.int .i64 op, .int .i64 a] 26)) w.heap.size 26 #[.int .i64 op, .int .i64 a] := blk_new _ _ _ _ rfl
  have HI0 := l07Instr_c op a (w.alloc (.cells #[.int .i64 op, .int .i64 a] 26))
  cases hv : instrB op a with
  | false =>
    rw [insR_no hv]
    rw [hv] at HI0
    have HI := Lib.hid HI0
    clear HI0 hv
    go_enter Tryd.func10, Tryd.ntmps10
    go_wp2_with fail
    generalize w.alloc (.cells #[.int .i64 op, .int .i64 a] 26) = W at hb0 HI hP ⊢
    refine HI.out.mono ?_
    rintro e w1 ⟨rfl, hb1⟩
    go_wp2_with fail
    go_ret2
    exact ⟨rfl, bon hb0 hb1⟩
  | true =>
    rw [insR_yes hv]
    rw [hv] at HI0
    have HI := Lib.hid HI0
    have hl := instrB_lim hv
    have HL := Lib.hid (fun W => l07Line_c op a W hl.1 hl.2)
    clear HI0 hv hl
    go_enter Tryd.func10, Tryd.ntmps10
    go_wp2_with fail
    generalize w.alloc (.cells #[.int .i64 op, .int .i64 a] 26) = W at hb0 HI hP ⊢
    refine HI.out.mono ?_
    rintro e w1 ⟨rfl, hb1⟩
    have hP1 := hP.next hb1
    have q0 := hP1.cell 0
    have q1 := hP1.cell 1
    simp at q0 q1
    go_wp2_with fail
    refine (HL.out _).mono ?_
    rintro e w2 ⟨rfl, hb2⟩
    go_wp2_with fail
    go_ret2
    exact ⟨rfl, bon (bon hb0 hb1) hb2⟩
end Go.Proofs.YtahlpjhhbcjfpaaDoor

