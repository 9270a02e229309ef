/-
  The model's copy of a state; whether a number is one of a cell or of a variable. Conditions: at most 100000 numbers.
-/
import Derived.Test.YtajmbnimdngjhaaGreatDoorStV
import Derived.Test.YtajmbnimdngjhaaGreatDoorOwn64
import Derived.Test.YtajmbnimdngjhaaGreatDoorBlk
import Derived.Test.YtajmbnimdngjhaaGreatDoorElem
import Derived.Deep.RegionHeld3
import Derived.Lib.Hide
namespace Go.Proofs.YtajmbnimdngjhaaGreatDoor
set_option linter.unusedVariables false
open Go.RowKit

section
variable {P : Program} {o : Oper} {a : Act} {w : World}
theorem exec_build (t : TypeId) (parts : Array (Nat × Operand)) (ho : o.op = .build t parts) (cells : Array Value) (hf : P.built t (parts.map fun (i, x) => (i, a.eval x)).toList = some cells) : (execOp a.eval o).run P w = .ok (.value (.agg cells)) w := by
  unfold execOp; simp only [ho, Sem.run_bind, Sem.run_pure, run_build w t _ cells hf, Result.andThen_ok]
end

set_option maxRecDepth 100000 in
set_option maxHeartbeats 4000000 in
theorem l03Own_s (b : Nat) (A : Option Addr) (n c : Nat) (zs : List Int) (A' : Option Addr) (m c' : Nat) (ys : List Int) (B : Nat) (w : World) (p0 : w.cell? ⟨b, 0, none⟩ = some (.slice A n c)) (p1 : w.cell? ⟨b, 1, none⟩ = some (.slice A' m c'))
    (h0 : InL w B A n zs) (h1 : InL w B A' m ys) (hB : B ≤ w.heap.size) (hn : n ≤ 100000) (hm : m ≤ 100000) :
    Calls Tryz.prog 69 #[.pointer (some ⟨b, 0, none⟩)] w fun e w' => ∃ X cx X' cx' mid, e = .returned (.agg #[.slice X n cx, .slice X' m cx']) ∧ OwnL w' w.heap.size mid X n cx zs ∧ OwnL w' mid w'.heap.size X' m cx' ys ∧ (w.heap.size ≤ mid ∧ mid ≤ w'.heap.size) ∧ Below w.heap.size w w' := by
  have hb0 : Below w.heap.size w (w.alloc (.cells #[.slice none 0 0, .slice none 0 0] 31)) := bnew _ _
  have hR : BlkIs (w.alloc (.cells #[.slice none 0 0, .slice none 0 0] 31)) w.heap.size 31 #[.slice none 0 0, .slice none 0 0] := blk_new _ _ _ _ rfl
  have hlt := cell_lt p0
  replace p0 := cell_next p0 hb0
  replace p1 := cell_next p1 hb0
  have H0 := Lib.hid (h0.next hb0 hB)
  have H1 := Lib.hid (h1.next hb0 hB)
  have hsz : (w.alloc (.cells #[.slice none 0 0, .slice none 0 0] 31)).heap.size = w.heap.size + 1 := by simp
  clear h0 h1
  go_enter Tryz.func69, Tryz.ntmps69
  go_wp2_with fail
  generalize w.alloc (.cells #[.slice none 0 0, .slice none 0 0] 31) = W at hb0 p0 p1 hR hsz H0 H1 ⊢
  have HV := Lib.hid (l00Own_c A n c B zs W.drew H0.out (by show _ ≤ W.heap.size; omega) hn)
  refine wp_region_held_drew (S := fun W' => W'.cell? ⟨b, 0, none⟩ = some (.slice A n c) ∧ W'.cell? ⟨b, 1, none⟩ = some (.slice A' m c')) (by kernel_rfl) ⟨p0, p1⟩ ?_
  intro hHeld
  refine wpAnyH_take (i := 0) (v := ?_) rfl (by kernel_rfl) (by kernel_rfl) (by kernel_rfl) (fun _ _ _ h => h) (Or.inl ⟨by kernel_rfl, ?_⟩) (by assumption) ?_
  rotate_left
  · intro w9 hS9; (try dsimp only at hS9); go_simp; (try with_reducible rfl)
  set_option linter.unusedSimpArgs false in try simp only [Act.put, List.getElem_toArray, List.getElem_cons_succ, List.getElem_cons_zero, List.setIfInBounds_toArray, List.set_cons_zero, List.set_cons_succ]
  refine wpAnyH_take (i := 1) (v := ?_) rfl (by kernel_rfl) (by kernel_rfl) (by kernel_rfl) (fun _ _ _ h => h) (Or.inl ⟨by kernel_rfl, ?_⟩) (by assumption) ?_
  rotate_left
  · intro w9 hS9; (try dsimp only at hS9); go_simp; (try with_reducible rfl)
  set_option linter.unusedSimpArgs false in try simp only [Act.put, List.getElem_toArray, List.getElem_cons_succ, List.getElem_cons_zero, List.setIfInBounds_toArray, List.set_cons_zero, List.set_cons_succ]
  refine wpAnyH_take (i := 2) (v := ?_) rfl (by kernel_rfl) (by kernel_rfl) (by kernel_rfl) (fun _ _ _ h => h) (Or.inl ⟨by kernel_rfl, ?_⟩) (by assumption) ?_
  rotate_left
  · intro w9 hS9; (try dsimp only at hS9); go_simp; (try with_reducible rfl)
  set_option linter.unusedSimpArgs false in try simp only [Act.put, List.getElem_toArray, List.getElem_cons_succ, List.getElem_cons_zero, List.setIfInBounds_toArray, List.set_cons_zero, List.set_cons_succ]
  refine wpAnyH_take (i := 3) (v := ?_) rfl (by kernel_rfl) (by kernel_rfl) (by kernel_rfl) (fun _ _ _ h => h) (Or.inl ⟨by kernel_rfl, ?_⟩) (by assumption) ?_
  rotate_left
  · intro w9 hS9; (try dsimp only at hS9); go_simp; (try with_reducible rfl)
  set_option linter.unusedSimpArgs false in try simp only [Act.put, List.getElem_toArray, List.getElem_cons_succ, List.getElem_cons_zero, List.setIfInBounds_toArray, List.set_cons_zero, List.set_cons_succ]
  refine wpAnyH_take (i := 5) (v := ?_) rfl (by kernel_rfl) (by kernel_rfl) (by kernel_rfl) (fun _ _ _ h => h) (Or.inl ⟨by kernel_rfl, ?_⟩) (by assumption) ?_
  rotate_left
  · intro w9 hS9; (try dsimp only at hS9); go_simp; (try with_reducible rfl)
  set_option linter.unusedSimpArgs false in try simp only [Act.put, List.getElem_toArray, List.getElem_cons_succ, List.getElem_cons_zero, List.setIfInBounds_toArray, List.set_cons_zero, List.set_cons_succ]
  refine wpAnyH_take (i := 6) (v := ?_) rfl (by kernel_rfl) (by kernel_rfl) (by kernel_rfl) (fun _ _ _ h => h) (Or.inl ⟨by kernel_rfl, ?_⟩) (by assumption) ?_
  rotate_left
  · intro w9 hS9; (try dsimp only at hS9); go_simp; (try with_reducible rfl)
  set_option linter.unusedSimpArgs false in try simp only [Act.put, List.getElem_toArray, List.getElem_cons_succ, List.getElem_cons_zero, List.setIfInBounds_toArray, List.set_cons_zero, List.set_cons_succ]
  refine wpAnyH_take (i := 7) (v := ?_) rfl (by kernel_rfl) (by kernel_rfl) (by kernel_rfl) (fun _ _ _ h => h) (Or.inl ⟨by kernel_rfl, ?_⟩) (by assumption) ?_
  rotate_left
  · intro w9 hS9; (try dsimp only at hS9); go_simp; (try with_reducible rfl)
  set_option linter.unusedSimpArgs false in try simp only [Act.put, List.getElem_toArray, List.getElem_cons_succ, List.getElem_cons_zero, List.setIfInBounds_toArray, List.set_cons_zero, List.set_cons_succ]
  refine wpAnyH_take (i := 8) (v := ?_) rfl (by kernel_rfl) (by kernel_rfl) (by kernel_rfl) (fun _ _ _ h => h) (Or.inl ⟨by kernel_rfl, ?_⟩) (by assumption) ?_
  rotate_left
  · intro w9 hS9; (try dsimp only at hS9); go_simp; (try with_reducible rfl)
  set_option linter.unusedSimpArgs false in try simp only [Act.put, List.getElem_toArray, List.getElem_cons_succ, List.getElem_cons_zero, List.setIfInBounds_toArray, List.set_cons_zero, List.set_cons_succ]
  refine wpAnyH_ready (rs := [4]) (by kernel_rfl) (by simp) ?_
  refine AllReadyH.cons rfl (fun K hK => ?_) AllReadyH.nil
  go_simp
  go_wp2_with (go_at_call 99; refine HV.out.mono ?_; rintro e w1 ⟨X, cx, rfl, ow1, hb1⟩)
  have hb1' := bstep hb1
  have hR1 := hR.next hb1'
  have HZ := Lib.hid (l00Own_c A' m c' B ys w1 (H1.out.next hb1' (by omega)) (by have := hb1'.size; omega) hm)
  refine hK.out _ _ ⟨cell_next p0 hb1', cell_next p1 hb1'⟩ (fun hHeld2 => ?_)
  clear hK K hHeld
  set_option linter.unusedSimpArgs false in try simp only [Act.put, List.getElem_toArray, List.getElem_cons_succ, List.getElem_cons_zero, List.setIfInBounds_toArray, List.set_cons_zero, List.set_cons_succ]
  refine wpAnyH_ready (rs := [9]) (by kernel_rfl) (by simp) ?_
  refine AllReadyH.cons rfl (fun K hK => ?_) AllReadyH.nil
  go_simp
  go_wp2_with (go_at_call 99; refine HZ.out.mono ?_; rintro e w2 ⟨X', cx', rfl, ow2, hb2⟩)
  have hR2 := hR1.next hb2
  have hs1 := hb1'.size
  have hs2 := hb2.size
  have z0 := hR2.cell 0
  have z1 := hR2.cell 1
  have f0 := hR2.frozen 0
  have f1 := hR2.frozen 1
  simp at z0 z1
  have q0 := cell_next (cell_next p0 hb1') hb2
  have q1 := cell_next (cell_next p1 hb1') hb2
  refine hK.out _ _ ⟨q0, q1⟩ (fun hHeld3 => ?_)
  clear hK K hHeld2
  set_option linter.unusedSimpArgs false in try simp only [Act.put, List.getElem_toArray, List.getElem_cons_succ, List.getElem_cons_zero, List.setIfInBounds_toArray, List.set_cons_zero, List.set_cons_succ]
  refine wpAnyH_take (i := 10) (v := .agg #[.slice X n cx, .slice X' m cx']) rfl (by kernel_rfl) (by kernel_rfl) (by kernel_rfl) (fun _ _ _ h => h) (Or.inl ⟨by kernel_rfl, ?_⟩) (by assumption) ?_
  · intro w9 hS9
    exact exec_build 31 _ rfl _ (by kernel_rfl)
  set_option linter.unusedSimpArgs false in try simp only [Act.put, List.getElem_toArray, List.getElem_cons_succ, List.getElem_cons_zero, List.setIfInBounds_toArray, List.set_cons_zero, List.set_cons_succ]
  have hR4 := (hR2.set 0 (.slice X n cx)).set 1 (.slice X' m cx')
  have ho4 : Out w.heap.size (w.heap.size + 1) w2 ((w2.setCell ⟨w.heap.size, 0, none⟩ (.slice X n cx)).setCell ⟨w.heap.size, 1, none⟩ (.slice X' m cx')) := out_set (out_set (Out.refl _ _ _) (by omega)) (by omega)
  have k0 : ((w2.setCell ⟨w.heap.size, 0, none⟩ (.slice X n cx)).setCell ⟨w.heap.size, 1, none⟩ (.slice X' m cx')).cell? ⟨w.heap.size, 0, none⟩ = some (.slice X n cx) := by rw [hR4.cell 0]; simp
  have k1 : ((w2.setCell ⟨w.heap.size, 0, none⟩ (.slice X n cx)).setCell ⟨w.heap.size, 1, none⟩ (.slice X' m cx')).cell? ⟨w.heap.size, 1, none⟩ = some (.slice X' m cx') := by rw [hR4.cell 1]; simp
  have hs4 := ho4.size
  have hWd : W.drew.heap.size = W.heap.size := rfl
  have o1 := (ow1.next hb2).out ho4 (by left; omega)
  have o2 := (ow2.out ho4 (by left; omega)).wide hs4 (Nat.le_refl _)
  have hbF := (hb0.trans ((hb1'.trans (hb2.mono hs1)).mono (by omega))).trans (ho4.below (by omega) (by omega))
  have s0 := ho4.cell q0 (by omega)
  have s1 := ho4.cell q1 (by omega)
  refine wpAnyH_ready (rs := [11]) (by kernel_rfl) (by simp) ?_
  refine AllReadyH.cons rfl (fun K hK => ?_) AllReadyH.nil
  go_simp
  refine hK.out _ _ ⟨s0, s1⟩ (fun hHeld4 => ?_)
  clear hK K hHeld3 hHeld4
  refine wpAnyH_done (by kernel_rfl) ?_ _
  generalize ((w2.setCell ⟨w.heap.size, 0, none⟩ (.slice X n cx)).setCell ⟨w.heap.size, 1, none⟩ (.slice X' m cx')) = W4 at k0 k1 o1 o2 hbF hs4 ⊢
  have HO1 := Lib.hid (o1.less (lo' := w.heap.size) (by omega))
  have HO2 := Lib.hid o2
  clear o1 o2 ow1 ow2 HV HZ hR hR1 hR2 hR4 z0 z1 f0 f1 ho4 s0 s1 q0 q1 p0 p1
  set_option linter.unusedSimpArgs false in try simp only [Act.put, List.getElem_toArray, List.getElem_cons_succ, List.getElem_cons_zero, List.setIfInBounds_toArray, List.set_cons_zero, List.set_cons_succ]
  go_wp2_with fail
  refine bodyPost_ret (v := .agg #[.slice X n cx, .slice X' m cx']) (by simp [results, Tryz.results69, go_sem, k0, k1]) rfl ?_
  exact ⟨X, cx, X', cx', w1.heap.size, rfl, HO1.out, HO2.out, ⟨by omega, by omega⟩, hbF⟩

theorem l03Cell_s (n : Int) (w : World) : Calls Tryz.prog 101 #[.int .i64 n] w fun e w' => e = .returned (.bool (decide (0 ≤ n) && decide (n ≤ 7))) ∧ w = w' := by
  go_enter Tryz.func101, Tryz.ntmps101
  go_wp2_with fail
  refine (l00In_k n 0 7 w).mono ?_
  rintro e w1 ⟨rfl, rfl⟩
  go_wp2_with fail
  go_ret
  exact ⟨rfl, rfl⟩
theorem l03Int_s (n : Int) (w : World) : Calls Tryz.prog 102 #[.int .i64 n] w fun e w' => e = .returned (.bool (decide (-1000000000 ≤ n) && decide (n ≤ 1000000000))) ∧ w = w' := by
  go_enter Tryz.func102, Tryz.ntmps102
  go_wp2_with fail
  refine (l00In_k n (-1000000000) 1000000000 w).mono ?_
  rintro e w1 ⟨rfl, rfl⟩
  go_wp2_with fail
  go_ret
  exact ⟨rfl, rfl⟩
end Go.Proofs.YtajmbnimdngjhaaGreatDoor
