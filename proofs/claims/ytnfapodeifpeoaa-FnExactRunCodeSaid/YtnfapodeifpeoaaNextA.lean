/-
  A step of the model: a place beyond the end. Conditions: valid code, a valid config.
-/
import Derived.Test.YtnfapodeifpeoaaNextQ
import Derived.Deep.DeepCutAuto
import Derived.OwnWalk
namespace Go.Proofs.Ytnfapodeifpeoaa
set_option linter.unusedVariables false
open Go.RowKit

set_option maxRecDepth 100000 in
set_option maxHeartbeats 8000000 in
theorem next_beyond (b : Nat) (A : Option Addr) (c : Nat) (vs : List Int) (A' : Option Addr) (c' : Nat) (zs : List Int) (A2 : Option Addr) (c2 : Nat) (st : List Int) (C : Option Addr) (k cc : Nat) (cs : List (Int × Int)) (B : Nat) (w : World) (p : Int) (hP : BlkIs w b 44 #[.slice A 4 c, .slice A' 8 c', .slice A2 st.length c2, .int .i64 p]) (h0 : InL w B A 4 vs) (h1 : InL w B A' 8 zs) (h2 : InL w B A2 st.length st) (hC : InC w B C k cs) (hB : B ≤ w.heap.size) (h6 : st.length ≤ 6) (hp : (k : Int) ≤ p) :
    Calls Try.prog 62 #[.slice C k cc, .pointer (some ⟨b, 0, none⟩)] w (NextR vs zs st p 5 w) := by
  have hlt := hP.lt
  have hb0 : Below w.heap.size w (w.alloc (.cells #[.slice none 0 0, .slice none 0 0, .slice none 0 0, .int .i64 0] 44)) := bnew _ _
  have hR : BlkIs (w.alloc (.cells #[.slice none 0 0, .slice none 0 0, .slice none 0 0, .int .i64 0] 44)) w.heap.size 44 #[.slice none 0 0, .slice none 0 0, .slice none 0 0, .int .i64 0] := blk_new _ _ _ _ rfl
  have hsz : (w.alloc (.cells #[.slice none 0 0, .slice none 0 0, .slice none 0 0, .int .i64 0] 44)).heap.size = w.heap.size + 1 := by simp
  have hP1 := hP.next hb0
  have H0 := Lib.hid (h0.next hb0 hB)
  have H1 := Lib.hid (h1.next hb0 hB)
  have H2 := Lib.hid (h2.next hb0 hB)
  have HC := Lib.hid (hC.next hb0 hB)
  clear hP h0 h1 h2 hC
  go_enter Try.func62, Try.ntmps62
  go_wp2_with fail
  generalize w.alloc (.cells #[.slice none 0 0, .slice none 0 0, .slice none 0 0, .int .i64 0] 44) = W at hb0 hR hsz hP1 H0 H1 H2 HC ⊢
  have p0 : W.cell? ⟨b, 0, none⟩ = some (.slice A 4 c) := hP1.cell 0
  have p1 : W.cell? ⟨b, 1, none⟩ = some (.slice A' 8 c') := hP1.cell 1
  have p2 : W.cell? ⟨b, 2, none⟩ = some (.slice A2 st.length c2) := hP1.cell 2
  have p3 : W.cell? ⟨b, 3, none⟩ = some (.int .i64 p) := hP1.cell 3
  have HV := Lib.hid (fun (x : World) (hx : Below W.heap.size W x) => l03Own_c b A 4 c vs A' 8 c' zs B x (cell_next p0 hx) (cell_next p1 hx) (H0.out.next hx (by omega)) (H1.out.next hx (by omega)) (by have := hx.size; omega) (by omega) (by omega))
  have HZ := Lib.hid (fun (x : World) (hx : Below W.heap.size W x) => l00Own_c A2 st.length c2 B st x (H2.out.next hx (by omega)) (by have := hx.size; omega) (by omega))
  go_cut [6] (fun s6 wx => ∃ g X cx X' cx' X2 cx2, s6 = .pointer (some ⟨g, 0, none⟩) ∧ Below W.heap.size W wx ∧ OutIs wx W.heap.size g X cx X' cx' X2 cx2 vs zs st p)
  case first =>
    have hbD : Below W.heap.size W W.drew := (Below.refl _ W).drew
    have hbA := bnew W (.cells #[.slice none 0 0, .slice none 0 0, .slice none 0 0, .int .i64 0] 44)
    have hbAD : Below W.heap.size W (W.alloc (.cells #[.slice none 0 0, .slice none 0 0, .slice none 0 0, .int .i64 0] 44)).drew := hbA.drew
    have hsA : (W.alloc (.cells #[.slice none 0 0, .slice none 0 0, .slice none 0 0, .int .i64 0] 44)).heap.size = W.heap.size + 1 := by simp
    have hWd : W.drew.heap.size = W.heap.size := rfl
    refine wp_region_held_drew (S := fun W' => W'.cell? ⟨b, 0, none⟩ = some (.slice A 4 c) ∧ W'.cell? ⟨b, 1, none⟩ = some (.slice A' 8 c') ∧ W'.cell? ⟨b, 2, none⟩ = some (.slice A2 st.length c2) ∧ W'.cell? ⟨b, 3, none⟩ = some (.int .i64 p)) (by kernel_rfl) ⟨p0, p1, p2, p3⟩ ?_
    intro hHeld
    refine wpAnyH_take (i := 0) (v := ?_) rfl (by kernel_rfl) (by kernel_rfl) (by kernel_rfl) (fun _ _ _ h => h) (Or.inl ⟨by kernel_rfl, ?_⟩) (by assumption) ?_
    rotate_left
    · intro w9 hS9; (try dsimp only at hS9); go_simp; (try with_reducible rfl)
    set_option linter.unusedSimpArgs false in try simp only [Act.put, List.getElem_toArray, List.getElem_cons_succ, List.getElem_cons_zero, List.setIfInBounds_toArray, List.set_cons_zero, List.set_cons_succ]
    refine wpAnyH_take (i := 1) (v := ?_) rfl (by kernel_rfl) (by kernel_rfl) (by kernel_rfl) (fun _ _ _ h => h) (Or.inl ⟨by kernel_rfl, ?_⟩) (by assumption) ?_
    rotate_left
    · intro w9 hS9; (try dsimp only at hS9); go_simp; (try with_reducible rfl)
    set_option linter.unusedSimpArgs false in try simp only [Act.put, List.getElem_toArray, List.getElem_cons_succ, List.getElem_cons_zero, List.setIfInBounds_toArray, List.set_cons_zero, List.set_cons_succ]
    refine wpAnyH_take (i := 2) (v := ?_) rfl (by kernel_rfl) (by kernel_rfl) (by kernel_rfl) (fun _ _ _ h => h) (Or.inl ⟨by kernel_rfl, ?_⟩) (by assumption) ?_
    rotate_left
    · intro w9 hS9; (try dsimp only at hS9); go_simp; (try with_reducible rfl)
    set_option linter.unusedSimpArgs false in try simp only [Act.put, List.getElem_toArray, List.getElem_cons_succ, List.getElem_cons_zero, List.setIfInBounds_toArray, List.set_cons_zero, List.set_cons_succ]
    refine wpAnyH_take (i := 4) (v := ?_) rfl (by kernel_rfl) (by kernel_rfl) (by kernel_rfl) (fun _ _ _ h => h) (Or.inl ⟨by kernel_rfl, ?_⟩) (by assumption) ?_
    rotate_left
    · intro w9 hS9; (try dsimp only at hS9); go_simp; (try with_reducible rfl)
    set_option linter.unusedSimpArgs false in try simp only [Act.put, List.getElem_toArray, List.getElem_cons_succ, List.getElem_cons_zero, List.setIfInBounds_toArray, List.set_cons_zero, List.set_cons_succ]
    refine wpAnyH_take (i := 5) (v := ?_) rfl (by kernel_rfl) (by kernel_rfl) (by kernel_rfl) (fun _ _ _ h => h) (Or.inl ⟨by kernel_rfl, ?_⟩) (by assumption) ?_
    rotate_left
    · intro w9 hS9; (try dsimp only at hS9); go_simp; (try with_reducible rfl)
    set_option linter.unusedSimpArgs false in try simp only [Act.put, List.getElem_toArray, List.getElem_cons_succ, List.getElem_cons_zero, List.setIfInBounds_toArray, List.set_cons_zero, List.set_cons_succ]
    refine wpAnyH_take (i := 6) (v := ?_) rfl (by kernel_rfl) (by kernel_rfl) (by kernel_rfl) (fun _ _ _ h => h) (Or.inl ⟨by kernel_rfl, ?_⟩) (by assumption) ?_
    rotate_left
    · intro w9 hS9; (try dsimp only at hS9); go_simp; (try with_reducible rfl)
    set_option linter.unusedSimpArgs false in try simp only [Act.put, List.getElem_toArray, List.getElem_cons_succ, List.getElem_cons_zero, List.setIfInBounds_toArray, List.set_cons_zero, List.set_cons_succ]
    refine wpAnyH_take (i := 7) (v := ?_) rfl (by kernel_rfl) (by kernel_rfl) (by kernel_rfl) (fun _ _ _ h => h) (Or.inl ⟨by kernel_rfl, ?_⟩) (by assumption) ?_
    rotate_left
    · intro w9 hS9; (try dsimp only at hS9); go_simp; (try with_reducible rfl)
    set_option linter.unusedSimpArgs false in try simp only [Act.put, List.getElem_toArray, List.getElem_cons_succ, List.getElem_cons_zero, List.setIfInBounds_toArray, List.set_cons_zero, List.set_cons_succ]
    refine wpAnyH_take (i := 9) (v := ?_) rfl (by kernel_rfl) (by kernel_rfl) (by kernel_rfl) (fun _ _ _ h => h) (Or.inl ⟨by kernel_rfl, ?_⟩) (by assumption) ?_
    rotate_left
    · intro w9 hS9; (try dsimp only at hS9); go_simp; (try with_reducible rfl)
    set_option linter.unusedSimpArgs false in try simp only [Act.put, List.getElem_toArray, List.getElem_cons_succ, List.getElem_cons_zero, List.setIfInBounds_toArray, List.set_cons_zero, List.set_cons_succ]
    refine wpAnyH_take (i := 10) (v := ?_) rfl (by kernel_rfl) (by kernel_rfl) (by kernel_rfl) (fun _ _ _ h => h) (Or.inl ⟨by kernel_rfl, ?_⟩) (by assumption) ?_
    rotate_left
    · intro w9 hS9; (try dsimp only at hS9); go_simp; (try with_reducible rfl)
    set_option linter.unusedSimpArgs false in try simp only [Act.put, List.getElem_toArray, List.getElem_cons_succ, List.getElem_cons_zero, List.setIfInBounds_toArray, List.set_cons_zero, List.set_cons_succ]
    refine wpAnyH_take (i := 11) (v := ?_) rfl (by kernel_rfl) (by kernel_rfl) (by kernel_rfl) (fun _ _ _ h => h) (Or.inl ⟨by kernel_rfl, ?_⟩) (by assumption) ?_
    rotate_left
    · intro w9 hS9; (try dsimp only at hS9); go_simp; (try with_reducible rfl)
    set_option linter.unusedSimpArgs false in try simp only [Act.put, List.getElem_toArray, List.getElem_cons_succ, List.getElem_cons_zero, List.setIfInBounds_toArray, List.set_cons_zero, List.set_cons_succ]
    refine wpAnyH_take (i := 12) (v := ?_) rfl (by kernel_rfl) (by kernel_rfl) (by kernel_rfl) (fun _ _ _ h => h) (Or.inl ⟨by kernel_rfl, ?_⟩) (by assumption) ?_
    rotate_left
    · intro w9 hS9; (try dsimp only at hS9); go_simp; (try with_reducible rfl)
    set_option linter.unusedSimpArgs false in try simp only [Act.put, List.getElem_toArray, List.getElem_cons_succ, List.getElem_cons_zero, List.setIfInBounds_toArray, List.set_cons_zero, List.set_cons_succ]
    refine wpAnyH_ready (rs := [3, 14]) (by kernel_rfl) (by simp) ?_
    refine AllReadyH.cons rfl (fun K hK => ?_) (AllReadyH.cons rfl (fun K hK => ?_) AllReadyH.nil)
    · go_simp
      go_wp2_with (go_at_call 87; refine (HV.out _ (hbD)).mono ?_; rintro e w1 ⟨X, cx, X', cx', m1, rfl, ow1, ow1', md, hb1⟩)
      have hb1W := bstep hb1
      have hs1 := hb1W.size
      have q0 := cell_next p0 hb1W
      have q1 := cell_next p1 hb1W
      have q2 := cell_next p2 hb1W
      have q3 := cell_next p3 hb1W
      have hbA1 := bnew w1 (.cells #[.slice none 0 0, .slice none 0 0, .slice none 0 0, .int .i64 0] 44)
      have hsA1 : (w1.alloc (.cells #[.slice none 0 0, .slice none 0 0, .slice none 0 0, .int .i64 0] 44)).heap.size = w1.heap.size + 1 := by simp
      refine hK.out _ _ ⟨q0, q1, q2, q3⟩ (fun hHeldA => ?_)
      clear hK K hHeld
      set_option linter.unusedSimpArgs false in try simp only [Act.put, List.getElem_toArray, List.getElem_cons_succ, List.getElem_cons_zero, List.setIfInBounds_toArray, List.set_cons_zero, List.set_cons_succ]
      refine wpAnyH_ready (rs := [8, 14]) (by kernel_rfl) (by simp) ?_
      refine AllReadyH.cons rfl (fun K hK => ?_) (AllReadyH.cons rfl (fun K hK => ?_) AllReadyH.nil)
      · go_simp
        go_wp2_with (go_at_call 88; refine (HZ.out _ (hb1W)).mono ?_; rintro e w2 ⟨X2, cx2, rfl, ow2, hb2⟩)
        have r0 := cell_next q0 hb2
        have r1 := cell_next q1 hb2
        have r2 := cell_next q2 hb2
        have r3 := cell_next q3 hb2
        have hs2 := hb2.size
        refine hK.out _ _ ⟨r0, r1, r2, r3⟩ (fun hHeldB => ?_)
        clear hK K hHeldA
        set_option linter.unusedSimpArgs false in try simp only [Act.put, List.getElem_toArray, List.getElem_cons_succ, List.getElem_cons_zero, List.setIfInBounds_toArray, List.set_cons_zero, List.set_cons_succ]
        refine wpAnyH_take (i := 13) (v := ?_) rfl (by kernel_rfl) (by kernel_rfl) (by kernel_rfl) (fun _ _ _ h => h) (Or.inl ⟨by kernel_rfl, ?_⟩) (by assumption) ?_
        rotate_left
        · intro w9 hS9; (try dsimp only at hS9); go_simp; (try with_reducible rfl)
        set_option linter.unusedSimpArgs false in try simp only [Act.put, List.getElem_toArray, List.getElem_cons_succ, List.getElem_cons_zero, List.setIfInBounds_toArray, List.set_cons_zero, List.set_cons_succ]
        refine wpAnyH_ready (rs := [14]) (by kernel_rfl) (by simp) ?_
        refine AllReadyH.cons rfl (fun K hK => ?_) AllReadyH.nil
        have hb3 := bnew w2 (.cells #[.slice none 0 0, .slice none 0 0, .slice none 0 0, .int .i64 0] 44)
        have ho3 := bnew w2 (.cells #[.slice X 4 cx, .slice X' 8 cx', .slice X2 st.length cx2, .int .i64 p] 44)
        go_simp
        refine hK.out _ _ ⟨cell_next r0 hb3, cell_next r1 hb3, cell_next r2 hb3, cell_next r3 hb3⟩ (fun hHeldC => ?_)
        clear hK K hHeldB
        set_option linter.unusedSimpArgs false in try simp only [Act.put, List.getElem_toArray, List.getElem_cons_succ, List.getElem_cons_zero, List.setIfInBounds_toArray, List.set_cons_zero, List.set_cons_succ]
        refine wpAnyH_ready (rs := [15]) (by kernel_rfl) (by simp) ?_
        refine AllReadyH.cons rfl (fun K hK => ?_) AllReadyH.nil
        go_simp
        refine hK.out _ _ ⟨cell_next r0 ho3, cell_next r1 ho3, cell_next r2 ho3, cell_next r3 ho3⟩ (fun hHeldD => ?_)
        clear hK K hHeldC
        refine wpAnyH_done (by kernel_rfl) ?_ _
        go_wp2_with fail
        go_meet
        exact ⟨w2.heap.size, X, cx, X', cx', X2, cx2, rfl, bon (bon hb1W hb2) ho3, _, _, _, _, _, _, blk_new w2 _ _ _ rfl, (ow1.next hb2).next ho3, (ow1'.next hb2).next ho3, ow2.next ho3, ⟨by omega, by omega, by omega, by omega⟩, by omega, by omega, by omega, by omega, by omega, by omega⟩
      · go_simp
        replace q0 := cell_next q0 hbA1
        replace q1 := cell_next q1 hbA1
        replace q2 := cell_next q2 hbA1
        replace q3 := cell_next q3 hbA1
        refine hK.out _ _ ⟨q0, q1, q2, q3⟩ (fun hHeldB => ?_)
        clear hK K hHeldA
        set_option linter.unusedSimpArgs false in try simp only [Act.put, List.getElem_toArray, List.getElem_cons_succ, List.getElem_cons_zero, List.setIfInBounds_toArray, List.set_cons_zero, List.set_cons_succ]
        refine wpAnyH_ready (rs := [8]) (by kernel_rfl) (by simp) ?_
        refine AllReadyH.cons rfl (fun K hK => ?_) AllReadyH.nil
        go_simp
        go_wp2_with (go_at_call 88; refine (HZ.out _ (bon hb1W hbA1)).mono ?_; rintro e w2 ⟨X2, cx2, rfl, ow2, hb2⟩)
        replace ow1 := ow1.next hbA1
        replace ow1' := ow1'.next hbA1
        have hG : BlkIs w2 w1.heap.size 44 #[.slice none 0 0, .slice none 0 0, .slice none 0 0, .int .i64 0] := (blk_new w1 44 #[.slice none 0 0, .slice none 0 0, .slice none 0 0, .int .i64 0] _ rfl).next hb2
        have r0 := cell_next q0 hb2
        have r1 := cell_next q1 hb2
        have r2 := cell_next q2 hb2
        have r3 := cell_next q3 hb2
        have hs2 := hb2.size
        refine hK.out _ _ ⟨r0, r1, r2, r3⟩ (fun hHeldC => ?_)
        clear hK K hHeldB
        set_option linter.unusedSimpArgs false in try simp only [Act.put, List.getElem_toArray, List.getElem_cons_succ, List.getElem_cons_zero, List.setIfInBounds_toArray, List.set_cons_zero, List.set_cons_succ]
        refine wpAnyH_take (i := 13) (v := ?_) rfl (by kernel_rfl) (by kernel_rfl) (by kernel_rfl) (fun _ _ _ h => h) (Or.inl ⟨by kernel_rfl, ?_⟩) (by assumption) ?_
        rotate_left
        · intro w9 hS9; (try dsimp only at hS9); go_simp; (try with_reducible rfl)
        set_option linter.unusedSimpArgs false in try simp only [Act.put, List.getElem_toArray, List.getElem_cons_succ, List.getElem_cons_zero, List.setIfInBounds_toArray, List.set_cons_zero, List.set_cons_succ]
        have z0 := hG.cell 0
        have z1 := hG.cell 1
        have z2 := hG.cell 2
        have z3 := hG.cell 3
        have f0 := hG.frozen 0
        have f1 := hG.frozen 1
        have f2 := hG.frozen 2
        have f3 := hG.frozen 3
        simp at z0 z1 z2 z3
        have hG4 := (((hG.set 0 (.slice X 4 cx)).set 1 (.slice X' 8 cx')).set 2 (.slice X2 st.length cx2)).set 3 (.int .i64 p)
        have ho3 : Out w1.heap.size (w1.heap.size + 1) w2 ((((w2.setCell ⟨w1.heap.size, 0, none⟩ (.slice X 4 cx)).setCell ⟨w1.heap.size, 1, none⟩ (.slice X' 8 cx')).setCell ⟨w1.heap.size, 2, none⟩ (.slice X2 st.length cx2)).setCell ⟨w1.heap.size, 3, none⟩ (.int .i64 p)) := out_set (out_set (out_set (out_set (Out.refl _ _ _) (by omega)) (by omega)) (by omega)) (by omega)
        refine wpAnyH_ready (rs := [15]) (by kernel_rfl) (by simp) ?_
        refine AllReadyH.cons rfl (fun K hK => ?_) AllReadyH.nil
        go_simp
        refine hK.out _ _ ⟨ho3.cell r0 (by omega), ho3.cell r1 (by omega), ho3.cell r2 (by omega), ho3.cell r3 (by omega)⟩ (fun hHeldD => ?_)
        clear hK K hHeldC
        refine wpAnyH_done (by kernel_rfl) ?_ _
        go_wp2_with fail
        go_meet
        exact ⟨w1.heap.size, X, cx, X', cx', X2, cx2, rfl, (bon (bon hb1W hbA1) hb2).trans (ho3.below (by omega) (by omega)), _, _, _, _, _, _, hG4, (ow1.next hb2).out ho3 (by omega), (ow1'.next hb2).out ho3 (by omega), ow2.out ho3 (by omega), ⟨by omega, by omega, by omega, by omega⟩, by omega, by omega, by omega, by omega, by omega, by omega⟩
    · go_simp
      have q0 := cell_next p0 hbAD
      have q1 := cell_next p1 hbAD
      have q2 := cell_next p2 hbAD
      have q3 := cell_next p3 hbAD
      refine hK.out _ _ ⟨q0, q1, q2, q3⟩ (fun hHeldB => ?_)
      clear hK K hHeld
      set_option linter.unusedSimpArgs false in try simp only [Act.put, List.getElem_toArray, List.getElem_cons_succ, List.getElem_cons_zero, List.setIfInBounds_toArray, List.set_cons_zero, List.set_cons_succ]
      refine wpAnyH_ready (rs := [3]) (by kernel_rfl) (by simp) ?_
      refine AllReadyH.cons rfl (fun K hK => ?_) AllReadyH.nil
      go_simp
      go_wp2_with (go_at_call 87; refine (HV.out _ (hbAD)).mono ?_; rintro e w1 ⟨X, cx, X', cx', m1, rfl, ow1, ow1', md, hb1⟩)
      have hb1A := bstep hb1
      have hb1W := bon hbA hb1A
      have hs1 := hb1A.size
      have hAd : (W.alloc (.cells #[.slice none 0 0, .slice none 0 0, .slice none 0 0, .int .i64 0] 44)).drew.heap.size = W.heap.size + 1 := hsA
      replace q0 := cell_next p0 hb1W
      replace q1 := cell_next p1 hb1W
      replace q2 := cell_next p2 hb1W
      replace q3 := cell_next p3 hb1W
      refine hK.out _ _ ⟨q0, q1, q2, q3⟩ (fun hHeldA => ?_)
      clear hK K hHeldB
      set_option linter.unusedSimpArgs false in try simp only [Act.put, List.getElem_toArray, List.getElem_cons_succ, List.getElem_cons_zero, List.setIfInBounds_toArray, List.set_cons_zero, List.set_cons_succ]
      refine wpAnyH_ready (rs := [8]) (by kernel_rfl) (by simp) ?_
      refine AllReadyH.cons rfl (fun K hK => ?_) AllReadyH.nil
      go_simp
      go_wp2_with (go_at_call 88; refine (HZ.out _ (hb1W)).mono ?_; rintro e w2 ⟨X2, cx2, rfl, ow2, hb2⟩)
      have hG : BlkIs w2 (w.heap.size + 1) 44 #[.slice none 0 0, .slice none 0 0, .slice none 0 0, .int .i64 0] := by rw [← hsz]; exact ((blk_new W 44 #[.slice none 0 0, .slice none 0 0, .slice none 0 0, .int .i64 0] _ rfl).next hb1A).next hb2
      have r0 := cell_next q0 hb2
      have r1 := cell_next q1 hb2
      have r2 := cell_next q2 hb2
      have r3 := cell_next q3 hb2
      have hs2 := hb2.size
      refine hK.out _ _ ⟨r0, r1, r2, r3⟩ (fun hHeldC => ?_)
      clear hK K hHeldA
      set_option linter.unusedSimpArgs false in try simp only [Act.put, List.getElem_toArray, List.getElem_cons_succ, List.getElem_cons_zero, List.setIfInBounds_toArray, List.set_cons_zero, List.set_cons_succ]
      refine wpAnyH_take (i := 13) (v := ?_) rfl (by kernel_rfl) (by kernel_rfl) (by kernel_rfl) (fun _ _ _ h => h) (Or.inl ⟨by kernel_rfl, ?_⟩) (by assumption) ?_
      rotate_left
      · intro w9 hS9; (try dsimp only at hS9); go_simp; (try with_reducible rfl)
      set_option linter.unusedSimpArgs false in try simp only [Act.put, List.getElem_toArray, List.getElem_cons_succ, List.getElem_cons_zero, List.setIfInBounds_toArray, List.set_cons_zero, List.set_cons_succ]
      have z0 := hG.cell 0
      have z1 := hG.cell 1
      have z2 := hG.cell 2
      have z3 := hG.cell 3
      have f0 := hG.frozen 0
      have f1 := hG.frozen 1
      have f2 := hG.frozen 2
      have f3 := hG.frozen 3
      simp at z0 z1 z2 z3
      have hG4 := (((hG.set 0 (.slice X 4 cx)).set 1 (.slice X' 8 cx')).set 2 (.slice X2 st.length cx2)).set 3 (.int .i64 p)
      have ho3 : Out (w.heap.size + 1) ((w.heap.size + 1) + 1) w2 ((((w2.setCell ⟨(w.heap.size + 1), 0, none⟩ (.slice X 4 cx)).setCell ⟨(w.heap.size + 1), 1, none⟩ (.slice X' 8 cx')).setCell ⟨(w.heap.size + 1), 2, none⟩ (.slice X2 st.length cx2)).setCell ⟨(w.heap.size + 1), 3, none⟩ (.int .i64 p)) := out_set (out_set (out_set (out_set (Out.refl _ _ _) (by omega)) (by omega)) (by omega)) (by omega)
      refine wpAnyH_ready (rs := [15]) (by kernel_rfl) (by simp) ?_
      refine AllReadyH.cons rfl (fun K hK => ?_) AllReadyH.nil
      go_simp
      refine hK.out _ _ ⟨ho3.cell r0 (by omega), ho3.cell r1 (by omega), ho3.cell r2 (by omega), ho3.cell r3 (by omega)⟩ (fun hHeldD => ?_)
      clear hK K hHeldC
      refine wpAnyH_done (by kernel_rfl) ?_ _
      go_wp2_with fail
      go_meet
      exact ⟨(w.heap.size + 1), X, cx, X', cx', X2, cx2, rfl, (bon hb1W hb2).trans (ho3.below (by omega) (by omega)), _, _, _, _, _, _, hG4, (ow1.next hb2).out ho3 (by omega), (ow1'.next hb2).out ho3 (by omega), ow2.out ho3 (by omega), ⟨by omega, by omega, by omega, by omega⟩, by omega, by omega, by omega, by omega, by omega, by omega⟩
  case rest =>
  obtain ⟨g, X, cx, X', cx', X2, cx2, rfl, hbC, HO⟩ := hcut
  have hge := HO.ge
  have hsC := hbC.size
  clear HV HZ p0 p1 p2 p3
  have hP2 := hP1.next hbC
  have hR2 := hR.next hbC
  have HC2 := Lib.hid (HC.out.next hbC (by omega))
  have H02 := Lib.hid (H0.out.next hbC (by omega))
  have H12 := Lib.hid (H1.out.next hbC (by omega))
  have H22 := Lib.hid (H2.out.next hbC (by omega))
  have p2 : wc.cell? ⟨b, 2, none⟩ = some (.slice A2 st.length c2) := hP2.cell 2
  have p3 : wc.cell? ⟨b, 3, none⟩ = some (.int .i64 p) := hP2.cell 3
  clear hP1 hR HC H0 H1 H2
  have u0 : wc.cell? ⟨g, 0, none⟩ = some (.slice X 4 cx) := HO.blk.cell 0
  have u1 : wc.cell? ⟨g, 1, none⟩ = some (.slice X' 8 cx') := HO.blk.cell 1
  have u2 : wc.cell? ⟨g, 2, none⟩ = some (.slice X2 st.length cx2) := HO.blk.cell 2
  have u3 : wc.cell? ⟨g, 3, none⟩ = some (.int .i64 p) := HO.blk.cell 3
  have z0 : wc.cell? ⟨w.heap.size, 0, none⟩ = some (.slice none 0 0) := hR2.cell 0
  have z1 : wc.cell? ⟨w.heap.size, 1, none⟩ = some (.slice none 0 0) := hR2.cell 1
  have z2 : wc.cell? ⟨w.heap.size, 2, none⟩ = some (.slice none 0 0) := hR2.cell 2
  have z3 : wc.cell? ⟨w.heap.size, 3, none⟩ = some (.int .i64 0) := hR2.cell 3
  have y0 := hR2.frozen 0
  have y1 := hR2.frozen 1
  have y2 := hR2.frozen 2
  have y3 := hR2.frozen 3
  go_wp2_with fail
  have hR5 := (((hR2.set 0 (.slice X 4 cx)).set 1 (.slice X' 8 cx')).set 2 (.slice X2 st.length cx2)).set 3 (.int .i64 p)
  have ho5 : Out w.heap.size (w.heap.size + 1) wc ((((wc.setCell ⟨w.heap.size, 0, none⟩ (.slice X 4 cx)).setCell ⟨w.heap.size, 1, none⟩ (.slice X' 8 cx')).setCell ⟨w.heap.size, 2, none⟩ (.slice X2 st.length cx2)).setCell ⟨w.heap.size, 3, none⟩ (.int .i64 p)) := out_set (out_set (out_set (out_set (Out.refl _ _ _) (by omega)) (by omega)) (by omega)) (by omega)
  have HO5 := HO.out ho5 (by omega)
  have s0 : ((((wc.setCell ⟨w.heap.size, 0, none⟩ (.slice X 4 cx)).setCell ⟨w.heap.size, 1, none⟩ (.slice X' 8 cx')).setCell ⟨w.heap.size, 2, none⟩ (.slice X2 st.length cx2)).setCell ⟨w.heap.size, 3, none⟩ (.int .i64 p)).cell? ⟨w.heap.size, 0, none⟩ = some (.slice X 4 cx) := by rw [hR5.cell 0]; simp
  have s1 : ((((wc.setCell ⟨w.heap.size, 0, none⟩ (.slice X 4 cx)).setCell ⟨w.heap.size, 1, none⟩ (.slice X' 8 cx')).setCell ⟨w.heap.size, 2, none⟩ (.slice X2 st.length cx2)).setCell ⟨w.heap.size, 3, none⟩ (.int .i64 p)).cell? ⟨w.heap.size, 1, none⟩ = some (.slice X' 8 cx') := by rw [hR5.cell 1]; simp
  have s2 : ((((wc.setCell ⟨w.heap.size, 0, none⟩ (.slice X 4 cx)).setCell ⟨w.heap.size, 1, none⟩ (.slice X' 8 cx')).setCell ⟨w.heap.size, 2, none⟩ (.slice X2 st.length cx2)).setCell ⟨w.heap.size, 3, none⟩ (.int .i64 p)).cell? ⟨w.heap.size, 2, none⟩ = some (.slice X2 st.length cx2) := by rw [hR5.cell 2]; simp
  have s3 : ((((wc.setCell ⟨w.heap.size, 0, none⟩ (.slice X 4 cx)).setCell ⟨w.heap.size, 1, none⟩ (.slice X' 8 cx')).setCell ⟨w.heap.size, 2, none⟩ (.slice X2 st.length cx2)).setCell ⟨w.heap.size, 3, none⟩ (.int .i64 p)).cell? ⟨w.heap.size, 3, none⟩ = some (.int .i64 p) := by rw [hR5.cell 3]; simp
  have hb5 := (hb0.trans (hbC.mono (by omega))).trans (ho5.below (by omega) (by omega))
  generalize ((((wc.setCell ⟨w.heap.size, 0, none⟩ (.slice X 4 cx)).setCell ⟨w.heap.size, 1, none⟩ (.slice X' 8 cx')).setCell ⟨w.heap.size, 2, none⟩ (.slice X2 st.length cx2)).setCell ⟨w.heap.size, 3, none⟩ (.int .i64 p)) = W5 at s0 s1 s2 s3 HO5 hb5 ⊢
  refine bodyPost_ret (v := .tuple #[.agg #[.slice X 4 cx, .slice X' 8 cx', .slice X2 st.length cx2, .int .i64 p], .int .i64 5]) (by simp [results, Try.results62, go_sem, s0, s1, s2, s3]) rfl ?_
  obtain ⟨r1, r2, r3⟩ := HO5.rows
  exact ⟨X, cx, X', cx', X2, cx2, rfl, r1.less (by omega), r2.less (by omega), r3.less (by omega), hb5⟩
end Go.Proofs.Ytnfapodeifpeoaa

