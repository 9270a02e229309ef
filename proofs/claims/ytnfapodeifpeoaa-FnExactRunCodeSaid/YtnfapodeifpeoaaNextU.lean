/-
  A step of the model: an operation for which the stack does not fit. Conditions: valid code, a valid config.
-/
import Derived.Test.YtnfapodeifpeoaaNextQ
import Derived.Deep.DeepCutAuto
import Derived.OwnWalk
namespace Go.Proofs.Ytnfapodeifpeoaa
set_option linter.unusedVariables false
open Go.RowKit

set_option maxRecDepth 100000 in
set_option maxHeartbeats 8000000 in
theorem next_unfit (b : Nat) (A : Option Addr) (c : Nat) (vs : List Int) (A' : Option Addr) (c' : Nat) (zs : List Int) (A2 : Option Addr) (c2 : Nat) (st : List Int) (C : Option Addr) (k cc : Nat) (cs : List (Int × Int)) (B : Nat) (w : World) (p : Nat) (op a : Int) (hP : BlkIs w b 44 #[.slice A 4 c, .slice A' 8 c', .slice A2 st.length c2, .int .i64 p]) (h0 : InL w B A 4 vs) (h1 : InL w B A' 8 zs) (h2 : InL w B A2 st.length st) (hC : InC w B C k cs) (hB : B ≤ w.heap.size) (h6 : st.length ≤ 6) (hc2 : st.length ≤ c2) (hk8 : k ≤ 80) (hx : cs[p]? = some (op, a)) (hi : instrB op a = true) (hf : fitB op (st.length : Int) = false) (v : CfV vs zs st p) :
    Calls Try.prog 62 #[.slice C k cc, .pointer (some ⟨b, 0, none⟩)] w (NextR vs zs st p 5 w) := by
  have hlt := hP.lt
  have hb0 : Below w.heap.size w (w.alloc (.cells #[.slice none 0 0, .slice none 0 0, .slice none 0 0, .int .i64 0] 44)) := bnew _ _
  have hR : BlkIs (w.alloc (.cells #[.slice none 0 0, .slice none 0 0, .slice none 0 0, .int .i64 0] 44)) w.heap.size 44 #[.slice none 0 0, .slice none 0 0, .slice none 0 0, .int .i64 0] := blk_new _ _ _ _ rfl
  have hsz : (w.alloc (.cells #[.slice none 0 0, .slice none 0 0, .slice none 0 0, .int .i64 0] 44)).heap.size = w.heap.size + 1 := by simp
  have hP1 := hP.next hb0
  have H0 := Lib.hid (h0.next hb0 hB)
  have H1 := Lib.hid (h1.next hb0 hB)
  have H2 := Lib.hid (h2.next hb0 hB)
  have HC := Lib.hid (hC.next hb0 hB)
  clear hP h0 h1 h2 hC
  go_enter Try.func62, Try.ntmps62
  go_wp2_with fail
  generalize w.alloc (.cells #[.slice none 0 0, .slice none 0 0, .slice none 0 0, .int .i64 0] 44) = W at hb0 hR hsz hP1 H0 H1 H2 HC ⊢
  have p0 : W.cell? ⟨b, 0, none⟩ = some (.slice A 4 c) := hP1.cell 0
  have p1 : W.cell? ⟨b, 1, none⟩ = some (.slice A' 8 c') := hP1.cell 1
  have p2 : W.cell? ⟨b, 2, none⟩ = some (.slice A2 st.length c2) := hP1.cell 2
  have p3 : W.cell? ⟨b, 3, none⟩ = some (.int .i64 p) := hP1.cell 3
  have HV := Lib.hid (fun (x : World) (hx : Below W.heap.size W x) => l03Own_c b A 4 c vs A' 8 c' zs B x (cell_next p0 hx) (cell_next p1 hx) (H0.out.next hx (by omega)) (H1.out.next hx (by omega)) (by have := hx.size; omega) (by omega) (by omega))
  have HZ := Lib.hid (fun (x : World) (hx : Below W.heap.size W x) => l00Own_c A2 st.length c2 B st x (H2.out.next hx (by omega)) (by have := hx.size; omega) (by omega))
  go_cut [6] (fun s6 wx => ∃ g X cx X' cx' X2 cx2, s6 = .pointer (some ⟨g, 0, none⟩) ∧ Below W.heap.size W wx ∧ OutIs wx W.heap.size g X cx X' cx' X2 cx2 vs zs st p)
  case first =>
    have hbD : Below W.heap.size W W.drew := (Below.refl _ W).drew
    have hbA := bnew W (.cells #[.slice none 0 0, .slice none 0 0, .slice none 0 0, .int .i64 0] 44)
    have hbAD : Below W.heap.size W (W.alloc (.cells #[.slice none 0 0, .slice none 0 0, .slice none 0 0, .int .i64 0] 44)).drew := hbA.drew
    have hsA : (W.alloc (.cells #[.slice none 0 0, .slice none 0 0, .slice none 0 0, .int .i64 0] 44)).heap.size = W.heap.size + 1 := by simp
    have hWd : W.drew.heap.size = W.heap.size := rfl
    refine wp_region_held_drew (S := fun W' => W'.cell? ⟨b, 0, none⟩ = some (.slice A 4 c) ∧ W'.cell? ⟨b, 1, none⟩ = some (.slice A' 8 c') ∧ W'.cell? ⟨b, 2, none⟩ = some (.slice A2 st.length c2) ∧ W'.cell? ⟨b, 3, none⟩ = some (.int .i64 p)) (by kernel_rfl) ⟨p0, p1, p2, p3⟩ ?_
    intro hHeld
    refine wpAnyH_take (i := 0) (v := ?_) rfl (by kernel_rfl) (by kernel_rfl) (by kernel_rfl) (fun _ _ _ h => h) (Or.inl ⟨by kernel_rfl, ?_⟩) (by assumption) ?_
    rotate_left
    · intro w9 hS9; (try dsimp only at hS9); go_simp; (try with_reducible rfl)
    set_option linter.unusedSimpArgs false in try simp only [Act.put, List.getElem_toArray, List.getElem_cons_succ, List.getElem_cons_zero, List.setIfInBounds_toArray, List.set_cons_zero, List.set_cons_succ]
    refine wpAnyH_take (i := 1) (v := ?_) rfl (by kernel_rfl) (by kernel_rfl) (by kernel_rfl) (fun _ _ _ h => h) (Or.inl ⟨by kernel_rfl, ?_⟩) (by assumption) ?_
    rotate_left
    · intro w9 hS9; (try dsimp only at hS9); go_simp; (try with_reducible rfl)
    set_option linter.unusedSimpArgs false in try simp only [Act.put, List.getElem_toArray, List.getElem_cons_succ, List.getElem_cons_zero, List.setIfInBounds_toArray, List.set_cons_zero, List.set_cons_succ]
    refine wpAnyH_take (i := 2) (v := ?_) rfl (by kernel_rfl) (by kernel_rfl) (by kernel_rfl) (fun _ _ _ h => h) (Or.inl ⟨by kernel_rfl, ?_⟩) (by assumption) ?_
    rotate_left
    · intro w9 hS9; (try dsimp only at hS9); go_simp; (try with_reducible rfl)
    set_option linter.unusedSimpArgs false in try simp only [Act.put, List.getElem_toArray, List.getElem_cons_succ, List.getElem_cons_zero, List.setIfInBounds_toArray, List.set_cons_zero, List.set_cons_succ]
    refine wpAnyH_take (i := 4) (v := ?_) rfl (by kernel_rfl) (by kernel_rfl) (by kernel_rfl) (fun _ _ _ h => h) (Or.inl ⟨by kernel_rfl, ?_⟩) (by assumption) ?_
    rotate_left
    · intro w9 hS9; (try dsimp only at hS9); go_simp; (try with_reducible rfl)
    set_option linter.unusedSimpArgs false in try simp only [Act.put, List.getElem_toArray, List.getElem_cons_succ, List.getElem_cons_zero, List.setIfInBounds_toArray, List.set_cons_zero, List.set_cons_succ]
    refine wpAnyH_take (i := 5) (v := ?_) rfl (by kernel_rfl) (by kernel_rfl) (by kernel_rfl) (fun _ _ _ h => h) (Or.inl ⟨by kernel_rfl, ?_⟩) (by assumption) ?_
    rotate_left
    · intro w9 hS9; (try dsimp only at hS9); go_simp; (try with_reducible rfl)
    set_option linter.unusedSimpArgs false in try simp only [Act.put, List.getElem_toArray, List.getElem_cons_succ, List.getElem_cons_zero, List.setIfInBounds_toArray, List.set_cons_zero, List.set_cons_succ]
    refine wpAnyH_take (i := 6) (v := ?_) rfl (by kernel_rfl) (by kernel_rfl) (by kernel_rfl) (fun _ _ _ h => h) (Or.inl ⟨by kernel_rfl, ?_⟩) (by assumption) ?_
    rotate_left
    · intro w9 hS9; (try dsimp only at hS9); go_simp; (try with_reducible rfl)
    set_option linter.unusedSimpArgs false in try simp only [Act.put, List.getElem_toArray, List.getElem_cons_succ, List.getElem_cons_zero, List.setIfInBounds_toArray, List.set_cons_zero, List.set_cons_succ]
    refine wpAnyH_take (i := 7) (v := ?_) rfl (by kernel_rfl) (by kernel_rfl) (by kernel_rfl) (fun _ _ _ h => h) (Or.inl ⟨by kernel_rfl, ?_⟩) (by assumption) ?_
    rotate_left
    · intro w9 hS9; (try dsimp only at hS9); go_simp; (try with_reducible rfl)
    set_option linter.unusedSimpArgs false in try simp only [Act.put, List.getElem_toArray, List.getElem_cons_succ, List.getElem_cons_zero, List.setIfInBounds_toArray, List.set_cons_zero, List.set_cons_succ]
    refine wpAnyH_take (i := 9) (v := ?_) rfl (by kernel_rfl) (by kernel_rfl) (by kernel_rfl) (fun _ _ _ h => h) (Or.inl ⟨by kernel_rfl, ?_⟩) (by assumption) ?_
    rotate_left
    · intro w9 hS9; (try dsimp only at hS9); go_simp; (try with_reducible rfl)
    set_option linter.unusedSimpArgs false in try simp only [Act.put, List.getElem_toArray, List.getElem_cons_succ, List.getElem_cons_zero, List.setIfInBounds_toArray, List.set_cons_zero, List.set_cons_succ]
    refine wpAnyH_take (i := 10) (v := ?_) rfl (by kernel_rfl) (by kernel_rfl) (by kernel_rfl) (fun _ _ _ h => h) (Or.inl ⟨by kernel_rfl, ?_⟩) (by assumption) ?_
    rotate_left
    · intro w9 hS9; (try dsimp only at hS9); go_simp; (try with_reducible rfl)
    set_option linter.unusedSimpArgs false in try simp only [Act.put, List.getElem_toArray, List.getElem_cons_succ, List.getElem_cons_zero, List.setIfInBounds_toArray, List.set_cons_zero, List.set_cons_succ]
    refine wpAnyH_take (i := 11) (v := ?_) rfl (by kernel_rfl) (by kernel_rfl) (by kernel_rfl) (fun _ _ _ h => h) (Or.inl ⟨by kernel_rfl, ?_⟩) (by assumption) ?_
    rotate_left
    · intro w9 hS9; (try dsimp only at hS9); go_simp; (try with_reducible rfl)
    set_option linter.unusedSimpArgs false in try simp only [Act.put, List.getElem_toArray, List.getElem_cons_succ, List.getElem_cons_zero, List.setIfInBounds_toArray, List.set_cons_zero, List.set_cons_succ]
    refine wpAnyH_take (i := 12) (v := ?_) rfl (by kernel_rfl) (by kernel_rfl) (by kernel_rfl) (fun _ _ _ h => h) (Or.inl ⟨by kernel_rfl, ?_⟩) (by assumption) ?_
    rotate_left
    · intro w9 hS9; (try dsimp only at hS9); go_simp; (try with_reducible rfl)
    set_option linter.unusedSimpArgs false in try simp only [Act.put, List.getElem_toArray, List.getElem_cons_succ, List.getElem_cons_zero, List.setIfInBounds_toArray, List.set_cons_zero, List.set_cons_succ]
    refine wpAnyH_ready (rs := [3, 14]) (by kernel_rfl) (by simp) ?_
    refine AllReadyH.cons rfl (fun K hK => ?_) (AllReadyH.cons rfl (fun K hK => ?_) AllReadyH.nil)
    · go_simp
      go_wp2_with (go_at_call 87; refine (HV.out _ (hbD)).mono ?_; rintro e w1 ⟨X, cx, X', cx', m1, rfl, ow1, ow1', md, hb1⟩)
      have hb1W := bstep hb1
      have hs1 := hb1W.size
      have q0 := cell_next p0 hb1W
      have q1 := cell_next p1 hb1W
      have q2 := cell_next p2 hb1W
      have q3 := cell_next p3 hb1W
      have hbA1 := bnew w1 (.cells #[.slice none 0 0, .slice none 0 0, .slice none 0 0, .int .i64 0] 44)
      have hsA1 : (w1.alloc (.cells #[.slice none 0 0, .slice none 0 0, .slice none 0 0, .int .i64 0] 44)).heap.size = w1.heap.size + 1 := by simp
      refine hK.out _ _ ⟨q0, q1, q2, q3⟩ (fun hHeldA => ?_)
      clear hK K hHeld
      set_option linter.unusedSimpArgs false in try simp only [Act.put, List.getElem_toArray, List.getElem_cons_succ, List.getElem_cons_zero, List.setIfInBounds_toArray, List.set_cons_zero, List.set_cons_succ]
      refine wpAnyH_ready (rs := [8, 14]) (by kernel_rfl) (by simp) ?_
      refine AllReadyH.cons rfl (fun K hK => ?_) (AllReadyH.cons rfl (fun K hK => ?_) AllReadyH.nil)
      · go_simp
        go_wp2_with (go_at_call 88; refine (HZ.out _ (hb1W)).mono ?_; rintro e w2 ⟨X2, cx2, rfl, ow2, hb2⟩)
        have r0 := cell_next q0 hb2
        have r1 := cell_next q1 hb2
        have r2 := cell_next q2 hb2
        have r3 := cell_next q3 hb2
        have hs2 := hb2.size
        refine hK.out _ _ ⟨r0, r1, r2, r3⟩ (fun hHeldB => ?_)
        clear hK K hHeldA
        set_option linter.unusedSimpArgs false in try simp only [Act.put, List.getElem_toArray, List.getElem_cons_succ, List.getElem_cons_zero, List.setIfInBounds_toArray, List.set_cons_zero, List.set_cons_succ]
        refine wpAnyH_take (i := 13) (v := ?_) rfl (by kernel_rfl) (by kernel_rfl) (by kernel_rfl) (fun _ _ _ h => h) (Or.inl ⟨by kernel_rfl, ?_⟩) (by assumption) ?_
        rotate_left
        · intro w9 hS9; (try dsimp only at hS9); go_simp; (try with_reducible rfl)
        set_option linter.unusedSimpArgs false in try simp only [Act.put, List.getElem_toArray, List.getElem_cons_succ, List.getElem_cons_zero, List.setIfInBounds_toArray, List.set_cons_zero, List.set_cons_succ]
        refine wpAnyH_ready (rs := [14]) (by kernel_rfl) (by simp) ?_
        refine AllReadyH.cons rfl (fun K hK => ?_) AllReadyH.nil
        have hb3 := bnew w2 (.cells #[.slice none 0 0, .slice none 0 0, .slice none 0 0, .int .i64 0] 44)
        have ho3 := bnew w2 (.cells #[.slice X 4 cx, .slice X' 8 cx', .slice X2 st.length cx2, .int .i64 p] 44)
        go_simp
        refine hK.out _ _ ⟨cell_next r0 hb3, cell_next r1 hb3, cell_next r2 hb3, cell_next r3 hb3⟩ (fun hHeldC => ?_)
        clear hK K hHeldB
        set_option linter.unusedSimpArgs false in try simp only [Act.put, List.getElem_toArray, List.getElem_cons_succ, List.getElem_cons_zero, List.setIfInBounds_toArray, List.set_cons_zero, List.set_cons_succ]
        refine wpAnyH_ready (rs := [15]) (by kernel_rfl) (by simp) ?_
        refine AllReadyH.cons rfl (fun K hK => ?_) AllReadyH.nil
        go_simp
        refine hK.out _ _ ⟨cell_next r0 ho3, cell_next r1 ho3, cell_next r2 ho3, cell_next r3 ho3⟩ (fun hHeldD => ?_)
        clear hK K hHeldC
        refine wpAnyH_done (by kernel_rfl) ?_ _
        go_wp2_with fail
        go_meet
        exact ⟨w2.heap.size, X, cx, X', cx', X2, cx2, rfl, bon (bon hb1W hb2) ho3, _, _, _, _, _, _, blk_new w2 _ _ _ rfl, (ow1.next hb2).next ho3, (ow1'.next hb2).next ho3, ow2.next ho3, ⟨by omega, by omega, by omega, by omega⟩, by omega, by omega, by omega, by omega, by omega, by omega⟩
      · go_simp
        replace q0 := cell_next q0 hbA1
        replace q1 := cell_next q1 hbA1
        replace q2 := cell_next q2 hbA1
        replace q3 := cell_next q3 hbA1
        refine hK.out _ _ ⟨q0, q1, q2, q3⟩ (fun hHeldB => ?_)
        clear hK K hHeldA
        set_option linter.unusedSimpArgs false in try simp only [Act.put, List.getElem_toArray, List.getElem_cons_succ, List.getElem_cons_zero, List.setIfInBounds_toArray, List.set_cons_zero, List.set_cons_succ]
        refine wpAnyH_ready (rs := [8]) (by kernel_rfl) (by simp) ?_
        refine AllReadyH.cons rfl (fun K hK => ?_) AllReadyH.nil
        go_simp
        go_wp2_with (go_at_call 88; refine (HZ.out _ (bon hb1W hbA1)).mono ?_; rintro e w2 ⟨X2, cx2, rfl, ow2, hb2⟩)
        replace ow1 := ow1.next hbA1
        replace ow1' := ow1'.next hbA1
        have hG : BlkIs w2 w1.heap.size 44 #[.slice none 0 0, .slice none 0 0, .slice none 0 0, .int .i64 0] := (blk_new w1 44 #[.slice none 0 0, .slice none 0 0, .slice none 0 0, .int .i64 0] _ rfl).next hb2
        have r0 := cell_next q0 hb2
        have r1 := cell_next q1 hb2
        have r2 := cell_next q2 hb2
        have r3 := cell_next q3 hb2
        have hs2 := hb2.size
        refine hK.out _ _ ⟨r0, r1, r2, r3⟩ (fun hHeldC => ?_)
        clear hK K hHeldB
        set_option linter.unusedSimpArgs false in try simp only [Act.put, List.getElem_toArray, List.getElem_cons_succ, List.getElem_cons_zero, List.setIfInBounds_toArray, List.set_cons_zero, List.set_cons_succ]
        refine wpAnyH_take (i := 13) (v := ?_) rfl (by kernel_rfl) (by kernel_rfl) (by kernel_rfl) (fun _ _ _ h => h) (Or.inl ⟨by kernel_rfl, ?_⟩) (by assumption) ?_
        rotate_left
        · intro w9 hS9; (try dsimp only at hS9); go_simp; (try with_reducible rfl)
        set_option linter.unusedSimpArgs false in try simp only [Act.put, List.getElem_toArray, List.getElem_cons_succ, List.getElem_cons_zero, List.setIfInBounds_toArray, List.set_cons_zero, List.set_cons_succ]
        have z0 := hG.cell 0
        have z1 := hG.cell 1
        have z2 := hG.cell 2
        have z3 := hG.cell 3
        have f0 := hG.frozen 0
        have f1 := hG.frozen 1
        have f2 := hG.frozen 2
        have f3 := hG.frozen 3
        simp at z0 z1 z2 z3
        have hG4 := (((hG.set 0 (.slice X 4 cx)).set 1 (.slice X' 8 cx')).set 2 (.slice X2 st.length cx2)).set 3 (.int .i64 p)
        have ho3 : Out w1.heap.size (w1.heap.size + 1) w2 ((((w2.setCell ⟨w1.heap.size, 0, none⟩ (.slice X 4 cx)).setCell ⟨w1.heap.size, 1, none⟩ (.slice X' 8 cx')).setCell ⟨w1.heap.size, 2, none⟩ (.slice X2 st.length cx2)).setCell ⟨w1.heap.size, 3, none⟩ (.int .i64 p)) := out_set (out_set (out_set (out_set (Out.refl _ _ _) (by omega)) (by omega)) (by omega)) (by omega)
        refine wpAnyH_ready (rs := [15]) (by kernel_rfl) (by simp) ?_
        refine AllReadyH.cons rfl (fun K hK => ?_) AllReadyH.nil
        go_simp
        refine hK.out _ _ ⟨ho3.cell r0 (by omega), ho3.cell r1 (by omega), ho3.cell r2 (by omega), ho3.cell r3 (by omega)⟩ (fun hHeldD => ?_)
        clear hK K hHeldC
        refine wpAnyH_done (by kernel_rfl) ?_ _
        go_wp2_with fail
        go_meet
        exact ⟨w1.heap.size, X, cx, X', cx', X2, cx2, rfl, (bon (bon hb1W hbA1) hb2).trans (ho3.below (by omega) (by omega)), _, _, _, _, _, _, hG4, (ow1.next hb2).out ho3 (by omega), (ow1'.next hb2).out ho3 (by omega), ow2.out ho3 (by omega), ⟨by omega, by omega, by omega, by omega⟩, by omega, by omega, by omega, by omega, by omega, by omega⟩
    · go_simp
      have q0 := cell_next p0 hbAD
      have q1 := cell_next p1 hbAD
      have q2 := cell_next p2 hbAD
      have q3 := cell_next p3 hbAD
      refine hK.out _ _ ⟨q0, q1, q2, q3⟩ (fun hHeldB => ?_)
      clear hK K hHeld
      set_option linter.unusedSimpArgs false in try simp only [Act.put, List.getElem_toArray, List.getElem_cons_succ, List.getElem_cons_zero, List.setIfInBounds_toArray, List.set_cons_zero, List.set_cons_succ]
      refine wpAnyH_ready (rs := [3]) (by kernel_rfl) (by simp) ?_
      refine AllReadyH.cons rfl (fun K hK => ?_) AllReadyH.nil
      go_simp
      go_wp2_with (go_at_call 87; refine (HV.out _ (hbAD)).mono ?_; rintro e w1 ⟨X, cx, X', cx', m1, rfl, ow1, ow1', md, hb1⟩)
      have hb1A := bstep hb1
      have hb1W := bon hbA hb1A
      have hs1 := hb1A.size
      have hAd : (W.alloc (.cells #[.slice none 0 0, .slice none 0 0, .slice none 0 0, .int .i64 0] 44)).drew.heap.size = W.heap.size + 1 := hsA
      replace q0 := cell_next p0 hb1W
      replace q1 := cell_next p1 hb1W
      replace q2 := cell_next p2 hb1W
      replace q3 := cell_next p3 hb1W
      refine hK.out _ _ ⟨q0, q1, q2, q3⟩ (fun hHeldA => ?_)
      clear hK K hHeldB
      set_option linter.unusedSimpArgs false in try simp only [Act.put, List.getElem_toArray, List.getElem_cons_succ, List.getElem_cons_zero, List.setIfInBounds_toArray, List.set_cons_zero, List.set_cons_succ]
      refine wpAnyH_ready (rs := [8]) (by kernel_rfl) (by simp) ?_
      refine AllReadyH.cons rfl (fun K hK => ?_) AllReadyH.nil
      go_simp
      go_wp2_with (go_at_call 88; refine (HZ.out _ (hb1W)).mono ?_; rintro e w2 ⟨X2, cx2, rfl, ow2, hb2⟩)
      have hG : BlkIs w2 (w.heap.size + 1) 44 #[.slice none 0 0, .slice none 0 0, .slice none 0 0, .int .i64 0] := by rw [← hsz]; exact ((blk_new W 44 #[.slice none 0 0, .slice none 0 0, .slice none 0 0, .int .i64 0] _ rfl).next hb1A).next hb2
      have r0 := cell_next q0 hb2
      have r1 := cell_next q1 hb2
      have r2 := cell_next q2 hb2
      have r3 := cell_next q3 hb2
      have hs2 := hb2.size
      refine hK.out _ _ ⟨r0, r1, r2, r3⟩ (fun hHeldC => ?_)
      clear hK K hHeldA
      set_option linter.unusedSimpArgs false in try simp only [Act.put, List.getElem_toArray, List.getElem_cons_succ, List.getElem_cons_zero, List.setIfInBounds_toArray, List.set_cons_zero, List.set_cons_succ]
      refine wpAnyH_take (i := 13) (v := ?_) rfl (by kernel_rfl) (by kernel_rfl) (by kernel_rfl) (fun _ _ _ h => h) (Or.inl ⟨by kernel_rfl, ?_⟩) (by assumption) ?_
      rotate_left
      · intro w9 hS9; (try dsimp only at hS9); go_simp; (try with_reducible rfl)
      set_option linter.unusedSimpArgs false in try simp only [Act.put, List.getElem_toArray, List.getElem_cons_succ, List.getElem_cons_zero, List.setIfInBounds_toArray, List.set_cons_zero, List.set_cons_succ]
      have z0 := hG.cell 0
      have z1 := hG.cell 1
      have z2 := hG.cell 2
      have z3 := hG.cell 3
      have f0 := hG.frozen 0
      have f1 := hG.frozen 1
      have f2 := hG.frozen 2
      have f3 := hG.frozen 3
      simp at z0 z1 z2 z3
      have hG4 := (((hG.set 0 (.slice X 4 cx)).set 1 (.slice X' 8 cx')).set 2 (.slice X2 st.length cx2)).set 3 (.int .i64 p)
      have ho3 : Out (w.heap.size + 1) ((w.heap.size + 1) + 1) w2 ((((w2.setCell ⟨(w.heap.size + 1), 0, none⟩ (.slice X 4 cx)).setCell ⟨(w.heap.size + 1), 1, none⟩ (.slice X' 8 cx')).setCell ⟨(w.heap.size + 1), 2, none⟩ (.slice X2 st.length cx2)).setCell ⟨(w.heap.size + 1), 3, none⟩ (.int .i64 p)) := out_set (out_set (out_set (out_set (Out.refl _ _ _) (by omega)) (by omega)) (by omega)) (by omega)
      refine wpAnyH_ready (rs := [15]) (by kernel_rfl) (by simp) ?_
      refine AllReadyH.cons rfl (fun K hK => ?_) AllReadyH.nil
      go_simp
      refine hK.out _ _ ⟨ho3.cell r0 (by omega), ho3.cell r1 (by omega), ho3.cell r2 (by omega), ho3.cell r3 (by omega)⟩ (fun hHeldD => ?_)
      clear hK K hHeldC
      refine wpAnyH_done (by kernel_rfl) ?_ _
      go_wp2_with fail
      go_meet
      exact ⟨(w.heap.size + 1), X, cx, X', cx', X2, cx2, rfl, (bon hb1W hb2).trans (ho3.below (by omega) (by omega)), _, _, _, _, _, _, hG4, (ow1.next hb2).out ho3 (by omega), (ow1'.next hb2).out ho3 (by omega), ow2.out ho3 (by omega), ⟨by omega, by omega, by omega, by omega⟩, by omega, by omega, by omega, by omega, by omega, by omega⟩
  case rest =>
  obtain ⟨g, X, cx, X', cx', X2, cx2, rfl, hbC, HO⟩ := hcut
  have hge := HO.ge
  have hsC := hbC.size
  clear HV HZ p0 p1 p2 p3
  have hP2 := hP1.next hbC
  have hR2 := hR.next hbC
  have HC2 := Lib.hid (HC.out.next hbC (by omega))
  have H02 := Lib.hid (H0.out.next hbC (by omega))
  have H12 := Lib.hid (H1.out.next hbC (by omega))
  have H22 := Lib.hid (H2.out.next hbC (by omega))
  have p2 : wc.cell? ⟨b, 2, none⟩ = some (.slice A2 st.length c2) := hP2.cell 2
  have p3 : wc.cell? ⟨b, 3, none⟩ = some (.int .i64 p) := hP2.cell 3
  clear hP1 hR HC H0 H1 H2
  have hlt2 : p < k := by have := (List.getElem?_eq_some_iff.1 hx).1; have := HC2.out.1; omega
  have e1 : ((k : Int) ≤ (p : Int)) = False := by simp; omega
  have e2 : (0 : Int) ≤ (p : Int) := by omega
  have e3 : (p : Int) < (k : Int) := by omega
  obtain ⟨bb, off, t, rfl, hbl, ht, q0, q1⟩ := HC2.out.at_ hlt2
  obtain rfl : t = (op, a) := by rw [hx] at ht; injection ht with ht; exact ht.symm
  have hop : 0 ≤ op ∧ op ≤ 11 := ⟨(instrB_parts hi).1, (instrB_parts hi).2.1⟩
  have HPO := Lib.hid (l07Pops_c op hop)
  have HPU := Lib.hid (l07Pushes_c op hop)
  have hX : BlkIs (wc.alloc (.cells #[.int .i64 op, .int .i64 a] 25)) wc.heap.size 25 #[.int .i64 op, .int .i64 a] := blk_new _ _ _ _ rfl
  have hbX := bnew wc (.cells #[.int .i64 op, .int .i64 a] 25)
  have hsX := hX.lt
  have HO6 := HO.next hbX
  have HR6 := Lib.hid (hR2.next hbX)
  have x0 : (wc.alloc (.cells #[.int .i64 op, .int .i64 a] 25)).cell? ⟨wc.heap.size, 0, none⟩ = some (.int .i64 op) := hX.cell 0
  have x1 : (wc.alloc (.cells #[.int .i64 op, .int .i64 a] 25)).cell? ⟨wc.heap.size, 1, none⟩ = some (.int .i64 a) := hX.cell 1
  have v2 := cell_next p2 hbX
  have v3 := cell_next p3 hbX
  have HP6 := Lib.hid (hP2.next hbX)
  have HV0 := Lib.hid (H02.out.next hbX (by omega))
  have HV1 := Lib.hid (H12.out.next hbX (by omega))
  have HV2 := Lib.hid (H22.out.next hbX (by omega))
  have HB6 := Lib.hid (hb0.trans ((bon hbC hbX).mono (by omega)))
  have hfp := Lib.hid (fitB_no hf)
  have HIB := Lib.hid hi
  clear hP2 hR2 H02 H12 H22 HC2 HO hx ht hi
  have hp2 := popB_02 op
  have hq2 := pushB_01 op
  obtain ⟨pq, hpq⟩ : ∃ pq, Hid (popB op = pq) := ⟨_, rfl⟩
  obtain ⟨pu, hpu⟩ : ∃ pu, Hid (pushB op = pu) := ⟨_, rfl⟩
  rw [hpq.out] at HPO hp2
  rw [hpu.out] at HPU hq2
  obtain ⟨r, hr⟩ : ∃ r : Int, Hid (r = (st.length : Int) - pq) := ⟨_, rfl⟩
  have fw : IntKind.i64.wrap ((st.length : Int) - pq) = r := by rw [hr.out]; exact IntWalk.i64_in _ (by omega)
  have hor : r < 0 ∨ (0 ≤ r ∧ 6 < r + pu) := by
    have h1 := hfp.out
    have h2 := hr.out
    rw [hpq.out, hpu.out] at h1
    omega
  have HHR := Lib.hid hr.out
  have hr7 : r ≤ 6 := by have := hr.out; omega
  clear hf hr hfp
  go_wp2_with fail
  generalize wc.alloc (.cells #[.int .i64 op, .int .i64 a] 25) = W6 at hX hbX hsX HO6 HR6 x0 x1 v2 v3 HP6 HV0 HV1 HV2 HB6 ⊢
  refine (HPO.out W6).mono ?_
  rintro e w7 ⟨rfl, rfl⟩
  have HS7 := HV2
  have HO7 := HO6
  have HR7 := HR6
  have HB7 := HB6
  clear HO6 HR6 HB6
  rcases hor with hor | hor
  · have rt : (r < 0) = True := by simp [hor]
    clear hor HPU
    have u0 : W6.cell? ⟨g, 0, none⟩ = some (.slice X 4 cx) := HO7.blk.cell 0
    have u1 : W6.cell? ⟨g, 1, none⟩ = some (.slice X' 8 cx') := HO7.blk.cell 1
    have u2 : W6.cell? ⟨g, 2, none⟩ = some (.slice X2 st.length cx2) := HO7.blk.cell 2
    have u3 : W6.cell? ⟨g, 3, none⟩ = some (.int .i64 (p : Int)) := HO7.blk.cell 3
    have z0 : W6.cell? ⟨w.heap.size, 0, none⟩ = some (.slice none 0 0) := HR7.out.cell 0
    have z1 : W6.cell? ⟨w.heap.size, 1, none⟩ = some (.slice none 0 0) := HR7.out.cell 1
    have z2 : W6.cell? ⟨w.heap.size, 2, none⟩ = some (.slice none 0 0) := HR7.out.cell 2
    have z3 : W6.cell? ⟨w.heap.size, 3, none⟩ = some (.int .i64 0) := HR7.out.cell 3
    have y0 := HR7.out.frozen 0
    have y1 := HR7.out.frozen 1
    have y2 := HR7.out.frozen 2
    have y3 := HR7.out.frozen 3
    go_wp2_with fail
    have hR5 := (((HR7.out.set 0 (.slice X 4 cx)).set 1 (.slice X' 8 cx')).set 2 (.slice X2 st.length cx2)).set 3 (.int .i64 (p : Int))
    have ho5 : Out w.heap.size (w.heap.size + 1) W6 ((((W6.setCell ⟨w.heap.size, 0, none⟩ (.slice X 4 cx)).setCell ⟨w.heap.size, 1, none⟩ (.slice X' 8 cx')).setCell ⟨w.heap.size, 2, none⟩ (.slice X2 st.length cx2)).setCell ⟨w.heap.size, 3, none⟩ (.int .i64 (p : Int))) := out_set (out_set (out_set (out_set (Out.refl _ _ _) (by omega)) (by omega)) (by omega)) (by omega)
    have HO5 := HO7.out ho5 (by omega)
    have s0 : ((((W6.setCell ⟨w.heap.size, 0, none⟩ (.slice X 4 cx)).setCell ⟨w.heap.size, 1, none⟩ (.slice X' 8 cx')).setCell ⟨w.heap.size, 2, none⟩ (.slice X2 st.length cx2)).setCell ⟨w.heap.size, 3, none⟩ (.int .i64 (p : Int))).cell? ⟨w.heap.size, 0, none⟩ = some (.slice X 4 cx) := by rw [hR5.cell 0]; simp
    have s1 : ((((W6.setCell ⟨w.heap.size, 0, none⟩ (.slice X 4 cx)).setCell ⟨w.heap.size, 1, none⟩ (.slice X' 8 cx')).setCell ⟨w.heap.size, 2, none⟩ (.slice X2 st.length cx2)).setCell ⟨w.heap.size, 3, none⟩ (.int .i64 (p : Int))).cell? ⟨w.heap.size, 1, none⟩ = some (.slice X' 8 cx') := by rw [hR5.cell 1]; simp
    have s2 : ((((W6.setCell ⟨w.heap.size, 0, none⟩ (.slice X 4 cx)).setCell ⟨w.heap.size, 1, none⟩ (.slice X' 8 cx')).setCell ⟨w.heap.size, 2, none⟩ (.slice X2 st.length cx2)).setCell ⟨w.heap.size, 3, none⟩ (.int .i64 (p : Int))).cell? ⟨w.heap.size, 2, none⟩ = some (.slice X2 st.length cx2) := by rw [hR5.cell 2]; simp
    have s3 : ((((W6.setCell ⟨w.heap.size, 0, none⟩ (.slice X 4 cx)).setCell ⟨w.heap.size, 1, none⟩ (.slice X' 8 cx')).setCell ⟨w.heap.size, 2, none⟩ (.slice X2 st.length cx2)).setCell ⟨w.heap.size, 3, none⟩ (.int .i64 (p : Int))).cell? ⟨w.heap.size, 3, none⟩ = some (.int .i64 (p : Int)) := by rw [hR5.cell 3]; simp
    have hb5 := (HB7.out).trans (ho5.below (Nat.le_refl _) (HB7.out).size)
    generalize ((((W6.setCell ⟨w.heap.size, 0, none⟩ (.slice X 4 cx)).setCell ⟨w.heap.size, 1, none⟩ (.slice X' 8 cx')).setCell ⟨w.heap.size, 2, none⟩ (.slice X2 st.length cx2)).setCell ⟨w.heap.size, 3, none⟩ (.int .i64 (p : Int))) = W5 at s0 s1 s2 s3 HO5 hb5 ⊢
    refine bodyPost_ret (v := .tuple #[.agg #[.slice X 4 cx, .slice X' 8 cx', .slice X2 st.length cx2, .int .i64 (p : Int)], .int .i64 5]) (by simp [results, Try.results62, go_sem, s0, s1, s2, s3]) rfl ?_
    obtain ⟨r1, r2, r3⟩ := HO5.rows
    exact ⟨X, cx, X', cx', X2, cx2, rfl, r1.less (by omega), r2.less (by omega), r3.less (by omega), hb5⟩
  · have rt : (r < 0) = False := by simp; omega
    have wr : IntKind.i64.wrap (r + pu) = r + pu := IntWalk.i64_in _ (by omega)
    have r6 : (6 < r + pu) = True := by simp; omega
    clear hor
    have u0 : W6.cell? ⟨g, 0, none⟩ = some (.slice X 4 cx) := HO7.blk.cell 0
    have u1 : W6.cell? ⟨g, 1, none⟩ = some (.slice X' 8 cx') := HO7.blk.cell 1
    have u2 : W6.cell? ⟨g, 2, none⟩ = some (.slice X2 st.length cx2) := HO7.blk.cell 2
    have u3 : W6.cell? ⟨g, 3, none⟩ = some (.int .i64 (p : Int)) := HO7.blk.cell 3
    have z0 : W6.cell? ⟨w.heap.size, 0, none⟩ = some (.slice none 0 0) := HR7.out.cell 0
    have z1 : W6.cell? ⟨w.heap.size, 1, none⟩ = some (.slice none 0 0) := HR7.out.cell 1
    have z2 : W6.cell? ⟨w.heap.size, 2, none⟩ = some (.slice none 0 0) := HR7.out.cell 2
    have z3 : W6.cell? ⟨w.heap.size, 3, none⟩ = some (.int .i64 0) := HR7.out.cell 3
    have y0 := HR7.out.frozen 0
    have y1 := HR7.out.frozen 1
    have y2 := HR7.out.frozen 2
    have y3 := HR7.out.frozen 3
    go_wp2_with fail
    refine (HPU.out W6).mono ?_
    rintro e w7 ⟨rfl, rfl⟩
    clear HPU
    go_wp2_with fail
    have hR5 := (((HR7.out.set 0 (.slice X 4 cx)).set 1 (.slice X' 8 cx')).set 2 (.slice X2 st.length cx2)).set 3 (.int .i64 (p : Int))
    have ho5 : Out w.heap.size (w.heap.size + 1) W6 ((((W6.setCell ⟨w.heap.size, 0, none⟩ (.slice X 4 cx)).setCell ⟨w.heap.size, 1, none⟩ (.slice X' 8 cx')).setCell ⟨w.heap.size, 2, none⟩ (.slice X2 st.length cx2)).setCell ⟨w.heap.size, 3, none⟩ (.int .i64 (p : Int))) := out_set (out_set (out_set (out_set (Out.refl _ _ _) (by omega)) (by omega)) (by omega)) (by omega)
    have HO5 := HO7.out ho5 (by omega)
    have s0 : ((((W6.setCell ⟨w.heap.size, 0, none⟩ (.slice X 4 cx)).setCell ⟨w.heap.size, 1, none⟩ (.slice X' 8 cx')).setCell ⟨w.heap.size, 2, none⟩ (.slice X2 st.length cx2)).setCell ⟨w.heap.size, 3, none⟩ (.int .i64 (p : Int))).cell? ⟨w.heap.size, 0, none⟩ = some (.slice X 4 cx) := by rw [hR5.cell 0]; simp
    have s1 : ((((W6.setCell ⟨w.heap.size, 0, none⟩ (.slice X 4 cx)).setCell ⟨w.heap.size, 1, none⟩ (.slice X' 8 cx')).setCell ⟨w.heap.size, 2, none⟩ (.slice X2 st.length cx2)).setCell ⟨w.heap.size, 3, none⟩ (.int .i64 (p : Int))).cell? ⟨w.heap.size, 1, none⟩ = some (.slice X' 8 cx') := by rw [hR5.cell 1]; simp
    have s2 : ((((W6.setCell ⟨w.heap.size, 0, none⟩ (.slice X 4 cx)).setCell ⟨w.heap.size, 1, none⟩ (.slice X' 8 cx')).setCell ⟨w.heap.size, 2, none⟩ (.slice X2 st.length cx2)).setCell ⟨w.heap.size, 3, none⟩ (.int .i64 (p : Int))).cell? ⟨w.heap.size, 2, none⟩ = some (.slice X2 st.length cx2) := by rw [hR5.cell 2]; simp
    have s3 : ((((W6.setCell ⟨w.heap.size, 0, none⟩ (.slice X 4 cx)).setCell ⟨w.heap.size, 1, none⟩ (.slice X' 8 cx')).setCell ⟨w.heap.size, 2, none⟩ (.slice X2 st.length cx2)).setCell ⟨w.heap.size, 3, none⟩ (.int .i64 (p : Int))).cell? ⟨w.heap.size, 3, none⟩ = some (.int .i64 (p : Int)) := by rw [hR5.cell 3]; simp
    have hb5 := (HB7.out).trans (ho5.below (Nat.le_refl _) (HB7.out).size)
    generalize ((((W6.setCell ⟨w.heap.size, 0, none⟩ (.slice X 4 cx)).setCell ⟨w.heap.size, 1, none⟩ (.slice X' 8 cx')).setCell ⟨w.heap.size, 2, none⟩ (.slice X2 st.length cx2)).setCell ⟨w.heap.size, 3, none⟩ (.int .i64 (p : Int))) = W5 at s0 s1 s2 s3 HO5 hb5 ⊢
    refine bodyPost_ret (v := .tuple #[.agg #[.slice X 4 cx, .slice X' 8 cx', .slice X2 st.length cx2, .int .i64 (p : Int)], .int .i64 5]) (by simp [results, Try.results62, go_sem, s0, s1, s2, s3]) rfl ?_
    obtain ⟨r1, r2, r3⟩ := HO5.rows
    exact ⟨X, cx, X', cx', X2, cx2, rfl, r1.less (by omega), r2.less (by omega), r3.less (by omega), hb5⟩
end Go.Proofs.Ytnfapodeifpeoaa

