/-
  A step of the model: operations that pop 2 numbers. Conditions: valid code, a valid config.
-/
import Derived.Test.YtnfapodeifpeoaaNextQ
import Derived.Deep.DeepCutAuto
import Derived.OwnWalk
namespace Go.Proofs.Ytnfapodeifpeoaa
set_option linter.unusedVariables false
open Go.RowKit

set_option maxRecDepth 100000 in
set_option maxHeartbeats 40000000 in
theorem next_pops2 (b : Nat) (A : Option Addr) (c : Nat) (vs : List Int) (A' : Option Addr) (c' : Nat) (zs : List Int) (A2 : Option Addr) (c2 : Nat) (st : List Int) (C : Option Addr) (k cc : Nat) (cs : List (Int × Int)) (B : Nat) (w : World) (p : Nat) (op a : Int) (hP : BlkIs w b 44 #[.slice A 4 c, .slice A' 8 c', .slice A2 st.length c2, .int .i64 p]) (h0 : InL w B A 4 vs) (h1 : InL w B A' 8 zs) (h2 : InL w B A2 st.length st) (hC : InC w B C k cs) (hB : B ≤ w.heap.size) (h6 : st.length ≤ 6) (hc2 : st.length ≤ c2) (hk8 : k ≤ 80) (hx : cs[p]? = some (op, a)) (hi : instrB op a = true) (hpop : popB op = 2) (hf : fitB op (st.length : Int) = true) (v : CfV vs zs st p) (hops : Hid (op = 3 ∨ op = 8)) :
    Calls Try.prog 62 #[.slice C k cc, .pointer (some ⟨b, 0, none⟩)] w (NextB op a vs zs st p w) := by
  have hlt := hP.lt
  have hb0 : Below w.heap.size w (w.alloc (.cells #[.slice none 0 0, .slice none 0 0, .slice none 0 0, .int .i64 0] 44)) := bnew _ _
  have hR : BlkIs (w.alloc (.cells #[.slice none 0 0, .slice none 0 0, .slice none 0 0, .int .i64 0] 44)) w.heap.size 44 #[.slice none 0 0, .slice none 0 0, .slice none 0 0, .int .i64 0] := blk_new _ _ _ _ rfl
  have hsz : (w.alloc (.cells #[.slice none 0 0, .slice none 0 0, .slice none 0 0, .int .i64 0] 44)).heap.size = w.heap.size + 1 := by simp
  have hP1 := hP.next hb0
  have H0 := Lib.hid (h0.next hb0 hB)
  have H1 := Lib.hid (h1.next hb0 hB)
  have H2 := Lib.hid (h2.next hb0 hB)
  have HC := Lib.hid (hC.next hb0 hB)
  clear hP h0 h1 h2 hC
  go_enter Try.func62, Try.ntmps62
  go_wp2_with fail
  generalize w.alloc (.cells #[.slice none 0 0, .slice none 0 0, .slice none 0 0, .int .i64 0] 44) = W at hb0 hR hsz hP1 H0 H1 H2 HC ⊢
  have p0 : W.cell? ⟨b, 0, none⟩ = some (.slice A 4 c) := hP1.cell 0
  have p1 : W.cell? ⟨b, 1, none⟩ = some (.slice A' 8 c') := hP1.cell 1
  have p2 : W.cell? ⟨b, 2, none⟩ = some (.slice A2 st.length c2) := hP1.cell 2
  have p3 : W.cell? ⟨b, 3, none⟩ = some (.int .i64 p) := hP1.cell 3
  have HV := Lib.hid (fun (x : World) (hx : Below W.heap.size W x) => l03Own_c b A 4 c vs A' 8 c' zs B x (cell_next p0 hx) (cell_next p1 hx) (H0.out.next hx (by omega)) (H1.out.next hx (by omega)) (by have := hx.size; omega) (by omega) (by omega))
  have HZ := Lib.hid (fun (x : World) (hx : Below W.heap.size W x) => l00Own_c A2 st.length c2 B st x (H2.out.next hx (by omega)) (by have := hx.size; omega) (by omega))
  go_cut [6] (fun s6 wx => ∃ g X cx X' cx' X2 cx2, s6 = .pointer (some ⟨g, 0, none⟩) ∧ Below W.heap.size W wx ∧ OutIs wx W.heap.size g X cx X' cx' X2 cx2 vs zs st p)
  case first =>
    have hbD : Below W.heap.size W W.drew := (Below.refl _ W).drew
    have hbA := bnew W (.cells #[.slice none 0 0, .slice none 0 0, .slice none 0 0, .int .i64 0] 44)
    have hbAD : Below W.heap.size W (W.alloc (.cells #[.slice none 0 0, .slice none 0 0, .slice none 0 0, .int .i64 0] 44)).drew := hbA.drew
    have hsA : (W.alloc (.cells #[.slice none 0 0, .slice none 0 0, .slice none 0 0, .int .i64 0] 44)).heap.size = W.heap.size + 1 := by simp
    have hWd : W.drew.heap.size = W.heap.size := rfl
    refine wp_region_held_drew (S := fun W' => W'.cell? ⟨b, 0, none⟩ = some (.slice A 4 c) ∧ W'.cell? ⟨b, 1, none⟩ = some (.slice A' 8 c') ∧ W'.cell? ⟨b, 2, none⟩ = some (.slice A2 st.length c2) ∧ W'.cell? ⟨b, 3, none⟩ = some (.int .i64 p)) (by kernel_rfl) ⟨p0, p1, p2, p3⟩ ?_
    intro hHeld
    refine wpAnyH_take (i := 0) (v := ?_) rfl (by kernel_rfl) (by kernel_rfl) (by kernel_rfl) (fun _ _ _ h => h) (Or.inl ⟨by kernel_rfl, ?_⟩) (by assumption) ?_
    rotate_left
    · intro w9 hS9; (try dsimp only at hS9); go_simp; (try with_reducible rfl)
    set_option linter.unusedSimpArgs false in try simp only [Act.put, List.getElem_toArray, List.getElem_cons_succ, List.getElem_cons_zero, List.setIfInBounds_toArray, List.set_cons_zero, List.set_cons_succ]
    refine wpAnyH_take (i := 1) (v := ?_) rfl (by kernel_rfl) (by kernel_rfl) (by kernel_rfl) (fun _ _ _ h => h) (Or.inl ⟨by kernel_rfl, ?_⟩) (by assumption) ?_
    rotate_left
    · intro w9 hS9; (try dsimp only at hS9); go_simp; (try with_reducible rfl)
    set_option linter.unusedSimpArgs false in try simp only [Act.put, List.getElem_toArray, List.getElem_cons_succ, List.getElem_cons_zero, List.setIfInBounds_toArray, List.set_cons_zero, List.set_cons_succ]
    refine wpAnyH_take (i := 2) (v := ?_) rfl (by kernel_rfl) (by kernel_rfl) (by kernel_rfl) (fun _ _ _ h => h) (Or.inl ⟨by kernel_rfl, ?_⟩) (by assumption) ?_
    rotate_left
    · intro w9 hS9; (try dsimp only at hS9); go_simp; (try with_reducible rfl)
    set_option linter.unusedSimpArgs false in try simp only [Act.put, List.getElem_toArray, List.getElem_cons_succ, List.getElem_cons_zero, List.setIfInBounds_toArray, List.set_cons_zero, List.set_cons_succ]
    refine wpAnyH_take (i := 4) (v := ?_) rfl (by kernel_rfl) (by kernel_rfl) (by kernel_rfl) (fun _ _ _ h => h) (Or.inl ⟨by kernel_rfl, ?_⟩) (by assumption) ?_
    rotate_left
    · intro w9 hS9; (try dsimp only at hS9); go_simp; (try with_reducible rfl)
    set_option linter.unusedSimpArgs false in try simp only [Act.put, List.getElem_toArray, List.getElem_cons_succ, List.getElem_cons_zero, List.setIfInBounds_toArray, List.set_cons_zero, List.set_cons_succ]
    refine wpAnyH_take (i := 5) (v := ?_) rfl (by kernel_rfl) (by kernel_rfl) (by kernel_rfl) (fun _ _ _ h => h) (Or.inl ⟨by kernel_rfl, ?_⟩) (by assumption) ?_
    rotate_left
    · intro w9 hS9; (try dsimp only at hS9); go_simp; (try with_reducible rfl)
    set_option linter.unusedSimpArgs false in try simp only [Act.put, List.getElem_toArray, List.getElem_cons_succ, List.getElem_cons_zero, List.setIfInBounds_toArray, List.set_cons_zero, List.set_cons_succ]
    refine wpAnyH_take (i := 6) (v := ?_) rfl (by kernel_rfl) (by kernel_rfl) (by kernel_rfl) (fun _ _ _ h => h) (Or.inl ⟨by kernel_rfl, ?_⟩) (by assumption) ?_
    rotate_left
    · intro w9 hS9; (try dsimp only at hS9); go_simp; (try with_reducible rfl)
    set_option linter.unusedSimpArgs false in try simp only [Act.put, List.getElem_toArray, List.getElem_cons_succ, List.getElem_cons_zero, List.setIfInBounds_toArray, List.set_cons_zero, List.set_cons_succ]
    refine wpAnyH_take (i := 7) (v := ?_) rfl (by kernel_rfl) (by kernel_rfl) (by kernel_rfl) (fun _ _ _ h => h) (Or.inl ⟨by kernel_rfl, ?_⟩) (by assumption) ?_
    rotate_left
    · intro w9 hS9; (try dsimp only at hS9); go_simp; (try with_reducible rfl)
    set_option linter.unusedSimpArgs false in try simp only [Act.put, List.getElem_toArray, List.getElem_cons_succ, List.getElem_cons_zero, List.setIfInBounds_toArray, List.set_cons_zero, List.set_cons_succ]
    refine wpAnyH_take (i := 9) (v := ?_) rfl (by kernel_rfl) (by kernel_rfl) (by kernel_rfl) (fun _ _ _ h => h) (Or.inl ⟨by kernel_rfl, ?_⟩) (by assumption) ?_
    rotate_left
    · intro w9 hS9; (try dsimp only at hS9); go_simp; (try with_reducible rfl)
    set_option linter.unusedSimpArgs false in try simp only [Act.put, List.getElem_toArray, List.getElem_cons_succ, List.getElem_cons_zero, List.setIfInBounds_toArray, List.set_cons_zero, List.set_cons_succ]
    refine wpAnyH_take (i := 10) (v := ?_) rfl (by kernel_rfl) (by kernel_rfl) (by kernel_rfl) (fun _ _ _ h => h) (Or.inl ⟨by kernel_rfl, ?_⟩) (by assumption) ?_
    rotate_left
    · intro w9 hS9; (try dsimp only at hS9); go_simp; (try with_reducible rfl)
    set_option linter.unusedSimpArgs false in try simp only [Act.put, List.getElem_toArray, List.getElem_cons_succ, List.getElem_cons_zero, List.setIfInBounds_toArray, List.set_cons_zero, List.set_cons_succ]
    refine wpAnyH_take (i := 11) (v := ?_) rfl (by kernel_rfl) (by kernel_rfl) (by kernel_rfl) (fun _ _ _ h => h) (Or.inl ⟨by kernel_rfl, ?_⟩) (by assumption) ?_
    rotate_left
    · intro w9 hS9; (try dsimp only at hS9); go_simp; (try with_reducible rfl)
    set_option linter.unusedSimpArgs false in try simp only [Act.put, List.getElem_toArray, List.getElem_cons_succ, List.getElem_cons_zero, List.setIfInBounds_toArray, List.set_cons_zero, List.set_cons_succ]
    refine wpAnyH_take (i := 12) (v := ?_) rfl (by kernel_rfl) (by kernel_rfl) (by kernel_rfl) (fun _ _ _ h => h) (Or.inl ⟨by kernel_rfl, ?_⟩) (by assumption) ?_
    rotate_left
    · intro w9 hS9; (try dsimp only at hS9); go_simp; (try with_reducible rfl)
    set_option linter.unusedSimpArgs false in try simp only [Act.put, List.getElem_toArray, List.getElem_cons_succ, List.getElem_cons_zero, List.setIfInBounds_toArray, List.set_cons_zero, List.set_cons_succ]
    refine wpAnyH_ready (rs := [3, 14]) (by kernel_rfl) (by simp) ?_
    refine AllReadyH.cons rfl (fun K hK => ?_) (AllReadyH.cons rfl (fun K hK => ?_) AllReadyH.nil)
    · go_simp
      go_wp2_with (go_at_call 87; refine (HV.out _ (hbD)).mono ?_; rintro e w1 ⟨X, cx, X', cx', m1, rfl, ow1, ow1', md, hb1⟩)
      have hb1W := bstep hb1
      have hs1 := hb1W.size
      have q0 := cell_next p0 hb1W
      have q1 := cell_next p1 hb1W
      have q2 := cell_next p2 hb1W
      have q3 := cell_next p3 hb1W
      have hbA1 := bnew w1 (.cells #[.slice none 0 0, .slice none 0 0, .slice none 0 0, .int .i64 0] 44)
      have hsA1 : (w1.alloc (.cells #[.slice none 0 0, .slice none 0 0, .slice none 0 0, .int .i64 0] 44)).heap.size = w1.heap.size + 1 := by simp
      refine hK.out _ _ ⟨q0, q1, q2, q3⟩ (fun hHeldA => ?_)
      clear hK K hHeld
      set_option linter.unusedSimpArgs false in try simp only [Act.put, List.getElem_toArray, List.getElem_cons_succ, List.getElem_cons_zero, List.setIfInBounds_toArray, List.set_cons_zero, List.set_cons_succ]
      refine wpAnyH_ready (rs := [8, 14]) (by kernel_rfl) (by simp) ?_
      refine AllReadyH.cons rfl (fun K hK => ?_) (AllReadyH.cons rfl (fun K hK => ?_) AllReadyH.nil)
      · go_simp
        go_wp2_with (go_at_call 88; refine (HZ.out _ (hb1W)).mono ?_; rintro e w2 ⟨X2, cx2, rfl, ow2, hb2⟩)
        have r0 := cell_next q0 hb2
        have r1 := cell_next q1 hb2
        have r2 := cell_next q2 hb2
        have r3 := cell_next q3 hb2
        have hs2 := hb2.size
        refine hK.out _ _ ⟨r0, r1, r2, r3⟩ (fun hHeldB => ?_)
        clear hK K hHeldA
        set_option linter.unusedSimpArgs false in try simp only [Act.put, List.getElem_toArray, List.getElem_cons_succ, List.getElem_cons_zero, List.setIfInBounds_toArray, List.set_cons_zero, List.set_cons_succ]
        refine wpAnyH_take (i := 13) (v := ?_) rfl (by kernel_rfl) (by kernel_rfl) (by kernel_rfl) (fun _ _ _ h => h) (Or.inl ⟨by kernel_rfl, ?_⟩) (by assumption) ?_
        rotate_left
        · intro w9 hS9; (try dsimp only at hS9); go_simp; (try with_reducible rfl)
        set_option linter.unusedSimpArgs false in try simp only [Act.put, List.getElem_toArray, List.getElem_cons_succ, List.getElem_cons_zero, List.setIfInBounds_toArray, List.set_cons_zero, List.set_cons_succ]
        refine wpAnyH_ready (rs := [14]) (by kernel_rfl) (by simp) ?_
        refine AllReadyH.cons rfl (fun K hK => ?_) AllReadyH.nil
        have hb3 := bnew w2 (.cells #[.slice none 0 0, .slice none 0 0, .slice none 0 0, .int .i64 0] 44)
        have ho3 := bnew w2 (.cells #[.slice X 4 cx, .slice X' 8 cx', .slice X2 st.length cx2, .int .i64 p] 44)
        go_simp
        refine hK.out _ _ ⟨cell_next r0 hb3, cell_next r1 hb3, cell_next r2 hb3, cell_next r3 hb3⟩ (fun hHeldC => ?_)
        clear hK K hHeldB
        set_option linter.unusedSimpArgs false in try simp only [Act.put, List.getElem_toArray, List.getElem_cons_succ, List.getElem_cons_zero, List.setIfInBounds_toArray, List.set_cons_zero, List.set_cons_succ]
        refine wpAnyH_ready (rs := [15]) (by kernel_rfl) (by simp) ?_
        refine AllReadyH.cons rfl (fun K hK => ?_) AllReadyH.nil
        go_simp
        refine hK.out _ _ ⟨cell_next r0 ho3, cell_next r1 ho3, cell_next r2 ho3, cell_next r3 ho3⟩ (fun hHeldD => ?_)
        clear hK K hHeldC
        refine wpAnyH_done (by kernel_rfl) ?_ _
        go_wp2_with fail
        go_meet
        exact ⟨w2.heap.size, X, cx, X', cx', X2, cx2, rfl, bon (bon hb1W hb2) ho3, _, _, _, _, _, _, blk_new w2 _ _ _ rfl, (ow1.next hb2).next ho3, (ow1'.next hb2).next ho3, ow2.next ho3, ⟨by omega, by omega, by omega, by omega⟩, by omega, by omega, by omega, by omega, by omega, by omega⟩
      · go_simp
        replace q0 := cell_next q0 hbA1
        replace q1 := cell_next q1 hbA1
        replace q2 := cell_next q2 hbA1
        replace q3 := cell_next q3 hbA1
        refine hK.out _ _ ⟨q0, q1, q2, q3⟩ (fun hHeldB => ?_)
        clear hK K hHeldA
        set_option linter.unusedSimpArgs false in try simp only [Act.put, List.getElem_toArray, List.getElem_cons_succ, List.getElem_cons_zero, List.setIfInBounds_toArray, List.set_cons_zero, List.set_cons_succ]
        refine wpAnyH_ready (rs := [8]) (by kernel_rfl) (by simp) ?_
        refine AllReadyH.cons rfl (fun K hK => ?_) AllReadyH.nil
        go_simp
        go_wp2_with (go_at_call 88; refine (HZ.out _ (bon hb1W hbA1)).mono ?_; rintro e w2 ⟨X2, cx2, rfl, ow2, hb2⟩)
        replace ow1 := ow1.next hbA1
        replace ow1' := ow1'.next hbA1
        have hG : BlkIs w2 w1.heap.size 44 #[.slice none 0 0, .slice none 0 0, .slice none 0 0, .int .i64 0] := (blk_new w1 44 #[.slice none 0 0, .slice none 0 0, .slice none 0 0, .int .i64 0] _ rfl).next hb2
        have r0 := cell_next q0 hb2
        have r1 := cell_next q1 hb2
        have r2 := cell_next q2 hb2
        have r3 := cell_next q3 hb2
        have hs2 := hb2.size
        refine hK.out _ _ ⟨r0, r1, r2, r3⟩ (fun hHeldC => ?_)
        clear hK K hHeldB
        set_option linter.unusedSimpArgs false in try simp only [Act.put, List.getElem_toArray, List.getElem_cons_succ, List.getElem_cons_zero, List.setIfInBounds_toArray, List.set_cons_zero, List.set_cons_succ]
        refine wpAnyH_take (i := 13) (v := ?_) rfl (by kernel_rfl) (by kernel_rfl) (by kernel_rfl) (fun _ _ _ h => h) (Or.inl ⟨by kernel_rfl, ?_⟩) (by assumption) ?_
        rotate_left
        · intro w9 hS9; (try dsimp only at hS9); go_simp; (try with_reducible rfl)
        set_option linter.unusedSimpArgs false in try simp only [Act.put, List.getElem_toArray, List.getElem_cons_succ, List.getElem_cons_zero, List.setIfInBounds_toArray, List.set_cons_zero, List.set_cons_succ]
        have z0 := hG.cell 0
        have z1 := hG.cell 1
        have z2 := hG.cell 2
        have z3 := hG.cell 3
        have f0 := hG.frozen 0
        have f1 := hG.frozen 1
        have f2 := hG.frozen 2
        have f3 := hG.frozen 3
        simp at z0 z1 z2 z3
        have hG4 := (((hG.set 0 (.slice X 4 cx)).set 1 (.slice X' 8 cx')).set 2 (.slice X2 st.length cx2)).set 3 (.int .i64 p)
        have ho3 : Out w1.heap.size (w1.heap.size + 1) w2 ((((w2.setCell ⟨w1.heap.size, 0, none⟩ (.slice X 4 cx)).setCell ⟨w1.heap.size, 1, none⟩ (.slice X' 8 cx')).setCell ⟨w1.heap.size, 2, none⟩ (.slice X2 st.length cx2)).setCell ⟨w1.heap.size, 3, none⟩ (.int .i64 p)) := out_set (out_set (out_set (out_set (Out.refl _ _ _) (by omega)) (by omega)) (by omega)) (by omega)
        refine wpAnyH_ready (rs := [15]) (by kernel_rfl) (by simp) ?_
        refine AllReadyH.cons rfl (fun K hK => ?_) AllReadyH.nil
        go_simp
        refine hK.out _ _ ⟨ho3.cell r0 (by omega), ho3.cell r1 (by omega), ho3.cell r2 (by omega), ho3.cell r3 (by omega)⟩ (fun hHeldD => ?_)
        clear hK K hHeldC
        refine wpAnyH_done (by kernel_rfl) ?_ _
        go_wp2_with fail
        go_meet
        exact ⟨w1.heap.size, X, cx, X', cx', X2, cx2, rfl, (bon (bon hb1W hbA1) hb2).trans (ho3.below (by omega) (by omega)), _, _, _, _, _, _, hG4, (ow1.next hb2).out ho3 (by omega), (ow1'.next hb2).out ho3 (by omega), ow2.out ho3 (by omega), ⟨by omega, by omega, by omega, by omega⟩, by omega, by omega, by omega, by omega, by omega, by omega⟩
    · go_simp
      have q0 := cell_next p0 hbAD
      have q1 := cell_next p1 hbAD
      have q2 := cell_next p2 hbAD
      have q3 := cell_next p3 hbAD
      refine hK.out _ _ ⟨q0, q1, q2, q3⟩ (fun hHeldB => ?_)
      clear hK K hHeld
      set_option linter.unusedSimpArgs false in try simp only [Act.put, List.getElem_toArray, List.getElem_cons_succ, List.getElem_cons_zero, List.setIfInBounds_toArray, List.set_cons_zero, List.set_cons_succ]
      refine wpAnyH_ready (rs := [3]) (by kernel_rfl) (by simp) ?_
      refine AllReadyH.cons rfl (fun K hK => ?_) AllReadyH.nil
      go_simp
      go_wp2_with (go_at_call 87; refine (HV.out _ (hbAD)).mono ?_; rintro e w1 ⟨X, cx, X', cx', m1, rfl, ow1, ow1', md, hb1⟩)
      have hb1A := bstep hb1
      have hb1W := bon hbA hb1A
      have hs1 := hb1A.size
      have hAd : (W.alloc (.cells #[.slice none 0 0, .slice none 0 0, .slice none 0 0, .int .i64 0] 44)).drew.heap.size = W.heap.size + 1 := hsA
      replace q0 := cell_next p0 hb1W
      replace q1 := cell_next p1 hb1W
      replace q2 := cell_next p2 hb1W
      replace q3 := cell_next p3 hb1W
      refine hK.out _ _ ⟨q0, q1, q2, q3⟩ (fun hHeldA => ?_)
      clear hK K hHeldB
      set_option linter.unusedSimpArgs false in try simp only [Act.put, List.getElem_toArray, List.getElem_cons_succ, List.getElem_cons_zero, List.setIfInBounds_toArray, List.set_cons_zero, List.set_cons_succ]
      refine wpAnyH_ready (rs := [8]) (by kernel_rfl) (by simp) ?_
      refine AllReadyH.cons rfl (fun K hK => ?_) AllReadyH.nil
      go_simp
      go_wp2_with (go_at_call 88; refine (HZ.out _ (hb1W)).mono ?_; rintro e w2 ⟨X2, cx2, rfl, ow2, hb2⟩)
      have hG : BlkIs w2 (w.heap.size + 1) 44 #[.slice none 0 0, .slice none 0 0, .slice none 0 0, .int .i64 0] := by rw [← hsz]; exact ((blk_new W 44 #[.slice none 0 0, .slice none 0 0, .slice none 0 0, .int .i64 0] _ rfl).next hb1A).next hb2
      have r0 := cell_next q0 hb2
      have r1 := cell_next q1 hb2
      have r2 := cell_next q2 hb2
      have r3 := cell_next q3 hb2
      have hs2 := hb2.size
      refine hK.out _ _ ⟨r0, r1, r2, r3⟩ (fun hHeldC => ?_)
      clear hK K hHeldA
      set_option linter.unusedSimpArgs false in try simp only [Act.put, List.getElem_toArray, List.getElem_cons_succ, List.getElem_cons_zero, List.setIfInBounds_toArray, List.set_cons_zero, List.set_cons_succ]
      refine wpAnyH_take (i := 13) (v := ?_) rfl (by kernel_rfl) (by kernel_rfl) (by kernel_rfl) (fun _ _ _ h => h) (Or.inl ⟨by kernel_rfl, ?_⟩) (by assumption) ?_
      rotate_left
      · intro w9 hS9; (try dsimp only at hS9); go_simp; (try with_reducible rfl)
      set_option linter.unusedSimpArgs false in try simp only [Act.put, List.getElem_toArray, List.getElem_cons_succ, List.getElem_cons_zero, List.setIfInBounds_toArray, List.set_cons_zero, List.set_cons_succ]
      have z0 := hG.cell 0
      have z1 := hG.cell 1
      have z2 := hG.cell 2
      have z3 := hG.cell 3
      have f0 := hG.frozen 0
      have f1 := hG.frozen 1
      have f2 := hG.frozen 2
      have f3 := hG.frozen 3
      simp at z0 z1 z2 z3
      have hG4 := (((hG.set 0 (.slice X 4 cx)).set 1 (.slice X' 8 cx')).set 2 (.slice X2 st.length cx2)).set 3 (.int .i64 p)
      have ho3 : Out (w.heap.size + 1) ((w.heap.size + 1) + 1) w2 ((((w2.setCell ⟨(w.heap.size + 1), 0, none⟩ (.slice X 4 cx)).setCell ⟨(w.heap.size + 1), 1, none⟩ (.slice X' 8 cx')).setCell ⟨(w.heap.size + 1), 2, none⟩ (.slice X2 st.length cx2)).setCell ⟨(w.heap.size + 1), 3, none⟩ (.int .i64 p)) := out_set (out_set (out_set (out_set (Out.refl _ _ _) (by omega)) (by omega)) (by omega)) (by omega)
      refine wpAnyH_ready (rs := [15]) (by kernel_rfl) (by simp) ?_
      refine AllReadyH.cons rfl (fun K hK => ?_) AllReadyH.nil
      go_simp
      refine hK.out _ _ ⟨ho3.cell r0 (by omega), ho3.cell r1 (by omega), ho3.cell r2 (by omega), ho3.cell r3 (by omega)⟩ (fun hHeldD => ?_)
      clear hK K hHeldC
      refine wpAnyH_done (by kernel_rfl) ?_ _
      go_wp2_with fail
      go_meet
      exact ⟨(w.heap.size + 1), X, cx, X', cx', X2, cx2, rfl, (bon hb1W hb2).trans (ho3.below (by omega) (by omega)), _, _, _, _, _, _, hG4, (ow1.next hb2).out ho3 (by omega), (ow1'.next hb2).out ho3 (by omega), ow2.out ho3 (by omega), ⟨by omega, by omega, by omega, by omega⟩, by omega, by omega, by omega, by omega, by omega, by omega⟩
  case rest =>
  obtain ⟨g, X, cx, X', cx', X2, cx2, rfl, hbC, HO⟩ := hcut
  have hge := HO.ge
  have hsC := hbC.size
  clear HV HZ p0 p1 p2 p3
  have hP2 := hP1.next hbC
  have hR2 := hR.next hbC
  have HC2 := Lib.hid (HC.out.next hbC (by omega))
  have H02 := Lib.hid (H0.out.next hbC (by omega))
  have H12 := Lib.hid (H1.out.next hbC (by omega))
  have H22 := Lib.hid (H2.out.next hbC (by omega))
  have p2 : wc.cell? ⟨b, 2, none⟩ = some (.slice A2 st.length c2) := hP2.cell 2
  have p3 : wc.cell? ⟨b, 3, none⟩ = some (.int .i64 p) := hP2.cell 3
  clear hP1 hR HC H0 H1 H2
  have hlt2 : p < k := by have := (List.getElem?_eq_some_iff.1 hx).1; have := HC2.out.1; omega
  have e1 : ((k : Int) ≤ (p : Int)) = False := by simp; omega
  have e2 : (0 : Int) ≤ (p : Int) := by omega
  have e3 : (p : Int) < (k : Int) := by omega
  obtain ⟨bb, off, t, rfl, hbl, ht, q0, q1⟩ := HC2.out.at_ hlt2
  obtain rfl : t = (op, a) := by rw [hx] at ht; injection ht with ht; exact ht.symm
  have hop : 0 ≤ op ∧ op ≤ 11 := ⟨(instrB_parts hi).1, (instrB_parts hi).2.1⟩
  have HPO := Lib.hid (l07Pops_c op hop)
  rw [hpop] at HPO
  have HPU := Lib.hid (l07Pushes_c op hop)
  have hX : BlkIs (wc.alloc (.cells #[.int .i64 op, .int .i64 a] 25)) wc.heap.size 25 #[.int .i64 op, .int .i64 a] := blk_new _ _ _ _ rfl
  have hbX := bnew wc (.cells #[.int .i64 op, .int .i64 a] 25)
  have hsX := hX.lt
  have HO6 := HO.next hbX
  have HR6 := Lib.hid (hR2.next hbX)
  have x0 : (wc.alloc (.cells #[.int .i64 op, .int .i64 a] 25)).cell? ⟨wc.heap.size, 0, none⟩ = some (.int .i64 op) := hX.cell 0
  have x1 : (wc.alloc (.cells #[.int .i64 op, .int .i64 a] 25)).cell? ⟨wc.heap.size, 1, none⟩ = some (.int .i64 a) := hX.cell 1
  have v2 := cell_next p2 hbX
  have v3 := cell_next p3 hbX
  have HP6 := Lib.hid (hP2.next hbX)
  have HV0 := Lib.hid (H02.out.next hbX (by omega))
  have HV1 := Lib.hid (H12.out.next hbX (by omega))
  have HV2 := Lib.hid (H22.out.next hbX (by omega))
  have HB6 := Lib.hid (hb0.trans ((bon hbC hbX).mono (by omega)))
  have hfp := Lib.hid (fitB_parts hf)
  have HIB := Lib.hid hi
  clear hP2 hR2 H02 H12 H22 HC2 HO hx ht hi
  obtain ⟨j, hj⟩ : ∃ j, Hid (st.length = j + 2) := ⟨st.length - 2, by show _ = _; have := hfp.out.1; rw [hpop] at this; omega⟩
  obtain ⟨i, hij⟩ : ∃ i, Hid (i = j + 1) := ⟨_, rfl⟩
  have fw2 : IntKind.i64.wrap ((st.length : Int) - 2) = (j : Int) := wsub2 hj.out (by omega)
  have fw1 : IntKind.i64.wrap ((st.length : Int) - 1) = (i : Int) := wsub1 (by have := hj.out; have := hij.out; omega) (by omega)
  have il : (i : Int) < (st.length : Int) := by have := hj.out; have := hij.out; omega
  have il' : i < st.length := by have := hj.out; have := hij.out; omega
  have i0 : (0 : Int) ≤ (i : Int) := by omega
  have jl : (j : Int) < (st.length : Int) := by have := hj.out; omega
  have jl' : j < st.length := by have := hj.out; omega
  obtain ⟨b2, o2, rfl, hb2, hrS⟩ := HV2.out.side (by have := hj.out; omega)
  have HRS := Lib.hid hrS
  clear hrS
  obtain ⟨tp, htp⟩ : ∃ tp, Hid (topR op st = tp) := ⟨_, rfl⟩
  obtain ⟨ud, hud⟩ : ∃ ud, Hid (undR op st = ud) := ⟨_, rfl⟩
  have tcell : (wc.alloc (.cells #[.int .i64 op, .int .i64 a] 25)).cell? ⟨b2, o2 + i, none⟩ = some (.int .i64 tp) := HRS.out i _ (by rw [List.getElem?_map, ← htp.out]; unfold topR; rw [if_neg (by rw [hpop]; decide), hj.out, show j + 2 - 1 = i by rw [hij.out]; omega, some_getD (by omega)]; rfl)
  have ucell : (wc.alloc (.cells #[.int .i64 op, .int .i64 a] 25)).cell? ⟨b2, o2 + j, none⟩ = some (.int .i64 ud) := HRS.out j _ (by rw [List.getElem?_map, ← hud.out]; unfold undR; rw [if_pos hpop, hj.out, Nat.add_sub_cancel, some_getD (by omega)]; rfl)
  have j0 : (0 : Int) ≤ (j : Int) := by omega
  have jn0 : ((j : Int) < 0) = False := by simp
  have jc : (j : Int) ≤ (c2 : Int) := by have := hj.out; omega
  have jc' : j ≤ c2 := by have := hj.out; omega
  go_wp2_with fail
  generalize wc.alloc (.cells #[.int .i64 op, .int .i64 a] 25) = W6 at hX hbX hsX HO6 HR6 x0 x1 v2 v3 HP6 HV0 HV1 HV2 HB6 HRS tcell ucell ⊢
  refine (HPO.out W6).mono ?_
  rintro e w7 ⟨rfl, rfl⟩
  go_wp2_with fail
  refine (HPU.out W6).mono ?_
  rintro e w7 ⟨rfl, rfl⟩
  clear HPO HPU
  rcases hops.out with rfl | rfl
  · clear hops
    have epu : pushB 3 = 1 := rfl
    have jq : (j : Int) + 1 ≤ 6 := by
      have h1 := hfp.out.2
      have h2 := hj.out
      have h3 : popB 3 = 2 := rfl
      rw [epu, h3] at h1
      omega
    have fwp : IntKind.i64.wrap ((j : Int) + 1) = (j : Int) + 1 := IntWalk.i64_in _ (by omega)
    have jt : (6 < (j : Int) + 1) = False := by simp; omega
    have jtn : (6 ≤ j) = False := by simp; omega
    have jtm : (5 < j) = False := by simp; omega
    have jto : (6 < j + 1) = False := by simp; omega
    have kx : wideP tp := by rw [← htp.out]; exact v.ws _ (topR_mem (by decide) hfp.out.1)
    have ky : wideP ud := by rw [← hud.out]; exact v.ws _ (by unfold undR; rw [if_pos (by decide)]; exact mem_getD (by have := hj.out; omega))
    have wtu : IntKind.i64.wrap (tp + ud) = tp + ud := IntWalk.i64_in _ ⟨by have := kx.1; have := ky.1; omega, by have := kx.2; have := ky.2; omega⟩
    clear kx ky
    by_cases hin : wideP (tp + ud)
    · have HO0 : Hid (outO 3 a st = 0) := outO_ok (by decide) (by unfold cellStop; simp) (by unfold rangeStop; simp [htp.out, hud.out, hin]) (by simp)
      have HST : Hid (stO 3 a vs zs st = st.take j ++ [(tp + ud)]) := by
        show _ = _
        unfold stO
        rw [if_pos (by decide), restR_2 hj.out rfl]
        rw [show newO 3 a vs zs st = (tp + ud) from by show topR 3 st + undR 3 st = _; rw [htp.out, hud.out]]
      have HVS : Hid (varsO 3 a vs st = vs) := varsO_same (by decide) vs
      have HZS : Hid (cellsO 3 zs st = zs) := cellsO_same (by decide) zs
      have HAT : Hid (atO 3 a st (p : Int) = (p : Int) + 1) := atO_next (by decide) (by decide)
      go_wp2_with fail
      go_quiet (fail)
      have HO7 := HO6.drewN (d := nq)
      have HR7 : Hid (BlkIs (W6.drewN nq) w.heap.size 44 #[.slice none 0 0, .slice none 0 0, .slice none 0 0, .int .i64 0]) := HR6.out
      have HB7 : Hid (Below w.heap.size w (W6.drewN nq)) := below_drewN HB6.out nq
      have HV07 : Hid (InL (W6.drewN nq) B A 4 vs) := HV0.out
      have HV17 : Hid (InL (W6.drewN nq) B A' 8 zs) := HV1.out
      have HS7 : Hid (InL (W6.drewN nq) B (some ⟨b2, o2, none⟩) st.length st) := HV2.out
      have hsX7 : wc.heap.size < (W6.drewN nq).heap.size := hsX
      have x07 : (W6.drewN nq).cell? ⟨wc.heap.size, 0, none⟩ = some (.int .i64 3) := x0
      have x17 : (W6.drewN nq).cell? ⟨wc.heap.size, 1, none⟩ = some (.int .i64 a) := x1
      have v37 : (W6.drewN nq).cell? ⟨b, 3, none⟩ = some (.int .i64 p) := v3
      have v27 : (W6.drewN nq).cell? ⟨b, 2, none⟩ = some (.slice (some ⟨b2, o2, none⟩) st.length c2) := v2
      have vc0 : (W6.drewN nq).cell? ⟨b, 0, none⟩ = some (.slice A 4 c) := HP6.out.cell 0
      have vc1 : (W6.drewN nq).cell? ⟨b, 1, none⟩ = some (.slice A' 8 c') := HP6.out.cell 1
      have uc7 : (W6.drewN nq).cell? ⟨b2, o2 + j, none⟩ = some (.int .i64 ud) := ucell
      generalize W6.drewN nq = W7 at HO7 HR7 HB7 HV07 HV17 HS7 hsX7 x07 x17 v37 v27 vc0 vc1 uc7 ⊢
      clear HO6 HR6 HB6 HV0 HV1 HV2 hX hbX hsX x0 x1 v2 v3 HP6 tcell ucell HRS
      have HI0 := l07Wide_c (tp + ud) W7
      rw [show (decide (-10000000000000000 ≤ tp + ud) && decide (tp + ud ≤ 10000000000000000)) = true from by simp [hin.1, hin.2]] at HI0
      have HI := Lib.hid HI0
      clear HI0
      go_wp2_with fail
      refine HI.out.mono ?_
      rintro e w9 ⟨rfl, rfl⟩
      go_wp2_with fail
      refine (l00Own_c (some ⟨b2, o2, none⟩) j c2 B (st.take j) W7 (HS7.out.cut (by have := hj.out; omega)) (by have := HB7.out.size; omega) (by have := hj.out; omega)).mono ?_
      rintro e w8 ⟨Y, cy, rfl, ow8, hb8⟩
      have hl8 : (st.take j).length = j := by rw [List.length_take]; have := hj.out; omega
      have hs7 := HB7.out.size
      have hge7 := HO7.ge
      have ho8 : Out g (g + 1) W7 w8 := Out.of_below hb8
      have hB8 := HO7.blk.next hb8
      have k2 : w8.cell? ⟨g, 2, none⟩ = some (.slice X2 st.length cx2) := hB8.cell 2
      have kf2 := hB8.frozen 2
      have ho9 : Out g (g + 1) W7 (w8.setCell ⟨g, 2, none⟩ (.slice Y j cy)) := out_set ho8 (by omega)
      have hB9 : BlkIs (w8.setCell ⟨g, 2, none⟩ (.slice Y j cy)) g 44 #[.slice X 4 cx, .slice X' 8 cx', .slice Y j cy, .int .i64 p] := hB8.set 2 _
      have k3 : (w8.setCell ⟨g, 2, none⟩ (.slice Y j cy)).cell? ⟨g, 3, none⟩ = some (.int .i64 p) := hB9.cell 3
      have kf3 := hB9.frozen 3
      have v39 := ho9.cell v37 (by omega)
      have fwq : IntKind.i64.wrap ((p : Int) + 1) = (p : Int) + 1 := IntWalk.i64_in _ (by omega)
      have ho10 : Out g (g + 1) W7 ((w8.setCell ⟨g, 2, none⟩ (.slice Y j cy)).setCell ⟨g, 3, none⟩ (.int .i64 ((p : Int) + 1))) := out_set ho9 (by omega)
      have hB10 : BlkIs ((w8.setCell ⟨g, 2, none⟩ (.slice Y j cy)).setCell ⟨g, 3, none⟩ (.int .i64 ((p : Int) + 1))) g 44 #[.slice X 4 cx, .slice X' 8 cx', .slice Y j cy, .int .i64 ((p : Int) + 1)] := hB9.set 3 _
      have x010 := ho10.cell x07 (by omega)
      have x110 := ho10.cell x17 (by omega)
      have hR10 := HR7.out.out ho10 (by omega)
      have ow10 : OwnL ((w8.setCell ⟨g, 2, none⟩ (.slice Y j cy)).setCell ⟨g, 3, none⟩ (.int .i64 ((p : Int) + 1))) W7.heap.size w8.heap.size Y j cy (st.take j) := ow8.out (show Out g (g + 1) w8 ((w8.setCell ⟨g, 2, none⟩ (.slice Y j cy)).setCell ⟨g, 3, none⟩ (.int .i64 ((p : Int) + 1))) from out_set (out_set (Out.refl _ _ _) (by omega)) (by omega)) (by left; omega)
      have HOW10 := Lib.hid ow10
      have HOW8 := Lib.hid ow8
      clear ow10 ow8 hB8
      obtain ⟨i0, hif, hz0, hz1, hz2⟩ := info_parts info64
      have kk2 : ((w8.setCell ⟨g, 2, none⟩ (.slice Y j cy)).setCell ⟨g, 3, none⟩ (.int .i64 ((p : Int) + 1))).cell? ⟨g, 2, none⟩ = some (.slice Y j cy) := hB10.cell 2
      have hbA := bnew ((w8.setCell ⟨g, 2, none⟩ (.slice Y j cy)).setCell ⟨g, 3, none⟩ (.int .i64 ((p : Int) + 1))) (.cells #[.int .i64 (tp + ud)] 2)
      have hoA : Out g (g + 1) W7 (((w8.setCell ⟨g, 2, none⟩ (.slice Y j cy)).setCell ⟨g, 3, none⟩ (.int .i64 ((p : Int) + 1))).alloc (.cells #[.int .i64 (tp + ud)] 2)) := ho10.trans (Out.of_below hbA)
      have hBA := hB10.next hbA
      have owA := (HOW10.out.next hbA).2.1
      have hRA := HR7.out.out hoA (by omega)
      have j63 : j + 1 ≤ maxLen := by unfold maxLen; have := hj.out; omega
      have hs8 : W7.heap.size ≤ (((w8.setCell ⟨g, 2, none⟩ (.slice Y j cy)).setCell ⟨g, 3, none⟩ (.int .i64 ((p : Int) + 1))).alloc (.cells #[.int .i64 (tp + ud)] 2)).heap.size := hoA.size
      have hl12 : (st.take j ++ [(tp + ud)]).length = j + 1 := by rw [List.length_append, hl8]; rfl
      have HARM : Hid (∀ v' w11, w11.ownsRow W7.heap.size 2 1 v' (j + 1) ((st.take j).map ic ++ [.int .i64 ((tp + ud))]) → (((w8.setCell ⟨g, 2, none⟩ (.slice Y j cy)).setCell ⟨g, 3, none⟩ (.int .i64 ((p : Int) + 1))).alloc (.cells #[.int .i64 (tp + ud)] 2)).grownBy w11 (Value.slice Y j cy).ownBlock → ∃ Y' cy', v' = .slice Y' (j + 1) cy' ∧ w11.cell? ⟨g, 2, none⟩ = some (.slice Y j cy) ∧ w11.frozen? ⟨g, 2, none⟩ = false ∧ OutIs (w11.setCell ⟨g, 2, none⟩ (.slice Y' (j + 1) cy')) W.heap.size g X cx X' cx' Y' cy' vs zs (st.take j ++ [(tp + ud)]) ((p : Int) + 1) ∧ BlkIs (w11.setCell ⟨g, 2, none⟩ (.slice Y' (j + 1) cy')) w.heap.size 44 #[.slice none 0 0, .slice none 0 0, .slice none 0 0, .int .i64 0] ∧ Below w.heap.size w (w11.setCell ⟨g, 2, none⟩ (.slice Y' (j + 1) cy'))) := by
        intro v' w11 hown hgrow
        obtain ⟨Y', cy', rfl, hrw⟩ := own_slice hown
        have hr := own_cons hown
        have ho11 := hoA.grow_new hgrow (fun k hk => (owA.lt k hk).1)
        have hB11 : BlkIs w11 g 44 #[.slice X 4 cx, .slice X' 8 cx', .slice Y j cy, .int .i64 ((p : Int) + 1)] := (hgrow.block g hBA.lt (fun e => by have := (owA.lt g e.symm).1; omega)).trans hBA
        have ho12 : Out g (g + 1) W7 (w11.setCell ⟨g, 2, none⟩ (.slice Y' (j + 1) cy')) := out_set ho11 (by omega)
        have hB12 : BlkIs (w11.setCell ⟨g, 2, none⟩ (.slice Y' (j + 1) cy')) g 44 #[.slice X 4 cx, .slice X' 8 cx', .slice Y' (j + 1) cy', .int .i64 ((p : Int) + 1)] := hB11.set 2 _
        have hs11 := hgrow.size
        have ow12 := hr.out (show Out g (g + 1) w11 (w11.setCell ⟨g, 2, none⟩ (.slice Y' (j + 1) cy')) from out_set (Out.refl _ _ _) (by omega)) (by left; omega)
        exact ⟨Y', cy', rfl, hB11.cell 2, hB11.frozen 2, HO7.done ho12 (by rw [hl12]; exact hB12) (by rw [hl12]; exact ow12), HR7.out.out ho12 (by omega), HB7.out.trans (ho12.below (by omega) (by omega))⟩
      go_wp2_with (at_builtin; refine wpList_append_own _ rfl _ _ 35 rfl W7.heap.size 2 i0 (.int .i64 0) 1 8 Try.underlying35 hif hz0 hz1 hz2 rfl (by decide) _ _ _ rfl owA ⟨w8.heap.size, 0, none⟩ 1 1 [.int .i64 (tp + ud)] rfl rfl (cell_one_at _ _ _ _ (by simp)) (fun u hu => by simp at hu; subst hu; rfl) j63 (by have := hj.out; omega) hs8 ?_; intro v' w11 hown hgrow _; obtain ⟨Y', cy', rfl, m2, mf2, HOF, hRE, hbF⟩ := HARM.out v' w11 hown hgrow; have u0 : (w11.setCell ⟨g, 2, none⟩ (.slice Y' (j + 1) cy')).cell? ⟨g, 0, none⟩ = some (.slice X 4 cx) := HOF.blk.cell 0; have u1 : (w11.setCell ⟨g, 2, none⟩ (.slice Y' (j + 1) cy')).cell? ⟨g, 1, none⟩ = some (.slice X' 8 cx') := HOF.blk.cell 1; have u2 : (w11.setCell ⟨g, 2, none⟩ (.slice Y' (j + 1) cy')).cell? ⟨g, 2, none⟩ = some (.slice Y' (j + 1) cy') := (by have := HOF.blk.cell 2; rw [hl12] at this; exact this); have u3 : (w11.setCell ⟨g, 2, none⟩ (.slice Y' (j + 1) cy')).cell? ⟨g, 3, none⟩ = some (.int .i64 ((p : Int) + 1)) := HOF.blk.cell 3; have z0 : (w11.setCell ⟨g, 2, none⟩ (.slice Y' (j + 1) cy')).cell? ⟨w.heap.size, 0, none⟩ = some (.slice none 0 0) := hRE.cell 0; have z1 : (w11.setCell ⟨g, 2, none⟩ (.slice Y' (j + 1) cy')).cell? ⟨w.heap.size, 1, none⟩ = some (.slice none 0 0) := hRE.cell 1; have z2 : (w11.setCell ⟨g, 2, none⟩ (.slice Y' (j + 1) cy')).cell? ⟨w.heap.size, 2, none⟩ = some (.slice none 0 0) := hRE.cell 2; have z3 : (w11.setCell ⟨g, 2, none⟩ (.slice Y' (j + 1) cy')).cell? ⟨w.heap.size, 3, none⟩ = some (.int .i64 0) := hRE.cell 3; have y0 := hRE.frozen 0; have y1 := hRE.frozen 1; have y2 := hRE.frozen 2; have y3 := hRE.frozen 3; clear hown hgrow owA HARM)
      have hR5 := (((hRE.set 0 (.slice X 4 cx)).set 1 (.slice X' 8 cx')).set 2 (.slice Y' (j + 1) cy')).set 3 (.int .i64 ((p : Int) + 1))
      have ho5 : Out w.heap.size (w.heap.size + 1) (w11.setCell ⟨g, 2, none⟩ (.slice Y' (j + 1) cy')) (((((w11.setCell ⟨g, 2, none⟩ (.slice Y' (j + 1) cy')).setCell ⟨w.heap.size, 0, none⟩ (.slice X 4 cx)).setCell ⟨w.heap.size, 1, none⟩ (.slice X' 8 cx')).setCell ⟨w.heap.size, 2, none⟩ (.slice Y' (j + 1) cy')).setCell ⟨w.heap.size, 3, none⟩ (.int .i64 ((p : Int) + 1))) := out_set (out_set (out_set (out_set (Out.refl _ _ _) (by omega)) (by omega)) (by omega)) (by omega)
      have HO5 := HOF.out ho5 (by omega)
      have s0 : (((((w11.setCell ⟨g, 2, none⟩ (.slice Y' (j + 1) cy')).setCell ⟨w.heap.size, 0, none⟩ (.slice X 4 cx)).setCell ⟨w.heap.size, 1, none⟩ (.slice X' 8 cx')).setCell ⟨w.heap.size, 2, none⟩ (.slice Y' (j + 1) cy')).setCell ⟨w.heap.size, 3, none⟩ (.int .i64 ((p : Int) + 1))).cell? ⟨w.heap.size, 0, none⟩ = some (.slice X 4 cx) := by rw [hR5.cell 0]; simp
      have s1 : (((((w11.setCell ⟨g, 2, none⟩ (.slice Y' (j + 1) cy')).setCell ⟨w.heap.size, 0, none⟩ (.slice X 4 cx)).setCell ⟨w.heap.size, 1, none⟩ (.slice X' 8 cx')).setCell ⟨w.heap.size, 2, none⟩ (.slice Y' (j + 1) cy')).setCell ⟨w.heap.size, 3, none⟩ (.int .i64 ((p : Int) + 1))).cell? ⟨w.heap.size, 1, none⟩ = some (.slice X' 8 cx') := by rw [hR5.cell 1]; simp
      have s2 : (((((w11.setCell ⟨g, 2, none⟩ (.slice Y' (j + 1) cy')).setCell ⟨w.heap.size, 0, none⟩ (.slice X 4 cx)).setCell ⟨w.heap.size, 1, none⟩ (.slice X' 8 cx')).setCell ⟨w.heap.size, 2, none⟩ (.slice Y' (j + 1) cy')).setCell ⟨w.heap.size, 3, none⟩ (.int .i64 ((p : Int) + 1))).cell? ⟨w.heap.size, 2, none⟩ = some (.slice Y' (j + 1) cy') := by rw [hR5.cell 2]; simp
      have s3 : (((((w11.setCell ⟨g, 2, none⟩ (.slice Y' (j + 1) cy')).setCell ⟨w.heap.size, 0, none⟩ (.slice X 4 cx)).setCell ⟨w.heap.size, 1, none⟩ (.slice X' 8 cx')).setCell ⟨w.heap.size, 2, none⟩ (.slice Y' (j + 1) cy')).setCell ⟨w.heap.size, 3, none⟩ (.int .i64 ((p : Int) + 1))).cell? ⟨w.heap.size, 3, none⟩ = some (.int .i64 ((p : Int) + 1)) := by rw [hR5.cell 3]; simp
      have hb5 := (hbF).trans (ho5.below (Nat.le_refl _) (hbF).size)
      generalize (((((w11.setCell ⟨g, 2, none⟩ (.slice Y' (j + 1) cy')).setCell ⟨w.heap.size, 0, none⟩ (.slice X 4 cx)).setCell ⟨w.heap.size, 1, none⟩ (.slice X' 8 cx')).setCell ⟨w.heap.size, 2, none⟩ (.slice Y' (j + 1) cy')).setCell ⟨w.heap.size, 3, none⟩ (.int .i64 ((p : Int) + 1))) = W5 at s0 s1 s2 s3 HO5 hb5 ⊢
      refine bodyPost_ret (v := .tuple #[.agg #[.slice X 4 cx, .slice X' 8 cx', .slice Y' (j + 1) cy', .int .i64 ((p : Int) + 1)], .int .i64 0]) (by simp [results, Try.results62, go_sem, s0, s1, s2, s3]) rfl ?_
      rw [nextB_done HO0.out, HVS.out, HZS.out, HST.out, HAT.out]
      obtain ⟨r1, r2, r3⟩ := HO5.rows
      exact ⟨X, cx, X', cx', Y', cy', by rw [hl12], r1.less (by omega), r2.less (by omega), r3.less (by omega), hb5⟩
    · have HO0 : Hid (outO 3 a st = 4) := by show _ = _; unfold outO; rw [if_neg (by decide), if_neg (by unfold cellStop; simp), if_pos (by unfold rangeStop; simp [htp.out, hud.out, hin])]
      go_wp2_with fail
      go_quiet (fail)
      have HO7 := HO6.drewN (d := nq)
      have HR7 : Hid (BlkIs (W6.drewN nq) w.heap.size 44 #[.slice none 0 0, .slice none 0 0, .slice none 0 0, .int .i64 0]) := HR6.out
      have HB7 : Hid (Below w.heap.size w (W6.drewN nq)) := below_drewN HB6.out nq
      have HV07 : Hid (InL (W6.drewN nq) B A 4 vs) := HV0.out
      have HV17 : Hid (InL (W6.drewN nq) B A' 8 zs) := HV1.out
      have HS7 : Hid (InL (W6.drewN nq) B (some ⟨b2, o2, none⟩) st.length st) := HV2.out
      have hsX7 : wc.heap.size < (W6.drewN nq).heap.size := hsX
      have x07 : (W6.drewN nq).cell? ⟨wc.heap.size, 0, none⟩ = some (.int .i64 3) := x0
      have x17 : (W6.drewN nq).cell? ⟨wc.heap.size, 1, none⟩ = some (.int .i64 a) := x1
      have v37 : (W6.drewN nq).cell? ⟨b, 3, none⟩ = some (.int .i64 p) := v3
      have v27 : (W6.drewN nq).cell? ⟨b, 2, none⟩ = some (.slice (some ⟨b2, o2, none⟩) st.length c2) := v2
      have vc0 : (W6.drewN nq).cell? ⟨b, 0, none⟩ = some (.slice A 4 c) := HP6.out.cell 0
      have vc1 : (W6.drewN nq).cell? ⟨b, 1, none⟩ = some (.slice A' 8 c') := HP6.out.cell 1
      have uc7 : (W6.drewN nq).cell? ⟨b2, o2 + j, none⟩ = some (.int .i64 ud) := ucell
      generalize W6.drewN nq = W7 at HO7 HR7 HB7 HV07 HV17 HS7 hsX7 x07 x17 v37 v27 vc0 vc1 uc7 ⊢
      clear HO6 HR6 HB6 HV0 HV1 HV2 hX hbX hsX x0 x1 v2 v3 HP6 tcell ucell HRS
      have HI0 := l07Wide_c (tp + ud) W7
      rw [show (decide (-10000000000000000 ≤ tp + ud) && decide (tp + ud ≤ 10000000000000000)) = false from (by
        cases e : (decide (-10000000000000000 ≤ tp + ud) && decide (tp + ud ≤ 10000000000000000)) with
        | false => rfl
        | true => simp at e; exact absurd ⟨e.1, e.2⟩ hin)] at HI0
      have HI := Lib.hid HI0
      clear HI0
      go_wp2_with fail
      refine HI.out.mono ?_
      rintro e w9 ⟨rfl, rfl⟩
      have u0 : W7.cell? ⟨g, 0, none⟩ = some (.slice X 4 cx) := HO7.blk.cell 0
      have u1 : W7.cell? ⟨g, 1, none⟩ = some (.slice X' 8 cx') := HO7.blk.cell 1
      have u2 : W7.cell? ⟨g, 2, none⟩ = some (.slice X2 st.length cx2) := HO7.blk.cell 2
      have u3 : W7.cell? ⟨g, 3, none⟩ = some (.int .i64 (p : Int)) := HO7.blk.cell 3
      have z0 : W7.cell? ⟨w.heap.size, 0, none⟩ = some (.slice none 0 0) := HR7.out.cell 0
      have z1 : W7.cell? ⟨w.heap.size, 1, none⟩ = some (.slice none 0 0) := HR7.out.cell 1
      have z2 : W7.cell? ⟨w.heap.size, 2, none⟩ = some (.slice none 0 0) := HR7.out.cell 2
      have z3 : W7.cell? ⟨w.heap.size, 3, none⟩ = some (.int .i64 0) := HR7.out.cell 3
      have y0 := HR7.out.frozen 0
      have y1 := HR7.out.frozen 1
      have y2 := HR7.out.frozen 2
      have y3 := HR7.out.frozen 3
      go_wp2_with fail
      have hR5 := (((HR7.out.set 0 (.slice X 4 cx)).set 1 (.slice X' 8 cx')).set 2 (.slice X2 st.length cx2)).set 3 (.int .i64 (p : Int))
      have ho5 : Out w.heap.size (w.heap.size + 1) W7 ((((W7.setCell ⟨w.heap.size, 0, none⟩ (.slice X 4 cx)).setCell ⟨w.heap.size, 1, none⟩ (.slice X' 8 cx')).setCell ⟨w.heap.size, 2, none⟩ (.slice X2 st.length cx2)).setCell ⟨w.heap.size, 3, none⟩ (.int .i64 (p : Int))) := out_set (out_set (out_set (out_set (Out.refl _ _ _) (by omega)) (by omega)) (by omega)) (by omega)
      have HO5 := HO7.out ho5 (by omega)
      have s0 : ((((W7.setCell ⟨w.heap.size, 0, none⟩ (.slice X 4 cx)).setCell ⟨w.heap.size, 1, none⟩ (.slice X' 8 cx')).setCell ⟨w.heap.size, 2, none⟩ (.slice X2 st.length cx2)).setCell ⟨w.heap.size, 3, none⟩ (.int .i64 (p : Int))).cell? ⟨w.heap.size, 0, none⟩ = some (.slice X 4 cx) := by rw [hR5.cell 0]; simp
      have s1 : ((((W7.setCell ⟨w.heap.size, 0, none⟩ (.slice X 4 cx)).setCell ⟨w.heap.size, 1, none⟩ (.slice X' 8 cx')).setCell ⟨w.heap.size, 2, none⟩ (.slice X2 st.length cx2)).setCell ⟨w.heap.size, 3, none⟩ (.int .i64 (p : Int))).cell? ⟨w.heap.size, 1, none⟩ = some (.slice X' 8 cx') := by rw [hR5.cell 1]; simp
      have s2 : ((((W7.setCell ⟨w.heap.size, 0, none⟩ (.slice X 4 cx)).setCell ⟨w.heap.size, 1, none⟩ (.slice X' 8 cx')).setCell ⟨w.heap.size, 2, none⟩ (.slice X2 st.length cx2)).setCell ⟨w.heap.size, 3, none⟩ (.int .i64 (p : Int))).cell? ⟨w.heap.size, 2, none⟩ = some (.slice X2 st.length cx2) := by rw [hR5.cell 2]; simp
      have s3 : ((((W7.setCell ⟨w.heap.size, 0, none⟩ (.slice X 4 cx)).setCell ⟨w.heap.size, 1, none⟩ (.slice X' 8 cx')).setCell ⟨w.heap.size, 2, none⟩ (.slice X2 st.length cx2)).setCell ⟨w.heap.size, 3, none⟩ (.int .i64 (p : Int))).cell? ⟨w.heap.size, 3, none⟩ = some (.int .i64 (p : Int)) := by rw [hR5.cell 3]; simp
      have hb5 := (HB7.out).trans (ho5.below (Nat.le_refl _) (HB7.out).size)
      generalize ((((W7.setCell ⟨w.heap.size, 0, none⟩ (.slice X 4 cx)).setCell ⟨w.heap.size, 1, none⟩ (.slice X' 8 cx')).setCell ⟨w.heap.size, 2, none⟩ (.slice X2 st.length cx2)).setCell ⟨w.heap.size, 3, none⟩ (.int .i64 (p : Int))) = W5 at s0 s1 s2 s3 HO5 hb5 ⊢
      refine bodyPost_ret (v := .tuple #[.agg #[.slice X 4 cx, .slice X' 8 cx', .slice X2 st.length cx2, .int .i64 (p : Int)], .int .i64 4]) (by simp [results, Try.results62, go_sem, s0, s1, s2, s3]) rfl ?_
      rw [nextB_stop HO0.out (by decide)]
      obtain ⟨r1, r2, r3⟩ := HO5.rows
      exact ⟨X, cx, X', cx', X2, cx2, rfl, r1.less (by omega), r2.less (by omega), r3.less (by omega), hb5⟩
  · clear hops
    have epu : pushB 8 = 0 := rfl
    have jq : (j : Int) ≤ 6 := by have := hj.out; omega
    have fwp : IntKind.i64.wrap (j : Int) = (j : Int) := IntWalk.i64_in _ (by omega)
    have jt : (6 < (j : Int)) = False := by simp; omega
    have jtn : (6 < j) = False := by simp; omega
    by_cases hic : 0 ≤ ud ∧ ud ≤ 7
    · by_cases hin : intP tp
      · obtain ⟨un, rfl⟩ : ∃ un : Nat, ud = un := ⟨ud.toNat, by have := hic.1; omega⟩
        have hun : un < 8 := by have := hic.2; omega
        have hun0 : (0 : Int) ≤ (un : Int) := by omega
        have hun8 : (un : Int) < 8 := by omega
        have HO0 : Hid (outO 8 a st = 0) := outO_ok (by decide) (by unfold cellStop; rw [hud.out]; simp; omega) (by unfold rangeStop; simp [htp.out, hin]) (by simp)
        have HST : Hid (stO 8 a vs zs st = st.take j) := by
          show _ = _
          unfold stO
          rw [if_neg (by decide), restR_2 hj.out rfl]
        have HVS : Hid (varsO 8 a vs st = vs) := varsO_same (by decide) vs
        have HZS : Hid (cellsO 8 zs st = zs.set un tp) := by show _ = _; unfold cellsO; rw [if_pos rfl, htp.out, hud.out]; simp
        have HAT : Hid (atO 8 a st (p : Int) = (p : Int) + 1) := atO_next (by decide) (by decide)
        go_wp2_with fail
        go_quiet (fail)
        have HO7 := HO6.drewN (d := nq)
        have HR7 : Hid (BlkIs (W6.drewN nq) w.heap.size 44 #[.slice none 0 0, .slice none 0 0, .slice none 0 0, .int .i64 0]) := HR6.out
        have HB7 : Hid (Below w.heap.size w (W6.drewN nq)) := below_drewN HB6.out nq
        have HV07 : Hid (InL (W6.drewN nq) B A 4 vs) := HV0.out
        have HV17 : Hid (InL (W6.drewN nq) B A' 8 zs) := HV1.out
        have HS7 : Hid (InL (W6.drewN nq) B (some ⟨b2, o2, none⟩) st.length st) := HV2.out
        have hsX7 : wc.heap.size < (W6.drewN nq).heap.size := hsX
        have x07 : (W6.drewN nq).cell? ⟨wc.heap.size, 0, none⟩ = some (.int .i64 8) := x0
        have x17 : (W6.drewN nq).cell? ⟨wc.heap.size, 1, none⟩ = some (.int .i64 a) := x1
        have v37 : (W6.drewN nq).cell? ⟨b, 3, none⟩ = some (.int .i64 p) := v3
        have v27 : (W6.drewN nq).cell? ⟨b, 2, none⟩ = some (.slice (some ⟨b2, o2, none⟩) st.length c2) := v2
        have vc0 : (W6.drewN nq).cell? ⟨b, 0, none⟩ = some (.slice A 4 c) := HP6.out.cell 0
        have vc1 : (W6.drewN nq).cell? ⟨b, 1, none⟩ = some (.slice A' 8 c') := HP6.out.cell 1
        have uc7 : (W6.drewN nq).cell? ⟨b2, o2 + j, none⟩ = some (.int .i64 (un : Int)) := ucell
        generalize W6.drewN nq = W7 at HO7 HR7 HB7 HV07 HV17 HS7 hsX7 x07 x17 v37 v27 vc0 vc1 uc7 ⊢
        clear HO6 HR6 HB6 HV0 HV1 HV2 hX hbX hsX x0 x1 v2 v3 HP6 tcell ucell HRS
        have HC0 := l03Cell_c (un : Int) W7
        rw [show (decide (0 ≤ (un : Int)) && decide ((un : Int) ≤ 7)) = true from by simp; omega] at HC0
        have HC := Lib.hid HC0
        clear HC0
        have HI0 := l03Int_c tp W7
        rw [show (decide (-1000000000 ≤ tp) && decide (tp ≤ 1000000000)) = true from by simp [hin.1, hin.2]] at HI0
        have HI := Lib.hid HI0
        clear HI0
        go_wp2_with fail
        refine HC.out.mono ?_
        rintro e w9 ⟨rfl, rfl⟩
        go_wp2_with fail
        refine HI.out.mono ?_
        rintro e w9 ⟨rfl, rfl⟩
        go_wp2_with fail
        obtain ⟨bx, rfl, hbx0, hbf0⟩ := HO7.row1
        clear hbx0 hbf0
        refine (l00Own_c (some ⟨b2, o2, none⟩) j c2 B (st.take j) W7 (HS7.out.cut (by have := hj.out; omega)) (by have := HB7.out.size; omega) (by have := hj.out; omega)).mono ?_
        rintro e w8 ⟨Y, cy, rfl, ow8, hb8⟩
        have hl8 : (st.take j).length = j := by rw [List.length_take]; have := hj.out; omega
        have hs7 := HB7.out.size
        have hge7 := HO7.ge
        have ho8 : Out g (g + 1) W7 w8 := Out.of_below hb8
        have hB8 := HO7.blk.next hb8
        have k2 : w8.cell? ⟨g, 2, none⟩ = some (.slice X2 st.length cx2) := hB8.cell 2
        have kf2 := hB8.frozen 2
        have ho9 : Out g (g + 1) W7 (w8.setCell ⟨g, 2, none⟩ (.slice Y j cy)) := out_set ho8 (by omega)
        have hB9 : BlkIs (w8.setCell ⟨g, 2, none⟩ (.slice Y j cy)) g 44 #[.slice X 4 cx, .slice (some ⟨bx, 0, none⟩) 8 cx', .slice Y j cy, .int .i64 p] := hB8.set 2 _
        have k3 : (w8.setCell ⟨g, 2, none⟩ (.slice Y j cy)).cell? ⟨g, 3, none⟩ = some (.int .i64 p) := hB9.cell 3
        have kf3 := hB9.frozen 3
        have v39 := ho9.cell v37 (by omega)
        have fwq : IntKind.i64.wrap ((p : Int) + 1) = (p : Int) + 1 := IntWalk.i64_in _ (by omega)
        have ho10 : Out g (g + 1) W7 ((w8.setCell ⟨g, 2, none⟩ (.slice Y j cy)).setCell ⟨g, 3, none⟩ (.int .i64 ((p : Int) + 1))) := out_set ho9 (by omega)
        have hB10 : BlkIs ((w8.setCell ⟨g, 2, none⟩ (.slice Y j cy)).setCell ⟨g, 3, none⟩ (.int .i64 ((p : Int) + 1))) g 44 #[.slice X 4 cx, .slice (some ⟨bx, 0, none⟩) 8 cx', .slice Y j cy, .int .i64 ((p : Int) + 1)] := hB9.set 3 _
        have x010 := ho10.cell x07 (by omega)
        have x110 := ho10.cell x17 (by omega)
        have hR10 := HR7.out.out ho10 (by omega)
        have ow10 : OwnL ((w8.setCell ⟨g, 2, none⟩ (.slice Y j cy)).setCell ⟨g, 3, none⟩ (.int .i64 ((p : Int) + 1))) W7.heap.size w8.heap.size Y j cy (st.take j) := ow8.out (show Out g (g + 1) w8 ((w8.setCell ⟨g, 2, none⟩ (.slice Y j cy)).setCell ⟨g, 3, none⟩ (.int .i64 ((p : Int) + 1))) from out_set (out_set (Out.refl _ _ _) (by omega)) (by omega)) (by left; omega)
        have HOW10 := Lib.hid ow10
        have HOW8 := Lib.hid ow8
        clear ow10 ow8 hB8
        have HOT0 : OutIs ((w8.setCell ⟨g, 2, none⟩ (.slice Y j cy)).setCell ⟨g, 3, none⟩ (.int .i64 ((p : Int) + 1))) W.heap.size g X cx (some ⟨bx, 0, none⟩) cx' Y cy vs zs (st.take j) ((p : Int) + 1) := HO7.done ho10 (by rw [hl8]; exact hB10) (by rw [hl8]; exact HOW10.out)
        obtain ⟨bx', ebx, hbx, hbf⟩ := HOT0.row1
        have ebb : bx' = bx := by injection ebx with e; injection e with e; exact e.symm
        rw [ebb] at hbx hbf
        have hbc := hbx un hun
        have hbfz := hbf un
        have hr0 := HOT0.rows.2.1
        have hbl0 := hr0.2.1.lt bx rfl
        have kg0 : ((w8.setCell ⟨g, 2, none⟩ (.slice Y j cy)).setCell ⟨g, 3, none⟩ (.int .i64 ((p : Int) + 1))).cell? ⟨g, 1, none⟩ = some (.slice (some ⟨bx, 0, none⟩) 8 cx') := hB10.cell 1
        have ho11 : Out g (g + 1) W7 ((w8.setCell ⟨g, 2, none⟩ (.slice Y j cy)).setCell ⟨g, 3, none⟩ (.int .i64 ((p : Int) + 1))) := ho10
        have hRE0 : BlkIs ((w8.setCell ⟨g, 2, none⟩ (.slice Y j cy)).setCell ⟨g, 3, none⟩ (.int .i64 ((p : Int) + 1))) w.heap.size 44 #[.slice none 0 0, .slice none 0 0, .slice none 0 0, .int .i64 0] := HR7.out.out ho10 (by omega)
        clear HOT0 hr0 ebx hbx hbf ebb
        have HOF0 : OutIs ((w8.setCell ⟨g, 2, none⟩ (.slice Y j cy)).setCell ⟨g, 3, none⟩ (.int .i64 ((p : Int) + 1))) W.heap.size g X cx (some ⟨bx, 0, none⟩) cx' Y cy vs zs (st.take j) (((p : Int) + 1)) := HO7.done ho10 (by rw [hl8]; exact hB10) (by rw [hl8]; exact HOW10.out)
        have HOF := HOF0.cells rfl hun tp
        clear HOF0
        have hRE := hRE0.far (show w.heap.size ≠ bx by omega) un (.int .i64 tp)
        have u0 : (((w8.setCell ⟨g, 2, none⟩ (.slice Y j cy)).setCell ⟨g, 3, none⟩ (.int .i64 ((p : Int) + 1))).setCell ⟨bx, un, none⟩ (.int .i64 tp)).cell? ⟨g, 0, none⟩ = some (.slice X 4 cx) := HOF.blk.cell 0
        have u1 : (((w8.setCell ⟨g, 2, none⟩ (.slice Y j cy)).setCell ⟨g, 3, none⟩ (.int .i64 ((p : Int) + 1))).setCell ⟨bx, un, none⟩ (.int .i64 tp)).cell? ⟨g, 1, none⟩ = some (.slice (some ⟨bx, 0, none⟩) 8 cx') := HOF.blk.cell 1
        have u2 : (((w8.setCell ⟨g, 2, none⟩ (.slice Y j cy)).setCell ⟨g, 3, none⟩ (.int .i64 ((p : Int) + 1))).setCell ⟨bx, un, none⟩ (.int .i64 tp)).cell? ⟨g, 2, none⟩ = some (.slice Y j cy) := (by have := HOF.blk.cell 2; rw [hl8] at this; exact this)
        have u3 : (((w8.setCell ⟨g, 2, none⟩ (.slice Y j cy)).setCell ⟨g, 3, none⟩ (.int .i64 ((p : Int) + 1))).setCell ⟨bx, un, none⟩ (.int .i64 tp)).cell? ⟨g, 3, none⟩ = some (.int .i64 ((p : Int) + 1)) := HOF.blk.cell 3
        have z0 : (((w8.setCell ⟨g, 2, none⟩ (.slice Y j cy)).setCell ⟨g, 3, none⟩ (.int .i64 ((p : Int) + 1))).setCell ⟨bx, un, none⟩ (.int .i64 tp)).cell? ⟨w.heap.size, 0, none⟩ = some (.slice none 0 0) := hRE.cell 0
        have z1 : (((w8.setCell ⟨g, 2, none⟩ (.slice Y j cy)).setCell ⟨g, 3, none⟩ (.int .i64 ((p : Int) + 1))).setCell ⟨bx, un, none⟩ (.int .i64 tp)).cell? ⟨w.heap.size, 1, none⟩ = some (.slice none 0 0) := hRE.cell 1
        have z2 : (((w8.setCell ⟨g, 2, none⟩ (.slice Y j cy)).setCell ⟨g, 3, none⟩ (.int .i64 ((p : Int) + 1))).setCell ⟨bx, un, none⟩ (.int .i64 tp)).cell? ⟨w.heap.size, 2, none⟩ = some (.slice none 0 0) := hRE.cell 2
        have z3 : (((w8.setCell ⟨g, 2, none⟩ (.slice Y j cy)).setCell ⟨g, 3, none⟩ (.int .i64 ((p : Int) + 1))).setCell ⟨bx, un, none⟩ (.int .i64 tp)).cell? ⟨w.heap.size, 3, none⟩ = some (.int .i64 0) := hRE.cell 3
        have y0 := hRE.frozen 0
        have y1 := hRE.frozen 1
        have y2 := hRE.frozen 2
        have y3 := hRE.frozen 3
        have hbF := (HB7.out.trans (ho10.below (by omega) (by omega) : Below w.heap.size W7 ((w8.setCell ⟨g, 2, none⟩ (.slice Y j cy)).setCell ⟨g, 3, none⟩ (.int .i64 ((p : Int) + 1))))).setCell (p := ⟨bx, un, none⟩) (by show w.heap.size ≤ bx; omega) (.int .i64 tp)
        go_wp2_with fail
        have hR5 := (((hRE.set 0 (.slice X 4 cx)).set 1 (.slice (some ⟨bx, 0, none⟩) 8 cx')).set 2 (.slice Y j cy)).set 3 (.int .i64 ((p : Int) + 1))
        have ho5 : Out w.heap.size (w.heap.size + 1) (((w8.setCell ⟨g, 2, none⟩ (.slice Y j cy)).setCell ⟨g, 3, none⟩ (.int .i64 ((p : Int) + 1))).setCell ⟨bx, un, none⟩ (.int .i64 tp)) (((((((w8.setCell ⟨g, 2, none⟩ (.slice Y j cy)).setCell ⟨g, 3, none⟩ (.int .i64 ((p : Int) + 1))).setCell ⟨bx, un, none⟩ (.int .i64 tp)).setCell ⟨w.heap.size, 0, none⟩ (.slice X 4 cx)).setCell ⟨w.heap.size, 1, none⟩ (.slice (some ⟨bx, 0, none⟩) 8 cx')).setCell ⟨w.heap.size, 2, none⟩ (.slice Y j cy)).setCell ⟨w.heap.size, 3, none⟩ (.int .i64 ((p : Int) + 1))) := out_set (out_set (out_set (out_set (Out.refl _ _ _) (by omega)) (by omega)) (by omega)) (by omega)
        have HO5 := HOF.out ho5 (by omega)
        have s0 : (((((((w8.setCell ⟨g, 2, none⟩ (.slice Y j cy)).setCell ⟨g, 3, none⟩ (.int .i64 ((p : Int) + 1))).setCell ⟨bx, un, none⟩ (.int .i64 tp)).setCell ⟨w.heap.size, 0, none⟩ (.slice X 4 cx)).setCell ⟨w.heap.size, 1, none⟩ (.slice (some ⟨bx, 0, none⟩) 8 cx')).setCell ⟨w.heap.size, 2, none⟩ (.slice Y j cy)).setCell ⟨w.heap.size, 3, none⟩ (.int .i64 ((p : Int) + 1))).cell? ⟨w.heap.size, 0, none⟩ = some (.slice X 4 cx) := by rw [hR5.cell 0]; simp
        have s1 : (((((((w8.setCell ⟨g, 2, none⟩ (.slice Y j cy)).setCell ⟨g, 3, none⟩ (.int .i64 ((p : Int) + 1))).setCell ⟨bx, un, none⟩ (.int .i64 tp)).setCell ⟨w.heap.size, 0, none⟩ (.slice X 4 cx)).setCell ⟨w.heap.size, 1, none⟩ (.slice (some ⟨bx, 0, none⟩) 8 cx')).setCell ⟨w.heap.size, 2, none⟩ (.slice Y j cy)).setCell ⟨w.heap.size, 3, none⟩ (.int .i64 ((p : Int) + 1))).cell? ⟨w.heap.size, 1, none⟩ = some (.slice (some ⟨bx, 0, none⟩) 8 cx') := by rw [hR5.cell 1]; simp
        have s2 : (((((((w8.setCell ⟨g, 2, none⟩ (.slice Y j cy)).setCell ⟨g, 3, none⟩ (.int .i64 ((p : Int) + 1))).setCell ⟨bx, un, none⟩ (.int .i64 tp)).setCell ⟨w.heap.size, 0, none⟩ (.slice X 4 cx)).setCell ⟨w.heap.size, 1, none⟩ (.slice (some ⟨bx, 0, none⟩) 8 cx')).setCell ⟨w.heap.size, 2, none⟩ (.slice Y j cy)).setCell ⟨w.heap.size, 3, none⟩ (.int .i64 ((p : Int) + 1))).cell? ⟨w.heap.size, 2, none⟩ = some (.slice Y j cy) := by rw [hR5.cell 2]; simp
        have s3 : (((((((w8.setCell ⟨g, 2, none⟩ (.slice Y j cy)).setCell ⟨g, 3, none⟩ (.int .i64 ((p : Int) + 1))).setCell ⟨bx, un, none⟩ (.int .i64 tp)).setCell ⟨w.heap.size, 0, none⟩ (.slice X 4 cx)).setCell ⟨w.heap.size, 1, none⟩ (.slice (some ⟨bx, 0, none⟩) 8 cx')).setCell ⟨w.heap.size, 2, none⟩ (.slice Y j cy)).setCell ⟨w.heap.size, 3, none⟩ (.int .i64 ((p : Int) + 1))).cell? ⟨w.heap.size, 3, none⟩ = some (.int .i64 ((p : Int) + 1)) := by rw [hR5.cell 3]; simp
        have hb5 := (hbF).trans (ho5.below (Nat.le_refl _) (hbF).size)
        generalize (((((((w8.setCell ⟨g, 2, none⟩ (.slice Y j cy)).setCell ⟨g, 3, none⟩ (.int .i64 ((p : Int) + 1))).setCell ⟨bx, un, none⟩ (.int .i64 tp)).setCell ⟨w.heap.size, 0, none⟩ (.slice X 4 cx)).setCell ⟨w.heap.size, 1, none⟩ (.slice (some ⟨bx, 0, none⟩) 8 cx')).setCell ⟨w.heap.size, 2, none⟩ (.slice Y j cy)).setCell ⟨w.heap.size, 3, none⟩ (.int .i64 ((p : Int) + 1))) = W5 at s0 s1 s2 s3 HO5 hb5 ⊢
        refine bodyPost_ret (v := .tuple #[.agg #[.slice X 4 cx, .slice (some ⟨bx, 0, none⟩) 8 cx', .slice Y j cy, .int .i64 ((p : Int) + 1)], .int .i64 0]) (by simp [results, Try.results62, go_sem, s0, s1, s2, s3]) rfl ?_
        rw [nextB_done HO0.out, HVS.out, HZS.out, HST.out, HAT.out]
        obtain ⟨r1, r2, r3⟩ := HO5.rows
        exact ⟨X, cx, (some ⟨bx, 0, none⟩), cx', Y, cy, by rw [hl8], r1.less (by omega), r2.less (by omega), r3.less (by omega), hb5⟩
      · obtain ⟨un, rfl⟩ : ∃ un : Nat, ud = un := ⟨ud.toNat, by have := hic.1; omega⟩
        have hun : un < 8 := by have := hic.2; omega
        have hun0 : (0 : Int) ≤ (un : Int) := by omega
        have hun8 : (un : Int) < 8 := by omega
        have HO0 : Hid (outO 8 a st = 4) := by show _ = _; unfold outO; rw [if_neg (by decide), if_neg (by unfold cellStop; rw [hud.out]; simp; omega), if_pos (by unfold rangeStop; simp [htp.out, hin])]
        go_wp2_with fail
        go_quiet (fail)
        have HO7 := HO6.drewN (d := nq)
        have HR7 : Hid (BlkIs (W6.drewN nq) w.heap.size 44 #[.slice none 0 0, .slice none 0 0, .slice none 0 0, .int .i64 0]) := HR6.out
        have HB7 : Hid (Below w.heap.size w (W6.drewN nq)) := below_drewN HB6.out nq
        have HV07 : Hid (InL (W6.drewN nq) B A 4 vs) := HV0.out
        have HV17 : Hid (InL (W6.drewN nq) B A' 8 zs) := HV1.out
        have HS7 : Hid (InL (W6.drewN nq) B (some ⟨b2, o2, none⟩) st.length st) := HV2.out
        have hsX7 : wc.heap.size < (W6.drewN nq).heap.size := hsX
        have x07 : (W6.drewN nq).cell? ⟨wc.heap.size, 0, none⟩ = some (.int .i64 8) := x0
        have x17 : (W6.drewN nq).cell? ⟨wc.heap.size, 1, none⟩ = some (.int .i64 a) := x1
        have v37 : (W6.drewN nq).cell? ⟨b, 3, none⟩ = some (.int .i64 p) := v3
        have v27 : (W6.drewN nq).cell? ⟨b, 2, none⟩ = some (.slice (some ⟨b2, o2, none⟩) st.length c2) := v2
        have vc0 : (W6.drewN nq).cell? ⟨b, 0, none⟩ = some (.slice A 4 c) := HP6.out.cell 0
        have vc1 : (W6.drewN nq).cell? ⟨b, 1, none⟩ = some (.slice A' 8 c') := HP6.out.cell 1
        have uc7 : (W6.drewN nq).cell? ⟨b2, o2 + j, none⟩ = some (.int .i64 (un : Int)) := ucell
        generalize W6.drewN nq = W7 at HO7 HR7 HB7 HV07 HV17 HS7 hsX7 x07 x17 v37 v27 vc0 vc1 uc7 ⊢
        clear HO6 HR6 HB6 HV0 HV1 HV2 hX hbX hsX x0 x1 v2 v3 HP6 tcell ucell HRS
        have HC0 := l03Cell_c (un : Int) W7
        rw [show (decide (0 ≤ (un : Int)) && decide ((un : Int) ≤ 7)) = true from by simp; omega] at HC0
        have HC := Lib.hid HC0
        clear HC0
        have HI0 := l03Int_c tp W7
        rw [show (decide (-1000000000 ≤ tp) && decide (tp ≤ 1000000000)) = false from (by
          cases e : (decide (-1000000000 ≤ tp) && decide (tp ≤ 1000000000)) with
          | false => rfl
          | true => simp at e; exact absurd ⟨e.1, e.2⟩ hin)] at HI0
        have HI := Lib.hid HI0
        clear HI0
        go_wp2_with fail
        refine HC.out.mono ?_
        rintro e w9 ⟨rfl, rfl⟩
        go_wp2_with fail
        refine HI.out.mono ?_
        rintro e w9 ⟨rfl, rfl⟩
        have u0 : W7.cell? ⟨g, 0, none⟩ = some (.slice X 4 cx) := HO7.blk.cell 0
        have u1 : W7.cell? ⟨g, 1, none⟩ = some (.slice X' 8 cx') := HO7.blk.cell 1
        have u2 : W7.cell? ⟨g, 2, none⟩ = some (.slice X2 st.length cx2) := HO7.blk.cell 2
        have u3 : W7.cell? ⟨g, 3, none⟩ = some (.int .i64 (p : Int)) := HO7.blk.cell 3
        have z0 : W7.cell? ⟨w.heap.size, 0, none⟩ = some (.slice none 0 0) := HR7.out.cell 0
        have z1 : W7.cell? ⟨w.heap.size, 1, none⟩ = some (.slice none 0 0) := HR7.out.cell 1
        have z2 : W7.cell? ⟨w.heap.size, 2, none⟩ = some (.slice none 0 0) := HR7.out.cell 2
        have z3 : W7.cell? ⟨w.heap.size, 3, none⟩ = some (.int .i64 0) := HR7.out.cell 3
        have y0 := HR7.out.frozen 0
        have y1 := HR7.out.frozen 1
        have y2 := HR7.out.frozen 2
        have y3 := HR7.out.frozen 3
        go_wp2_with fail
        have hR5 := (((HR7.out.set 0 (.slice X 4 cx)).set 1 (.slice X' 8 cx')).set 2 (.slice X2 st.length cx2)).set 3 (.int .i64 (p : Int))
        have ho5 : Out w.heap.size (w.heap.size + 1) W7 ((((W7.setCell ⟨w.heap.size, 0, none⟩ (.slice X 4 cx)).setCell ⟨w.heap.size, 1, none⟩ (.slice X' 8 cx')).setCell ⟨w.heap.size, 2, none⟩ (.slice X2 st.length cx2)).setCell ⟨w.heap.size, 3, none⟩ (.int .i64 (p : Int))) := out_set (out_set (out_set (out_set (Out.refl _ _ _) (by omega)) (by omega)) (by omega)) (by omega)
        have HO5 := HO7.out ho5 (by omega)
        have s0 : ((((W7.setCell ⟨w.heap.size, 0, none⟩ (.slice X 4 cx)).setCell ⟨w.heap.size, 1, none⟩ (.slice X' 8 cx')).setCell ⟨w.heap.size, 2, none⟩ (.slice X2 st.length cx2)).setCell ⟨w.heap.size, 3, none⟩ (.int .i64 (p : Int))).cell? ⟨w.heap.size, 0, none⟩ = some (.slice X 4 cx) := by rw [hR5.cell 0]; simp
        have s1 : ((((W7.setCell ⟨w.heap.size, 0, none⟩ (.slice X 4 cx)).setCell ⟨w.heap.size, 1, none⟩ (.slice X' 8 cx')).setCell ⟨w.heap.size, 2, none⟩ (.slice X2 st.length cx2)).setCell ⟨w.heap.size, 3, none⟩ (.int .i64 (p : Int))).cell? ⟨w.heap.size, 1, none⟩ = some (.slice X' 8 cx') := by rw [hR5.cell 1]; simp
        have s2 : ((((W7.setCell ⟨w.heap.size, 0, none⟩ (.slice X 4 cx)).setCell ⟨w.heap.size, 1, none⟩ (.slice X' 8 cx')).setCell ⟨w.heap.size, 2, none⟩ (.slice X2 st.length cx2)).setCell ⟨w.heap.size, 3, none⟩ (.int .i64 (p : Int))).cell? ⟨w.heap.size, 2, none⟩ = some (.slice X2 st.length cx2) := by rw [hR5.cell 2]; simp
        have s3 : ((((W7.setCell ⟨w.heap.size, 0, none⟩ (.slice X 4 cx)).setCell ⟨w.heap.size, 1, none⟩ (.slice X' 8 cx')).setCell ⟨w.heap.size, 2, none⟩ (.slice X2 st.length cx2)).setCell ⟨w.heap.size, 3, none⟩ (.int .i64 (p : Int))).cell? ⟨w.heap.size, 3, none⟩ = some (.int .i64 (p : Int)) := by rw [hR5.cell 3]; simp
        have hb5 := (HB7.out).trans (ho5.below (Nat.le_refl _) (HB7.out).size)
        generalize ((((W7.setCell ⟨w.heap.size, 0, none⟩ (.slice X 4 cx)).setCell ⟨w.heap.size, 1, none⟩ (.slice X' 8 cx')).setCell ⟨w.heap.size, 2, none⟩ (.slice X2 st.length cx2)).setCell ⟨w.heap.size, 3, none⟩ (.int .i64 (p : Int))) = W5 at s0 s1 s2 s3 HO5 hb5 ⊢
        refine bodyPost_ret (v := .tuple #[.agg #[.slice X 4 cx, .slice X' 8 cx', .slice X2 st.length cx2, .int .i64 (p : Int)], .int .i64 4]) (by simp [results, Try.results62, go_sem, s0, s1, s2, s3]) rfl ?_
        rw [nextB_stop HO0.out (by decide)]
        obtain ⟨r1, r2, r3⟩ := HO5.rows
        exact ⟨X, cx, X', cx', X2, cx2, rfl, r1.less (by omega), r2.less (by omega), r3.less (by omega), hb5⟩
    · have HO0 : Hid (outO 8 a st = 2) := by show _ = _; unfold outO; rw [if_neg (by decide), if_pos (.inr ⟨rfl, by rw [hud.out]; exact hic⟩)]
      go_wp2_with fail
      go_quiet (fail)
      have HO7 := HO6.drewN (d := nq)
      have HR7 : Hid (BlkIs (W6.drewN nq) w.heap.size 44 #[.slice none 0 0, .slice none 0 0, .slice none 0 0, .int .i64 0]) := HR6.out
      have HB7 : Hid (Below w.heap.size w (W6.drewN nq)) := below_drewN HB6.out nq
      have HV07 : Hid (InL (W6.drewN nq) B A 4 vs) := HV0.out
      have HV17 : Hid (InL (W6.drewN nq) B A' 8 zs) := HV1.out
      have HS7 : Hid (InL (W6.drewN nq) B (some ⟨b2, o2, none⟩) st.length st) := HV2.out
      have hsX7 : wc.heap.size < (W6.drewN nq).heap.size := hsX
      have x07 : (W6.drewN nq).cell? ⟨wc.heap.size, 0, none⟩ = some (.int .i64 8) := x0
      have x17 : (W6.drewN nq).cell? ⟨wc.heap.size, 1, none⟩ = some (.int .i64 a) := x1
      have v37 : (W6.drewN nq).cell? ⟨b, 3, none⟩ = some (.int .i64 p) := v3
      have v27 : (W6.drewN nq).cell? ⟨b, 2, none⟩ = some (.slice (some ⟨b2, o2, none⟩) st.length c2) := v2
      have vc0 : (W6.drewN nq).cell? ⟨b, 0, none⟩ = some (.slice A 4 c) := HP6.out.cell 0
      have vc1 : (W6.drewN nq).cell? ⟨b, 1, none⟩ = some (.slice A' 8 c') := HP6.out.cell 1
      have uc7 : (W6.drewN nq).cell? ⟨b2, o2 + j, none⟩ = some (.int .i64 ud) := ucell
      generalize W6.drewN nq = W7 at HO7 HR7 HB7 HV07 HV17 HS7 hsX7 x07 x17 v37 v27 vc0 vc1 uc7 ⊢
      clear HO6 HR6 HB6 HV0 HV1 HV2 hX hbX hsX x0 x1 v2 v3 HP6 tcell ucell HRS
      have HC0 := l03Cell_c ud W7
      rw [show (decide (0 ≤ ud) && decide (ud ≤ 7)) = false from (by
        cases e : (decide (0 ≤ ud) && decide (ud ≤ 7)) with
        | false => rfl
        | true => simp at e; exact absurd ⟨e.1, e.2⟩ hic)] at HC0
      have HC := Lib.hid HC0
      clear HC0
      go_wp2_with fail
      refine HC.out.mono ?_
      rintro e w9 ⟨rfl, rfl⟩
      have u0 : W7.cell? ⟨g, 0, none⟩ = some (.slice X 4 cx) := HO7.blk.cell 0
      have u1 : W7.cell? ⟨g, 1, none⟩ = some (.slice X' 8 cx') := HO7.blk.cell 1
      have u2 : W7.cell? ⟨g, 2, none⟩ = some (.slice X2 st.length cx2) := HO7.blk.cell 2
      have u3 : W7.cell? ⟨g, 3, none⟩ = some (.int .i64 (p : Int)) := HO7.blk.cell 3
      have z0 : W7.cell? ⟨w.heap.size, 0, none⟩ = some (.slice none 0 0) := HR7.out.cell 0
      have z1 : W7.cell? ⟨w.heap.size, 1, none⟩ = some (.slice none 0 0) := HR7.out.cell 1
      have z2 : W7.cell? ⟨w.heap.size, 2, none⟩ = some (.slice none 0 0) := HR7.out.cell 2
      have z3 : W7.cell? ⟨w.heap.size, 3, none⟩ = some (.int .i64 0) := HR7.out.cell 3
      have y0 := HR7.out.frozen 0
      have y1 := HR7.out.frozen 1
      have y2 := HR7.out.frozen 2
      have y3 := HR7.out.frozen 3
      go_wp2_with fail
      have hR5 := (((HR7.out.set 0 (.slice X 4 cx)).set 1 (.slice X' 8 cx')).set 2 (.slice X2 st.length cx2)).set 3 (.int .i64 (p : Int))
      have ho5 : Out w.heap.size (w.heap.size + 1) W7 ((((W7.setCell ⟨w.heap.size, 0, none⟩ (.slice X 4 cx)).setCell ⟨w.heap.size, 1, none⟩ (.slice X' 8 cx')).setCell ⟨w.heap.size, 2, none⟩ (.slice X2 st.length cx2)).setCell ⟨w.heap.size, 3, none⟩ (.int .i64 (p : Int))) := out_set (out_set (out_set (out_set (Out.refl _ _ _) (by omega)) (by omega)) (by omega)) (by omega)
      have HO5 := HO7.out ho5 (by omega)
      have s0 : ((((W7.setCell ⟨w.heap.size, 0, none⟩ (.slice X 4 cx)).setCell ⟨w.heap.size, 1, none⟩ (.slice X' 8 cx')).setCell ⟨w.heap.size, 2, none⟩ (.slice X2 st.length cx2)).setCell ⟨w.heap.size, 3, none⟩ (.int .i64 (p : Int))).cell? ⟨w.heap.size, 0, none⟩ = some (.slice X 4 cx) := by rw [hR5.cell 0]; simp
      have s1 : ((((W7.setCell ⟨w.heap.size, 0, none⟩ (.slice X 4 cx)).setCell ⟨w.heap.size, 1, none⟩ (.slice X' 8 cx')).setCell ⟨w.heap.size, 2, none⟩ (.slice X2 st.length cx2)).setCell ⟨w.heap.size, 3, none⟩ (.int .i64 (p : Int))).cell? ⟨w.heap.size, 1, none⟩ = some (.slice X' 8 cx') := by rw [hR5.cell 1]; simp
      have s2 : ((((W7.setCell ⟨w.heap.size, 0, none⟩ (.slice X 4 cx)).setCell ⟨w.heap.size, 1, none⟩ (.slice X' 8 cx')).setCell ⟨w.heap.size, 2, none⟩ (.slice X2 st.length cx2)).setCell ⟨w.heap.size, 3, none⟩ (.int .i64 (p : Int))).cell? ⟨w.heap.size, 2, none⟩ = some (.slice X2 st.length cx2) := by rw [hR5.cell 2]; simp
      have s3 : ((((W7.setCell ⟨w.heap.size, 0, none⟩ (.slice X 4 cx)).setCell ⟨w.heap.size, 1, none⟩ (.slice X' 8 cx')).setCell ⟨w.heap.size, 2, none⟩ (.slice X2 st.length cx2)).setCell ⟨w.heap.size, 3, none⟩ (.int .i64 (p : Int))).cell? ⟨w.heap.size, 3, none⟩ = some (.int .i64 (p : Int)) := by rw [hR5.cell 3]; simp
      have hb5 := (HB7.out).trans (ho5.below (Nat.le_refl _) (HB7.out).size)
      generalize ((((W7.setCell ⟨w.heap.size, 0, none⟩ (.slice X 4 cx)).setCell ⟨w.heap.size, 1, none⟩ (.slice X' 8 cx')).setCell ⟨w.heap.size, 2, none⟩ (.slice X2 st.length cx2)).setCell ⟨w.heap.size, 3, none⟩ (.int .i64 (p : Int))) = W5 at s0 s1 s2 s3 HO5 hb5 ⊢
      refine bodyPost_ret (v := .tuple #[.agg #[.slice X 4 cx, .slice X' 8 cx', .slice X2 st.length cx2, .int .i64 (p : Int)], .int .i64 2]) (by simp [results, Try.results62, go_sem, s0, s1, s2, s3]) rfl ?_
      rw [nextB_stop HO0.out (by decide)]
      obtain ⟨r1, r2, r3⟩ := HO5.rows
      exact ⟨X, cx, X', cx', X2, cx2, rfl, r1.less (by omega), r2.less (by omega), r3.less (by omega), hb5⟩
end Go.Proofs.Ytnfapodeifpeoaa

