/-
  A step of the model: operations that pop 0 numbers. Conditions: valid code, a valid config.
-/
import Derived.Test.YtnfapodeifpeoaaNextQ
import Derived.Deep.DeepCutAuto
import Derived.OwnWalk
namespace Go.Proofs.Ytnfapodeifpeoaa
set_option linter.unusedVariables false
open Go.RowKit

set_option maxRecDepth 100000 in
set_option maxHeartbeats 40000000 in
theorem next_pops0 (b : Nat) (A : Option Addr) (c : Nat) (vs : List Int) (A' : Option Addr) (c' : Nat) (zs : List Int) (A2 : Option Addr) (c2 : Nat) (st : List Int) (C : Option Addr) (k cc : Nat) (cs : List (Int × Int)) (B : Nat) (w : World) (p : Nat) (op a : Int) (hP : BlkIs w b 44 #[.slice A 4 c, .slice A' 8 c', .slice A2 st.length c2, .int .i64 p]) (h0 : InL w B A 4 vs) (h1 : InL w B A' 8 zs) (h2 : InL w B A2 st.length st) (hC : InC w B C k cs) (hB : B ≤ w.heap.size) (h6 : st.length ≤ 6) (hc2 : st.length ≤ c2) (hk8 : k ≤ 80) (hx : cs[p]? = some (op, a)) (hi : instrB op a = true) (hpop : popB op = 0) (hf : fitB op (st.length : Int) = true) (v : CfV vs zs st p) (hops : Hid (op = 0 ∨ op = 1 ∨ op = 5 ∨ op = 9 ∨ op = 11)) :
    Calls Try.prog 62 #[.slice C k cc, .pointer (some ⟨b, 0, none⟩)] w (NextB op a vs zs st p w) := by
  have hlt := hP.lt
  have hb0 : Below w.heap.size w (w.alloc (.cells #[.slice none 0 0, .slice none 0 0, .slice none 0 0, .int .i64 0] 44)) := bnew _ _
  have hR : BlkIs (w.alloc (.cells #[.slice none 0 0, .slice none 0 0, .slice none 0 0, .int .i64 0] 44)) w.heap.size 44 #[.slice none 0 0, .slice none 0 0, .slice none 0 0, .int .i64 0] := blk_new _ _ _ _ rfl
  have hsz : (w.alloc (.cells #[.slice none 0 0, .slice none 0 0, .slice none 0 0, .int .i64 0] 44)).heap.size = w.heap.size + 1 := by simp
  have hP1 := hP.next hb0
  have H0 := Lib.hid (h0.next hb0 hB)
  have H1 := Lib.hid (h1.next hb0 hB)
  have H2 := Lib.hid (h2.next hb0 hB)
  have HC := Lib.hid (hC.next hb0 hB)
  clear hP h0 h1 h2 hC
  go_enter Try.func62, Try.ntmps62
  go_wp2_with fail
  generalize w.alloc (.cells #[.slice none 0 0, .slice none 0 0, .slice none 0 0, .int .i64 0] 44) = W at hb0 hR hsz hP1 H0 H1 H2 HC ⊢
  have p0 : W.cell? ⟨b, 0, none⟩ = some (.slice A 4 c) := hP1.cell 0
  have p1 : W.cell? ⟨b, 1, none⟩ = some (.slice A' 8 c') := hP1.cell 1
  have p2 : W.cell? ⟨b, 2, none⟩ = some (.slice A2 st.length c2) := hP1.cell 2
  have p3 : W.cell? ⟨b, 3, none⟩ = some (.int .i64 p) := hP1.cell 3
  have HV := Lib.hid (fun (x : World) (hx : Below W.heap.size W x) => l03Own_c b A 4 c vs A' 8 c' zs B x (cell_next p0 hx) (cell_next p1 hx) (H0.out.next hx (by omega)) (H1.out.next hx (by omega)) (by have := hx.size; omega) (by omega) (by omega))
  have HZ := Lib.hid (fun (x : World) (hx : Below W.heap.size W x) => l00Own_c A2 st.length c2 B st x (H2.out.next hx (by omega)) (by have := hx.size; omega) (by omega))
  go_cut [6] (fun s6 wx => ∃ g X cx X' cx' X2 cx2, s6 = .pointer (some ⟨g, 0, none⟩) ∧ Below W.heap.size W wx ∧ OutIs wx W.heap.size g X cx X' cx' X2 cx2 vs zs st p)
  case first =>
    have hbD : Below W.heap.size W W.drew := (Below.refl _ W).drew
    have hbA := bnew W (.cells #[.slice none 0 0, .slice none 0 0, .slice none 0 0, .int .i64 0] 44)
    have hbAD : Below W.heap.size W (W.alloc (.cells #[.slice none 0 0, .slice none 0 0, .slice none 0 0, .int .i64 0] 44)).drew := hbA.drew
    have hsA : (W.alloc (.cells #[.slice none 0 0, .slice none 0 0, .slice none 0 0, .int .i64 0] 44)).heap.size = W.heap.size + 1 := by simp
    have hWd : W.drew.heap.size = W.heap.size := rfl
    refine wp_region_held_drew (S := fun W' => W'.cell? ⟨b, 0, none⟩ = some (.slice A 4 c) ∧ W'.cell? ⟨b, 1, none⟩ = some (.slice A' 8 c') ∧ W'.cell? ⟨b, 2, none⟩ = some (.slice A2 st.length c2) ∧ W'.cell? ⟨b, 3, none⟩ = some (.int .i64 p)) (by kernel_rfl) ⟨p0, p1, p2, p3⟩ ?_
    intro hHeld
    refine wpAnyH_take (i := 0) (v := ?_) rfl (by kernel_rfl) (by kernel_rfl) (by kernel_rfl) (fun _ _ _ h => h) (Or.inl ⟨by kernel_rfl, ?_⟩) (by assumption) ?_
    rotate_left
    · intro w9 hS9; (try dsimp only at hS9); go_simp; (try with_reducible rfl)
    set_option linter.unusedSimpArgs false in try simp only [Act.put, List.getElem_toArray, List.getElem_cons_succ, List.getElem_cons_zero, List.setIfInBounds_toArray, List.set_cons_zero, List.set_cons_succ]
    refine wpAnyH_take (i := 1) (v := ?_) rfl (by kernel_rfl) (by kernel_rfl) (by kernel_rfl) (fun _ _ _ h => h) (Or.inl ⟨by kernel_rfl, ?_⟩) (by assumption) ?_
    rotate_left
    · intro w9 hS9; (try dsimp only at hS9); go_simp; (try with_reducible rfl)
    set_option linter.unusedSimpArgs false in try simp only [Act.put, List.getElem_toArray, List.getElem_cons_succ, List.getElem_cons_zero, List.setIfInBounds_toArray, List.set_cons_zero, List.set_cons_succ]
    refine wpAnyH_take (i := 2) (v := ?_) rfl (by kernel_rfl) (by kernel_rfl) (by kernel_rfl) (fun _ _ _ h => h) (Or.inl ⟨by kernel_rfl, ?_⟩) (by assumption) ?_
    rotate_left
    · intro w9 hS9; (try dsimp only at hS9); go_simp; (try with_reducible rfl)
    set_option linter.unusedSimpArgs false in try simp only [Act.put, List.getElem_toArray, List.getElem_cons_succ, List.getElem_cons_zero, List.setIfInBounds_toArray, List.set_cons_zero, List.set_cons_succ]
    refine wpAnyH_take (i := 4) (v := ?_) rfl (by kernel_rfl) (by kernel_rfl) (by kernel_rfl) (fun _ _ _ h => h) (Or.inl ⟨by kernel_rfl, ?_⟩) (by assumption) ?_
    rotate_left
    · intro w9 hS9; (try dsimp only at hS9); go_simp; (try with_reducible rfl)
    set_option linter.unusedSimpArgs false in try simp only [Act.put, List.getElem_toArray, List.getElem_cons_succ, List.getElem_cons_zero, List.setIfInBounds_toArray, List.set_cons_zero, List.set_cons_succ]
    refine wpAnyH_take (i := 5) (v := ?_) rfl (by kernel_rfl) (by kernel_rfl) (by kernel_rfl) (fun _ _ _ h => h) (Or.inl ⟨by kernel_rfl, ?_⟩) (by assumption) ?_
    rotate_left
    · intro w9 hS9; (try dsimp only at hS9); go_simp; (try with_reducible rfl)
    set_option linter.unusedSimpArgs false in try simp only [Act.put, List.getElem_toArray, List.getElem_cons_succ, List.getElem_cons_zero, List.setIfInBounds_toArray, List.set_cons_zero, List.set_cons_succ]
    refine wpAnyH_take (i := 6) (v := ?_) rfl (by kernel_rfl) (by kernel_rfl) (by kernel_rfl) (fun _ _ _ h => h) (Or.inl ⟨by kernel_rfl, ?_⟩) (by assumption) ?_
    rotate_left
    · intro w9 hS9; (try dsimp only at hS9); go_simp; (try with_reducible rfl)
    set_option linter.unusedSimpArgs false in try simp only [Act.put, List.getElem_toArray, List.getElem_cons_succ, List.getElem_cons_zero, List.setIfInBounds_toArray, List.set_cons_zero, List.set_cons_succ]
    refine wpAnyH_take (i := 7) (v := ?_) rfl (by kernel_rfl) (by kernel_rfl) (by kernel_rfl) (fun _ _ _ h => h) (Or.inl ⟨by kernel_rfl, ?_⟩) (by assumption) ?_
    rotate_left
    · intro w9 hS9; (try dsimp only at hS9); go_simp; (try with_reducible rfl)
    set_option linter.unusedSimpArgs false in try simp only [Act.put, List.getElem_toArray, List.getElem_cons_succ, List.getElem_cons_zero, List.setIfInBounds_toArray, List.set_cons_zero, List.set_cons_succ]
    refine wpAnyH_take (i := 9) (v := ?_) rfl (by kernel_rfl) (by kernel_rfl) (by kernel_rfl) (fun _ _ _ h => h) (Or.inl ⟨by kernel_rfl, ?_⟩) (by assumption) ?_
    rotate_left
    · intro w9 hS9; (try dsimp only at hS9); go_simp; (try with_reducible rfl)
    set_option linter.unusedSimpArgs false in try simp only [Act.put, List.getElem_toArray, List.getElem_cons_succ, List.getElem_cons_zero, List.setIfInBounds_toArray, List.set_cons_zero, List.set_cons_succ]
    refine wpAnyH_take (i := 10) (v := ?_) rfl (by kernel_rfl) (by kernel_rfl) (by kernel_rfl) (fun _ _ _ h => h) (Or.inl ⟨by kernel_rfl, ?_⟩) (by assumption) ?_
    rotate_left
    · intro w9 hS9; (try dsimp only at hS9); go_simp; (try with_reducible rfl)
    set_option linter.unusedSimpArgs false in try simp only [Act.put, List.getElem_toArray, List.getElem_cons_succ, List.getElem_cons_zero, List.setIfInBounds_toArray, List.set_cons_zero, List.set_cons_succ]
    refine wpAnyH_take (i := 11) (v := ?_) rfl (by kernel_rfl) (by kernel_rfl) (by kernel_rfl) (fun _ _ _ h => h) (Or.inl ⟨by kernel_rfl, ?_⟩) (by assumption) ?_
    rotate_left
    · intro w9 hS9; (try dsimp only at hS9); go_simp; (try with_reducible rfl)
    set_option linter.unusedSimpArgs false in try simp only [Act.put, List.getElem_toArray, List.getElem_cons_succ, List.getElem_cons_zero, List.setIfInBounds_toArray, List.set_cons_zero, List.set_cons_succ]
    refine wpAnyH_take (i := 12) (v := ?_) rfl (by kernel_rfl) (by kernel_rfl) (by kernel_rfl) (fun _ _ _ h => h) (Or.inl ⟨by kernel_rfl, ?_⟩) (by assumption) ?_
    rotate_left
    · intro w9 hS9; (try dsimp only at hS9); go_simp; (try with_reducible rfl)
    set_option linter.unusedSimpArgs false in try simp only [Act.put, List.getElem_toArray, List.getElem_cons_succ, List.getElem_cons_zero, List.setIfInBounds_toArray, List.set_cons_zero, List.set_cons_succ]
    refine wpAnyH_ready (rs := [3, 14]) (by kernel_rfl) (by simp) ?_
    refine AllReadyH.cons rfl (fun K hK => ?_) (AllReadyH.cons rfl (fun K hK => ?_) AllReadyH.nil)
    · go_simp
      go_wp2_with (go_at_call 87; refine (HV.out _ (hbD)).mono ?_; rintro e w1 ⟨X, cx, X', cx', m1, rfl, ow1, ow1', md, hb1⟩)
      have hb1W := bstep hb1
      have hs1 := hb1W.size
      have q0 := cell_next p0 hb1W
      have q1 := cell_next p1 hb1W
      have q2 := cell_next p2 hb1W
      have q3 := cell_next p3 hb1W
      have hbA1 := bnew w1 (.cells #[.slice none 0 0, .slice none 0 0, .slice none 0 0, .int .i64 0] 44)
      have hsA1 : (w1.alloc (.cells #[.slice none 0 0, .slice none 0 0, .slice none 0 0, .int .i64 0] 44)).heap.size = w1.heap.size + 1 := by simp
      refine hK.out _ _ ⟨q0, q1, q2, q3⟩ (fun hHeldA => ?_)
      clear hK K hHeld
      set_option linter.unusedSimpArgs false in try simp only [Act.put, List.getElem_toArray, List.getElem_cons_succ, List.getElem_cons_zero, List.setIfInBounds_toArray, List.set_cons_zero, List.set_cons_succ]
      refine wpAnyH_ready (rs := [8, 14]) (by kernel_rfl) (by simp) ?_
      refine AllReadyH.cons rfl (fun K hK => ?_) (AllReadyH.cons rfl (fun K hK => ?_) AllReadyH.nil)
      · go_simp
        go_wp2_with (go_at_call 88; refine (HZ.out _ (hb1W)).mono ?_; rintro e w2 ⟨X2, cx2, rfl, ow2, hb2⟩)
        have r0 := cell_next q0 hb2
        have r1 := cell_next q1 hb2
        have r2 := cell_next q2 hb2
        have r3 := cell_next q3 hb2
        have hs2 := hb2.size
        refine hK.out _ _ ⟨r0, r1, r2, r3⟩ (fun hHeldB => ?_)
        clear hK K hHeldA
        set_option linter.unusedSimpArgs false in try simp only [Act.put, List.getElem_toArray, List.getElem_cons_succ, List.getElem_cons_zero, List.setIfInBounds_toArray, List.set_cons_zero, List.set_cons_succ]
        refine wpAnyH_take (i := 13) (v := ?_) rfl (by kernel_rfl) (by kernel_rfl) (by kernel_rfl) (fun _ _ _ h => h) (Or.inl ⟨by kernel_rfl, ?_⟩) (by assumption) ?_
        rotate_left
        · intro w9 hS9; (try dsimp only at hS9); go_simp; (try with_reducible rfl)
        set_option linter.unusedSimpArgs false in try simp only [Act.put, List.getElem_toArray, List.getElem_cons_succ, List.getElem_cons_zero, List.setIfInBounds_toArray, List.set_cons_zero, List.set_cons_succ]
        refine wpAnyH_ready (rs := [14]) (by kernel_rfl) (by simp) ?_
        refine AllReadyH.cons rfl (fun K hK => ?_) AllReadyH.nil
        have hb3 := bnew w2 (.cells #[.slice none 0 0, .slice none 0 0, .slice none 0 0, .int .i64 0] 44)
        have ho3 := bnew w2 (.cells #[.slice X 4 cx, .slice X' 8 cx', .slice X2 st.length cx2, .int .i64 p] 44)
        go_simp
        refine hK.out _ _ ⟨cell_next r0 hb3, cell_next r1 hb3, cell_next r2 hb3, cell_next r3 hb3⟩ (fun hHeldC => ?_)
        clear hK K hHeldB
        set_option linter.unusedSimpArgs false in try simp only [Act.put, List.getElem_toArray, List.getElem_cons_succ, List.getElem_cons_zero, List.setIfInBounds_toArray, List.set_cons_zero, List.set_cons_succ]
        refine wpAnyH_ready (rs := [15]) (by kernel_rfl) (by simp) ?_
        refine AllReadyH.cons rfl (fun K hK => ?_) AllReadyH.nil
        go_simp
        refine hK.out _ _ ⟨cell_next r0 ho3, cell_next r1 ho3, cell_next r2 ho3, cell_next r3 ho3⟩ (fun hHeldD => ?_)
        clear hK K hHeldC
        refine wpAnyH_done (by kernel_rfl) ?_ _
        go_wp2_with fail
        go_meet
        exact ⟨w2.heap.size, X, cx, X', cx', X2, cx2, rfl, bon (bon hb1W hb2) ho3, _, _, _, _, _, _, blk_new w2 _ _ _ rfl, (ow1.next hb2).next ho3, (ow1'.next hb2).next ho3, ow2.next ho3, ⟨by omega, by omega, by omega, by omega⟩, by omega, by omega, by omega, by omega, by omega, by omega⟩
      · go_simp
        replace q0 := cell_next q0 hbA1
        replace q1 := cell_next q1 hbA1
        replace q2 := cell_next q2 hbA1
        replace q3 := cell_next q3 hbA1
        refine hK.out _ _ ⟨q0, q1, q2, q3⟩ (fun hHeldB => ?_)
        clear hK K hHeldA
        set_option linter.unusedSimpArgs false in try simp only [Act.put, List.getElem_toArray, List.getElem_cons_succ, List.getElem_cons_zero, List.setIfInBounds_toArray, List.set_cons_zero, List.set_cons_succ]
        refine wpAnyH_ready (rs := [8]) (by kernel_rfl) (by simp) ?_
        refine AllReadyH.cons rfl (fun K hK => ?_) AllReadyH.nil
        go_simp
        go_wp2_with (go_at_call 88; refine (HZ.out _ (bon hb1W hbA1)).mono ?_; rintro e w2 ⟨X2, cx2, rfl, ow2, hb2⟩)
        replace ow1 := ow1.next hbA1
        replace ow1' := ow1'.next hbA1
        have hG : BlkIs w2 w1.heap.size 44 #[.slice none 0 0, .slice none 0 0, .slice none 0 0, .int .i64 0] := (blk_new w1 44 #[.slice none 0 0, .slice none 0 0, .slice none 0 0, .int .i64 0] _ rfl).next hb2
        have r0 := cell_next q0 hb2
        have r1 := cell_next q1 hb2
        have r2 := cell_next q2 hb2
        have r3 := cell_next q3 hb2
        have hs2 := hb2.size
        refine hK.out _ _ ⟨r0, r1, r2, r3⟩ (fun hHeldC => ?_)
        clear hK K hHeldB
        set_option linter.unusedSimpArgs false in try simp only [Act.put, List.getElem_toArray, List.getElem_cons_succ, List.getElem_cons_zero, List.setIfInBounds_toArray, List.set_cons_zero, List.set_cons_succ]
        refine wpAnyH_take (i := 13) (v := ?_) rfl (by kernel_rfl) (by kernel_rfl) (by kernel_rfl) (fun _ _ _ h => h) (Or.inl ⟨by kernel_rfl, ?_⟩) (by assumption) ?_
        rotate_left
        · intro w9 hS9; (try dsimp only at hS9); go_simp; (try with_reducible rfl)
        set_option linter.unusedSimpArgs false in try simp only [Act.put, List.getElem_toArray, List.getElem_cons_succ, List.getElem_cons_zero, List.setIfInBounds_toArray, List.set_cons_zero, List.set_cons_succ]
        have z0 := hG.cell 0
        have z1 := hG.cell 1
        have z2 := hG.cell 2
        have z3 := hG.cell 3
        have f0 := hG.frozen 0
        have f1 := hG.frozen 1
        have f2 := hG.frozen 2
        have f3 := hG.frozen 3
        simp at z0 z1 z2 z3
        have hG4 := (((hG.set 0 (.slice X 4 cx)).set 1 (.slice X' 8 cx')).set 2 (.slice X2 st.length cx2)).set 3 (.int .i64 p)
        have ho3 : Out w1.heap.size (w1.heap.size + 1) w2 ((((w2.setCell ⟨w1.heap.size, 0, none⟩ (.slice X 4 cx)).setCell ⟨w1.heap.size, 1, none⟩ (.slice X' 8 cx')).setCell ⟨w1.heap.size, 2, none⟩ (.slice X2 st.length cx2)).setCell ⟨w1.heap.size, 3, none⟩ (.int .i64 p)) := out_set (out_set (out_set (out_set (Out.refl _ _ _) (by omega)) (by omega)) (by omega)) (by omega)
        refine wpAnyH_ready (rs := [15]) (by kernel_rfl) (by simp) ?_
        refine AllReadyH.cons rfl (fun K hK => ?_) AllReadyH.nil
        go_simp
        refine hK.out _ _ ⟨ho3.cell r0 (by omega), ho3.cell r1 (by omega), ho3.cell r2 (by omega), ho3.cell r3 (by omega)⟩ (fun hHeldD => ?_)
        clear hK K hHeldC
        refine wpAnyH_done (by kernel_rfl) ?_ _
        go_wp2_with fail
        go_meet
        exact ⟨w1.heap.size, X, cx, X', cx', X2, cx2, rfl, (bon (bon hb1W hbA1) hb2).trans (ho3.below (by omega) (by omega)), _, _, _, _, _, _, hG4, (ow1.next hb2).out ho3 (by omega), (ow1'.next hb2).out ho3 (by omega), ow2.out ho3 (by omega), ⟨by omega, by omega, by omega, by omega⟩, by omega, by omega, by omega, by omega, by omega, by omega⟩
    · go_simp
      have q0 := cell_next p0 hbAD
      have q1 := cell_next p1 hbAD
      have q2 := cell_next p2 hbAD
      have q3 := cell_next p3 hbAD
      refine hK.out _ _ ⟨q0, q1, q2, q3⟩ (fun hHeldB => ?_)
      clear hK K hHeld
      set_option linter.unusedSimpArgs false in try simp only [Act.put, List.getElem_toArray, List.getElem_cons_succ, List.getElem_cons_zero, List.setIfInBounds_toArray, List.set_cons_zero, List.set_cons_succ]
      refine wpAnyH_ready (rs := [3]) (by kernel_rfl) (by simp) ?_
      refine AllReadyH.cons rfl (fun K hK => ?_) AllReadyH.nil
      go_simp
      go_wp2_with (go_at_call 87; refine (HV.out _ (hbAD)).mono ?_; rintro e w1 ⟨X, cx, X', cx', m1, rfl, ow1, ow1', md, hb1⟩)
      have hb1A := bstep hb1
      have hb1W := bon hbA hb1A
      have hs1 := hb1A.size
      have hAd : (W.alloc (.cells #[.slice none 0 0, .slice none 0 0, .slice none 0 0, .int .i64 0] 44)).drew.heap.size = W.heap.size + 1 := hsA
      replace q0 := cell_next p0 hb1W
      replace q1 := cell_next p1 hb1W
      replace q2 := cell_next p2 hb1W
      replace q3 := cell_next p3 hb1W
      refine hK.out _ _ ⟨q0, q1, q2, q3⟩ (fun hHeldA => ?_)
      clear hK K hHeldB
      set_option linter.unusedSimpArgs false in try simp only [Act.put, List.getElem_toArray, List.getElem_cons_succ, List.getElem_cons_zero, List.setIfInBounds_toArray, List.set_cons_zero, List.set_cons_succ]
      refine wpAnyH_ready (rs := [8]) (by kernel_rfl) (by simp) ?_
      refine AllReadyH.cons rfl (fun K hK => ?_) AllReadyH.nil
      go_simp
      go_wp2_with (go_at_call 88; refine (HZ.out _ (hb1W)).mono ?_; rintro e w2 ⟨X2, cx2, rfl, ow2, hb2⟩)
      have hG : BlkIs w2 (w.heap.size + 1) 44 #[.slice none 0 0, .slice none 0 0, .slice none 0 0, .int .i64 0] := by rw [← hsz]; exact ((blk_new W 44 #[.slice none 0 0, .slice none 0 0, .slice none 0 0, .int .i64 0] _ rfl).next hb1A).next hb2
      have r0 := cell_next q0 hb2
      have r1 := cell_next q1 hb2
      have r2 := cell_next q2 hb2
      have r3 := cell_next q3 hb2
      have hs2 := hb2.size
      refine hK.out _ _ ⟨r0, r1, r2, r3⟩ (fun hHeldC => ?_)
      clear hK K hHeldA
      set_option linter.unusedSimpArgs false in try simp only [Act.put, List.getElem_toArray, List.getElem_cons_succ, List.getElem_cons_zero, List.setIfInBounds_toArray, List.set_cons_zero, List.set_cons_succ]
      refine wpAnyH_take (i := 13) (v := ?_) rfl (by kernel_rfl) (by kernel_rfl) (by kernel_rfl) (fun _ _ _ h => h) (Or.inl ⟨by kernel_rfl, ?_⟩) (by assumption) ?_
      rotate_left
      · intro w9 hS9; (try dsimp only at hS9); go_simp; (try with_reducible rfl)
      set_option linter.unusedSimpArgs false in try simp only [Act.put, List.getElem_toArray, List.getElem_cons_succ, List.getElem_cons_zero, List.setIfInBounds_toArray, List.set_cons_zero, List.set_cons_succ]
      have z0 := hG.cell 0
      have z1 := hG.cell 1
      have z2 := hG.cell 2
      have z3 := hG.cell 3
      have f0 := hG.frozen 0
      have f1 := hG.frozen 1
      have f2 := hG.frozen 2
      have f3 := hG.frozen 3
      simp at z0 z1 z2 z3
      have hG4 := (((hG.set 0 (.slice X 4 cx)).set 1 (.slice X' 8 cx')).set 2 (.slice X2 st.length cx2)).set 3 (.int .i64 p)
      have ho3 : Out (w.heap.size + 1) ((w.heap.size + 1) + 1) w2 ((((w2.setCell ⟨(w.heap.size + 1), 0, none⟩ (.slice X 4 cx)).setCell ⟨(w.heap.size + 1), 1, none⟩ (.slice X' 8 cx')).setCell ⟨(w.heap.size + 1), 2, none⟩ (.slice X2 st.length cx2)).setCell ⟨(w.heap.size + 1), 3, none⟩ (.int .i64 p)) := out_set (out_set (out_set (out_set (Out.refl _ _ _) (by omega)) (by omega)) (by omega)) (by omega)
      refine wpAnyH_ready (rs := [15]) (by kernel_rfl) (by simp) ?_
      refine AllReadyH.cons rfl (fun K hK => ?_) AllReadyH.nil
      go_simp
      refine hK.out _ _ ⟨ho3.cell r0 (by omega), ho3.cell r1 (by omega), ho3.cell r2 (by omega), ho3.cell r3 (by omega)⟩ (fun hHeldD => ?_)
      clear hK K hHeldC
      refine wpAnyH_done (by kernel_rfl) ?_ _
      go_wp2_with fail
      go_meet
      exact ⟨(w.heap.size + 1), X, cx, X', cx', X2, cx2, rfl, (bon hb1W hb2).trans (ho3.below (by omega) (by omega)), _, _, _, _, _, _, hG4, (ow1.next hb2).out ho3 (by omega), (ow1'.next hb2).out ho3 (by omega), ow2.out ho3 (by omega), ⟨by omega, by omega, by omega, by omega⟩, by omega, by omega, by omega, by omega, by omega, by omega⟩
  case rest =>
  obtain ⟨g, X, cx, X', cx', X2, cx2, rfl, hbC, HO⟩ := hcut
  have hge := HO.ge
  have hsC := hbC.size
  clear HV HZ p0 p1 p2 p3
  have hP2 := hP1.next hbC
  have hR2 := hR.next hbC
  have HC2 := Lib.hid (HC.out.next hbC (by omega))
  have H02 := Lib.hid (H0.out.next hbC (by omega))
  have H12 := Lib.hid (H1.out.next hbC (by omega))
  have H22 := Lib.hid (H2.out.next hbC (by omega))
  have p2 : wc.cell? ⟨b, 2, none⟩ = some (.slice A2 st.length c2) := hP2.cell 2
  have p3 : wc.cell? ⟨b, 3, none⟩ = some (.int .i64 p) := hP2.cell 3
  clear hP1 hR HC H0 H1 H2
  have hlt2 : p < k := by have := (List.getElem?_eq_some_iff.1 hx).1; have := HC2.out.1; omega
  have e1 : ((k : Int) ≤ (p : Int)) = False := by simp; omega
  have e2 : (0 : Int) ≤ (p : Int) := by omega
  have e3 : (p : Int) < (k : Int) := by omega
  obtain ⟨bb, off, t, rfl, hbl, ht, q0, q1⟩ := HC2.out.at_ hlt2
  obtain rfl : t = (op, a) := by rw [hx] at ht; injection ht with ht; exact ht.symm
  have hop : 0 ≤ op ∧ op ≤ 11 := ⟨(instrB_parts hi).1, (instrB_parts hi).2.1⟩
  have HPO := Lib.hid (l07Pops_c op hop)
  rw [hpop] at HPO
  have HPU := Lib.hid (l07Pushes_c op hop)
  have hX : BlkIs (wc.alloc (.cells #[.int .i64 op, .int .i64 a] 25)) wc.heap.size 25 #[.int .i64 op, .int .i64 a] := blk_new _ _ _ _ rfl
  have hbX := bnew wc (.cells #[.int .i64 op, .int .i64 a] 25)
  have hsX := hX.lt
  have HO6 := HO.next hbX
  have HR6 := Lib.hid (hR2.next hbX)
  have x0 : (wc.alloc (.cells #[.int .i64 op, .int .i64 a] 25)).cell? ⟨wc.heap.size, 0, none⟩ = some (.int .i64 op) := hX.cell 0
  have x1 : (wc.alloc (.cells #[.int .i64 op, .int .i64 a] 25)).cell? ⟨wc.heap.size, 1, none⟩ = some (.int .i64 a) := hX.cell 1
  have v2 := cell_next p2 hbX
  have v3 := cell_next p3 hbX
  have HP6 := Lib.hid (hP2.next hbX)
  have HV0 := Lib.hid (H02.out.next hbX (by omega))
  have HV1 := Lib.hid (H12.out.next hbX (by omega))
  have HV2 := Lib.hid (H22.out.next hbX (by omega))
  have HB6 := Lib.hid (hb0.trans ((bon hbC hbX).mono (by omega)))
  have hfp := Lib.hid (fitB_parts hf)
  have HIB := Lib.hid hi
  clear hP2 hR2 H02 H12 H22 HC2 HO hx ht hi
  obtain ⟨j, hj⟩ : ∃ j, Hid (st.length = j) := ⟨_, rfl⟩
  have fw0 : IntKind.i64.wrap ((st.length : Int) - 0) = (j : Int) := by rw [hj.out, Int.sub_zero]; exact IntWalk.i64_in _ (by have := hj.out; omega)
  have fz0 : IntKind.i64.wrap (st.length : Int) = (j : Int) := by rw [hj.out]; exact IntWalk.i64_in _ (by have := hj.out; omega)
  have j0 : (0 : Int) ≤ (j : Int) := by omega
  have jn0 : ((j : Int) < 0) = False := by simp
  have jc : (j : Int) ≤ (c2 : Int) := by have := hj.out; omega
  have jc' : j ≤ c2 := by have := hj.out; omega
  go_wp2_with fail
  generalize wc.alloc (.cells #[.int .i64 op, .int .i64 a] 25) = W6 at hX hbX hsX HO6 HR6 x0 x1 v2 v3 HP6 HV0 HV1 HV2 HB6 ⊢
  refine (HPO.out W6).mono ?_
  rintro e w7 ⟨rfl, rfl⟩
  go_wp2_with fail
  refine (HPU.out W6).mono ?_
  rintro e w7 ⟨rfl, rfl⟩
  clear HPO HPU
  rcases hops.out with rfl | rfl | rfl | rfl | rfl
  · clear hops
    have epu : pushB 0 = 1 := rfl
    have jq : (j : Int) + 1 ≤ 6 := by
      have h1 := hfp.out.2
      have h2 := hj.out
      have h3 : popB 0 = 0 := rfl
      rw [epu, h3] at h1
      omega
    have fwp : IntKind.i64.wrap ((j : Int) + 1) = (j : Int) + 1 := IntWalk.i64_in _ (by omega)
    have jt : (6 < (j : Int) + 1) = False := by simp; omega
    have jtn : (6 ≤ j) = False := by simp; omega
    have jtm : (5 < j) = False := by simp; omega
    have jto : (6 < j + 1) = False := by simp; omega
    have HO0 : Hid (outO 0 a st = 0) := outO_ok (by decide) (by unfold cellStop; simp) (by unfold rangeStop; simp) (by simp)
    have HST : Hid (stO 0 a vs zs st = st.take j ++ [a]) := by
      show _ = _
      unfold stO
      rw [if_pos (by decide), restR_0 rfl, List.take_of_length_le (by have := hj.out; omega)]
      rw [show newO 0 a vs zs st = a from by rfl]
    have HVS : Hid (varsO 0 a vs st = vs) := varsO_same (by decide) vs
    have HZS : Hid (cellsO 0 zs st = zs) := cellsO_same (by decide) zs
    have HAT : Hid (atO 0 a st (p : Int) = (p : Int) + 1) := atO_next (by decide) (by decide)
    have HO7 := HO6
    have HR7 := HR6
    have HB7 := HB6
    have HS7 := HV2
    have hsX7 := hsX
    have HV07 := HV0
    have HV17 := HV1
    have vc0 : W6.cell? ⟨b, 0, none⟩ = some (.slice A 4 c) := HP6.out.cell 0
    clear HO6 HR6 HB6 HV2 hX hbX HP6
    go_wp2_with fail
    refine (l00Own_c A2 j c2 B (st.take j) W6 (HS7.out.cut (by have := hj.out; omega)) (by have := HB7.out.size; omega) (by have := hj.out; omega)).mono ?_
    rintro e w8 ⟨Y, cy, rfl, ow8, hb8⟩
    have hl8 : (st.take j).length = j := by rw [List.length_take]; have := hj.out; omega
    have hs7 := HB7.out.size
    have hge7 := HO7.ge
    have ho8 : Out g (g + 1) W6 w8 := Out.of_below hb8
    have hB8 := HO7.blk.next hb8
    have k2 : w8.cell? ⟨g, 2, none⟩ = some (.slice X2 st.length cx2) := hB8.cell 2
    have kf2 := hB8.frozen 2
    have ho9 : Out g (g + 1) W6 (w8.setCell ⟨g, 2, none⟩ (.slice Y j cy)) := out_set ho8 (by omega)
    have hB9 : BlkIs (w8.setCell ⟨g, 2, none⟩ (.slice Y j cy)) g 44 #[.slice X 4 cx, .slice X' 8 cx', .slice Y j cy, .int .i64 p] := hB8.set 2 _
    have k3 : (w8.setCell ⟨g, 2, none⟩ (.slice Y j cy)).cell? ⟨g, 3, none⟩ = some (.int .i64 p) := hB9.cell 3
    have kf3 := hB9.frozen 3
    have v39 := ho9.cell v3 (by omega)
    have fwq : IntKind.i64.wrap ((p : Int) + 1) = (p : Int) + 1 := IntWalk.i64_in _ (by omega)
    have ho10 : Out g (g + 1) W6 ((w8.setCell ⟨g, 2, none⟩ (.slice Y j cy)).setCell ⟨g, 3, none⟩ (.int .i64 ((p : Int) + 1))) := out_set ho9 (by omega)
    have hB10 : BlkIs ((w8.setCell ⟨g, 2, none⟩ (.slice Y j cy)).setCell ⟨g, 3, none⟩ (.int .i64 ((p : Int) + 1))) g 44 #[.slice X 4 cx, .slice X' 8 cx', .slice Y j cy, .int .i64 ((p : Int) + 1)] := hB9.set 3 _
    have x010 := ho10.cell x0 (by omega)
    have x110 := ho10.cell x1 (by omega)
    have hR10 := HR7.out.out ho10 (by omega)
    have ow10 : OwnL ((w8.setCell ⟨g, 2, none⟩ (.slice Y j cy)).setCell ⟨g, 3, none⟩ (.int .i64 ((p : Int) + 1))) W6.heap.size w8.heap.size Y j cy (st.take j) := ow8.out (show Out g (g + 1) w8 ((w8.setCell ⟨g, 2, none⟩ (.slice Y j cy)).setCell ⟨g, 3, none⟩ (.int .i64 ((p : Int) + 1))) from out_set (out_set (Out.refl _ _ _) (by omega)) (by omega)) (by left; omega)
    have HOW10 := Lib.hid ow10
    have HOW8 := Lib.hid ow8
    clear ow10 ow8 hB8
    obtain ⟨i0, hif, hz0, hz1, hz2⟩ := info_parts info64
    have kk2 : ((w8.setCell ⟨g, 2, none⟩ (.slice Y j cy)).setCell ⟨g, 3, none⟩ (.int .i64 ((p : Int) + 1))).cell? ⟨g, 2, none⟩ = some (.slice Y j cy) := hB10.cell 2
    have hbA := bnew ((w8.setCell ⟨g, 2, none⟩ (.slice Y j cy)).setCell ⟨g, 3, none⟩ (.int .i64 ((p : Int) + 1))) (.cells #[.int .i64 a] 2)
    have hoA : Out g (g + 1) W6 (((w8.setCell ⟨g, 2, none⟩ (.slice Y j cy)).setCell ⟨g, 3, none⟩ (.int .i64 ((p : Int) + 1))).alloc (.cells #[.int .i64 a] 2)) := ho10.trans (Out.of_below hbA)
    have hBA := hB10.next hbA
    have owA := (HOW10.out.next hbA).2.1
    have hRA := HR7.out.out hoA (by omega)
    have j63 : j + 1 ≤ maxLen := by unfold maxLen; have := hj.out; omega
    have hs8 : W6.heap.size ≤ (((w8.setCell ⟨g, 2, none⟩ (.slice Y j cy)).setCell ⟨g, 3, none⟩ (.int .i64 ((p : Int) + 1))).alloc (.cells #[.int .i64 a] 2)).heap.size := hoA.size
    have hl12 : (st.take j ++ [a]).length = j + 1 := by rw [List.length_append, hl8]; rfl
    have HARM : Hid (∀ v' w11, w11.ownsRow W6.heap.size 2 1 v' (j + 1) ((st.take j).map ic ++ [.int .i64 (a)]) → (((w8.setCell ⟨g, 2, none⟩ (.slice Y j cy)).setCell ⟨g, 3, none⟩ (.int .i64 ((p : Int) + 1))).alloc (.cells #[.int .i64 a] 2)).grownBy w11 (Value.slice Y j cy).ownBlock → ∃ Y' cy', v' = .slice Y' (j + 1) cy' ∧ w11.cell? ⟨g, 2, none⟩ = some (.slice Y j cy) ∧ w11.frozen? ⟨g, 2, none⟩ = false ∧ OutIs (w11.setCell ⟨g, 2, none⟩ (.slice Y' (j + 1) cy')) W.heap.size g X cx X' cx' Y' cy' vs zs (st.take j ++ [a]) ((p : Int) + 1) ∧ BlkIs (w11.setCell ⟨g, 2, none⟩ (.slice Y' (j + 1) cy')) w.heap.size 44 #[.slice none 0 0, .slice none 0 0, .slice none 0 0, .int .i64 0] ∧ Below w.heap.size w (w11.setCell ⟨g, 2, none⟩ (.slice Y' (j + 1) cy'))) := by
      intro v' w11 hown hgrow
      obtain ⟨Y', cy', rfl, hrw⟩ := own_slice hown
      have hr := own_cons hown
      have ho11 := hoA.grow_new hgrow (fun k hk => (owA.lt k hk).1)
      have hB11 : BlkIs w11 g 44 #[.slice X 4 cx, .slice X' 8 cx', .slice Y j cy, .int .i64 ((p : Int) + 1)] := (hgrow.block g hBA.lt (fun e => by have := (owA.lt g e.symm).1; omega)).trans hBA
      have ho12 : Out g (g + 1) W6 (w11.setCell ⟨g, 2, none⟩ (.slice Y' (j + 1) cy')) := out_set ho11 (by omega)
      have hB12 : BlkIs (w11.setCell ⟨g, 2, none⟩ (.slice Y' (j + 1) cy')) g 44 #[.slice X 4 cx, .slice X' 8 cx', .slice Y' (j + 1) cy', .int .i64 ((p : Int) + 1)] := hB11.set 2 _
      have hs11 := hgrow.size
      have ow12 := hr.out (show Out g (g + 1) w11 (w11.setCell ⟨g, 2, none⟩ (.slice Y' (j + 1) cy')) from out_set (Out.refl _ _ _) (by omega)) (by left; omega)
      exact ⟨Y', cy', rfl, hB11.cell 2, hB11.frozen 2, HO7.done ho12 (by rw [hl12]; exact hB12) (by rw [hl12]; exact ow12), HR7.out.out ho12 (by omega), HB7.out.trans (ho12.below (by omega) (by omega))⟩
    go_wp2_with (at_builtin; refine wpList_append_own _ rfl _ _ 35 rfl W6.heap.size 2 i0 (.int .i64 0) 1 8 Try.underlying35 hif hz0 hz1 hz2 rfl (by decide) _ _ _ rfl owA ⟨w8.heap.size, 0, none⟩ 1 1 [.int .i64 a] rfl rfl (cell_one_at _ _ _ _ (by simp)) (fun u hu => by simp at hu; subst hu; rfl) j63 (by have := hj.out; omega) hs8 ?_; intro v' w11 hown hgrow _; obtain ⟨Y', cy', rfl, m2, mf2, HOF, hRE, hbF⟩ := HARM.out v' w11 hown hgrow; have u0 : (w11.setCell ⟨g, 2, none⟩ (.slice Y' (j + 1) cy')).cell? ⟨g, 0, none⟩ = some (.slice X 4 cx) := HOF.blk.cell 0; have u1 : (w11.setCell ⟨g, 2, none⟩ (.slice Y' (j + 1) cy')).cell? ⟨g, 1, none⟩ = some (.slice X' 8 cx') := HOF.blk.cell 1; have u2 : (w11.setCell ⟨g, 2, none⟩ (.slice Y' (j + 1) cy')).cell? ⟨g, 2, none⟩ = some (.slice Y' (j + 1) cy') := (by have := HOF.blk.cell 2; rw [hl12] at this; exact this); have u3 : (w11.setCell ⟨g, 2, none⟩ (.slice Y' (j + 1) cy')).cell? ⟨g, 3, none⟩ = some (.int .i64 ((p : Int) + 1)) := HOF.blk.cell 3; have z0 : (w11.setCell ⟨g, 2, none⟩ (.slice Y' (j + 1) cy')).cell? ⟨w.heap.size, 0, none⟩ = some (.slice none 0 0) := hRE.cell 0; have z1 : (w11.setCell ⟨g, 2, none⟩ (.slice Y' (j + 1) cy')).cell? ⟨w.heap.size, 1, none⟩ = some (.slice none 0 0) := hRE.cell 1; have z2 : (w11.setCell ⟨g, 2, none⟩ (.slice Y' (j + 1) cy')).cell? ⟨w.heap.size, 2, none⟩ = some (.slice none 0 0) := hRE.cell 2; have z3 : (w11.setCell ⟨g, 2, none⟩ (.slice Y' (j + 1) cy')).cell? ⟨w.heap.size, 3, none⟩ = some (.int .i64 0) := hRE.cell 3; have y0 := hRE.frozen 0; have y1 := hRE.frozen 1; have y2 := hRE.frozen 2; have y3 := hRE.frozen 3; clear hown hgrow owA HARM)
    have hR5 := (((hRE.set 0 (.slice X 4 cx)).set 1 (.slice X' 8 cx')).set 2 (.slice Y' (j + 1) cy')).set 3 (.int .i64 ((p : Int) + 1))
    have ho5 : Out w.heap.size (w.heap.size + 1) (w11.setCell ⟨g, 2, none⟩ (.slice Y' (j + 1) cy')) (((((w11.setCell ⟨g, 2, none⟩ (.slice Y' (j + 1) cy')).setCell ⟨w.heap.size, 0, none⟩ (.slice X 4 cx)).setCell ⟨w.heap.size, 1, none⟩ (.slice X' 8 cx')).setCell ⟨w.heap.size, 2, none⟩ (.slice Y' (j + 1) cy')).setCell ⟨w.heap.size, 3, none⟩ (.int .i64 ((p : Int) + 1))) := out_set (out_set (out_set (out_set (Out.refl _ _ _) (by omega)) (by omega)) (by omega)) (by omega)
    have HO5 := HOF.out ho5 (by omega)
    have s0 : (((((w11.setCell ⟨g, 2, none⟩ (.slice Y' (j + 1) cy')).setCell ⟨w.heap.size, 0, none⟩ (.slice X 4 cx)).setCell ⟨w.heap.size, 1, none⟩ (.slice X' 8 cx')).setCell ⟨w.heap.size, 2, none⟩ (.slice Y' (j + 1) cy')).setCell ⟨w.heap.size, 3, none⟩ (.int .i64 ((p : Int) + 1))).cell? ⟨w.heap.size, 0, none⟩ = some (.slice X 4 cx) := by rw [hR5.cell 0]; simp
    have s1 : (((((w11.setCell ⟨g, 2, none⟩ (.slice Y' (j + 1) cy')).setCell ⟨w.heap.size, 0, none⟩ (.slice X 4 cx)).setCell ⟨w.heap.size, 1, none⟩ (.slice X' 8 cx')).setCell ⟨w.heap.size, 2, none⟩ (.slice Y' (j + 1) cy')).setCell ⟨w.heap.size, 3, none⟩ (.int .i64 ((p : Int) + 1))).cell? ⟨w.heap.size, 1, none⟩ = some (.slice X' 8 cx') := by rw [hR5.cell 1]; simp
    have s2 : (((((w11.setCell ⟨g, 2, none⟩ (.slice Y' (j + 1) cy')).setCell ⟨w.heap.size, 0, none⟩ (.slice X 4 cx)).setCell ⟨w.heap.size, 1, none⟩ (.slice X' 8 cx')).setCell ⟨w.heap.size, 2, none⟩ (.slice Y' (j + 1) cy')).setCell ⟨w.heap.size, 3, none⟩ (.int .i64 ((p : Int) + 1))).cell? ⟨w.heap.size, 2, none⟩ = some (.slice Y' (j + 1) cy') := by rw [hR5.cell 2]; simp
    have s3 : (((((w11.setCell ⟨g, 2, none⟩ (.slice Y' (j + 1) cy')).setCell ⟨w.heap.size, 0, none⟩ (.slice X 4 cx)).setCell ⟨w.heap.size, 1, none⟩ (.slice X' 8 cx')).setCell ⟨w.heap.size, 2, none⟩ (.slice Y' (j + 1) cy')).setCell ⟨w.heap.size, 3, none⟩ (.int .i64 ((p : Int) + 1))).cell? ⟨w.heap.size, 3, none⟩ = some (.int .i64 ((p : Int) + 1)) := by rw [hR5.cell 3]; simp
    have hb5 := (hbF).trans (ho5.below (Nat.le_refl _) (hbF).size)
    generalize (((((w11.setCell ⟨g, 2, none⟩ (.slice Y' (j + 1) cy')).setCell ⟨w.heap.size, 0, none⟩ (.slice X 4 cx)).setCell ⟨w.heap.size, 1, none⟩ (.slice X' 8 cx')).setCell ⟨w.heap.size, 2, none⟩ (.slice Y' (j + 1) cy')).setCell ⟨w.heap.size, 3, none⟩ (.int .i64 ((p : Int) + 1))) = W5 at s0 s1 s2 s3 HO5 hb5 ⊢
    refine bodyPost_ret (v := .tuple #[.agg #[.slice X 4 cx, .slice X' 8 cx', .slice Y' (j + 1) cy', .int .i64 ((p : Int) + 1)], .int .i64 0]) (by simp [results, Try.results62, go_sem, s0, s1, s2, s3]) rfl ?_
    rw [nextB_done HO0.out, HVS.out, HZS.out, HST.out, HAT.out]
    obtain ⟨r1, r2, r3⟩ := HO5.rows
    exact ⟨X, cx, X', cx', Y', cy', by rw [hl12], r1.less (by omega), r2.less (by omega), r3.less (by omega), hb5⟩
  · clear hops
    have epu : pushB 1 = 1 := rfl
    have jq : (j : Int) + 1 ≤ 6 := by
      have h1 := hfp.out.2
      have h2 := hj.out
      have h3 : popB 1 = 0 := rfl
      rw [epu, h3] at h1
      omega
    have fwp : IntKind.i64.wrap ((j : Int) + 1) = (j : Int) + 1 := IntWalk.i64_in _ (by omega)
    have jt : (6 < (j : Int) + 1) = False := by simp; omega
    have jtn : (6 ≤ j) = False := by simp; omega
    have jtm : (5 < j) = False := by simp; omega
    have jto : (6 < j + 1) = False := by simp; omega
    obtain ⟨an, rfl⟩ : ∃ an : Nat, a = an := ⟨a.toNat, by have := (instrB_parts HIB.out).2.2; simp [loB, hiB] at this; omega⟩
    have han : an < 4 := by have := (instrB_parts HIB.out).2.2; simp [loB, hiB] at this; omega
    have han0 : (0 : Int) ≤ (an : Int) := by omega
    have han4 : (an : Int) < 4 := by omega
    have HO0 : Hid (outO 1 (an : Int) st = 0) := outO_ok (by decide) (by unfold cellStop; simp) (by unfold rangeStop; simp) (by simp)
    have HST : Hid (stO 1 (an : Int) vs zs st = st.take j ++ [(vs.getD an 0)]) := by
      show _ = _
      unfold stO
      rw [if_pos (by decide), restR_0 rfl, List.take_of_length_le (by have := hj.out; omega)]
      rw [show newO 1 (an : Int) vs zs st = (vs.getD an 0) from by show vs.getD (an : Int).toNat 0 = _; rw [Int.toNat_natCast]]
    have HVS : Hid (varsO 1 (an : Int) vs st = vs) := varsO_same (by decide) vs
    have HZS : Hid (cellsO 1 zs st = zs) := cellsO_same (by decide) zs
    have HAT : Hid (atO 1 (an : Int) st (p : Int) = (p : Int) + 1) := atO_next (by decide) (by decide)
    have HO7 := HO6
    have HR7 := HR6
    have HB7 := HB6
    have HS7 := HV2
    have hsX7 := hsX
    have HV07 := HV0
    have HV17 := HV1
    have vc0 : W6.cell? ⟨b, 0, none⟩ = some (.slice A 4 c) := HP6.out.cell 0
    clear HO6 HR6 HB6 HV2 hX hbX HP6
    go_wp2_with fail
    obtain ⟨bA, oA, rfl, hbA, hrA⟩ := HV07.out.side (by omega)
    obtain ⟨vl, hvl⟩ : ∃ vl, Hid (vs.getD an 0 = vl) := ⟨_, rfl⟩
    have hvcell : W6.cell? ⟨bA, oA + an, none⟩ = some (.int .i64 vl) := hrA an _ (by rw [List.getElem?_map, some_getD (by have := HV07.out.1; omega), hvl.out]; rfl)
    have HRA := Lib.hid hrA
    clear hrA
    refine (l00Own_c A2 j c2 B (st.take j) W6 (HS7.out.cut (by have := hj.out; omega)) (by have := HB7.out.size; omega) (by have := hj.out; omega)).mono ?_
    rintro e w8 ⟨Y, cy, rfl, ow8, hb8⟩
    have hl8 : (st.take j).length = j := by rw [List.length_take]; have := hj.out; omega
    have hs7 := HB7.out.size
    have hge7 := HO7.ge
    have ho8 : Out g (g + 1) W6 w8 := Out.of_below hb8
    have hB8 := HO7.blk.next hb8
    have k2 : w8.cell? ⟨g, 2, none⟩ = some (.slice X2 st.length cx2) := hB8.cell 2
    have kf2 := hB8.frozen 2
    have ho9 : Out g (g + 1) W6 (w8.setCell ⟨g, 2, none⟩ (.slice Y j cy)) := out_set ho8 (by omega)
    have hB9 : BlkIs (w8.setCell ⟨g, 2, none⟩ (.slice Y j cy)) g 44 #[.slice X 4 cx, .slice X' 8 cx', .slice Y j cy, .int .i64 p] := hB8.set 2 _
    have k3 : (w8.setCell ⟨g, 2, none⟩ (.slice Y j cy)).cell? ⟨g, 3, none⟩ = some (.int .i64 p) := hB9.cell 3
    have kf3 := hB9.frozen 3
    have v39 := ho9.cell v3 (by omega)
    have fwq : IntKind.i64.wrap ((p : Int) + 1) = (p : Int) + 1 := IntWalk.i64_in _ (by omega)
    have ho10 : Out g (g + 1) W6 ((w8.setCell ⟨g, 2, none⟩ (.slice Y j cy)).setCell ⟨g, 3, none⟩ (.int .i64 ((p : Int) + 1))) := out_set ho9 (by omega)
    have hB10 : BlkIs ((w8.setCell ⟨g, 2, none⟩ (.slice Y j cy)).setCell ⟨g, 3, none⟩ (.int .i64 ((p : Int) + 1))) g 44 #[.slice X 4 cx, .slice X' 8 cx', .slice Y j cy, .int .i64 ((p : Int) + 1)] := hB9.set 3 _
    have x010 := ho10.cell x0 (by omega)
    have x110 := ho10.cell x1 (by omega)
    have hR10 := HR7.out.out ho10 (by omega)
    have ow10 : OwnL ((w8.setCell ⟨g, 2, none⟩ (.slice Y j cy)).setCell ⟨g, 3, none⟩ (.int .i64 ((p : Int) + 1))) W6.heap.size w8.heap.size Y j cy (st.take j) := ow8.out (show Out g (g + 1) w8 ((w8.setCell ⟨g, 2, none⟩ (.slice Y j cy)).setCell ⟨g, 3, none⟩ (.int .i64 ((p : Int) + 1))) from out_set (out_set (Out.refl _ _ _) (by omega)) (by omega)) (by left; omega)
    have HOW10 := Lib.hid ow10
    have HOW8 := Lib.hid ow8
    clear ow10 ow8 hB8
    obtain ⟨i0, hif, hz0, hz1, hz2⟩ := info_parts info64
    have kk2 : ((w8.setCell ⟨g, 2, none⟩ (.slice Y j cy)).setCell ⟨g, 3, none⟩ (.int .i64 ((p : Int) + 1))).cell? ⟨g, 2, none⟩ = some (.slice Y j cy) := hB10.cell 2
    have kb0 := ho10.cell vc0 (by omega)
    have kv := ho10.cell hvcell (by omega)
    have hbAl := bnew ((w8.setCell ⟨g, 2, none⟩ (.slice Y j cy)).setCell ⟨g, 3, none⟩ (.int .i64 ((p : Int) + 1))) (.cells #[.int .i64 vl] 2)
    have hoA : Out g (g + 1) W6 (((w8.setCell ⟨g, 2, none⟩ (.slice Y j cy)).setCell ⟨g, 3, none⟩ (.int .i64 ((p : Int) + 1))).alloc (.cells #[.int .i64 vl] 2)).drew := (ho10.trans (Out.of_below hbAl)).drew
    have hBA0 : BlkIs (((w8.setCell ⟨g, 2, none⟩ (.slice Y j cy)).setCell ⟨g, 3, none⟩ (.int .i64 ((p : Int) + 1))).alloc (.cells #[.int .i64 vl] 2)) g 44 #[.slice X 4 cx, .slice X' 8 cx', .slice Y j cy, .int .i64 ((p : Int) + 1)] := hB10.next hbAl
    have hBA : BlkIs (((w8.setCell ⟨g, 2, none⟩ (.slice Y j cy)).setCell ⟨g, 3, none⟩ (.int .i64 ((p : Int) + 1))).alloc (.cells #[.int .i64 vl] 2)).drew g 44 #[.slice X 4 cx, .slice X' 8 cx', .slice Y j cy, .int .i64 ((p : Int) + 1)] := hBA0
    have kk2A : (((w8.setCell ⟨g, 2, none⟩ (.slice Y j cy)).setCell ⟨g, 3, none⟩ (.int .i64 ((p : Int) + 1))).alloc (.cells #[.int .i64 vl] 2)).cell? ⟨g, 2, none⟩ = some (.slice Y j cy) := hBA0.cell 2
    have kb0A : (((w8.setCell ⟨g, 2, none⟩ (.slice Y j cy)).setCell ⟨g, 3, none⟩ (.int .i64 ((p : Int) + 1))).alloc (.cells #[.int .i64 vl] 2)).cell? ⟨b, 0, none⟩ = some (.slice (some ⟨bA, oA, none⟩) 4 c) := cell_next kb0 hbAl
    have x110A : (((w8.setCell ⟨g, 2, none⟩ (.slice Y j cy)).setCell ⟨g, 3, none⟩ (.int .i64 ((p : Int) + 1))).alloc (.cells #[.int .i64 vl] 2)).cell? ⟨wc.heap.size, 1, none⟩ = some (.int .i64 (an : Int)) := cell_next x110 hbAl
    have kvA : (((w8.setCell ⟨g, 2, none⟩ (.slice Y j cy)).setCell ⟨g, 3, none⟩ (.int .i64 ((p : Int) + 1))).alloc (.cells #[.int .i64 vl] 2)).cell? ⟨bA, oA + an, none⟩ = some (.int .i64 vl) := cell_next kv hbAl
    have owA : (((w8.setCell ⟨g, 2, none⟩ (.slice Y j cy)).setCell ⟨g, 3, none⟩ (.int .i64 ((p : Int) + 1))).alloc (.cells #[.int .i64 vl] 2)).drew.ownsRow W6.heap.size 2 1 (.slice Y j cy) j ((st.take j).map ic) := (HOW10.out.next hbAl).2.1
    have j63 : j + 1 ≤ maxLen := by unfold maxLen; have := hj.out; omega
    have hs8 : W6.heap.size ≤ (((w8.setCell ⟨g, 2, none⟩ (.slice Y j cy)).setCell ⟨g, 3, none⟩ (.int .i64 ((p : Int) + 1))).alloc (.cells #[.int .i64 vl] 2)).drew.heap.size := hoA.size
    have hl12 : (st.take j ++ [vl]).length = j + 1 := by rw [List.length_append, hl8]; rfl
    have HARM : Hid (∀ v' w11, w11.ownsRow W6.heap.size 2 1 v' (j + 1) ((st.take j).map ic ++ [.int .i64 vl]) → (((w8.setCell ⟨g, 2, none⟩ (.slice Y j cy)).setCell ⟨g, 3, none⟩ (.int .i64 ((p : Int) + 1))).alloc (.cells #[.int .i64 vl] 2)).drew.grownBy w11 (Value.slice Y j cy).ownBlock → ∃ Y' cy', v' = .slice Y' (j + 1) cy' ∧ w11.cell? ⟨g, 2, none⟩ = some (.slice Y j cy) ∧ w11.frozen? ⟨g, 2, none⟩ = false ∧ OutIs (w11.setCell ⟨g, 2, none⟩ (.slice Y' (j + 1) cy')) W.heap.size g X cx X' cx' Y' cy' vs zs (st.take j ++ [vl]) ((p : Int) + 1) ∧ BlkIs (w11.setCell ⟨g, 2, none⟩ (.slice Y' (j + 1) cy')) w.heap.size 44 #[.slice none 0 0, .slice none 0 0, .slice none 0 0, .int .i64 0] ∧ Below w.heap.size w (w11.setCell ⟨g, 2, none⟩ (.slice Y' (j + 1) cy')) ∧ Out g (g + 1) W6 w11 ∧ Out g (g + 1) W6 (w11.setCell ⟨g, 2, none⟩ (.slice Y' (j + 1) cy'))) := by
      intro v' w11 hown hgrow
      obtain ⟨Y', cy', rfl, hrw⟩ := own_slice hown
      have hr := own_cons hown
      have ho11 := hoA.grow_new hgrow (fun k hk => (owA.lt k hk).1)
      have hB11 : BlkIs w11 g 44 #[.slice X 4 cx, .slice X' 8 cx', .slice Y j cy, .int .i64 ((p : Int) + 1)] := (hgrow.block g hBA.lt (fun e => by have := (owA.lt g e.symm).1; omega)).trans hBA
      have ho12 : Out g (g + 1) W6 (w11.setCell ⟨g, 2, none⟩ (.slice Y' (j + 1) cy')) := out_set ho11 (by omega)
      have hB12 : BlkIs (w11.setCell ⟨g, 2, none⟩ (.slice Y' (j + 1) cy')) g 44 #[.slice X 4 cx, .slice X' 8 cx', .slice Y' (j + 1) cy', .int .i64 ((p : Int) + 1)] := hB11.set 2 _
      have hs11 := hgrow.size
      have ow12 := hr.out (show Out g (g + 1) w11 (w11.setCell ⟨g, 2, none⟩ (.slice Y' (j + 1) cy')) from out_set (Out.refl _ _ _) (by omega)) (by left; omega)
      exact ⟨Y', cy', rfl, hB11.cell 2, hB11.frozen 2, HO7.done ho12 (by rw [hl12]; exact hB12) (by rw [hl12]; exact ow12), HR7.out.out ho12 (by omega), HB7.out.trans (ho12.below (by omega) (by omega)), ho11, ho12⟩
    go_wp2_with fail
    refine wp_region_held_drew (S := fun W' => W'.cell? ⟨b, 0, none⟩ = some (.slice (some ⟨bA, oA, none⟩) 4 c) ∧ W'.cell? ⟨wc.heap.size, 1, none⟩ = some (.int .i64 (an : Int)) ∧ W'.cell? ⟨bA, oA + an, none⟩ = some (.int .i64 vl)) (by kernel_rfl) ⟨kb0, x110, kv⟩ ?_
    intro hHeld
    refine wpAnyH_take (i := 0) (v := ?_) rfl (by kernel_rfl) (by kernel_rfl) (by kernel_rfl) (fun _ _ _ h => h) (Or.inl ⟨by kernel_rfl, ?_⟩) (by assumption) ?_
    rotate_left
    · intro w9 hS9; (try dsimp only at hS9); go_simp; (try with_reducible rfl)
    set_option linter.unusedSimpArgs false in try simp only [Act.put, List.getElem_toArray, List.getElem_cons_succ, List.getElem_cons_zero, List.setIfInBounds_toArray, List.set_cons_zero, List.set_cons_succ]
    refine wpAnyH_take (i := 2) (v := ?_) rfl (by kernel_rfl) (by kernel_rfl) (by kernel_rfl) (fun _ _ _ h => h) (Or.inl ⟨by kernel_rfl, ?_⟩) (by assumption) ?_
    rotate_left
    · intro w9 hS9; (try dsimp only at hS9); go_simp; (try with_reducible rfl)
    set_option linter.unusedSimpArgs false in try simp only [Act.put, List.getElem_toArray, List.getElem_cons_succ, List.getElem_cons_zero, List.setIfInBounds_toArray, List.set_cons_zero, List.set_cons_succ]
    refine wpAnyH_take (i := 3) (v := ?_) rfl (by kernel_rfl) (by kernel_rfl) (by kernel_rfl) (fun _ _ _ h => h) (Or.inl ⟨by kernel_rfl, ?_⟩) (by assumption) ?_
    rotate_left
    · intro w9 hS9; (try dsimp only at hS9); go_simp; (try with_reducible rfl)
    set_option linter.unusedSimpArgs false in try simp only [Act.put, List.getElem_toArray, List.getElem_cons_succ, List.getElem_cons_zero, List.setIfInBounds_toArray, List.set_cons_zero, List.set_cons_succ]
    refine wpAnyH_take (i := 4) (v := ?_) rfl (by kernel_rfl) (by kernel_rfl) (by kernel_rfl) (fun _ _ _ h => h) (Or.inl ⟨by kernel_rfl, ?_⟩) (by assumption) ?_
    rotate_left
    · intro w9 hS9; (try dsimp only at hS9); go_simp; (try with_reducible rfl)
    set_option linter.unusedSimpArgs false in try simp only [Act.put, List.getElem_toArray, List.getElem_cons_succ, List.getElem_cons_zero, List.setIfInBounds_toArray, List.set_cons_zero, List.set_cons_succ]
    refine wpAnyH_take (i := 5) (v := ?_) rfl (by kernel_rfl) (by kernel_rfl) (by kernel_rfl) (fun _ _ _ h => h) (Or.inl ⟨by kernel_rfl, ?_⟩) (by assumption) ?_
    rotate_left
    · intro w9 hS9; (try dsimp only at hS9); go_simp; (try with_reducible rfl)
    set_option linter.unusedSimpArgs false in try simp only [Act.put, List.getElem_toArray, List.getElem_cons_succ, List.getElem_cons_zero, List.setIfInBounds_toArray, List.set_cons_zero, List.set_cons_succ]
    refine wpAnyH_take (i := 6) (v := ?_) rfl (by kernel_rfl) (by kernel_rfl) (by kernel_rfl) (fun _ _ _ h => h) (Or.inl ⟨by kernel_rfl, ?_⟩) (by assumption) ?_
    rotate_left
    · intro w9 hS9; (try dsimp only at hS9); go_simp; (try with_reducible rfl)
    set_option linter.unusedSimpArgs false in try simp only [Act.put, List.getElem_toArray, List.getElem_cons_succ, List.getElem_cons_zero, List.setIfInBounds_toArray, List.set_cons_zero, List.set_cons_succ]
    refine wpAnyH_take (i := 7) (v := ?_) rfl (by kernel_rfl) (by kernel_rfl) (by kernel_rfl) (fun _ _ _ h => h) (Or.inl ⟨by kernel_rfl, ?_⟩) (by assumption) ?_
    rotate_left
    · intro w9 hS9; (try dsimp only at hS9); go_simp; (try with_reducible rfl)
    set_option linter.unusedSimpArgs false in try simp only [Act.put, List.getElem_toArray, List.getElem_cons_succ, List.getElem_cons_zero, List.setIfInBounds_toArray, List.set_cons_zero, List.set_cons_succ]
    refine wpAnyH_take (i := 8) (v := ?_) rfl (by kernel_rfl) (by kernel_rfl) (by kernel_rfl) (fun _ _ _ h => h) (Or.inl ⟨by kernel_rfl, ?_⟩) (by assumption) ?_
    rotate_left
    · intro w9 hS9; (try dsimp only at hS9); go_simp; (try with_reducible rfl)
    set_option linter.unusedSimpArgs false in try simp only [Act.put, List.getElem_toArray, List.getElem_cons_succ, List.getElem_cons_zero, List.setIfInBounds_toArray, List.set_cons_zero, List.set_cons_succ]
    refine wpAnyH_take (i := 9) (v := ?_) rfl (by kernel_rfl) (by kernel_rfl) (by kernel_rfl) (fun _ _ _ h => h) (Or.inl ⟨by kernel_rfl, ?_⟩) (by assumption) ?_
    rotate_left
    · intro w9 hS9; (try dsimp only at hS9); go_simp; (try with_reducible rfl)
    set_option linter.unusedSimpArgs false in try simp only [Act.put, List.getElem_toArray, List.getElem_cons_succ, List.getElem_cons_zero, List.setIfInBounds_toArray, List.set_cons_zero, List.set_cons_succ]
    refine wpAnyH_take (i := 10) (v := ?_) rfl (by kernel_rfl) (by kernel_rfl) (by kernel_rfl) (fun _ _ _ h => h) (Or.inl ⟨by kernel_rfl, ?_⟩) (by assumption) ?_
    rotate_left
    · intro w9 hS9; (try dsimp only at hS9); go_simp; (try with_reducible rfl)
    set_option linter.unusedSimpArgs false in try simp only [Act.put, List.getElem_toArray, List.getElem_cons_succ, List.getElem_cons_zero, List.setIfInBounds_toArray, List.set_cons_zero, List.set_cons_succ]
    refine wpAnyH_ready (rs := [1, 11]) (by kernel_rfl) (by simp) ?_
    refine AllReadyH.cons rfl (fun K hK => ?_) (AllReadyH.cons rfl (fun K hK => ?_) AllReadyH.nil)
    · go_simp
      refine hK.out _ _ ⟨kb0, x110, kv⟩ (fun hHeldA => ?_)
      clear hK K hHeld
      set_option linter.unusedSimpArgs false in try simp only [Act.put, List.getElem_toArray, List.getElem_cons_succ, List.getElem_cons_zero, List.setIfInBounds_toArray, List.set_cons_zero, List.set_cons_succ]
      refine wpAnyH_ready (rs := [11]) (by kernel_rfl) (by simp) ?_
      refine AllReadyH.cons rfl (fun K hK => ?_) AllReadyH.nil
      go_simp
      refine hK.out _ _ ⟨kb0A, x110A, kvA⟩ (fun hHeld2 => ?_)
      clear hK K hHeldA
      set_option linter.unusedSimpArgs false in try simp only [Act.put, List.getElem_toArray, List.getElem_cons_succ, List.getElem_cons_zero, List.setIfInBounds_toArray, List.set_cons_zero, List.set_cons_succ]
      refine wpAnyH_ready (rs := [12]) (by kernel_rfl) (by simp) ?_
      refine AllReadyH.cons rfl (fun K hK => ?_) AllReadyH.nil
      refine Eq.mpr (if_pos (by kernel_rfl)) ?_
      refine wp_append_own _ _ _ 35 rfl W6.heap.size 2 i0 (.int .i64 0) 1 8 Try.underlying35 hif hz0 hz1 hz2 rfl (by decide) (.slice Y j cy) j _ rfl owA ⟨w8.heap.size, 0, none⟩ 1 1 [.int .i64 vl] rfl rfl (cell_one_at ((w8.setCell ⟨g, 2, none⟩ (.slice Y j cy)).setCell ⟨g, 3, none⟩ (.int .i64 ((p : Int) + 1))) _ _ _ (by simp)) (fun u hu => by simp at hu; subst hu; rfl) j63 (by have := hj.out; omega) hs8 (fun v' w11 hown hgrow _ => ?_)
      obtain ⟨Y', cy', rfl, m2, mf2, HOF, hRE, hbF, ho11, ho12⟩ := HARM.out v' w11 hown hgrow
      clear hown hgrow owA HARM
      refine hK.out _ _ ⟨ho11.cell vc0 (by omega), ho11.cell x1 (by omega), ho11.cell hvcell (by omega)⟩ (fun hHeld3 => ?_)
      clear hK K hHeld2
      set_option linter.unusedSimpArgs false in try simp only [Act.put, List.getElem_toArray, List.getElem_cons_succ, List.getElem_cons_zero, List.setIfInBounds_toArray, List.set_cons_zero, List.set_cons_succ]
      refine wpAnyH_take (i := 13) (v := ?_) rfl (by kernel_rfl) (by kernel_rfl) (by kernel_rfl) (fun _ _ _ h => h) (Or.inl ⟨by kernel_rfl, ?_⟩) (by assumption) ?_
      rotate_left
      · intro w9 hS9; (try dsimp only at hS9); go_simp; (try with_reducible rfl)
      set_option linter.unusedSimpArgs false in try simp only [Act.put, List.getElem_toArray, List.getElem_cons_succ, List.getElem_cons_zero, List.setIfInBounds_toArray, List.set_cons_zero, List.set_cons_succ]
      refine wpAnyH_ready (rs := [14]) (by kernel_rfl) (by simp) ?_
      refine AllReadyH.cons rfl (fun K hK => ?_) AllReadyH.nil
      go_simp
      refine hK.out _ _ ⟨ho12.cell vc0 (by omega), ho12.cell x1 (by omega), ho12.cell hvcell (by omega)⟩ (fun hHeld4 => ?_)
      clear hK K hHeld3 hHeld4
      refine wpAnyH_done (by kernel_rfl) ?_ _
      have u0 : (w11.setCell ⟨g, 2, none⟩ (.slice Y' (j + 1) cy')).cell? ⟨g, 0, none⟩ = some (.slice X 4 cx) := HOF.blk.cell 0
      have u1 : (w11.setCell ⟨g, 2, none⟩ (.slice Y' (j + 1) cy')).cell? ⟨g, 1, none⟩ = some (.slice X' 8 cx') := HOF.blk.cell 1
      have u2 : (w11.setCell ⟨g, 2, none⟩ (.slice Y' (j + 1) cy')).cell? ⟨g, 2, none⟩ = some (.slice Y' (j + 1) cy') := (by have := HOF.blk.cell 2; rw [hl12] at this; exact this)
      have u3 : (w11.setCell ⟨g, 2, none⟩ (.slice Y' (j + 1) cy')).cell? ⟨g, 3, none⟩ = some (.int .i64 ((p : Int) + 1)) := HOF.blk.cell 3
      have z0 : (w11.setCell ⟨g, 2, none⟩ (.slice Y' (j + 1) cy')).cell? ⟨w.heap.size, 0, none⟩ = some (.slice none 0 0) := hRE.cell 0
      have z1 : (w11.setCell ⟨g, 2, none⟩ (.slice Y' (j + 1) cy')).cell? ⟨w.heap.size, 1, none⟩ = some (.slice none 0 0) := hRE.cell 1
      have z2 : (w11.setCell ⟨g, 2, none⟩ (.slice Y' (j + 1) cy')).cell? ⟨w.heap.size, 2, none⟩ = some (.slice none 0 0) := hRE.cell 2
      have z3 : (w11.setCell ⟨g, 2, none⟩ (.slice Y' (j + 1) cy')).cell? ⟨w.heap.size, 3, none⟩ = some (.int .i64 0) := hRE.cell 3
      have y0 := hRE.frozen 0
      have y1 := hRE.frozen 1
      have y2 := hRE.frozen 2
      have y3 := hRE.frozen 3
      set_option linter.unusedSimpArgs false in try simp only [Act.put, List.getElem_toArray, List.getElem_cons_succ, List.getElem_cons_zero, List.setIfInBounds_toArray, List.set_cons_zero, List.set_cons_succ]
      go_wp2_with fail
      have hR5 := (((hRE.set 0 (.slice X 4 cx)).set 1 (.slice X' 8 cx')).set 2 (.slice Y' (j + 1) cy')).set 3 (.int .i64 ((p : Int) + 1))
      have ho5 : Out w.heap.size (w.heap.size + 1) (w11.setCell ⟨g, 2, none⟩ (.slice Y' (j + 1) cy')) (((((w11.setCell ⟨g, 2, none⟩ (.slice Y' (j + 1) cy')).setCell ⟨w.heap.size, 0, none⟩ (.slice X 4 cx)).setCell ⟨w.heap.size, 1, none⟩ (.slice X' 8 cx')).setCell ⟨w.heap.size, 2, none⟩ (.slice Y' (j + 1) cy')).setCell ⟨w.heap.size, 3, none⟩ (.int .i64 ((p : Int) + 1))) := out_set (out_set (out_set (out_set (Out.refl _ _ _) (by omega)) (by omega)) (by omega)) (by omega)
      have HO5 := HOF.out ho5 (by omega)
      have s0 : (((((w11.setCell ⟨g, 2, none⟩ (.slice Y' (j + 1) cy')).setCell ⟨w.heap.size, 0, none⟩ (.slice X 4 cx)).setCell ⟨w.heap.size, 1, none⟩ (.slice X' 8 cx')).setCell ⟨w.heap.size, 2, none⟩ (.slice Y' (j + 1) cy')).setCell ⟨w.heap.size, 3, none⟩ (.int .i64 ((p : Int) + 1))).cell? ⟨w.heap.size, 0, none⟩ = some (.slice X 4 cx) := by rw [hR5.cell 0]; simp
      have s1 : (((((w11.setCell ⟨g, 2, none⟩ (.slice Y' (j + 1) cy')).setCell ⟨w.heap.size, 0, none⟩ (.slice X 4 cx)).setCell ⟨w.heap.size, 1, none⟩ (.slice X' 8 cx')).setCell ⟨w.heap.size, 2, none⟩ (.slice Y' (j + 1) cy')).setCell ⟨w.heap.size, 3, none⟩ (.int .i64 ((p : Int) + 1))).cell? ⟨w.heap.size, 1, none⟩ = some (.slice X' 8 cx') := by rw [hR5.cell 1]; simp
      have s2 : (((((w11.setCell ⟨g, 2, none⟩ (.slice Y' (j + 1) cy')).setCell ⟨w.heap.size, 0, none⟩ (.slice X 4 cx)).setCell ⟨w.heap.size, 1, none⟩ (.slice X' 8 cx')).setCell ⟨w.heap.size, 2, none⟩ (.slice Y' (j + 1) cy')).setCell ⟨w.heap.size, 3, none⟩ (.int .i64 ((p : Int) + 1))).cell? ⟨w.heap.size, 2, none⟩ = some (.slice Y' (j + 1) cy') := by rw [hR5.cell 2]; simp
      have s3 : (((((w11.setCell ⟨g, 2, none⟩ (.slice Y' (j + 1) cy')).setCell ⟨w.heap.size, 0, none⟩ (.slice X 4 cx)).setCell ⟨w.heap.size, 1, none⟩ (.slice X' 8 cx')).setCell ⟨w.heap.size, 2, none⟩ (.slice Y' (j + 1) cy')).setCell ⟨w.heap.size, 3, none⟩ (.int .i64 ((p : Int) + 1))).cell? ⟨w.heap.size, 3, none⟩ = some (.int .i64 ((p : Int) + 1)) := by rw [hR5.cell 3]; simp
      have hb5 := (hbF).trans (ho5.below (Nat.le_refl _) (hbF).size)
      generalize (((((w11.setCell ⟨g, 2, none⟩ (.slice Y' (j + 1) cy')).setCell ⟨w.heap.size, 0, none⟩ (.slice X 4 cx)).setCell ⟨w.heap.size, 1, none⟩ (.slice X' 8 cx')).setCell ⟨w.heap.size, 2, none⟩ (.slice Y' (j + 1) cy')).setCell ⟨w.heap.size, 3, none⟩ (.int .i64 ((p : Int) + 1))) = W5 at s0 s1 s2 s3 HO5 hb5 ⊢
      refine bodyPost_ret (v := .tuple #[.agg #[.slice X 4 cx, .slice X' 8 cx', .slice Y' (j + 1) cy', .int .i64 ((p : Int) + 1)], .int .i64 0]) (by simp [results, Try.results62, go_sem, s0, s1, s2, s3]) rfl ?_
      rw [nextB_done HO0.out, HVS.out, HZS.out, HST.out, HAT.out, hvl.out]
      obtain ⟨r1, r2, r3⟩ := HO5.rows
      exact ⟨X, cx, X', cx', Y', cy', by rw [hl12], r1.less (by omega), r2.less (by omega), r3.less (by omega), hb5⟩
    · go_simp
      refine hK.out _ _ ⟨kb0A, x110A, kvA⟩ (fun hHeldA => ?_)
      clear hK K hHeld
      set_option linter.unusedSimpArgs false in try simp only [Act.put, List.getElem_toArray, List.getElem_cons_succ, List.getElem_cons_zero, List.setIfInBounds_toArray, List.set_cons_zero, List.set_cons_succ]
      refine wpAnyH_ready (rs := [1]) (by kernel_rfl) (by simp) ?_
      refine AllReadyH.cons rfl (fun K hK => ?_) AllReadyH.nil
      go_simp
      refine hK.out _ _ ⟨kb0A, x110A, kvA⟩ (fun hHeld2 => ?_)
      clear hK K hHeldA
      set_option linter.unusedSimpArgs false in try simp only [Act.put, List.getElem_toArray, List.getElem_cons_succ, List.getElem_cons_zero, List.setIfInBounds_toArray, List.set_cons_zero, List.set_cons_succ]
      refine wpAnyH_ready (rs := [12]) (by kernel_rfl) (by simp) ?_
      refine AllReadyH.cons rfl (fun K hK => ?_) AllReadyH.nil
      refine Eq.mpr (if_pos (by kernel_rfl)) ?_
      refine wp_append_own _ _ _ 35 rfl W6.heap.size 2 i0 (.int .i64 0) 1 8 Try.underlying35 hif hz0 hz1 hz2 rfl (by decide) (.slice Y j cy) j _ rfl owA ⟨w8.heap.size, 0, none⟩ 1 1 [.int .i64 vl] rfl rfl (cell_one_at ((w8.setCell ⟨g, 2, none⟩ (.slice Y j cy)).setCell ⟨g, 3, none⟩ (.int .i64 ((p : Int) + 1))) _ _ _ (by simp)) (fun u hu => by simp at hu; subst hu; rfl) j63 (by have := hj.out; omega) hs8 (fun v' w11 hown hgrow _ => ?_)
      obtain ⟨Y', cy', rfl, m2, mf2, HOF, hRE, hbF, ho11, ho12⟩ := HARM.out v' w11 hown hgrow
      clear hown hgrow owA HARM
      refine hK.out _ _ ⟨ho11.cell vc0 (by omega), ho11.cell x1 (by omega), ho11.cell hvcell (by omega)⟩ (fun hHeld3 => ?_)
      clear hK K hHeld2
      set_option linter.unusedSimpArgs false in try simp only [Act.put, List.getElem_toArray, List.getElem_cons_succ, List.getElem_cons_zero, List.setIfInBounds_toArray, List.set_cons_zero, List.set_cons_succ]
      refine wpAnyH_take (i := 13) (v := ?_) rfl (by kernel_rfl) (by kernel_rfl) (by kernel_rfl) (fun _ _ _ h => h) (Or.inl ⟨by kernel_rfl, ?_⟩) (by assumption) ?_
      rotate_left
      · intro w9 hS9; (try dsimp only at hS9); go_simp; (try with_reducible rfl)
      set_option linter.unusedSimpArgs false in try simp only [Act.put, List.getElem_toArray, List.getElem_cons_succ, List.getElem_cons_zero, List.setIfInBounds_toArray, List.set_cons_zero, List.set_cons_succ]
      refine wpAnyH_ready (rs := [14]) (by kernel_rfl) (by simp) ?_
      refine AllReadyH.cons rfl (fun K hK => ?_) AllReadyH.nil
      go_simp
      refine hK.out _ _ ⟨ho12.cell vc0 (by omega), ho12.cell x1 (by omega), ho12.cell hvcell (by omega)⟩ (fun hHeld4 => ?_)
      clear hK K hHeld3 hHeld4
      refine wpAnyH_done (by kernel_rfl) ?_ _
      have u0 : (w11.setCell ⟨g, 2, none⟩ (.slice Y' (j + 1) cy')).cell? ⟨g, 0, none⟩ = some (.slice X 4 cx) := HOF.blk.cell 0
      have u1 : (w11.setCell ⟨g, 2, none⟩ (.slice Y' (j + 1) cy')).cell? ⟨g, 1, none⟩ = some (.slice X' 8 cx') := HOF.blk.cell 1
      have u2 : (w11.setCell ⟨g, 2, none⟩ (.slice Y' (j + 1) cy')).cell? ⟨g, 2, none⟩ = some (.slice Y' (j + 1) cy') := (by have := HOF.blk.cell 2; rw [hl12] at this; exact this)
      have u3 : (w11.setCell ⟨g, 2, none⟩ (.slice Y' (j + 1) cy')).cell? ⟨g, 3, none⟩ = some (.int .i64 ((p : Int) + 1)) := HOF.blk.cell 3
      have z0 : (w11.setCell ⟨g, 2, none⟩ (.slice Y' (j + 1) cy')).cell? ⟨w.heap.size, 0, none⟩ = some (.slice none 0 0) := hRE.cell 0
      have z1 : (w11.setCell ⟨g, 2, none⟩ (.slice Y' (j + 1) cy')).cell? ⟨w.heap.size, 1, none⟩ = some (.slice none 0 0) := hRE.cell 1
      have z2 : (w11.setCell ⟨g, 2, none⟩ (.slice Y' (j + 1) cy')).cell? ⟨w.heap.size, 2, none⟩ = some (.slice none 0 0) := hRE.cell 2
      have z3 : (w11.setCell ⟨g, 2, none⟩ (.slice Y' (j + 1) cy')).cell? ⟨w.heap.size, 3, none⟩ = some (.int .i64 0) := hRE.cell 3
      have y0 := hRE.frozen 0
      have y1 := hRE.frozen 1
      have y2 := hRE.frozen 2
      have y3 := hRE.frozen 3
      set_option linter.unusedSimpArgs false in try simp only [Act.put, List.getElem_toArray, List.getElem_cons_succ, List.getElem_cons_zero, List.setIfInBounds_toArray, List.set_cons_zero, List.set_cons_succ]
      go_wp2_with fail
      have hR5 := (((hRE.set 0 (.slice X 4 cx)).set 1 (.slice X' 8 cx')).set 2 (.slice Y' (j + 1) cy')).set 3 (.int .i64 ((p : Int) + 1))
      have ho5 : Out w.heap.size (w.heap.size + 1) (w11.setCell ⟨g, 2, none⟩ (.slice Y' (j + 1) cy')) (((((w11.setCell ⟨g, 2, none⟩ (.slice Y' (j + 1) cy')).setCell ⟨w.heap.size, 0, none⟩ (.slice X 4 cx)).setCell ⟨w.heap.size, 1, none⟩ (.slice X' 8 cx')).setCell ⟨w.heap.size, 2, none⟩ (.slice Y' (j + 1) cy')).setCell ⟨w.heap.size, 3, none⟩ (.int .i64 ((p : Int) + 1))) := out_set (out_set (out_set (out_set (Out.refl _ _ _) (by omega)) (by omega)) (by omega)) (by omega)
      have HO5 := HOF.out ho5 (by omega)
      have s0 : (((((w11.setCell ⟨g, 2, none⟩ (.slice Y' (j + 1) cy')).setCell ⟨w.heap.size, 0, none⟩ (.slice X 4 cx)).setCell ⟨w.heap.size, 1, none⟩ (.slice X' 8 cx')).setCell ⟨w.heap.size, 2, none⟩ (.slice Y' (j + 1) cy')).setCell ⟨w.heap.size, 3, none⟩ (.int .i64 ((p : Int) + 1))).cell? ⟨w.heap.size, 0, none⟩ = some (.slice X 4 cx) := by rw [hR5.cell 0]; simp
      have s1 : (((((w11.setCell ⟨g, 2, none⟩ (.slice Y' (j + 1) cy')).setCell ⟨w.heap.size, 0, none⟩ (.slice X 4 cx)).setCell ⟨w.heap.size, 1, none⟩ (.slice X' 8 cx')).setCell ⟨w.heap.size, 2, none⟩ (.slice Y' (j + 1) cy')).setCell ⟨w.heap.size, 3, none⟩ (.int .i64 ((p : Int) + 1))).cell? ⟨w.heap.size, 1, none⟩ = some (.slice X' 8 cx') := by rw [hR5.cell 1]; simp
      have s2 : (((((w11.setCell ⟨g, 2, none⟩ (.slice Y' (j + 1) cy')).setCell ⟨w.heap.size, 0, none⟩ (.slice X 4 cx)).setCell ⟨w.heap.size, 1, none⟩ (.slice X' 8 cx')).setCell ⟨w.heap.size, 2, none⟩ (.slice Y' (j + 1) cy')).setCell ⟨w.heap.size, 3, none⟩ (.int .i64 ((p : Int) + 1))).cell? ⟨w.heap.size, 2, none⟩ = some (.slice Y' (j + 1) cy') := by rw [hR5.cell 2]; simp
      have s3 : (((((w11.setCell ⟨g, 2, none⟩ (.slice Y' (j + 1) cy')).setCell ⟨w.heap.size, 0, none⟩ (.slice X 4 cx)).setCell ⟨w.heap.size, 1, none⟩ (.slice X' 8 cx')).setCell ⟨w.heap.size, 2, none⟩ (.slice Y' (j + 1) cy')).setCell ⟨w.heap.size, 3, none⟩ (.int .i64 ((p : Int) + 1))).cell? ⟨w.heap.size, 3, none⟩ = some (.int .i64 ((p : Int) + 1)) := by rw [hR5.cell 3]; simp
      have hb5 := (hbF).trans (ho5.below (Nat.le_refl _) (hbF).size)
      generalize (((((w11.setCell ⟨g, 2, none⟩ (.slice Y' (j + 1) cy')).setCell ⟨w.heap.size, 0, none⟩ (.slice X 4 cx)).setCell ⟨w.heap.size, 1, none⟩ (.slice X' 8 cx')).setCell ⟨w.heap.size, 2, none⟩ (.slice Y' (j + 1) cy')).setCell ⟨w.heap.size, 3, none⟩ (.int .i64 ((p : Int) + 1))) = W5 at s0 s1 s2 s3 HO5 hb5 ⊢
      refine bodyPost_ret (v := .tuple #[.agg #[.slice X 4 cx, .slice X' 8 cx', .slice Y' (j + 1) cy', .int .i64 ((p : Int) + 1)], .int .i64 0]) (by simp [results, Try.results62, go_sem, s0, s1, s2, s3]) rfl ?_
      rw [nextB_done HO0.out, HVS.out, HZS.out, HST.out, HAT.out, hvl.out]
      obtain ⟨r1, r2, r3⟩ := HO5.rows
      exact ⟨X, cx, X', cx', Y', cy', by rw [hl12], r1.less (by omega), r2.less (by omega), r3.less (by omega), hb5⟩
  · clear hops
    have epu : pushB 5 = 0 := rfl
    have jq : (j : Int) ≤ 6 := by have := hj.out; omega
    have fwp : IntKind.i64.wrap (j : Int) = (j : Int) := IntWalk.i64_in _ (by omega)
    have jt : (6 < (j : Int)) = False := by simp; omega
    have jtn : (6 < j) = False := by simp; omega
    have HO0 : Hid (outO 5 a st = 0) := outO_ok (by decide) (by unfold cellStop; simp) (by unfold rangeStop; simp) (by simp)
    have HST : Hid (stO 5 a vs zs st = st.take j) := by
      show _ = _
      unfold stO
      rw [if_neg (by decide), restR_0 rfl, List.take_of_length_le (by have := hj.out; omega)]
    have HVS : Hid (varsO 5 a vs st = vs) := varsO_same (by decide) vs
    have HZS : Hid (cellsO 5 zs st = zs) := cellsO_same (by decide) zs
    have HAT : Hid (atO 5 a st (p : Int) = a) := if_pos (.inl rfl)
    have HO7 := HO6
    have HR7 := HR6
    have HB7 := HB6
    have HS7 := HV2
    have hsX7 := hsX
    have HV07 := HV0
    have HV17 := HV1
    have vc0 : W6.cell? ⟨b, 0, none⟩ = some (.slice A 4 c) := HP6.out.cell 0
    clear HO6 HR6 HB6 HV2 hX hbX HP6
    go_wp2_with fail
    refine (l00Own_c A2 j c2 B (st.take j) W6 (HS7.out.cut (by have := hj.out; omega)) (by have := HB7.out.size; omega) (by have := hj.out; omega)).mono ?_
    rintro e w8 ⟨Y, cy, rfl, ow8, hb8⟩
    have hl8 : (st.take j).length = j := by rw [List.length_take]; have := hj.out; omega
    have hs7 := HB7.out.size
    have hge7 := HO7.ge
    have ho8 : Out g (g + 1) W6 w8 := Out.of_below hb8
    have hB8 := HO7.blk.next hb8
    have k2 : w8.cell? ⟨g, 2, none⟩ = some (.slice X2 st.length cx2) := hB8.cell 2
    have kf2 := hB8.frozen 2
    have ho9 : Out g (g + 1) W6 (w8.setCell ⟨g, 2, none⟩ (.slice Y j cy)) := out_set ho8 (by omega)
    have hB9 : BlkIs (w8.setCell ⟨g, 2, none⟩ (.slice Y j cy)) g 44 #[.slice X 4 cx, .slice X' 8 cx', .slice Y j cy, .int .i64 p] := hB8.set 2 _
    have k3 : (w8.setCell ⟨g, 2, none⟩ (.slice Y j cy)).cell? ⟨g, 3, none⟩ = some (.int .i64 p) := hB9.cell 3
    have kf3 := hB9.frozen 3
    have v39 := ho9.cell v3 (by omega)
    have fwq : IntKind.i64.wrap ((p : Int) + 1) = (p : Int) + 1 := IntWalk.i64_in _ (by omega)
    have ho10 : Out g (g + 1) W6 ((w8.setCell ⟨g, 2, none⟩ (.slice Y j cy)).setCell ⟨g, 3, none⟩ (.int .i64 ((p : Int) + 1))) := out_set ho9 (by omega)
    have hB10 : BlkIs ((w8.setCell ⟨g, 2, none⟩ (.slice Y j cy)).setCell ⟨g, 3, none⟩ (.int .i64 ((p : Int) + 1))) g 44 #[.slice X 4 cx, .slice X' 8 cx', .slice Y j cy, .int .i64 ((p : Int) + 1)] := hB9.set 3 _
    have x010 := ho10.cell x0 (by omega)
    have x110 := ho10.cell x1 (by omega)
    have hR10 := HR7.out.out ho10 (by omega)
    have ow10 : OwnL ((w8.setCell ⟨g, 2, none⟩ (.slice Y j cy)).setCell ⟨g, 3, none⟩ (.int .i64 ((p : Int) + 1))) W6.heap.size w8.heap.size Y j cy (st.take j) := ow8.out (show Out g (g + 1) w8 ((w8.setCell ⟨g, 2, none⟩ (.slice Y j cy)).setCell ⟨g, 3, none⟩ (.int .i64 ((p : Int) + 1))) from out_set (out_set (Out.refl _ _ _) (by omega)) (by omega)) (by left; omega)
    have HOW10 := Lib.hid ow10
    have HOW8 := Lib.hid ow8
    clear ow10 ow8 hB8
    have kk3 : ((w8.setCell ⟨g, 2, none⟩ (.slice Y j cy)).setCell ⟨g, 3, none⟩ (.int .i64 ((p : Int) + 1))).cell? ⟨g, 3, none⟩ = some (.int .i64 ((p : Int) + 1)) := hB10.cell 3
    have kkf3 := hB10.frozen 3
    have ho11 : Out g (g + 1) W6 (((w8.setCell ⟨g, 2, none⟩ (.slice Y j cy)).setCell ⟨g, 3, none⟩ (.int .i64 ((p : Int) + 1))).setCell ⟨g, 3, none⟩ (.int .i64 a)) := out_set ho10 (by omega)
    have hB11 : BlkIs (((w8.setCell ⟨g, 2, none⟩ (.slice Y j cy)).setCell ⟨g, 3, none⟩ (.int .i64 ((p : Int) + 1))).setCell ⟨g, 3, none⟩ (.int .i64 a)) g 44 #[.slice X 4 cx, .slice X' 8 cx', .slice Y j cy, .int .i64 a] := hB10.set 3 _
    have ow11 := HOW10.out.out (show Out g (g + 1) ((w8.setCell ⟨g, 2, none⟩ (.slice Y j cy)).setCell ⟨g, 3, none⟩ (.int .i64 ((p : Int) + 1))) (((w8.setCell ⟨g, 2, none⟩ (.slice Y j cy)).setCell ⟨g, 3, none⟩ (.int .i64 ((p : Int) + 1))).setCell ⟨g, 3, none⟩ (.int .i64 a)) from out_set (Out.refl _ _ _) (by omega)) (by left; omega)
    have HOW11 := Lib.hid ow11
    clear ow11
    have HOF0 : OutIs (((w8.setCell ⟨g, 2, none⟩ (.slice Y j cy)).setCell ⟨g, 3, none⟩ (.int .i64 ((p : Int) + 1))).setCell ⟨g, 3, none⟩ (.int .i64 a)) W.heap.size g X cx X' cx' Y cy vs zs (st.take j) (a) := HO7.done ho11 (by rw [hl8]; exact hB11) (by rw [hl8]; exact HOW11.out)
    have HOF := HOF0
    clear HOF0
    have hRE := HR7.out.out ho11 (by omega)
    have u0 : (((w8.setCell ⟨g, 2, none⟩ (.slice Y j cy)).setCell ⟨g, 3, none⟩ (.int .i64 ((p : Int) + 1))).setCell ⟨g, 3, none⟩ (.int .i64 a)).cell? ⟨g, 0, none⟩ = some (.slice X 4 cx) := HOF.blk.cell 0
    have u1 : (((w8.setCell ⟨g, 2, none⟩ (.slice Y j cy)).setCell ⟨g, 3, none⟩ (.int .i64 ((p : Int) + 1))).setCell ⟨g, 3, none⟩ (.int .i64 a)).cell? ⟨g, 1, none⟩ = some (.slice X' 8 cx') := HOF.blk.cell 1
    have u2 : (((w8.setCell ⟨g, 2, none⟩ (.slice Y j cy)).setCell ⟨g, 3, none⟩ (.int .i64 ((p : Int) + 1))).setCell ⟨g, 3, none⟩ (.int .i64 a)).cell? ⟨g, 2, none⟩ = some (.slice Y j cy) := (by have := HOF.blk.cell 2; rw [hl8] at this; exact this)
    have u3 : (((w8.setCell ⟨g, 2, none⟩ (.slice Y j cy)).setCell ⟨g, 3, none⟩ (.int .i64 ((p : Int) + 1))).setCell ⟨g, 3, none⟩ (.int .i64 a)).cell? ⟨g, 3, none⟩ = some (.int .i64 a) := HOF.blk.cell 3
    have z0 : (((w8.setCell ⟨g, 2, none⟩ (.slice Y j cy)).setCell ⟨g, 3, none⟩ (.int .i64 ((p : Int) + 1))).setCell ⟨g, 3, none⟩ (.int .i64 a)).cell? ⟨w.heap.size, 0, none⟩ = some (.slice none 0 0) := hRE.cell 0
    have z1 : (((w8.setCell ⟨g, 2, none⟩ (.slice Y j cy)).setCell ⟨g, 3, none⟩ (.int .i64 ((p : Int) + 1))).setCell ⟨g, 3, none⟩ (.int .i64 a)).cell? ⟨w.heap.size, 1, none⟩ = some (.slice none 0 0) := hRE.cell 1
    have z2 : (((w8.setCell ⟨g, 2, none⟩ (.slice Y j cy)).setCell ⟨g, 3, none⟩ (.int .i64 ((p : Int) + 1))).setCell ⟨g, 3, none⟩ (.int .i64 a)).cell? ⟨w.heap.size, 2, none⟩ = some (.slice none 0 0) := hRE.cell 2
    have z3 : (((w8.setCell ⟨g, 2, none⟩ (.slice Y j cy)).setCell ⟨g, 3, none⟩ (.int .i64 ((p : Int) + 1))).setCell ⟨g, 3, none⟩ (.int .i64 a)).cell? ⟨w.heap.size, 3, none⟩ = some (.int .i64 0) := hRE.cell 3
    have y0 := hRE.frozen 0
    have y1 := hRE.frozen 1
    have y2 := hRE.frozen 2
    have y3 := hRE.frozen 3
    have hbF := HB7.out.trans ((ho11).below (by omega) (by omega) : Below w.heap.size W6 (((w8.setCell ⟨g, 2, none⟩ (.slice Y j cy)).setCell ⟨g, 3, none⟩ (.int .i64 ((p : Int) + 1))).setCell ⟨g, 3, none⟩ (.int .i64 a)))
    go_wp2_with fail
    have hR5 := (((hRE.set 0 (.slice X 4 cx)).set 1 (.slice X' 8 cx')).set 2 (.slice Y j cy)).set 3 (.int .i64 a)
    have ho5 : Out w.heap.size (w.heap.size + 1) (((w8.setCell ⟨g, 2, none⟩ (.slice Y j cy)).setCell ⟨g, 3, none⟩ (.int .i64 ((p : Int) + 1))).setCell ⟨g, 3, none⟩ (.int .i64 a)) (((((((w8.setCell ⟨g, 2, none⟩ (.slice Y j cy)).setCell ⟨g, 3, none⟩ (.int .i64 ((p : Int) + 1))).setCell ⟨g, 3, none⟩ (.int .i64 a)).setCell ⟨w.heap.size, 0, none⟩ (.slice X 4 cx)).setCell ⟨w.heap.size, 1, none⟩ (.slice X' 8 cx')).setCell ⟨w.heap.size, 2, none⟩ (.slice Y j cy)).setCell ⟨w.heap.size, 3, none⟩ (.int .i64 a)) := out_set (out_set (out_set (out_set (Out.refl _ _ _) (by omega)) (by omega)) (by omega)) (by omega)
    have HO5 := HOF.out ho5 (by omega)
    have s0 : (((((((w8.setCell ⟨g, 2, none⟩ (.slice Y j cy)).setCell ⟨g, 3, none⟩ (.int .i64 ((p : Int) + 1))).setCell ⟨g, 3, none⟩ (.int .i64 a)).setCell ⟨w.heap.size, 0, none⟩ (.slice X 4 cx)).setCell ⟨w.heap.size, 1, none⟩ (.slice X' 8 cx')).setCell ⟨w.heap.size, 2, none⟩ (.slice Y j cy)).setCell ⟨w.heap.size, 3, none⟩ (.int .i64 a)).cell? ⟨w.heap.size, 0, none⟩ = some (.slice X 4 cx) := by rw [hR5.cell 0]; simp
    have s1 : (((((((w8.setCell ⟨g, 2, none⟩ (.slice Y j cy)).setCell ⟨g, 3, none⟩ (.int .i64 ((p : Int) + 1))).setCell ⟨g, 3, none⟩ (.int .i64 a)).setCell ⟨w.heap.size, 0, none⟩ (.slice X 4 cx)).setCell ⟨w.heap.size, 1, none⟩ (.slice X' 8 cx')).setCell ⟨w.heap.size, 2, none⟩ (.slice Y j cy)).setCell ⟨w.heap.size, 3, none⟩ (.int .i64 a)).cell? ⟨w.heap.size, 1, none⟩ = some (.slice X' 8 cx') := by rw [hR5.cell 1]; simp
    have s2 : (((((((w8.setCell ⟨g, 2, none⟩ (.slice Y j cy)).setCell ⟨g, 3, none⟩ (.int .i64 ((p : Int) + 1))).setCell ⟨g, 3, none⟩ (.int .i64 a)).setCell ⟨w.heap.size, 0, none⟩ (.slice X 4 cx)).setCell ⟨w.heap.size, 1, none⟩ (.slice X' 8 cx')).setCell ⟨w.heap.size, 2, none⟩ (.slice Y j cy)).setCell ⟨w.heap.size, 3, none⟩ (.int .i64 a)).cell? ⟨w.heap.size, 2, none⟩ = some (.slice Y j cy) := by rw [hR5.cell 2]; simp
    have s3 : (((((((w8.setCell ⟨g, 2, none⟩ (.slice Y j cy)).setCell ⟨g, 3, none⟩ (.int .i64 ((p : Int) + 1))).setCell ⟨g, 3, none⟩ (.int .i64 a)).setCell ⟨w.heap.size, 0, none⟩ (.slice X 4 cx)).setCell ⟨w.heap.size, 1, none⟩ (.slice X' 8 cx')).setCell ⟨w.heap.size, 2, none⟩ (.slice Y j cy)).setCell ⟨w.heap.size, 3, none⟩ (.int .i64 a)).cell? ⟨w.heap.size, 3, none⟩ = some (.int .i64 a) := by rw [hR5.cell 3]; simp
    have hb5 := (hbF).trans (ho5.below (Nat.le_refl _) (hbF).size)
    generalize (((((((w8.setCell ⟨g, 2, none⟩ (.slice Y j cy)).setCell ⟨g, 3, none⟩ (.int .i64 ((p : Int) + 1))).setCell ⟨g, 3, none⟩ (.int .i64 a)).setCell ⟨w.heap.size, 0, none⟩ (.slice X 4 cx)).setCell ⟨w.heap.size, 1, none⟩ (.slice X' 8 cx')).setCell ⟨w.heap.size, 2, none⟩ (.slice Y j cy)).setCell ⟨w.heap.size, 3, none⟩ (.int .i64 a)) = W5 at s0 s1 s2 s3 HO5 hb5 ⊢
    refine bodyPost_ret (v := .tuple #[.agg #[.slice X 4 cx, .slice X' 8 cx', .slice Y j cy, .int .i64 a], .int .i64 0]) (by simp [results, Try.results62, go_sem, s0, s1, s2, s3]) rfl ?_
    rw [nextB_done HO0.out, HVS.out, HZS.out, HST.out, HAT.out]
    obtain ⟨r1, r2, r3⟩ := HO5.rows
    exact ⟨X, cx, X', cx', Y, cy, by rw [hl8], r1.less (by omega), r2.less (by omega), r3.less (by omega), hb5⟩
  · clear hops
    have epu : pushB 9 = 0 := rfl
    have jq : (j : Int) ≤ 6 := by have := hj.out; omega
    have fwp : IntKind.i64.wrap (j : Int) = (j : Int) := IntWalk.i64_in _ (by omega)
    have jt : (6 < (j : Int)) = False := by simp; omega
    have jtn : (6 < j) = False := by simp; omega
    have HO0 : Hid (outO 9 a st = 0) := outO_ok (by decide) (by unfold cellStop; simp) (by unfold rangeStop; simp) (by simp)
    have HST : Hid (stO 9 a vs zs st = st.take j) := by
      show _ = _
      unfold stO
      rw [if_neg (by decide), restR_0 rfl, List.take_of_length_le (by have := hj.out; omega)]
    have HVS : Hid (varsO 9 a vs st = vs) := varsO_same (by decide) vs
    have HZS : Hid (cellsO 9 zs st = zs) := cellsO_same (by decide) zs
    have HAT : Hid (atO 9 a st (p : Int) = (p : Int) + 1) := atO_next (by decide) (by decide)
    have HO7 := HO6
    have HR7 := HR6
    have HB7 := HB6
    have HS7 := HV2
    have hsX7 := hsX
    have HV07 := HV0
    have HV17 := HV1
    have vc0 : W6.cell? ⟨b, 0, none⟩ = some (.slice A 4 c) := HP6.out.cell 0
    clear HO6 HR6 HB6 HV2 hX hbX HP6
    go_wp2_with fail
    refine (l00Own_c A2 j c2 B (st.take j) W6 (HS7.out.cut (by have := hj.out; omega)) (by have := HB7.out.size; omega) (by have := hj.out; omega)).mono ?_
    rintro e w8 ⟨Y, cy, rfl, ow8, hb8⟩
    have hl8 : (st.take j).length = j := by rw [List.length_take]; have := hj.out; omega
    have hs7 := HB7.out.size
    have hge7 := HO7.ge
    have ho8 : Out g (g + 1) W6 w8 := Out.of_below hb8
    have hB8 := HO7.blk.next hb8
    have k2 : w8.cell? ⟨g, 2, none⟩ = some (.slice X2 st.length cx2) := hB8.cell 2
    have kf2 := hB8.frozen 2
    have ho9 : Out g (g + 1) W6 (w8.setCell ⟨g, 2, none⟩ (.slice Y j cy)) := out_set ho8 (by omega)
    have hB9 : BlkIs (w8.setCell ⟨g, 2, none⟩ (.slice Y j cy)) g 44 #[.slice X 4 cx, .slice X' 8 cx', .slice Y j cy, .int .i64 p] := hB8.set 2 _
    have k3 : (w8.setCell ⟨g, 2, none⟩ (.slice Y j cy)).cell? ⟨g, 3, none⟩ = some (.int .i64 p) := hB9.cell 3
    have kf3 := hB9.frozen 3
    have v39 := ho9.cell v3 (by omega)
    have fwq : IntKind.i64.wrap ((p : Int) + 1) = (p : Int) + 1 := IntWalk.i64_in _ (by omega)
    have ho10 : Out g (g + 1) W6 ((w8.setCell ⟨g, 2, none⟩ (.slice Y j cy)).setCell ⟨g, 3, none⟩ (.int .i64 ((p : Int) + 1))) := out_set ho9 (by omega)
    have hB10 : BlkIs ((w8.setCell ⟨g, 2, none⟩ (.slice Y j cy)).setCell ⟨g, 3, none⟩ (.int .i64 ((p : Int) + 1))) g 44 #[.slice X 4 cx, .slice X' 8 cx', .slice Y j cy, .int .i64 ((p : Int) + 1)] := hB9.set 3 _
    have x010 := ho10.cell x0 (by omega)
    have x110 := ho10.cell x1 (by omega)
    have hR10 := HR7.out.out ho10 (by omega)
    have ow10 : OwnL ((w8.setCell ⟨g, 2, none⟩ (.slice Y j cy)).setCell ⟨g, 3, none⟩ (.int .i64 ((p : Int) + 1))) W6.heap.size w8.heap.size Y j cy (st.take j) := ow8.out (show Out g (g + 1) w8 ((w8.setCell ⟨g, 2, none⟩ (.slice Y j cy)).setCell ⟨g, 3, none⟩ (.int .i64 ((p : Int) + 1))) from out_set (out_set (Out.refl _ _ _) (by omega)) (by omega)) (by left; omega)
    have HOW10 := Lib.hid ow10
    have HOW8 := Lib.hid ow8
    clear ow10 ow8 hB8
    have HOF0 : OutIs ((w8.setCell ⟨g, 2, none⟩ (.slice Y j cy)).setCell ⟨g, 3, none⟩ (.int .i64 ((p : Int) + 1))) W.heap.size g X cx X' cx' Y cy vs zs (st.take j) (((p : Int) + 1)) := HO7.done ho10 (by rw [hl8]; exact hB10) (by rw [hl8]; exact HOW10.out)
    have HOF := HOF0
    clear HOF0
    have hRE := HR7.out.out ho10 (by omega)
    have u0 : ((w8.setCell ⟨g, 2, none⟩ (.slice Y j cy)).setCell ⟨g, 3, none⟩ (.int .i64 ((p : Int) + 1))).cell? ⟨g, 0, none⟩ = some (.slice X 4 cx) := HOF.blk.cell 0
    have u1 : ((w8.setCell ⟨g, 2, none⟩ (.slice Y j cy)).setCell ⟨g, 3, none⟩ (.int .i64 ((p : Int) + 1))).cell? ⟨g, 1, none⟩ = some (.slice X' 8 cx') := HOF.blk.cell 1
    have u2 : ((w8.setCell ⟨g, 2, none⟩ (.slice Y j cy)).setCell ⟨g, 3, none⟩ (.int .i64 ((p : Int) + 1))).cell? ⟨g, 2, none⟩ = some (.slice Y j cy) := (by have := HOF.blk.cell 2; rw [hl8] at this; exact this)
    have u3 : ((w8.setCell ⟨g, 2, none⟩ (.slice Y j cy)).setCell ⟨g, 3, none⟩ (.int .i64 ((p : Int) + 1))).cell? ⟨g, 3, none⟩ = some (.int .i64 ((p : Int) + 1)) := HOF.blk.cell 3
    have z0 : ((w8.setCell ⟨g, 2, none⟩ (.slice Y j cy)).setCell ⟨g, 3, none⟩ (.int .i64 ((p : Int) + 1))).cell? ⟨w.heap.size, 0, none⟩ = some (.slice none 0 0) := hRE.cell 0
    have z1 : ((w8.setCell ⟨g, 2, none⟩ (.slice Y j cy)).setCell ⟨g, 3, none⟩ (.int .i64 ((p : Int) + 1))).cell? ⟨w.heap.size, 1, none⟩ = some (.slice none 0 0) := hRE.cell 1
    have z2 : ((w8.setCell ⟨g, 2, none⟩ (.slice Y j cy)).setCell ⟨g, 3, none⟩ (.int .i64 ((p : Int) + 1))).cell? ⟨w.heap.size, 2, none⟩ = some (.slice none 0 0) := hRE.cell 2
    have z3 : ((w8.setCell ⟨g, 2, none⟩ (.slice Y j cy)).setCell ⟨g, 3, none⟩ (.int .i64 ((p : Int) + 1))).cell? ⟨w.heap.size, 3, none⟩ = some (.int .i64 0) := hRE.cell 3
    have y0 := hRE.frozen 0
    have y1 := hRE.frozen 1
    have y2 := hRE.frozen 2
    have y3 := hRE.frozen 3
    have hbF := HB7.out.trans ((ho10).below (by omega) (by omega) : Below w.heap.size W6 ((w8.setCell ⟨g, 2, none⟩ (.slice Y j cy)).setCell ⟨g, 3, none⟩ (.int .i64 ((p : Int) + 1))))
    go_wp2_with fail
    have hR5 := (((hRE.set 0 (.slice X 4 cx)).set 1 (.slice X' 8 cx')).set 2 (.slice Y j cy)).set 3 (.int .i64 ((p : Int) + 1))
    have ho5 : Out w.heap.size (w.heap.size + 1) ((w8.setCell ⟨g, 2, none⟩ (.slice Y j cy)).setCell ⟨g, 3, none⟩ (.int .i64 ((p : Int) + 1))) ((((((w8.setCell ⟨g, 2, none⟩ (.slice Y j cy)).setCell ⟨g, 3, none⟩ (.int .i64 ((p : Int) + 1))).setCell ⟨w.heap.size, 0, none⟩ (.slice X 4 cx)).setCell ⟨w.heap.size, 1, none⟩ (.slice X' 8 cx')).setCell ⟨w.heap.size, 2, none⟩ (.slice Y j cy)).setCell ⟨w.heap.size, 3, none⟩ (.int .i64 ((p : Int) + 1))) := out_set (out_set (out_set (out_set (Out.refl _ _ _) (by omega)) (by omega)) (by omega)) (by omega)
    have HO5 := HOF.out ho5 (by omega)
    have s0 : ((((((w8.setCell ⟨g, 2, none⟩ (.slice Y j cy)).setCell ⟨g, 3, none⟩ (.int .i64 ((p : Int) + 1))).setCell ⟨w.heap.size, 0, none⟩ (.slice X 4 cx)).setCell ⟨w.heap.size, 1, none⟩ (.slice X' 8 cx')).setCell ⟨w.heap.size, 2, none⟩ (.slice Y j cy)).setCell ⟨w.heap.size, 3, none⟩ (.int .i64 ((p : Int) + 1))).cell? ⟨w.heap.size, 0, none⟩ = some (.slice X 4 cx) := by rw [hR5.cell 0]; simp
    have s1 : ((((((w8.setCell ⟨g, 2, none⟩ (.slice Y j cy)).setCell ⟨g, 3, none⟩ (.int .i64 ((p : Int) + 1))).setCell ⟨w.heap.size, 0, none⟩ (.slice X 4 cx)).setCell ⟨w.heap.size, 1, none⟩ (.slice X' 8 cx')).setCell ⟨w.heap.size, 2, none⟩ (.slice Y j cy)).setCell ⟨w.heap.size, 3, none⟩ (.int .i64 ((p : Int) + 1))).cell? ⟨w.heap.size, 1, none⟩ = some (.slice X' 8 cx') := by rw [hR5.cell 1]; simp
    have s2 : ((((((w8.setCell ⟨g, 2, none⟩ (.slice Y j cy)).setCell ⟨g, 3, none⟩ (.int .i64 ((p : Int) + 1))).setCell ⟨w.heap.size, 0, none⟩ (.slice X 4 cx)).setCell ⟨w.heap.size, 1, none⟩ (.slice X' 8 cx')).setCell ⟨w.heap.size, 2, none⟩ (.slice Y j cy)).setCell ⟨w.heap.size, 3, none⟩ (.int .i64 ((p : Int) + 1))).cell? ⟨w.heap.size, 2, none⟩ = some (.slice Y j cy) := by rw [hR5.cell 2]; simp
    have s3 : ((((((w8.setCell ⟨g, 2, none⟩ (.slice Y j cy)).setCell ⟨g, 3, none⟩ (.int .i64 ((p : Int) + 1))).setCell ⟨w.heap.size, 0, none⟩ (.slice X 4 cx)).setCell ⟨w.heap.size, 1, none⟩ (.slice X' 8 cx')).setCell ⟨w.heap.size, 2, none⟩ (.slice Y j cy)).setCell ⟨w.heap.size, 3, none⟩ (.int .i64 ((p : Int) + 1))).cell? ⟨w.heap.size, 3, none⟩ = some (.int .i64 ((p : Int) + 1)) := by rw [hR5.cell 3]; simp
    have hb5 := (hbF).trans (ho5.below (Nat.le_refl _) (hbF).size)
    generalize ((((((w8.setCell ⟨g, 2, none⟩ (.slice Y j cy)).setCell ⟨g, 3, none⟩ (.int .i64 ((p : Int) + 1))).setCell ⟨w.heap.size, 0, none⟩ (.slice X 4 cx)).setCell ⟨w.heap.size, 1, none⟩ (.slice X' 8 cx')).setCell ⟨w.heap.size, 2, none⟩ (.slice Y j cy)).setCell ⟨w.heap.size, 3, none⟩ (.int .i64 ((p : Int) + 1))) = W5 at s0 s1 s2 s3 HO5 hb5 ⊢
    refine bodyPost_ret (v := .tuple #[.agg #[.slice X 4 cx, .slice X' 8 cx', .slice Y j cy, .int .i64 ((p : Int) + 1)], .int .i64 0]) (by simp [results, Try.results62, go_sem, s0, s1, s2, s3]) rfl ?_
    rw [nextB_done HO0.out, HVS.out, HZS.out, HST.out, HAT.out]
    obtain ⟨r1, r2, r3⟩ := HO5.rows
    exact ⟨X, cx, X', cx', Y, cy, by rw [hl8], r1.less (by omega), r2.less (by omega), r3.less (by omega), hb5⟩
  · clear hops
    have epu : pushB 11 = 0 := rfl
    have jq : (j : Int) ≤ 6 := by have := hj.out; omega
    have fwp : IntKind.i64.wrap (j : Int) = (j : Int) := IntWalk.i64_in _ (by omega)
    have jt : (6 < (j : Int)) = False := by simp; omega
    have jtn : (6 < j) = False := by simp; omega
    have HO0 : Hid (outO 11 a st = 6) := by show _ = _; unfold outO; rw [if_pos rfl]
    have HO7 := HO6
    have HR7 := HR6
    have HB7 := HB6
    have HS7 := HV2
    have hsX7 := hsX
    have HV07 := HV0
    have HV17 := HV1
    have vc0 : W6.cell? ⟨b, 0, none⟩ = some (.slice A 4 c) := HP6.out.cell 0
    clear HO6 HR6 HB6 HV2 hX hbX HP6
    have u0 : W6.cell? ⟨g, 0, none⟩ = some (.slice X 4 cx) := HO7.blk.cell 0
    have u1 : W6.cell? ⟨g, 1, none⟩ = some (.slice X' 8 cx') := HO7.blk.cell 1
    have u2 : W6.cell? ⟨g, 2, none⟩ = some (.slice X2 st.length cx2) := HO7.blk.cell 2
    have u3 : W6.cell? ⟨g, 3, none⟩ = some (.int .i64 (p : Int)) := HO7.blk.cell 3
    have z0 : W6.cell? ⟨w.heap.size, 0, none⟩ = some (.slice none 0 0) := HR7.out.cell 0
    have z1 : W6.cell? ⟨w.heap.size, 1, none⟩ = some (.slice none 0 0) := HR7.out.cell 1
    have z2 : W6.cell? ⟨w.heap.size, 2, none⟩ = some (.slice none 0 0) := HR7.out.cell 2
    have z3 : W6.cell? ⟨w.heap.size, 3, none⟩ = some (.int .i64 0) := HR7.out.cell 3
    have y0 := HR7.out.frozen 0
    have y1 := HR7.out.frozen 1
    have y2 := HR7.out.frozen 2
    have y3 := HR7.out.frozen 3
    go_wp2_with fail
    have hR5 := (((HR7.out.set 0 (.slice X 4 cx)).set 1 (.slice X' 8 cx')).set 2 (.slice X2 st.length cx2)).set 3 (.int .i64 (p : Int))
    have ho5 : Out w.heap.size (w.heap.size + 1) W6 ((((W6.setCell ⟨w.heap.size, 0, none⟩ (.slice X 4 cx)).setCell ⟨w.heap.size, 1, none⟩ (.slice X' 8 cx')).setCell ⟨w.heap.size, 2, none⟩ (.slice X2 st.length cx2)).setCell ⟨w.heap.size, 3, none⟩ (.int .i64 (p : Int))) := out_set (out_set (out_set (out_set (Out.refl _ _ _) (by omega)) (by omega)) (by omega)) (by omega)
    have HO5 := HO7.out ho5 (by omega)
    have s0 : ((((W6.setCell ⟨w.heap.size, 0, none⟩ (.slice X 4 cx)).setCell ⟨w.heap.size, 1, none⟩ (.slice X' 8 cx')).setCell ⟨w.heap.size, 2, none⟩ (.slice X2 st.length cx2)).setCell ⟨w.heap.size, 3, none⟩ (.int .i64 (p : Int))).cell? ⟨w.heap.size, 0, none⟩ = some (.slice X 4 cx) := by rw [hR5.cell 0]; simp
    have s1 : ((((W6.setCell ⟨w.heap.size, 0, none⟩ (.slice X 4 cx)).setCell ⟨w.heap.size, 1, none⟩ (.slice X' 8 cx')).setCell ⟨w.heap.size, 2, none⟩ (.slice X2 st.length cx2)).setCell ⟨w.heap.size, 3, none⟩ (.int .i64 (p : Int))).cell? ⟨w.heap.size, 1, none⟩ = some (.slice X' 8 cx') := by rw [hR5.cell 1]; simp
    have s2 : ((((W6.setCell ⟨w.heap.size, 0, none⟩ (.slice X 4 cx)).setCell ⟨w.heap.size, 1, none⟩ (.slice X' 8 cx')).setCell ⟨w.heap.size, 2, none⟩ (.slice X2 st.length cx2)).setCell ⟨w.heap.size, 3, none⟩ (.int .i64 (p : Int))).cell? ⟨w.heap.size, 2, none⟩ = some (.slice X2 st.length cx2) := by rw [hR5.cell 2]; simp
    have s3 : ((((W6.setCell ⟨w.heap.size, 0, none⟩ (.slice X 4 cx)).setCell ⟨w.heap.size, 1, none⟩ (.slice X' 8 cx')).setCell ⟨w.heap.size, 2, none⟩ (.slice X2 st.length cx2)).setCell ⟨w.heap.size, 3, none⟩ (.int .i64 (p : Int))).cell? ⟨w.heap.size, 3, none⟩ = some (.int .i64 (p : Int)) := by rw [hR5.cell 3]; simp
    have hb5 := (HB7.out).trans (ho5.below (Nat.le_refl _) (HB7.out).size)
    generalize ((((W6.setCell ⟨w.heap.size, 0, none⟩ (.slice X 4 cx)).setCell ⟨w.heap.size, 1, none⟩ (.slice X' 8 cx')).setCell ⟨w.heap.size, 2, none⟩ (.slice X2 st.length cx2)).setCell ⟨w.heap.size, 3, none⟩ (.int .i64 (p : Int))) = W5 at s0 s1 s2 s3 HO5 hb5 ⊢
    refine bodyPost_ret (v := .tuple #[.agg #[.slice X 4 cx, .slice X' 8 cx', .slice X2 st.length cx2, .int .i64 (p : Int)], .int .i64 6]) (by simp [results, Try.results62, go_sem, s0, s1, s2, s3]) rfl ?_
    rw [nextB_stop HO0.out (by decide)]
    obtain ⟨r1, r2, r3⟩ := HO5.rows
    exact ⟨X, cx, X', cx', X2, cx2, rfl, r1.less (by omega), r2.less (by omega), r3.less (by omega), hb5⟩
end Go.Proofs.Ytnfapodeifpeoaa

