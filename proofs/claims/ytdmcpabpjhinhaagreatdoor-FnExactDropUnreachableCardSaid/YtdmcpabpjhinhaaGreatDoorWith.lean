/-
  The program's copy of annotated code with other points. Conditions: at most 2^20 elements and numbers.
-/
import Derived.Test.YtdmcpabpjhinhaaGreatDoorDropS
import Derived.Test.YtdmcpabpjhinhaaGreatDoorPtCopy
import Derived.Test.YtdmcpabpjhinhaaGreatDoorAnnI
namespace Go.Proofs.YtdmcpabpjhinhaaGreatDoor
set_option linter.unusedVariables false
open Go.RowKit

/-- Annotated code as the program hands it out. -/
def AnI (w w' : World) (e : Ending) (n0 n1 n2 n3 : Nat) (t0 t1 : List (Int × List Int)) (t2 : List (Int × Int)) (t3 : List P2) (r : Bool) : Prop :=
  ∃ R0 d0 R1 d1 R2 d2 R3 d3, ∃ (md0 md1 md2 : Nat), e = .returned (.tuple #[.agg #[.slice R0 n0 d0, .slice R1 n1 d1, .slice R2 n2 d2, .slice R3 n3 d3], .bool r]) ∧ OwnTS w' w.heap.size md0 R0 n0 d0 t0 ∧ OwnTS w' md0 md1 R1 n1 d1 t1 ∧ OwnC w' md1 md2 R2 n2 d2 t2 ∧ OwnP2 w' md2 w'.heap.size R3 n3 d3 t3 ∧ (w.heap.size ≤ md0 ∧ md0 ≤ md1 ∧ md1 ≤ md2 ∧ md2 ≤ w'.heap.size) ∧ Below w.heap.size w w'

set_option maxRecDepth 100000 in
set_option maxHeartbeats 2000000 in
theorem cloneC_c (A : Option Addr) (n c B : Nat) (xs : List (Int × Int)) (w : World) (h : InC w B A n xs) (hB : B ≤ w.heap.size) (hn : n ≤ 100000) :
    Calls Tryz.prog 82 #[.slice A n c] w fun e w' => ∃ A' c', e = .returned (.slice A' n c') ∧ OwnC w' w.heap.size w'.heap.size A' n c' xs ∧ Below w.heap.size w w' := by
  have q22 : ∀ (w : World) (a : Option Addr) (n c n' c' : Nat), (binOp .eql 29 (.slice a n c) (.slice none n' c')).run Tryz.prog w = .ok (.bool a.isNone) w := fun w a n c n' c' => Lib.run_eql_slice_nil w _ _ a n c n' c' Tryz.underlying29
  obtain ⟨v1, w1, e1, e2, e3⟩ := app_cs (k := 0) (ys := []) (c := c) (own_empty2 w 65) (h.next (bnew w (.cells #[] 65)) hB) (bnew w (.cells #[] 65)).size (by omega) (by omega)
  have hb1 : Below w.heap.size w w1 := (bnew w (.cells #[] 65)).trans e3
  rw [Nat.zero_add, List.nil_append] at e2
  obtain ⟨A1, c1, rfl, hO⟩ := own_sliceC e2 h.1
  have E1 := Lib.hid e1
  have HO := Lib.hid hO
  rcases A with _ | ad
  · have hn0 : n = 0 := by
      rcases Nat.eq_zero_or_pos n with h0 | h0
      · exact h0
      · obtain ⟨_, _, _, e', _⟩ := h.at_ (k := 0) h0
        cases e'
    subst hn0
    have hz : xs = [] := List.eq_nil_of_length_eq_zero h.1
    subst hz
    clear h hO e1 e2 e3 E1 HO hb1
    go_enter Tryz.func82, Tryz.ntmps82
    go_wp2_with fail
    go_ret
    exact ⟨none, 0, rfl, ⟨rfl, World.ownsRow_nil _ _ _ _, (fun j hj => by cases hj), Nat.le_refl _⟩, Below.refl _ _⟩
  · clear h e1 e2 e3 hO
    go_enter Tryz.func82, Tryz.ntmps82
    go_wp2_with (at_builtin; refine Lib.wpList_append_run (w.alloc (.cells #[] 65)) rfl _ _ _ _ rfl _ _ rfl rfl _ _ E1.out ?_)
    go_ret
    exact ⟨A1, c1, rfl, HO.out, hb1⟩

section
variable (A0 : Option Addr) (n0 c0 : Nat) (t0 : List (Int × List Int)) (A1 : Option Addr) (n1 c1 : Nat) (t1 : List (Int × List Int)) (A2 : Option Addr) (n2 c2 : Nat) (t2 : List (Int × Int)) (A3 : Option Addr) (n3 c3 : Nat) (t3 : List P2) (A4 : Option Addr) (n4 c4 : Nat) (t4 : List P2) (w : World) (h0 : InTS w w.heap.size A0 n0 t0) (h1 : InTS w w.heap.size A1 n1 t1) (h2 : InC w w.heap.size A2 n2 t2) (h3 : InP2 w w.heap.size A3 n3 t3) (h4 : InP2 w w.heap.size A4 n4 t4) (hn0 : n0 ≤ 1048576) (he0 : totT t0 ≤ 1048576) (hn1 : n1 ≤ 1048576) (he1 : totT t1 ≤ 1048576) (hn2 : n2 ≤ 1048576) (hn3 : n3 ≤ 1048576) (he3 : totP2 t3 ≤ 1048576) (hn4 : n4 ≤ 1048576) (he4 : totP2 t4 ≤ 1048576)
include h0 h1 h2 h3 h4 hn0 he0 hn1 he1 hn2 hn3 he3 hn4 he4
set_option maxRecDepth 100000 in
set_option maxHeartbeats 4000000 in
theorem with_yes (hv : annB t0 t1 t2 t3 = true) (hp : ptsB (n2 : Int) t4 = true) :
    Calls Tryz.prog 51 #[.agg #[.slice A0 n0 c0, .slice A1 n1 c1, .slice A2 n2 c2, .slice A3 n3 c3], .slice A4 n4 c4] w fun e w' => AnI w w' e n0 n1 n2 n4 t0 t1 t2 t4 true := by
  have hb0 : Below w.heap.size w ((w.alloc (.cells #[.slice A0 n0 c0, .slice A1 n1 c1, .slice A2 n2 c2, .slice A3 n3 c3] 32)).alloc (.cells #[.slice none 0 0, .slice none 0 0, .slice none 0 0, .slice none 0 0] 32)) := bon (bnew _ _) (bnew _ _)
  have hP : BlkIs ((w.alloc (.cells #[.slice A0 n0 c0, .slice A1 n1 c1, .slice A2 n2 c2, .slice A3 n3 c3] 32)).alloc (.cells #[.slice none 0 0, .slice none 0 0, .slice none 0 0, .slice none 0 0] 32)) w.heap.size 32 #[.slice A0 n0 c0, .slice A1 n1 c1, .slice A2 n2 c2, .slice A3 n3 c3] := (blk_new w _ _ _ rfl).next (bnew _ _)
  have hX : BlkIs ((w.alloc (.cells #[.slice A0 n0 c0, .slice A1 n1 c1, .slice A2 n2 c2, .slice A3 n3 c3] 32)).alloc (.cells #[.slice none 0 0, .slice none 0 0, .slice none 0 0, .slice none 0 0] 32)) (w.heap.size + 1) 32 #[.slice none 0 0, .slice none 0 0, .slice none 0 0, .slice none 0 0] := blk_new _ _ _ _ (by simp)
  have hs2 : w.heap.size + 2 ≤ (((w.alloc (.cells #[.slice A0 n0 c0, .slice A1 n1 c1, .slice A2 n2 c2, .slice A3 n3 c3] 32)).alloc (.cells #[.slice none 0 0, .slice none 0 0, .slice none 0 0, .slice none 0 0] 32))).heap.size := by simp
  obtain ⟨⟨s0, s0'⟩, ⟨s1, s1'⟩, s2, s3, s3'⟩ := annB_small hv
  have s4 : t4.length ≤ 8 ∧ ∀ p ∈ t4, p.s.length ≤ 1000 ∧ ∀ t ∈ p.s, t.2.length ≤ 100000 := by
    unfold ptsB at hp
    simp only [Bool.and_eq_true, decide_eq_true_eq] at hp
    exact ⟨hp.1, ptsF_small hp.2⟩
  have l0 := h0.1
  have l1 := h1.1
  have l2 := h2.1
  have l4 := h4.1
  have HV : Hid (∀ x, Below w.heap.size w x → Calls Tryz.prog 78 #[.agg #[.slice A0 n0 c0, .slice A1 n1 c1, .slice A2 n2 c2, .slice A3 n3 c3]] x fun e w' => e = .returned (.bool true) ∧ Below x.heap.size x w') := fun x hx => by
    have h := implAnn_c A0 n0 c0 t0 A1 n1 c1 t1 A2 n2 c2 t2 A3 n3 c3 t3 x ((h0.next hx (Nat.le_refl _)).more hx.size) ((h1.next hx (Nat.le_refl _)).more hx.size) ((h2.next hx (Nat.le_refl _)).more hx.size) ((h3.next hx (Nat.le_refl _)).more hx.size) hn0 he0 hn1 he1 hn2 hn3 he3
    rw [hv] at h
    exact h
  have HAP : Hid (∀ x, Below w.heap.size w x → Calls Tryz.prog 79 #[.slice A4 n4 c4, .int .i64 (n2 : Int)] x fun e w' => e = .returned (.bool true) ∧ Below x.heap.size x w') := fun x hx => by
    have h := arePoints_c A4 n4 c4 w.heap.size n2 t4 x (h4.next hx (Nat.le_refl _)) hx.size hn4 he4 hn2
    rw [hp] at h
    exact h
  have HC0 : Hid (∀ x, Below w.heap.size w x → Calls Tryz.prog 80 #[.slice A0 n0 c0, .func (Fn.func 81) #[] #[]] x fun e w' => ∃ g, e = .returned (.slice (some ⟨g, 0, none⟩) n0 n0) ∧ OwnTS w' x.heap.size w'.heap.size (some ⟨g, 0, none⟩) n0 n0 t0 ∧ Below x.heap.size x w') := fun x hx => eachCopy_o A0 n0 c0 w.heap.size t0 x (h0.next hx (Nat.le_refl _)) hx.size (by omega) s0'
  have HC1 : Hid (∀ x, Below w.heap.size w x → Calls Tryz.prog 80 #[.slice A1 n1 c1, .func (Fn.func 81) #[] #[]] x fun e w' => ∃ g, e = .returned (.slice (some ⟨g, 0, none⟩) n1 n1) ∧ OwnTS w' x.heap.size w'.heap.size (some ⟨g, 0, none⟩) n1 n1 t1 ∧ Below x.heap.size x w') := fun x hx => eachCopy_o A1 n1 c1 w.heap.size t1 x (h1.next hx (Nat.le_refl _)) hx.size (by omega) s1'
  have HC2 : Hid (∀ x, Below w.heap.size w x → Calls Tryz.prog 82 #[.slice A2 n2 c2] x fun e w' => ∃ A' c', e = .returned (.slice A' n2 c') ∧ OwnC w' x.heap.size w'.heap.size A' n2 c' t2 ∧ Below x.heap.size x w') := fun x hx => cloneC_c A2 n2 c2 w.heap.size t2 x (h2.next hx (Nat.le_refl _)) hx.size (by omega)
  have HC3 : Hid (∀ x, Below w.heap.size w x → Calls Tryz.prog 83 #[.slice A4 n4 c4, .func (Fn.func 84) #[] #[]] x fun e w' => ∃ g, e = .returned (.slice (some ⟨g, 0, none⟩) n4 n4) ∧ OwnP2 w' x.heap.size w'.heap.size (some ⟨g, 0, none⟩) n4 n4 t4 ∧ Below x.heap.size x w') := fun x hx => eachPoint_o A4 n4 c4 w.heap.size t4 x (h4.next hx (Nat.le_refl _)) hx.size (by omega) s4.2
  clear h0 h1 h2 h3 h4 hv hp s0 s0' s1 s1' s2 s3 s3' s4 l0 l1 l2 l4
  go_enter Tryz.func51, Tryz.ntmps51
  go_wp2_with fail
  generalize ((w.alloc (.cells #[.slice A0 n0 c0, .slice A1 n1 c1, .slice A2 n2 c2, .slice A3 n3 c3] 32)).alloc (.cells #[.slice none 0 0, .slice none 0 0, .slice none 0 0, .slice none 0 0] 32)) = W at hb0 hP hX hs2 ⊢
  refine (HV.out W hb0).mono ?_
  rintro e wa ⟨rfl, hba⟩
  have hP1 := hP.next hba
  have a2 := hP1.cell 2
  simp at a2
  have hb0a := bon hb0 hba
  go_wp2_with fail
  refine (HAP.out wa hb0a).mono ?_
  rintro e w1 ⟨rfl, hb1⟩
  have hP2 := hP1.next hb1
  have X2 : BlkIs w1.drew (w.heap.size + 1) 32 #[.slice none 0 0, .slice none 0 0, .slice none 0 0, .slice none 0 0] := (hX.next hba).next hb1.drew
  have p0 : w1.drew.cell? ⟨w.heap.size, 0, none⟩ = some (.slice A0 n0 c0) := hP2.cell 0
  have p1 : w1.drew.cell? ⟨w.heap.size, 1, none⟩ = some (.slice A1 n1 c1) := hP2.cell 1
  have p2 : w1.drew.cell? ⟨w.heap.size, 2, none⟩ = some (.slice A2 n2 c2) := hP2.cell 2
  have hbd : Below w.heap.size w w1.drew := (bon hb0a hb1).drew
  have hs2' : w.heap.size + 2 ≤ w1.drew.heap.size := by show w.heap.size + 2 ≤ w1.heap.size; have := hba.size; have := hb1.size; omega
  clear hP hP1 hP2 hX a2 HV HAP hb1 hba
  go_wp2_with fail
  refine wp_region_held_drew (S := fun w' => w'.cell? ⟨w.heap.size, 0, none⟩ = some (.slice A0 n0 c0) ∧ w'.cell? ⟨w.heap.size, 1, none⟩ = some (.slice A1 n1 c1) ∧ w'.cell? ⟨w.heap.size, 2, none⟩ = some (.slice A2 n2 c2)) (by kernel_rfl) ⟨p0, p1, p2⟩ ?_
  intro hHeld0
  generalize w1.drew = w2 at p0 p1 p2 X2 hbd hs2' hHeld0 ⊢
  refine wpAnyH_take (i := 0) (v := ?_) rfl (by kernel_rfl) (by kernel_rfl) (by kernel_rfl) (fun _ _ _ h => h) (Or.inl ⟨by kernel_rfl, ?_⟩) (by assumption) ?_
  rotate_left
  · intro w9 hS9; (try dsimp only at hS9); go_simp; (try with_reducible rfl)
  set_option linter.unusedSimpArgs false in try simp only [Act.put, List.getElem_toArray, List.getElem_cons_succ, List.getElem_cons_zero, List.setIfInBounds_toArray, List.set_cons_zero, List.set_cons_succ]
  refine wpAnyH_take (i := 1) (v := ?_) rfl (by kernel_rfl) (by kernel_rfl) (by kernel_rfl) (fun _ _ _ h => h) (Or.inl ⟨by kernel_rfl, ?_⟩) (by assumption) ?_
  rotate_left
  · intro w9 hS9; (try dsimp only at hS9); go_simp; (try with_reducible rfl)
  set_option linter.unusedSimpArgs false in try simp only [Act.put, List.getElem_toArray, List.getElem_cons_succ, List.getElem_cons_zero, List.setIfInBounds_toArray, List.set_cons_zero, List.set_cons_succ]
  refine wpAnyH_take (i := 3) (v := ?_) rfl (by kernel_rfl) (by kernel_rfl) (by kernel_rfl) (fun _ _ _ h => h) (Or.inl ⟨by kernel_rfl, ?_⟩) (by assumption) ?_
  rotate_left
  · intro w9 hS9; (try dsimp only at hS9); go_simp; (try with_reducible rfl)
  set_option linter.unusedSimpArgs false in try simp only [Act.put, List.getElem_toArray, List.getElem_cons_succ, List.getElem_cons_zero, List.setIfInBounds_toArray, List.set_cons_zero, List.set_cons_succ]
  refine wpAnyH_take (i := 4) (v := ?_) rfl (by kernel_rfl) (by kernel_rfl) (by kernel_rfl) (fun _ _ _ h => h) (Or.inl ⟨by kernel_rfl, ?_⟩) (by assumption) ?_
  rotate_left
  · intro w9 hS9; (try dsimp only at hS9); go_simp; (try with_reducible rfl)
  set_option linter.unusedSimpArgs false in try simp only [Act.put, List.getElem_toArray, List.getElem_cons_succ, List.getElem_cons_zero, List.setIfInBounds_toArray, List.set_cons_zero, List.set_cons_succ]
  refine wpAnyH_take (i := 6) (v := ?_) rfl (by kernel_rfl) (by kernel_rfl) (by kernel_rfl) (fun _ _ _ h => h) (Or.inl ⟨by kernel_rfl, ?_⟩) (by assumption) ?_
  rotate_left
  · intro w9 hS9; (try dsimp only at hS9); go_simp; (try with_reducible rfl)
  set_option linter.unusedSimpArgs false in try simp only [Act.put, List.getElem_toArray, List.getElem_cons_succ, List.getElem_cons_zero, List.setIfInBounds_toArray, List.set_cons_zero, List.set_cons_succ]
  refine wpAnyH_take (i := 7) (v := ?_) rfl (by kernel_rfl) (by kernel_rfl) (by kernel_rfl) (fun _ _ _ h => h) (Or.inl ⟨by kernel_rfl, ?_⟩) (by assumption) ?_
  rotate_left
  · intro w9 hS9; (try dsimp only at hS9); go_simp; (try with_reducible rfl)
  set_option linter.unusedSimpArgs false in try simp only [Act.put, List.getElem_toArray, List.getElem_cons_succ, List.getElem_cons_zero, List.setIfInBounds_toArray, List.set_cons_zero, List.set_cons_succ]
  refine wpAnyH_take (i := 9) (v := ?_) rfl (by kernel_rfl) (by kernel_rfl) (by kernel_rfl) (fun _ _ _ h => h) (Or.inl ⟨by kernel_rfl, ?_⟩) (by assumption) ?_
  rotate_left
  · intro w9 hS9; (try dsimp only at hS9); go_simp; (try with_reducible rfl)
  set_option linter.unusedSimpArgs false in try simp only [Act.put, List.getElem_toArray, List.getElem_cons_succ, List.getElem_cons_zero, List.setIfInBounds_toArray, List.set_cons_zero, List.set_cons_succ]
  refine wpAnyH_ready (rs := [2]) (by kernel_rfl) (by simp) ?_
  refine AllReadyH.cons rfl (fun K hK => ?_) (AllReadyH.nil)
  go_simp
  go_wp2_with (go_at_call 80; refine (HC0.out _ (hbd)).mono ?_; rintro e v1 ⟨g0, rfl, o0, hb2⟩)
  have bw3 := bon (hbd) hb2
  have p4 := cell_next p0 hb2
  have p5 := cell_next p1 hb2
  have p6 := cell_next p2 hb2
  have X7 := X2.next hb2
  refine hK.out _ _ ⟨p4, p5, p6⟩ (fun hHeld8 => ?_)
  clear hK K hHeld0
  set_option linter.unusedSimpArgs false in try simp only [Act.put, List.getElem_toArray, List.getElem_cons_succ, List.getElem_cons_zero, List.setIfInBounds_toArray, List.set_cons_zero, List.set_cons_succ]
  refine wpAnyH_ready (rs := [5]) (by kernel_rfl) (by simp) ?_
  refine AllReadyH.cons rfl (fun K hK => ?_) (AllReadyH.nil)
  go_simp
  go_wp2_with (go_at_call 80; refine (HC1.out _ (bw3)).mono ?_; rintro e v9 ⟨g1, rfl, o1, hb10⟩)
  have bw11 := bon (bw3) hb10
  have o12 := o0.next hb10
  have p13 := cell_next p4 hb10
  have p14 := cell_next p5 hb10
  have p15 := cell_next p6 hb10
  have X16 := X7.next hb10
  refine hK.out _ _ ⟨p13, p14, p15⟩ (fun hHeld17 => ?_)
  clear hK K hHeld8
  set_option linter.unusedSimpArgs false in try simp only [Act.put, List.getElem_toArray, List.getElem_cons_succ, List.getElem_cons_zero, List.setIfInBounds_toArray, List.set_cons_zero, List.set_cons_succ]
  refine wpAnyH_ready (rs := [8]) (by kernel_rfl) (by simp) ?_
  refine AllReadyH.cons rfl (fun K hK => ?_) (AllReadyH.nil)
  go_simp
  go_wp2_with (go_at_call 82; refine (HC2.out _ (bw11)).mono ?_; rintro e v18 ⟨G2, d2, rfl, o2, hb19⟩)
  have bw20 := bon (bw11) hb19
  have o21 := o12.next hb19
  have o22 := o1.next hb19
  have p23 := cell_next p13 hb19
  have p24 := cell_next p14 hb19
  have p25 := cell_next p15 hb19
  have X26 := X16.next hb19
  refine hK.out _ _ ⟨p23, p24, p25⟩ (fun hHeld27 => ?_)
  clear hK K hHeld17
  set_option linter.unusedSimpArgs false in try simp only [Act.put, List.getElem_toArray, List.getElem_cons_succ, List.getElem_cons_zero, List.setIfInBounds_toArray, List.set_cons_zero, List.set_cons_succ]
  refine wpAnyH_ready (rs := [10]) (by kernel_rfl) (by simp) ?_
  refine AllReadyH.cons rfl (fun K hK => ?_) (AllReadyH.nil)
  go_simp
  go_wp2_with (go_at_call 83; refine (HC3.out _ (bw20)).mono ?_; rintro e v28 ⟨g3, rfl, o3, hb29⟩)
  have bw30 := bon (bw20) hb29
  have o31 := o21.next hb29
  have o32 := o22.next hb29
  have o33 := o2.next hb29
  have p34 := cell_next p23 hb29
  have p35 := cell_next p24 hb29
  have p36 := cell_next p25 hb29
  have X37 := X26.next hb29
  refine hK.out _ _ ⟨p34, p35, p36⟩ (fun hHeld38 => ?_)
  clear hK K hHeld27
  set_option linter.unusedSimpArgs false in try simp only [Act.put, List.getElem_toArray, List.getElem_cons_succ, List.getElem_cons_zero, List.setIfInBounds_toArray, List.set_cons_zero, List.set_cons_succ]
  refine wpAnyH_take (i := 11) (v := ?_) rfl (by kernel_rfl) (by kernel_rfl) (by kernel_rfl) (fun _ _ _ h => h) (Or.inl ⟨by kernel_rfl, ?_⟩) (by assumption) ?_
  rotate_left
  · intro w9 hS9; (try dsimp only at hS9); go_simp; (try with_reducible rfl)
  set_option linter.unusedSimpArgs false in try simp only [Act.put, List.getElem_toArray, List.getElem_cons_succ, List.getElem_cons_zero, List.setIfInBounds_toArray, List.set_cons_zero, List.set_cons_succ]
  refine wpAnyH_ready (rs := [12]) (by kernel_rfl) (by simp) ?_
  refine AllReadyH.cons rfl (fun K hK => ?_) (AllReadyH.nil)
  have y0 := X37.cell 0
  have y1 := X37.cell 1
  have y2 := X37.cell 2
  have y3 := X37.cell 3
  simp at y0 y1 y2 y3
  have f0 := X37.frozen 0
  have f1 := X37.frozen 1
  have f2 := X37.frozen 2
  have f3 := X37.frozen 3
  obtain ⟨hF, hgr⟩ := fill4 X37 (.slice (some ⟨g0, 0, none⟩) n0 n0) (.slice (some ⟨g1, 0, none⟩) n1 n1) (.slice G2 n2 d2) (.slice (some ⟨g3, 0, none⟩) n4 n4)
  have hoF : Out (w.heap.size + 1) (w.heap.size + 2) v28 _ := Out.of_grown hgr (fun k hk => by have := Option.some.inj hk; omega)
  go_simp
  refine hK.out _ _ ⟨hoF.cell p34 (by omega), hoF.cell p35 (by omega), hoF.cell p36 (by omega)⟩ (fun hHeld39 => ?_)
  clear hK K hHeld38
  set_option linter.unusedSimpArgs false in try simp only [Act.put, List.getElem_toArray, List.getElem_cons_succ, List.getElem_cons_zero, List.setIfInBounds_toArray, List.set_cons_zero, List.set_cons_succ]
  refine wpAnyH_take (i := 13) (v := ?_) rfl (by kernel_rfl) (by kernel_rfl) (by kernel_rfl) (fun _ _ _ h => h) (Or.inl ⟨by kernel_rfl, ?_⟩) (by assumption) ?_
  rotate_left
  · intro w9 hS9; (try dsimp only at hS9); go_simp; (try with_reducible rfl)
  set_option linter.unusedSimpArgs false in try simp only [Act.put, List.getElem_toArray, List.getElem_cons_succ, List.getElem_cons_zero, List.setIfInBounds_toArray, List.set_cons_zero, List.set_cons_succ]
  refine wpAnyH_done (by kernel_rfl) ?_ _
  have r0 := hF.cell 0
  have r1 := hF.cell 1
  have r2 := hF.cell 2
  have r3 := hF.cell 3
  simp at r0 r1 r2 r3
  have sz0 := hb2.size
  have sz1 := hb10.size
  have sz2 := hb19.size
  have sz3 := hb29.size
  have O0 := o31.out hoF (.inl (by omega))
  have O1 := o32.out hoF (.inl (by omega))
  have O2 := o33.out hoF (.inl (by omega))
  have O3 := o3.out hoF (.inl (by omega))
  have bwf := bw30
  have hbF := bwf.trans (hoF.below (Nat.le_succ _) bwf.size)
  have hsF := hoF.size
  clear hF hgr
  go_wp2_with fail
  refine bodyPost_ret (v := .tuple #[.agg #[.slice (some ⟨g0, 0, none⟩) n0 n0, .slice (some ⟨g1, 0, none⟩) n1 n1, .slice G2 n2 d2, .slice (some ⟨g3, 0, none⟩) n4 n4], .bool true]) (by simp [results, Tryz.results51, go_sem, r0, r1, r2, r3]) rfl ?_
  exact ⟨_, _, _, _, _, _, _, _, v1.heap.size, v9.heap.size, v18.heap.size, rfl, O0.less (by omega), O1, O2, O3.wide (by omega) (Nat.le_refl _), ⟨by omega, by omega, by omega, by omega⟩, hbF⟩
end
end Go.Proofs.YtdmcpabpjhinhaaGreatDoor
