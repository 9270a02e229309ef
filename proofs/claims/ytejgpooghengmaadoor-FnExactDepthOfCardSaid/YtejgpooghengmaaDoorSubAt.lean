/-
  The proof that begins with a node: the model's SubproofAt and the program's. Conditions: at most 2^20 nodes, and as many coefficients and multipliers.
-/
import Derived.Test.YtejgpooghengmaaDoorNodeO
import Derived.Test.YtejgpooghengmaaDoorSubs
namespace Go.Proofs.YtejgpooghengmaaDoor
set_option linter.unusedVariables false
open Go.RowKit Go.Shelf Go.Deep

/-- The proof that begins with a node, and whether there is one. -/
def subpR (xs : List N5) (k : Int) : List N5 × Bool :=
  if proofB xs = true ∧ (0 ≤ k ∧ k ≤ (xs.length : Int) - 1) then ((xs.drop k.toNat).take (endOf xs k.toNat - k.toNat), true) else ([], false)
theorem subpR_no {xs : List N5} {k : Int} (h : ¬ (proofB xs = true ∧ (0 ≤ k ∧ k ≤ (xs.length : Int) - 1))) : subpR xs k = ([], false) := if_neg h
theorem subpR_yes {xs : List N5} {k : Nat} (h : proofB xs = true) (hk : k < xs.length) : subpR xs (k : Int) = ((xs.drop k).take (endOf xs k - k), true) := by
  unfold subpR
  rw [if_pos ⟨h, by omega, by omega⟩, Int.toNat_natCast]
theorem proofB_parts {xs : List N5} (h : proofB xs = true) : 1 ≤ xs.length ∧ xs.length ≤ 60 ∧ (∀ x ∈ xs, nodeB x = true) ∧ endN 1 xs 0 = (xs.length : Int) := by
  unfold proofB at h
  simp only [Bool.and_eq_true, decide_eq_true_eq, List.all_eq_true] at h
  exact ⟨h.1.1, h.1.2, h.2.1, h.2.2⟩
theorem endOf_is {xs : List N5} {k : Nat} (h : proofB xs = true) (hk : k < xs.length) : endN 1 (xs.drop k) k = ((endOf xs k : Nat) : Int) ∧ k < endOf xs k ∧ endOf xs k ≤ xs.length := by
  obtain ⟨s, hs⟩ := stk_some h (xs.length - k) k (by omega)
  have hw := endN_whole xs (proofB_parts h).2.2.2 k hk
  have he := stk_end _ _ _ 1 hs
  rw [if_neg (by omega)] at he
  by_cases h1 : 1 ≤ s.length
  · rw [if_pos h1] at he
    have ht := stk_tiles _ _ _ hs
    have := ht.at_ (i := 0) (by omega)
    rw [List.length_drop] at this
    have e0 : s.getD (1 - 1) (0, 0) = s.getD 0 (0, 0) := rfl
    rw [e0] at he
    unfold endOf
    rw [he, Int.toNat_natCast]
    exact ⟨rfl, by omega, by omega⟩
  · rw [if_neg h1] at he
    exact absurd he hw
theorem node_len {x : N5} (h : nodeB x = true) : x.t.2.length ≤ 10 ∧ x.m.length ≤ 20 := by
  unfold nodeB at h
  split at h
  · simp only [Bool.and_eq_true] at h
    have h1 := h.2.1
    have h2 := h.2.2
    unfold zerT at h1
    unfold mulsB at h2
    simp only [Bool.and_eq_true, decide_eq_true_eq] at h1 h2
    exact ⟨by omega, h2.2⟩
  · split at h
    · simp only [Bool.and_eq_true, decide_eq_true_eq] at h
      exact ⟨(tmB_parts h.2.1).1, by omega⟩
    · split at h
      · simp only [Bool.and_eq_true, decide_eq_true_eq] at h
        have h1 := h.2.1
        unfold zerT at h1
        simp only [decide_eq_true_eq] at h1
        exact ⟨by omega, by omega⟩
      · cases h
theorem tot_each {xs : List N5} (h : ∀ x ∈ xs, nodeB x = true) : totN5 xs ≤ 30 * xs.length := by
  induction xs with
  | nil => simp [totN5]
  | cons x xs ih =>
    have h1 := node_len (h x (by simp))
    have h2 := ih (fun y hy => h y (by simp [hy]))
    rw [totN5_cons, List.length_cons]
    unfold N5.tot
    omega
theorem subpR_small (xs : List N5) (k : Int) : (subpR xs k).1.length ≤ 60 ∧ totN5 (subpR xs k).1 ≤ 1800 ∧ ∀ x ∈ (subpR xs k).1, nodeB x = true := by
  unfold subpR
  split
  · rename_i hc
    obtain ⟨_, h60, ha, _⟩ := proofB_parts hc.1
    have hm : ∀ x ∈ (xs.drop k.toNat).take (endOf xs k.toNat - k.toNat), nodeB x = true := fun x hx => ha x (List.mem_of_mem_drop (List.mem_of_mem_take hx))
    have hl : ((xs.drop k.toNat).take (endOf xs k.toNat - k.toNat)).length ≤ 60 := by rw [List.length_take, List.length_drop]; omega
    have ht := tot_each hm
    exact ⟨hl, by show totN5 ((xs.drop k.toNat).take (endOf xs k.toNat - k.toNat)) ≤ 1800; omega, hm⟩
  · exact ⟨by simp, by simp [totN5], fun x hx => by simp at hx⟩

theorem InN5.out {w w' : World} {B lo hi n : Nat} {A : Option Addr} {xs : List N5} (h : InN5 w B A n xs) (ho : Out lo hi w w') (hB : B ≤ lo) (hs : B ≤ w.heap.size) : InN5 w' B A n xs := h.next (ho.below hB hs) (Nat.le_refl _)
theorem ownN5_nil (w : World) (lo : Nat) (h : lo ≤ w.heap.size) : OwnN5 w lo w.heap.size none 0 0 [] :=
  ⟨rfl, Nat.le_refl _, [], fun _ => lo, World.ownsRow_nil _ _ _ _, fun k hk => (by cases hk), Nat.le_refl _, fun i hi => (by omega), h, fun j t hj => (by simp at hj)⟩

set_option maxRecDepth 100000 in
set_option maxHeartbeats 4000000 in
theorem specSubAt_c (A : Option Addr) (n c B : Nat) (xs : List N5) (k : Int) (w : World) (h : InN5 w B A n xs) (hB : B ≤ w.heap.size) (hc : n ≤ c) (hn : n ≤ 1048576) (he : totN5 xs ≤ 1048576) (hk63 : (Lit.int .i64 k).wf = true) :
    Calls Tryd.prog 15 #[.slice A n c, .int .i64 k] w fun e w' => ∃ A' c', e = .returned (.tuple #[.slice A' (subpR xs k).1.length c', .bool (subpR xs k).2]) ∧ InN5 w' w'.heap.size A' (subpR xs k).1.length (subpR xs k).1 ∧ Below w.heap.size w w' := by
  have hlen := h.1
  have HI := Lib.hid (l05Is_c A n c B xs w h hn he)
  cases hp : proofB xs with
  | false =>
    have HR := Lib.hid (subpR_no (xs := xs) (k := k) (fun e => by rw [hp] at e; exact absurd e.1 (by simp)))
    rw [hp] at HI
    clear h hp
    go_enter Tryd.func15, Tryd.ntmps15
    go_wp2_with fail
    refine HI.out.mono ?_
    rintro e w1 ⟨rfl, rfl⟩
    go_wp2_with fail
    go_ret2
    rw [HR.out]
    exact ⟨none, 0, rfl, ⟨rfl, fun j x hj => by simp at hj⟩, Below.refl _ _⟩
  | true =>
    have HIN := l00In_n k 0 ((n : Int) - 1) w
    rw [hp] at HI
    by_cases hk : 0 ≤ k ∧ k ≤ (n : Int) - 1
    · obtain ⟨K, rfl⟩ : ∃ K : Nat, k = K := ⟨k.toNat, by omega⟩
      obtain ⟨e1, e2, e3⟩ := endOf_is (k := K) hp (by omega)
      have HR := Lib.hid (subpR_yes hp (k := K) (by omega))
      obtain ⟨_, h60, ha, _⟩ := proofB_parts hp
      obtain ⟨b, off, _, rfl, hb, _, _⟩ := h.at_ (k := K) (by omega)
      have HE := l05End_c (some ⟨b, off, none⟩) n c B xs K w h hn (by omega)
      rw [e1] at HE
      have hpt := h.part (k := K) (e := endOf xs K) (by omega) (by omega)
      obtain ⟨E, hE⟩ : ∃ E, endOf xs K = E := ⟨_, rfl⟩
      rw [hE] at HE hpt e2 e3 HR
      have HO := Lib.hid (l05OwnAll_c (some ⟨b, off + K * 5, none⟩) (E - K) (c - K) B _ w hpt hB (by omega) (fun x hx => by have := node_len (ha x (List.mem_of_mem_drop (List.mem_of_mem_take hx))); omega))
      rw [decide_eq_true hk] at HIN
      have HE' := Lib.hid HE
      have HIN' := Lib.hid HIN
      have hp1 := hpt.1
      clear HE HIN h ha hp e1 hE hpt hk
      go_enter Tryd.func15, Tryd.ntmps15
      go_wp2_with fail
      refine HI.out.mono ?_
      rintro e w1 ⟨rfl, rfl⟩
      go_wp2_with fail
      refine HIN'.out.mono ?_
      rintro e w1 ⟨rfl, rfl⟩
      go_wp2_with fail
      refine HE'.out.mono ?_
      rintro e w1 ⟨rfl, rfl⟩
      go_wp2_with fail
      refine HO.out.mono ?_
      rintro e w1 ⟨v, rfl, hrow, hb1⟩
      obtain ⟨A', c', rfl, hin⟩ := hrow.inn
      clear HO
      go_wp2_with fail
      go_ret2
      rw [HR.out]
      refine ⟨A', c', ?_, ?_, hb1⟩
      · show _ = Ending.returned (.tuple #[.slice A' ((xs.drop K).take (E - K)).length c', .bool true])
        rw [hp1]; rfl
      · show InN5 w1 _ A' ((xs.drop K).take (E - K)).length _
        rw [hp1]
        exact hin
    · have HR := Lib.hid (subpR_no (xs := xs) (k := k) (fun e => hk (by have := e.2; omega)))
      rw [decide_eq_false hk] at HIN
      have HIN' := Lib.hid HIN
      clear h hp HIN hk
      go_enter Tryd.func15, Tryd.ntmps15
      go_wp2_with fail
      refine HI.out.mono ?_
      rintro e w1 ⟨rfl, rfl⟩
      go_wp2_with fail
      refine HIN'.out.mono ?_
      rintro e w1 ⟨rfl, rfl⟩
      go_wp2_with fail
      go_ret2
      rw [HR.out]
      exact ⟨none, 0, rfl, ⟨rfl, fun j x hj => by simp at hj⟩, Below.refl _ _⟩

set_option maxRecDepth 100000 in
set_option maxHeartbeats 4000000 in
theorem implSubAt_c (A : Option Addr) (n c B : Nat) (xs : List N5) (k : Int) (w : World) (hT : TabN w) (h : InN5 w B A n xs) (hB : B ≤ w.heap.size) (hc : n ≤ c) (hn : n ≤ 1048576) (he : totN5 xs ≤ 1048576) (hk63 : (Lit.int .i64 k).wf = true) :
    Calls Tryd.prog 16 #[.slice A n c, .int .i64 k] w fun e w' => ∃ A' c', e = .returned (.tuple #[.slice A' (subpR xs k).1.length c', .bool (subpR xs k).2]) ∧ OwnN5 w' w.heap.size w'.heap.size A' (subpR xs k).1.length c' (subpR xs k).1 ∧ Below w.heap.size w w' := by
  have hlen := h.1
  have HI := Lib.hid (subs_c A n c B xs w hT h hB hn he)
  cases hp : proofB xs with
  | false =>
    have HR := Lib.hid (subpR_no (xs := xs) (k := k) (fun e => by rw [hp] at e; exact absurd e.1 (by simp)))
    clear h
    go_enter Tryd.func16, Tryd.ntmps16
    go_wp2_with fail
    refine HI.out.mono ?_
    rintro e w1 ⟨v, rfl, hb1, _⟩
    rw [hp]
    clear HI
    go_wp2_with fail
    go_ret2
    rw [HR.out]
    exact ⟨none, 0, rfl, ownN5_nil _ _ hb1.size, hb1⟩
  | true =>
    by_cases hk : 0 ≤ k ∧ k ≤ (n : Int) - 1
    · obtain ⟨K, rfl⟩ : ∃ K : Nat, k = K := ⟨k.toNat, by omega⟩
      obtain ⟨e1, e2, e3⟩ := endOf_is (k := K) hp (by omega)
      have HR := Lib.hid (subpR_yes hp (k := K) (by omega))
      obtain ⟨_, h60, ha, _⟩ := proofB_parts hp
      obtain ⟨b, off, _, rfl, hb, _, _⟩ := h.at_ (k := K) (by omega)
      have hpt := h.part (k := K) (e := endOf xs K) (by omega) (by omega)
      obtain ⟨E, hE⟩ : ∃ E, endOf xs K = E := ⟨_, rfl⟩
      rw [hE] at hpt e2 e3 HR
      have hp1 := hpt.1
      have HPT := Lib.hid hpt
      have HA := Lib.hid ha
      have hKn : K < n := by omega
      clear h ha e1 hpt
      go_enter Tryd.func16, Tryd.ntmps16
      go_wp2_with fail
      refine HI.out.mono ?_
      rintro e w1 ⟨v, rfl, hb1, hy⟩
      obtain ⟨ga, g, blk, pvs, rfl, hga, hx, hcell, htree⟩ := hy hp
      rw [hp]
      clear HI hy hp
      have HIN := Lib.hid (isBetween_n (K : Int) 0 ((n : Int) - 1) w1)
      rw [decide_eq_true hk] at HIN
      have d0 : w1.cell? ⟨ga, K, none⟩ = some (.pointer (some ⟨blk K, 0, none⟩)) := hcell K hKn
      obtain ⟨_, hblk, _⟩ := htree K hKn
      have d6 : w1.cell? ⟨blk K, 6, none⟩ = some (.int .i64 (endOf xs K : Int)) := hblk.cell 6
      rw [hE] at d6
      have HO := Lib.hid (eachNode_o (some ⟨b, off + K * 5, none⟩) (E - K) (c - K) B _ w1 (HPT.out.next hb1 hB) (Nat.le_trans hB hb1.size) (by omega) (fun x hx => by have := node_len (HA.out x (List.mem_of_mem_drop (List.mem_of_mem_take hx))); omega))
      have hs1 := hb1.size
      clear hcell htree hblk hx hk hE
      go_wp2_with fail
      refine HIN.out.mono ?_
      rintro e w2 ⟨rfl, rfl⟩
      clear HIN
      go_wp2_with fail
      refine HO.out.mono ?_
      rintro e w2 ⟨g2, rfl, hown, hb2⟩
      clear HO
      go_wp2_with fail
      go_ret2
      rw [HR.out]
      refine ⟨some ⟨g2, 0, none⟩, E - K, ?_, ?_, bon hb1 hb2⟩
      · show _ = Ending.returned (.tuple #[.slice (some ⟨g2, 0, none⟩) ((xs.drop K).take (E - K)).length (E - K), .bool true])
        rw [hp1]; rfl
      · show OwnN5 w2 _ _ _ ((xs.drop K).take (E - K)).length _ _
        rw [hp1]
        exact hown.less hs1
    · have HR := Lib.hid (subpR_no (xs := xs) (k := k) (fun e => hk (by have := e.2; omega)))
      clear h
      go_enter Tryd.func16, Tryd.ntmps16
      go_wp2_with fail
      refine HI.out.mono ?_
      rintro e w1 ⟨v, rfl, hb1, _⟩
      rw [hp]
      have HIN := Lib.hid (isBetween_n k 0 ((n : Int) - 1) w1)
      rw [decide_eq_false hk] at HIN
      clear HI hk hp
      go_wp2_with fail
      refine HIN.out.mono ?_
      rintro e w2 ⟨rfl, rfl⟩
      clear HIN
      go_wp2_with fail
      go_ret2
      rw [HR.out]
      exact ⟨none, 0, rfl, ownN5_nil _ _ hb1.size, hb1⟩
end Go.Proofs.YtejgpooghengmaaDoor
