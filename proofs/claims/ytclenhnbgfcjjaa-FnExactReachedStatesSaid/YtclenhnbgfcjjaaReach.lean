/-
  The states that are reached: what the model and the program give. Conditions: at most 2^20 rows and numbers.
-/
import Derived.Test.YtclenhnbgfcjjaaOrdM
import Derived.Test.YtclenhnbgfcjjaaPutC
import Derived.Test.YtclenhnbgfcjjaaUnf
import Derived.Test.YtclenhnbgfcjjaaPolV
import Derived.Shelf.SortM.Plain
import Derived.Ground.SlgmProg
import Derived.Sort.OwnSortedInts
namespace Go.Proofs.Ytclenhnbgfcjjaa
set_option linter.unusedVariables false
open Go.RowKit Go.Sort Go.Shelf

shelf_lay_g SlLaysM.n5 Slgm 5 at Try 60 as Try.sortA

/-- The first j numbers, each put to its place. -/
def putsL (L : List Int) : Nat → List Int
  | 0 => []
  | j + 1 => putR (L.getD j 0) (putsL L j)
theorem putsL_ok (L : List Int) : ∀ j, j ≤ L.length → (putsL L j).Pairwise (· < ·) ∧ (∀ y, y ∈ putsL L j ↔ y ∈ L.take j) ∧ (putsL L j).length ≤ j
  | 0, _ => ⟨.nil, fun y => by simp [putsL], Nat.le_refl _⟩
  | j + 1, h => by
    obtain ⟨h1, h2, h3⟩ := putsL_ok L j (by omega)
    obtain ⟨k1, k2⟩ := putR_ok (x := L.getD j 0) h1
    refine ⟨k1, fun y => ?_, Nat.le_trans (putR_len _ _) (by omega)⟩
    show y ∈ putR (L.getD j 0) (putsL L j) ↔ _
    rw [k2, h2, List.take_add_one, List.getElem?_eq_getElem (by omega : j < L.length), List.mem_append]
    simp [List.getD, List.getElem?_eq_getElem (by omega : j < L.length)]
theorem sorts_to {L : List Int} (hnd : L.Nodup) : L.mergeSort (fun x y => decide (x ≤ y)) = putsL L L.length := by
  obtain ⟨h1, h2, _⟩ := putsL_ok L L.length (Nat.le_refl _)
  have hp := L.mergeSort_perm (fun x y => decide (x ≤ y))
  have hs : (L.mergeSort (fun x y => decide (x ≤ y))).Pairwise (fun a b => decide (a ≤ b) = true) := List.pairwise_mergeSort (fun a b c h h' => by simp only [decide_eq_true_eq] at *; omega) (fun a b => by simp only [Bool.or_eq_true, decide_eq_true_eq]; omega) L
  have hn : (L.mergeSort (fun x y => decide (x ≤ y))).Pairwise (· ≠ ·) := hp.nodup_iff.2 hnd
  refine rise_unique ?_ h1 fun x => ?_
  · exact (hs.and hn).imp fun h => by have := h.1; simp only [decide_eq_true_eq] at this; have := h.2; omega
  · rw [h2, List.take_length]; exact hp.mem_iff

/-- The states that are reached, in the order in which they are. -/
@[irreducible] def orderL (xs : List (List Int)) : List Int := (unf (stP xs) 0 12).1
theorem orderL_is {xs L : List (List Int)} {M : List Int} (ok : PolOk xs) (h : UnfEnd (stP xs) 0 M L) : M = orderL xs := by
  have h0 : (0 : Int) ≤ 0 ∧ (0 : Int) < (xs.length : Int) := by have := ok.lo; omega
  obtain ⟨k, h1, h2⟩ := h
  have hl := (unf_among (stP_stays ok) h0 k).len
  have e1 : (unf (stP xs) 0 k).1 = M := by rw [h1]
  have e2 : (unf (stP xs) 0 k).1.length ≤ k := by rw [e1]; omega
  have h12 := ok.hi
  have h3 := unf_stay e2 (12 - k)
  rw [show k + (12 - k) = 12 by rw [e1] at hl; omega] at h3
  unfold orderL
  rw [h3, e1]
theorem orderL_ok {xs : List (List Int)} (ok : PolOk xs) : (orderL xs).Nodup ∧ (orderL xs).length ≤ 12 := by
  have h0 : (0 : Int) ≤ 0 ∧ (0 : Int) < (xs.length : Int) := by have := ok.lo; omega
  have h := unf_among (stP_stays ok) h0 12
  have e : (unf (stP xs) 0 12).1 = orderL xs := by unfold orderL; rfl
  rw [e] at h
  exact ⟨h.1, Nat.le_trans h.len ok.hi⟩
theorem end_pos {st : Int → Nat → Int × Bool} {x0 : Int} {M : List Int} {R : List (List Int)} (h : UnfEnd st x0 M R) : 0 < M.length := by
  obtain ⟨k, h1, h2⟩ := h
  rcases Nat.eq_zero_or_pos M.length with e | e
  · rw [e] at h2; subst h2
    have : M = [x0] := by have := congrArg Prod.fst h1; simpa [unf] using this.symm
    rw [this] at e; simp at e
  · exact e

def reachR (xs : List (List Int)) : List Int × Bool := if polB xs = true then (putsL (orderL xs) (orderL xs).length, true) else ([], false)
theorem reachR_no {xs : List (List Int)} (h : polB xs = false) : reachR xs = ([], false) := if_neg (by rw [h]; simp)
theorem reachR_yes {xs : List (List Int)} (h : polB xs = true) : reachR xs = (putsL (orderL xs) (orderL xs).length, true) := if_pos h
theorem reachR_len (xs : List (List Int)) : (reachR xs).1.length ≤ 12 := by
  cases h : polB xs with
  | false => rw [reachR_no h]; simp
  | true =>
    rw [reachR_yes h]
    have h1 := (orderL_ok (polOk_of h)).2
    have h2 := (putsL_ok (orderL xs) _ (Nat.le_refl _)).2.2
    generalize orderL xs = M at h1 h2 ⊢
    show (putsL M M.length).length ≤ 12
    omega

set_option maxRecDepth 100000 in
set_option maxHeartbeats 600000 in
theorem specReached_c (A : Option Addr) (n c B : Nat) (xs : List (List Int)) (w : World) (h : InLL w B A n xs) (hB : B ≤ w.heap.size) (hn : n ≤ 1048576) :
    Calls Try.prog 20 #[.agg #[.slice A n c]] w fun e w' => ∃ A' c', e = .returned (.tuple #[.slice A' (reachR xs).1.length c', .bool (reachR xs).2]) ∧ OwnL w' w.heap.size w'.heap.size A' (reachR xs).1.length c' (reachR xs).1 ∧ Below w.heap.size w w' := by
  have hb0 := bnew w (.cells #[.slice A n c] 27)
  have p0 : (w.alloc (.cells #[.slice A n c] 27)).cell? ⟨w.heap.size, 0, none⟩ = some (.slice A n c) := by simp
  have HX := Lib.hid (h.next hb0 hB)
  have hB0 : B ≤ (w.alloc (.cells #[.slice A n c] 27)).heap.size := Nat.le_trans hB hb0.size
  have HS0 := l10Is_c w.heap.size 0 A n c B xs (w.alloc (.cells #[.slice A n c] 27)) p0 HX.out hn
  clear h
  cases hv : polB xs with
  | false =>
    have HN := Lib.hid (reachR_no hv)
    rw [HN.out]
    rw [hv] at HS0
    have HS := Lib.hid HS0
    clear hv HS0
    go_enter Try.func20, Try.ntmps20
    go_wp2_with fail
    generalize w.alloc (.cells #[.slice A n c] 27) = W at hb0 p0 HS HX ⊢
    refine HS.out.mono ?_
    rintro v w1 ⟨rfl, rfl⟩
    go_wp2_with fail
    go_ret2
    exact ⟨none, 0, rfl, ⟨rfl, World.ownsRow_nil _ _ _ _, (fun j hj => by cases hj), Nat.le_refl _⟩, hb0⟩
  | true =>
    rw [hv] at HS0
    have HS := Lib.hid HS0
    have HOK := Lib.hid (polOk_of hv)
    have HR := Lib.hid (reachR_yes hv)
    clear hv HS0
    obtain ⟨F, hF⟩ : ∃ F, putsL (orderL xs) (orderL xs).length = F := ⟨_, rfl⟩
    rw [HR.out, hF]
    have HF := Lib.hid hF
    clear hF HR
    go_enter Try.func20, Try.ntmps20
    go_wp2_with fail
    generalize w.alloc (.cells #[.slice A n c] 27) = W at hb0 p0 HS HX hB0 ⊢
    refine HS.out.mono ?_
    rintro v w1 ⟨rfl, rfl⟩
    have hb1 := bnew W (.cells #[] 2)
    have hrow0 : OwnL (W.alloc (.cells #[] 2)) w.heap.size (W.alloc (.cells #[] 2)).heap.size (some ⟨W.heap.size, 0, none⟩) 0 0 [] := (OwnL.of_own (own_empty W _)).less hb0.size
    have HO := Lib.hid (l10Order_c w.heap.size 0 A n c B xs _ (cell_next p0 hb1) (HX.out.next hb1 hB0) (Nat.le_trans hB0 hb1.size) HOK.out)
    go_wp2_with fail
    have hb01 := bon hb0 hb1
    generalize W.alloc (.cells #[] 2) = W1 at hb1 hb01 hrow0 HO ⊢
    refine HO.out.mono ?_
    rintro e w2 ⟨v, rfl, HU, hb2⟩
    obtain ⟨L, R, hend, hrow⟩ := HU.out
    obtain rfl : L = orderL xs := orderL_is HOK.out hend
    have hL := (orderL_ok HOK.out).2
    obtain ⟨A1, c1, rfl, _⟩ := own_slice hrow
    replace hrow0 := hrow0.next hb2
    have hb02 := bon hb01 hb2
    have HLI := Lib.hid (OwnL.of_own hrow).inn
    clear hrow hend HU
    generalize orderL xs = L at hL HLI HF ⊢
    obtain ⟨m, hm⟩ : ∃ m, L.length = m := ⟨_, rfl⟩
    have HM := Lib.hid hm
    rw [hm] at hL HLI
    rw [hm]
    clear hm
    go_wp2_with fail
    go_loopw [4, 6] (fun o i wr => ∃ (j : Nat) (z : List Int) (A2 : Option Addr) (c2 : Nat), j ≤ m ∧ i = .int .i64 j ∧ o = .slice A2 z.length c2 ∧ Hid (putsL L j = z) ∧ z.length ≤ j ∧ OwnL wr w.heap.size wr.heap.size A2 z.length c2 z ∧ Below w2.heap.size w2 wr) (fun _ i _ => m - (intOf i).toNat)
    case atStart => exact ⟨0, [], _, _, Nat.zero_le _, rfl, rfl, rfl, Nat.le_refl _, hrow0.wide hb2.size (Nat.le_refl _), Below.refl _ _⟩
    case round =>
      clear hrow0
      obtain ⟨j, z, A2, c2, hj, rfl, rfl, HZ, hzl, hown, hbel⟩ := hrel
      by_cases hlt : j < m
      · obtain ⟨b3, off3, y, rfl, hb3, hy, hc⟩ := (HLI.out.next hbel (Nat.le_refl _)).2.int_at (k := j) (by have := HM.out; omega)
        have HS : Hid (putsL L (j + 1) = putR y z) := by show putR (L.getD j 0) (putsL L j) = _; rw [HZ.out, List.getD, hy]; rfl
        have hpl := putR_len y z
        have HP := Lib.hid (l00Put_c A2 z.length c2 wr.heap.size z y wr hown.inn (Nat.le_refl _) (by omega))
        have hsz := hbel.size
        have hsz2 := hb02.size
        clear hy
        go_wp2_with fail
        refine HP.out.mono ?_
        rintro e w3 ⟨v, rfl, hr, hb3'⟩
        obtain ⟨A3, c3, rfl, _⟩ := own_slice hr
        have hown3 := (OwnL.of_own hr).less (lo' := w.heap.size) (by omega)
        clear hr HP hown
        generalize putR y z = z3 at HS hpl hown3 ⊢
        go_wp2_with fail
        go_roundw
        case rel => exact ⟨j + 1, z3, A3, c3, by omega, by go_num, rfl, HS, by omega, hown3, bon hbel hb3'⟩
        case measure => simp [intOf]; omega
      · obtain rfl : j = m := by omega
        obtain rfl : F = z := by rw [← HF.out, HM.out, HZ.out]
        clear HF HZ
        go_wp2_with fail
        go_ret2
        exact ⟨A2, c2, rfl, hown, bon hb02 hbel⟩

set_option maxRecDepth 100000 in
set_option maxHeartbeats 600000 in
theorem implReached_c (A : Option Addr) (n c B : Nat) (xs : List (List Int)) (w : World) (h : InLL w B A n xs) (hB : B ≤ w.heap.size) (hn : n ≤ 1048576) (hea : ∀ x ∈ xs, x.length ≤ 1048576) :
    Calls Try.prog 21 #[.agg #[.slice A n c]] w fun e w' => ∃ A' c', e = .returned (.tuple #[.slice A' (reachR xs).1.length c', .bool (reachR xs).2]) ∧ OwnL w' w.heap.size w'.heap.size A' (reachR xs).1.length c' (reachR xs).1 ∧ Below w.heap.size w w' := by
  have hb0 := bnew w (.cells #[.slice A n c] 27)
  have p0 : (w.alloc (.cells #[.slice A n c] 27)).cell? ⟨w.heap.size, 0, none⟩ = some (.slice A n c) := by simp
  have HX := Lib.hid (h.next hb0 hB)
  have hB0 : B ≤ (w.alloc (.cells #[.slice A n c] 27)).heap.size := Nat.le_trans hB hb0.size
  have HS0 := implPolicy_c A n c B xs (w.alloc (.cells #[.slice A n c] 27)) HX.out hB0 hn hea
  have hxn : xs.length = n := h.1
  clear h
  cases hv : polB xs with
  | false =>
    have HN := Lib.hid (reachR_no hv)
    rw [HN.out]
    rw [hv] at HS0
    have HS := Lib.hid HS0
    clear hv HS0
    go_enter Try.func21, Try.ntmps21
    go_wp2_with fail
    generalize w.alloc (.cells #[.slice A n c] 27) = W at hb0 p0 HS HX ⊢
    refine HS.out.mono ?_
    rintro v w1 ⟨rfl, hb1⟩
    go_wp2_with fail
    go_ret2
    exact ⟨none, 0, rfl, ⟨rfl, World.ownsRow_nil _ _ _ _, (fun j hj => by cases hj), Nat.le_refl _⟩, bon hb0 hb1⟩
  | true =>
    rw [hv] at HS0
    have HS := Lib.hid HS0
    have HOK := Lib.hid (polOk_of hv)
    have HR := Lib.hid (reachR_yes hv)
    clear hv HS0
    obtain ⟨F, hF⟩ : ∃ F, putsL (orderL xs) (orderL xs).length = F := ⟨_, rfl⟩
    rw [HR.out, hF]
    have HF := Lib.hid hF
    clear hF HR
    go_enter Try.func21, Try.ntmps21
    go_wp2_with fail
    generalize w.alloc (.cells #[.slice A n c] 27) = W at hb0 p0 HS HX hB0 ⊢
    refine HS.out.mono ?_
    rintro v w1 ⟨rfl, hb1⟩
    replace p0 := cell_next p0 hb1
    have hb01 := bon hb0 hb1
    have HX1 := Lib.hid (HX.out.next hb1 hB0)
    have hB1 := Nat.le_trans hB0 hb1.size
    have h12 := HOK.out.hi
    have h1 := HOK.out.lo
    have HU := Lib.hid (callsIn_wide.1 (unfolded_in (stP xs) n (by rw [← hxn]; exact stP_stays HOK.out) (by omega) 0 (by omega) A n c w1 (fun W' x e hb hx0 hxn' he => by
      obtain ⟨k, rfl⟩ : ∃ k : Nat, x = k := ⟨x.toNat, by omega⟩
      have := polStep_c A n c B xs k e W' (HX1.out.next hb hB1) (Nat.le_trans hB1 hb.size) HOK.out (by omega) he
      unfold stP
      rw [Int.toNat_natCast]
      exact this)))
    go_wp2_with fail
    refine HU.out.mono ?_
    rintro e w2 ⟨L, R, v, gs, A1, c1, hend, rfl, hrows, hown, hb2⟩
    obtain ⟨Av, cv, rfl, _⟩ := own_slice hrows.own
    clear hrows
    generalize R.length = nv
    have hpos := end_pos hend
    obtain rfl : L = orderL xs := orderL_is HOK.out hend
    have hL := (orderL_ok HOK.out)
    have HSO := Lib.hid (sorts_to hL.1)
    obtain ⟨g, cur, e1, hbase, hblk, hn1, hcap, hsz, htk⟩ : ∃ (g : Nat) (cur : Array Value), A1 = some ⟨g, 0, none⟩ ∧ w1.heap.size ≤ g ∧ w2.heap[g]? = some (.cells cur 2 (0, 0)) ∧ (orderL xs).length ≤ c1 ∧ c1 ≤ maxLen ∧ cur.size = c1 * 1 ∧ cur.toList.take (orderL xs).length = (orderL xs).map ic := by
      rcases hown.2 with ⟨-, h0⟩ | ⟨g, cap, cur, e1, h2, h3, h4, h5, h6, h7⟩
      · omega
      · injection e1 with e1 e2 e3
        subst e3
        refine ⟨g, cur, e1, h2, h3, h4, h5, h6, ?_⟩
        rw [Nat.mul_one] at h7
        exact h7
    subst e1
    have HL := Lib.hid hL.2
    have HFm : Hid (F.length = (orderL xs).length) := by show _ = _; rw [← HF.out, ← HSO.out, List.length_mergeSort]
    have HG := Lib.hid hblk
    have hgl : g < w2.heap.size := (Array.getElem?_eq_some_iff.1 hblk).1
    have hb02 := bon hb01 hb2
    have hs12 := hb2.size
    have HST : ∀ (W5 : World), Below w2.heap.size w2 W5 → Calls Try.prog 60 #[.slice (some ⟨g, 0, none⟩) (orderL xs).length c1] W5 fun e w' => e = .returned (.tuple #[]) ∧ w'.ownsRow w1.heap.size 2 1 (.slice (some ⟨g, 0, none⟩) F.length c1) F.length (F.map ic) ∧ Below w1.heap.size W5 w' := fun W5 hb5 => by
      have hb := (hb5.block g hgl).trans hblk
      refine (AnyM.slices_Sort_int Try.sortA g 0 c1 (orderL xs) W5 (holds_of_blockI hb htk) (Nat.lt_of_lt_of_le hgl hb5.size) (by omega)).mono ?_
      rintro e w6 ⟨rfl, nn, os, rfl⟩
      rw [HSO.out, HF.out]
      have hlF : F.length = (orderL xs).length := by rw [← HF.out, ← HSO.out, List.length_mergeSort]
      refine ⟨rfl, ?_, ?_⟩
      · have := ownsRow_sortedI (n := nn) (os := os) hlF hbase hb hn1 hcap hsz
        rw [← hlF] at this
        exact this
      · exact (Below.refl _ _).grown (grownBy_sortedI F.toArray) (by have := hb5.size; omega) (fun j hj => by cases hj; exact hbase)
    have HSS := Lib.hid HST
    clear hend hown HST hblk htk HSO hL
    generalize orderL xs = L at HSS HL HG hpos hn1 HF HFm ⊢
    obtain ⟨m, hm⟩ : ∃ m, L.length = m := ⟨_, rfl⟩
    rw [hm] at HSS hpos hn1 HFm ⊢
    clear hm
    go_wp2_with (go_at_call 60; refine (HSS.out _ (by first | exact (bnew _ _) | exact below_set2 (bnew _ _))).mono ?_; rintro e w6 ⟨rfl, hown6, hb6⟩)
    obtain rfl : m = F.length := HFm.out.symm
    go_ret2
    exact ⟨_, c1, rfl, (OwnL.of_own hown6).less hb01.size, (bon hb02 (bnew _ _)).trans (hb6.mono hb01.size)⟩
end Go.Proofs.Ytclenhnbgfcjjaa
