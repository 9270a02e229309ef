/-
  The model's sums of terms. Conditions: valid terms, multipliers of at most 1000000.
-/
import Derived.Test.YtejgpooghengmaaDoorSum
import Derived.Test.YtejgpooghengmaaDoorValid
import Derived.Test.YtejgpooghengmaaDoorOwn
import Derived.WalkSmall
import Derived.Deep.RegionHeld3
import Derived.Deep.DeepCutAuto
import Derived.Maps.AppendAt
import Derived.Test.YtejgpooghengmaaDoorEq
import Derived.Test.YtejgpooghengmaaDoorAppend
import Derived.Test.YtejgpooghengmaaDoorEvTo
namespace Go.Proofs.YtejgpooghengmaaDoor
open Go.RowKit

set_option maxRecDepth 100000 in
set_option maxHeartbeats 1000000 in
theorem l00Own_c (A : Option Addr) (n cp B : Nat) (zs : List Int) (w : World) (h : InL w B A n zs) (hB : B ≤ w.heap.size) (hn : n ≤ 100000) :
    Calls Tryd.prog 99 #[.slice A n cp] w fun e w' => ∃ A' c', e = .returned (.slice A' n c') ∧ OwnL w' w.heap.size w'.heap.size A' n c' zs ∧ Below w.heap.size w w' := by
  obtain ⟨i0, hi, hz0, hz1, hz2⟩ := info_parts info64
  have hl := Lib.hid h.1
  have hr := h.2.below (bnew w (.cells #[] 2)) hB
  clear h
  go_enter Tryd.func99, Tryd.ntmps99
  go_wp2_with (at_builtin; refine wpList_append_row _ rfl _ _ 36 rfl w.heap.size 2 i0 (.int .i64 0) 8 Tryd.underlying36 hi hz0 hz1 hz2 rfl _ _ _ rfl (own_empty w 2) B A n cp (zs.map ic) rfl (by rw [List.length_map]; exact hl.out) hr (ints_one zs) (by unfold maxLen; omega) (by omega) (by simp) ?_; intro v' w1 hown hg)
  have hb : Below w.heap.size w w1 := ((Below.refl _ _).alloc (Nat.le_refl _) _).grown hg (by simp) (fun k hk => by have hk' : some w.heap.size = some k := hk; injection hk' with hk'; omega)
  rw [Nat.zero_add, List.nil_append] at hown
  obtain ⟨A', c', rfl, _⟩ := own_slice hown
  go_wp2_with fail
  go_ret
  exact ⟨A', c', rfl, OwnL.of_own hown, hb⟩

set_option maxRecDepth 100000 in
set_option maxHeartbeats 2000000 in
theorem l02Make_c (c : Int) (g n cp : Nat) (zs : List Int) (w : World) (h : InL w w.heap.size (some ⟨g, 0, none⟩) n zs) (hn : n ≤ 10) (hcap : n ≤ cp) :
    Calls Tryd.prog 113 #[.int .i64 c, .slice (some ⟨g, 0, none⟩) n cp] w fun e w' => ∃ A' m c', e = .returned (.tuple #[.agg #[.int .i64 (mkL c zs).1.1, .slice A' m c'], .bool (mkL c zs).2]) ∧
      OwnL w' w.heap.size w'.heap.size A' m c' (mkL c zs).1.2 ∧ Below w.heap.size w w' := by
  have hb0 : Below w.heap.size w (w.alloc (.cells #[.int .i64 0, .slice none 0 0] 45)) := bnew _ _
  have hs0 : w.heap.size < (w.alloc (.cells #[.int .i64 0, .slice none 0 0] 45)).heap.size := by simp
  have hk0 : (w.alloc (.cells #[.int .i64 0, .slice none 0 0] 45)).cell? ⟨w.heap.size, 0, none⟩ = some (.int .i64 0) := by simp
  have hk1 : (w.alloc (.cells #[.int .i64 0, .slice none 0 0] 45)).cell? ⟨w.heap.size, 1, none⟩ = some (.slice none 0 0) := by simp
  have hf0 : ∀ i, (w.alloc (.cells #[.int .i64 0, .slice none 0 0] 45)).frozen? ⟨w.heap.size, i, none⟩ = false := fun i => by simp
  have hin := h.next hb0 (Nat.le_refl _)
  have hlen := Lib.hid h.1
  clear h
  go_enter Tryd.func113, Tryd.ntmps113
  go_wp2_with fail
  generalize w.alloc (.cells #[.int .i64 0, .slice none 0 0] 45) = W at hb0 hs0 hk0 hk1 hf0 hin ⊢
  go_loop [6] (fun v => ∃ m : Nat, m ≤ n ∧ v = .int .i64 m ∧ Hid (∀ k, m ≤ k → k < zs.length → zs[k]? = some 0)) (fun v => (intOf v).toNat)
  case atStart => exact ⟨n, Nat.le_refl _, rfl, fun k h1 h2 => by have := hlen.out; omega⟩
  case round =>
    obtain ⟨m, hm, rfl, hz⟩ := hrel
    rcases m with _ | m
    · have HT : Hid (Trim zs 0) := ⟨Nat.zero_le _, hz.out, .inl rfl⟩
      have HM := Lib.hid HT.out.is
      have hle : 0 ≤ n := by omega
      have hin' : InL W w.heap.size (some ⟨g, 0, none⟩) (0) (zs.take (0)) := ⟨by rw [List.length_take]; have := hlen.out; omega, fun j hj => by
        rw [List.length_map, List.length_take] at hj
        obtain ⟨b, off, e, hb, hc⟩ := hin.2 j (by rw [List.length_map]; omega)
        exact ⟨b, off, e, hb, by rw [hc, List.getElem?_map, List.getElem?_map, List.getElem?_take, if_pos (by omega)]⟩⟩
      clear HT hin
      go_wp2_with fail
      refine (l00Own_c _ (0) _ _ (zs.take (0)) W hin' (by omega) (by omega)).mono ?_
      rintro e w1 ⟨A1, c1, rfl, hown, hb1⟩
      have hs1 := hb1.size
      have r0 := cell_next hk0 hb1
      have r1 := cell_next hk1 hb1
      have hl1 : w.heap.size < w1.heap.size := by omega
      have hf10 := (hb1.frozen (p := ⟨w.heap.size, 0, none⟩) hs0).trans (hf0 0)
      have hf11 := (hb1.frozen (p := ⟨w.heap.size, 1, none⟩) hs0).trans (hf0 1)
      have hb7 := hb0.trans (hb1.mono hb0.size)
      go_wp2_with fail
      have hbx : Below w1.heap.size w1 (w1.alloc (.cells #[.int .i64 c, .slice A1 (0) c1] 45)) := bnew _ _
      have x0 : (w1.alloc (.cells #[.int .i64 c, .slice A1 (0) c1] 45)).cell? ⟨w1.heap.size, 0, none⟩ = some (.int .i64 c) := by simp
      have x1 : (w1.alloc (.cells #[.int .i64 c, .slice A1 (0) c1] 45)).cell? ⟨w1.heap.size, 1, none⟩ = some (.slice A1 (0) c1) := by simp
      have hlx : w1.heap.size < (w1.alloc (.cells #[.int .i64 c, .slice A1 (0) c1] 45)).heap.size := by simp
      generalize w1.alloc (.cells #[.int .i64 c, .slice A1 (0) c1] 45) = w3 at hbx x0 x1 hlx ⊢
      replace r0 := cell_next r0 hbx
      replace r1 := cell_next r1 hbx
      replace hf10 := (hbx.frozen (p := ⟨w.heap.size, 0, none⟩) hl1).trans hf10
      replace hf11 := (hbx.frozen (p := ⟨w.heap.size, 1, none⟩) hl1).trans hf11
      have hown2 := hown.next hbx
      have hb8 := hb7.trans (hbx.mono hb7.size)
      refine (l02Is_c w1.heap.size 0 c A1 (0) c1 _ (zs.take (0)) w3 x0 x1 hown2.inn.2 hown.1 (by omega)).mono ?_
      rintro e w2 ⟨rfl, rfl⟩
      have hnb : w1.heap.size ≠ w.heap.size := by omega
      cases hv : tmB (c, zs.take (0)) with
      | true =>
        have HV := Lib.hid (mkL_yes (c := c) (zs := zs) (by rw [← HM.out]; exact hv))
        clear hv
        go_wp2_with fail
        refine bodyPost_ret (v := .tuple #[.agg #[.int .i64 c, .slice A1 (0) c1], .bool true]) (by simp [results, Tryd.results113, go_sem, r0, r1]) rfl ?_
        rw [HV.out, ← HM.out]
        have ho : Out w.heap.size (w.heap.size + 1) w3 ((w3.setCell ⟨w.heap.size, 0, none⟩ (.int .i64 c)).setCell ⟨w.heap.size, 1, none⟩ (.slice A1 (0) c1)) :=
          (Out.of_grown (only_set (g := w.heap.size)) (fun j hj => by injection hj; omega)).trans (Out.of_grown (only_set (g := w.heap.size)) (fun j hj => by injection hj; omega))
        have hs7 := ho.size
        exact ⟨_, _, _, rfl, ((hown2.out ho (by omega)).less (by omega)).wide (by omega) (Nat.le_refl _), (hb8.setCell (p := ⟨w.heap.size, 0, none⟩) (Nat.le_refl _) _).setCell (p := ⟨w.heap.size, 1, none⟩) (Nat.le_refl _) _⟩
      | false =>
        have HV := Lib.hid (mkL_no (c := c) (zs := zs) (by rw [← HM.out]; exact hv))
        clear hv
        go_wp2_with fail
        refine bodyPost_ret (v := .tuple #[.agg #[.int .i64 0, .slice none 0 0], .bool false]) (by simp [results, Tryd.results113, go_sem, r0, r1]) rfl ?_
        rw [HV.out]
        exact ⟨none, 0, 0, rfl, ⟨rfl, World.ownsRow_nil _ _ _ _, (fun j hj => by cases hj), Nat.le_refl _⟩, (hb8.setCell (p := ⟨w.heap.size, 0, none⟩) (Nat.le_refl _) _).setCell (p := ⟨w.heap.size, 1, none⟩) (Nat.le_refl _) _⟩
    · obtain ⟨b, off, x, he, hb, hx, hc⟩ := hin.2.int_at (k := m) (by have := hlen.out; omega)
      obtain ⟨rfl, rfl⟩ : g = b ∧ 0 = off := by injection he with he; injection he with h1 h2; exact ⟨h1, h2⟩
      rw [Nat.zero_add] at hc
      have q0 : (0 : Int) < (m : Int) + 1 := by omega
      by_cases h0 : x = 0
      · subst h0
        have HZ : Hid (∀ k, m ≤ k → k < zs.length → zs[k]? = some 0) := fun k h1 h2 => by
          rcases Nat.eq_or_lt_of_le h1 with rfl | h
          · exact hx
          · exact hz.out k h h2
        clear hx he
        go_wp2_with fail
        go_round
        case rel => exact ⟨m, by omega, by go_num, HZ⟩
        case measure => simp [intOf]
      · have HT : Hid (Trim zs (m + 1)) := ⟨by have := hlen.out; omega, hz.out, .inr ⟨x, hx, h0⟩⟩
        have q1 : (x == 0) = false := by simpa using h0
        clear hx he
        have HM := Lib.hid HT.out.is
        have hle : m + 1 ≤ n := by omega
        have hin' : InL W w.heap.size (some ⟨g, 0, none⟩) (m + 1) (zs.take (m + 1)) := ⟨by rw [List.length_take]; have := hlen.out; omega, fun j hj => by
          rw [List.length_map, List.length_take] at hj
          obtain ⟨b, off, e, hb, hc⟩ := hin.2 j (by rw [List.length_map]; omega)
          exact ⟨b, off, e, hb, by rw [hc, List.getElem?_map, List.getElem?_map, List.getElem?_take, if_pos (by omega)]⟩⟩
        clear HT hin
        go_wp2_with fail
        refine (l00Own_c _ (m + 1) _ _ (zs.take (m + 1)) W hin' (by omega) (by omega)).mono ?_
        rintro e w1 ⟨A1, c1, rfl, hown, hb1⟩
        have hs1 := hb1.size
        have r0 := cell_next hk0 hb1
        have r1 := cell_next hk1 hb1
        have hl1 : w.heap.size < w1.heap.size := by omega
        have hf10 := (hb1.frozen (p := ⟨w.heap.size, 0, none⟩) hs0).trans (hf0 0)
        have hf11 := (hb1.frozen (p := ⟨w.heap.size, 1, none⟩) hs0).trans (hf0 1)
        have hb7 := hb0.trans (hb1.mono hb0.size)
        go_wp2_with fail
        have hbx : Below w1.heap.size w1 (w1.alloc (.cells #[.int .i64 c, .slice A1 (m + 1) c1] 45)) := bnew _ _
        have x0 : (w1.alloc (.cells #[.int .i64 c, .slice A1 (m + 1) c1] 45)).cell? ⟨w1.heap.size, 0, none⟩ = some (.int .i64 c) := by simp
        have x1 : (w1.alloc (.cells #[.int .i64 c, .slice A1 (m + 1) c1] 45)).cell? ⟨w1.heap.size, 1, none⟩ = some (.slice A1 (m + 1) c1) := by simp
        have hlx : w1.heap.size < (w1.alloc (.cells #[.int .i64 c, .slice A1 (m + 1) c1] 45)).heap.size := by simp
        generalize w1.alloc (.cells #[.int .i64 c, .slice A1 (m + 1) c1] 45) = w3 at hbx x0 x1 hlx ⊢
        replace r0 := cell_next r0 hbx
        replace r1 := cell_next r1 hbx
        replace hf10 := (hbx.frozen (p := ⟨w.heap.size, 0, none⟩) hl1).trans hf10
        replace hf11 := (hbx.frozen (p := ⟨w.heap.size, 1, none⟩) hl1).trans hf11
        have hown2 := hown.next hbx
        have hb8 := hb7.trans (hbx.mono hb7.size)
        refine (l02Is_c w1.heap.size 0 c A1 (m + 1) c1 _ (zs.take (m + 1)) w3 x0 x1 hown2.inn.2 hown.1 (by omega)).mono ?_
        rintro e w2 ⟨rfl, rfl⟩
        have hnb : w1.heap.size ≠ w.heap.size := by omega
        cases hv : tmB (c, zs.take (m + 1)) with
        | true =>
          have HV := Lib.hid (mkL_yes (c := c) (zs := zs) (by rw [← HM.out]; exact hv))
          clear hv
          go_wp2_with fail
          refine bodyPost_ret (v := .tuple #[.agg #[.int .i64 c, .slice A1 (m + 1) c1], .bool true]) (by simp [results, Tryd.results113, go_sem, r0, r1]) rfl ?_
          rw [HV.out, ← HM.out]
          have ho : Out w.heap.size (w.heap.size + 1) w3 ((w3.setCell ⟨w.heap.size, 0, none⟩ (.int .i64 c)).setCell ⟨w.heap.size, 1, none⟩ (.slice A1 (m + 1) c1)) :=
            (Out.of_grown (only_set (g := w.heap.size)) (fun j hj => by injection hj; omega)).trans (Out.of_grown (only_set (g := w.heap.size)) (fun j hj => by injection hj; omega))
          have hs7 := ho.size
          exact ⟨_, _, _, rfl, ((hown2.out ho (by omega)).less (by omega)).wide (by omega) (Nat.le_refl _), (hb8.setCell (p := ⟨w.heap.size, 0, none⟩) (Nat.le_refl _) _).setCell (p := ⟨w.heap.size, 1, none⟩) (Nat.le_refl _) _⟩
        | false =>
          have HV := Lib.hid (mkL_no (c := c) (zs := zs) (by rw [← HM.out]; exact hv))
          clear hv
          go_wp2_with fail
          refine bodyPost_ret (v := .tuple #[.agg #[.int .i64 0, .slice none 0 0], .bool false]) (by simp [results, Tryd.results113, go_sem, r0, r1]) rfl ?_
          rw [HV.out]
          exact ⟨none, 0, 0, rfl, ⟨rfl, World.ownsRow_nil _ _ _ _, (fun j hj => by cases hj), Nat.le_refl _⟩, (hb8.setCell (p := ⟨w.heap.size, 0, none⟩) (Nat.le_refl _) _).setCell (p := ⟨w.heap.size, 1, none⟩) (Nat.le_refl _) _⟩
theorem ret_int' {k : IntKind} {a b : Int} (h : a = b) : Ending.returned (.int k a) = .returned (.int k b) := by rw [h]
set_option maxRecDepth 100000 in
set_option maxHeartbeats 1000000 in
theorem l02Coeff_c (B b o : Nat) (t : Int × List Int) (i : Nat) (w : World) (h : PtrT w B b o t) (hn : t.2.length ≤ 100000) :
    Calls Tryd.prog 120 #[.pointer (some ⟨b, o, none⟩), .int .i64 (i : Int)] w fun e w' => e = .returned (.int .i64 (t.2.getD i 0)) ∧ w = w' := by
  obtain ⟨A, n, c, h0, h1, h2, h3⟩ := h
  have hl := Lib.hid h3.1
  have hn' : n ≤ 100000 := by have := hl.out; omega
  by_cases hlt : i < n
  · obtain ⟨b1, off, x, rfl, hb, hx, hc⟩ := h3.2.int_at (k := i) (by have := hl.out; omega)
    have HX : Hid (t.2.getD i 0 = x) := by show _ = _; rw [List.getD_eq_getElem?_getD, hx]; rfl
    clear hx h3
    go_enter Tryd.func120, Tryd.ntmps120
    go_wp2
    go_ret
    exact ⟨ret_int' HX.out.symm, rfl⟩
  · have HX : Hid (t.2.getD i 0 = 0) := by show _ = _; rw [List.getD_eq_getElem?_getD, List.getElem?_eq_none (by have := hl.out; omega)]; rfl
    clear h3
    go_enter Tryd.func120, Tryd.ntmps120
    go_wp2
    go_ret
    exact ⟨ret_int' HX.out.symm, rfl⟩

theorem cell_far {w : World} {b o g i : Nat} {v x : Value} (hc : w.cell? ⟨b, o, none⟩ = some v) (hne : b ≠ g) : (w.setCell ⟨g, i, none⟩ x).cell? ⟨b, o, none⟩ = some v :=
  (World.cell?_setCell_other w ⟨g, i, none⟩ ⟨b, o, none⟩ x (fun e => hne (by injection e with e1; exact e1.symm))).trans hc
theorem fro_on {w w1 : World} {b o : Nat} (hf : w.frozen? ⟨b, o, none⟩ = false) (hl : b < w.heap.size) (h : Below w.drew.heap.size w.drew w1) : w1.frozen? ⟨b, o, none⟩ = false := by
  have h1 : w.drew.frozen? ⟨b, o, none⟩ = false := hf
  exact (h.frozen (p := ⟨b, o, none⟩) hl).trans h1
/-- The numbers of a sum of two multiples. -/
def lin (a : Int × List Int) (m : Int) (b : Int × List Int) (n : Int) : Int → Int := fun k => m * tf a k + n * tf b k
theorem lin_nat (a : Int × List Int) (m : Int) (b : Int × List Int) (n : Int) (i : Nat) : lin a m b n (i : Nat) = m * a.2.getD i 0 + n * b.2.getD i 0 := by unfold lin; rw [tf_nat, tf_nat]
theorem lin_const (a : Int × List Int) (m : Int) (b : Int × List Int) (n : Int) : lin a m b n (-1) = m * a.1 + n * b.1 := by unfold lin; rw [tf_const, tf_const]
set_option maxRecDepth 100000 in
set_option maxHeartbeats 2000000 in
theorem l02Sum_c (B ba oa bb ob : Nat) (ta tb : Int × List Int) (m n : Int) (w : World) (ha : PtrT w B ba oa ta) (hb : PtrT w B bb ob tb) (hB : B ≤ w.heap.size) (va : tmB ta = true) (vb : tmB tb = true)
    (m1 : -1000000 ≤ m) (m2 : m ≤ 1000000) (n1 : -1000000 ≤ n) (n2 : n ≤ 1000000) :
    Calls Tryd.prog 111 #[.pointer (some ⟨ba, oa, none⟩), .int .i64 m, .pointer (some ⟨bb, ob, none⟩), .int .i64 n] w fun e w' => ∃ A' k c', e = .returned (.tuple #[.agg #[.int .i64 (mkL (m * ta.1 + n * tb.1) (ten (lin ta m tb n))).1.1, .slice A' k c'], .bool (mkL (m * ta.1 + n * tb.1) (ten (lin ta m tb n))).2]) ∧
      OwnL w' w.heap.size w'.heap.size A' k c' (mkL (m * ta.1 + n * tb.1) (ten (lin ta m tb n))).1.2 ∧ Below w.heap.size w w' := by
  obtain ⟨i0, hi, hz0, hz1, hz2⟩ := info_parts info64
  have hb0 : Below w.heap.size w (w.alloc (.cells #[.int .i64 0, .slice none 0 0] 45)) := bnew _ _
  have hs0 : w.heap.size < (w.alloc (.cells #[.int .i64 0, .slice none 0 0] 45)).heap.size := by simp
  have hk0 : (w.alloc (.cells #[.int .i64 0, .slice none 0 0] 45)).cell? ⟨w.heap.size, 0, none⟩ = some (.int .i64 0) := by simp
  have hk1 : (w.alloc (.cells #[.int .i64 0, .slice none 0 0] 45)).cell? ⟨w.heap.size, 1, none⟩ = some (.slice none 0 0) := by simp
  have hf0 : ∀ i, (w.alloc (.cells #[.int .i64 0, .slice none 0 0] 45)).frozen? ⟨w.heap.size, i, none⟩ = false := fun i => by simp
  have hW1 : (w.alloc (.cells #[.int .i64 0, .slice none 0 0] 45)).heap.size = w.heap.size + 1 := by simp
  have hpa := ha.next hb0 hB
  have hpb := hb.next hb0 hB
  have la : ta.2.length ≤ 10 := (tmB_parts va).1
  have lb : tb.2.length ≤ 10 := (tmB_parts vb).1
  have SA := Lib.hid (fun i => getD_small va i)
  have SB := Lib.hid (fun i => getD_small vb i)
  have CA := (tmB_parts va).2.1
  have CB := (tmB_parts vb).2.1
  clear ha hb va vb
  go_enter Tryd.func111, Tryd.ntmps111
  go_wp2_with fail
  generalize w.alloc (.cells #[.int .i64 0, .slice none 0 0] 45) = W at hb0 hs0 hk0 hk1 hf0 hpa hpb hW1 ⊢
  have HW := Lib.hid hW1
  clear hW1
  have hown0 := own_empty W 2
  have hb1 : Below W.heap.size W (W.alloc (.cells #[] 2)) := bnew _ _
  go_loopw [10, 11] (fun v i wr => ∃ (k g c : Nat), k ≤ 10 ∧ i = .int .i64 k ∧ v = .slice (some ⟨g, 0, none⟩) k c ∧ k ≤ c ∧ wr.ownsRow W.heap.size 2 1 (.slice (some ⟨g, 0, none⟩) k c) k (((ten (lin ta m tb n)).take k).map ic) ∧ Below W.heap.size W wr) (fun _ i _ => 10 - (intOf i).toNat)
  case atStart => exact ⟨0, _, 0, by omega, rfl, rfl, Nat.le_refl _, by rw [← HW.out]; simpa using hown0, hb1⟩
  case round =>
    clear hown0 hb1
    obtain ⟨k, g, c, hk, rfl, rfl, hkc, hown, hbel⟩ := hrel
    have hsz := hbel.size
    by_cases hlt : k < 10
    · have sa := SA.out k
      have sb := SB.out k
      have p1 := prod_le m1 m2 sa.1 sa.2
      have p2 := prod_le n1 n2 sb.1 sb.2
      have HA := Lib.hid (fun (o : World) (h : Below W.heap.size W o) => l02Coeff_c B ba oa ta k o (hpa.next h (by omega)) (by omega))
      have HBB := Lib.hid (fun (o : World) (h : Below W.heap.size W o) => l02Coeff_c B bb ob tb k o (hpb.next h (by omega)) (by omega))
      have HT : Hid ((((ten (lin ta m tb n)).take (k + 1)).map ic) = ((ten (lin ta m tb n)).take k).map ic ++ [.int .i64 (m * ta.2.getD k 0 + n * tb.2.getD k 0)]) := by
        show _ = _
        rw [List.take_add_one, ten_at _ hlt, lin_nat]; simp [ic]
      generalize ta.2.getD k 0 = x at sa p1 HA HT
      generalize tb.2.getD k 0 = y at sb p2 HBB HT
      obtain ⟨sa1, sa2⟩ := sa
      obtain ⟨sb1, sb2⟩ := sb
      obtain ⟨p11, p12⟩ := p1
      obtain ⟨p21, p22⟩ := p2
      have k0 : (k : Int) < 10 := by omega
      go_wp2_with fail
      refine (HA.out _ hbel).mono ?_
      rintro e w1 ⟨rfl, rfl⟩
      go_wp2_with fail
      refine (HBB.out _ hbel).mono ?_
      rintro e w1 ⟨rfl, rfl⟩
      go_wp2_with (at_builtin; refine wpList_append_own _ rfl _ _ 36 rfl W.heap.size 2 i0 (.int .i64 0) 1 8 Tryd.underlying36 hi hz0 hz1 hz2 rfl (by decide) _ _ _ rfl (hown.alloc _) ⟨wr.heap.size, 0, none⟩ 1 1 [.int .i64 (m * x + n * y)] rfl rfl (cell_one_new _ _ _) (fun u hu => by simp at hu; subst hu; rfl) (by unfold maxLen; omega) (by omega) (by simp; omega) ?_; intro v1 w1 hown1 hgrow1 _)
      have hb2 : Below W.heap.size W w1 := (hbel.alloc hsz _).grown hgrow1 (by simp; omega) (fun j hj => (hown.lt j hj).1)
      rw [← HT.out] at hown1
      obtain ⟨g1, c1, rfl, hc1⟩ : ∃ g1 c1 : Nat, v1 = .slice (some ⟨g1, 0, none⟩) (k + 1) c1 ∧ k + 1 ≤ c1 := by
        rcases hown1.2 with ⟨_, h2⟩ | ⟨g1, cap, cur, h1, _, _, h4, _⟩
        · omega
        · exact ⟨g1, cap, h1, h4⟩
      go_wp2_with fail
      go_roundw
      case rel => exact ⟨k + 1, g1, c1, by omega, by go_num, by go_num, hc1, hown1, hb2⟩
      case measure => simp [intOf]; omega
    · have e : k = 10 := by omega
      subst e
      have hin : InL wr wr.heap.size (some ⟨g, 0, none⟩) 10 (ten (lin ta m tb n)) := by
        have := (OwnL.of_own hown).inn
        rwa [List.take_of_length_le (by rw [ten_len]; omega)] at this
      obtain ⟨Aa, na, ca, ha0, ha1, _, _⟩ := hpa.next hbel (by omega)
      obtain ⟨Ab, nb, cb, hbb0, hbb1, _, _⟩ := hpb.next hbel (by omega)
      have p1 := prod_le m1 m2 CA.1 CA.2
      have p2 := prod_le n1 n2 CB.1 CB.2
      have hw1 : IntKind.i64.wrap (m * ta.1) = m * ta.1 := IntWalk.i64_in _ (by omega)
      have hw2 : IntKind.i64.wrap (n * tb.1) = n * tb.1 := IntWalk.i64_in _ (by omega)
      have hw3 : IntKind.i64.wrap (m * ta.1 + n * tb.1) = m * ta.1 + n * tb.1 := IntWalk.i64_in _ (by omega)
      have HM := Lib.hid (l02Make_c (m * ta.1 + n * tb.1) g 10 c (ten (lin ta m tb n)) wr.drew hin.drew (by omega) hkc)
      have r0 := cell_next hk0 hbel
      have r1 := cell_next hk1 hbel
      have hf00 := (hbel.frozen (p := ⟨w.heap.size, 0, none⟩) hs0).trans (hf0 0)
      have hf01 := (hbel.frozen (p := ⟨w.heap.size, 1, none⟩) hs0).trans (hf0 1)
      have hna : ba ≠ w.heap.size := by omega
      have hnb : bb ≠ w.heap.size := by omega
      have hwl : w.heap.size < wr.heap.size := by omega
      have hb7 := hb0.trans (hbel.mono hb0.size)
      obtain ⟨R, HR⟩ : ∃ R, Hid (mkL (m * ta.1 + n * tb.1) (ten (lin ta m tb n)) = R) := ⟨_, rfl⟩
      rw [HR.out] at HM
      clear hown hin
      go_wp2_with fail
      go_region_held3 (fun w' => w'.cell? ⟨ba, oa, none⟩ = some (.int .i64 ta.1) ∧ w'.cell? ⟨bb, ob, none⟩ = some (.int .i64 tb.1))
        (first | go_keep | exact ⟨cell_on ha1 hb9, cell_on hbb1 hb9⟩ | exact ⟨cell_far (cell_far (cell_on ha1 hb9) hna) hna, cell_far (cell_far (cell_on hbb1 hb9) hnb) hnb⟩)
        (first | (go_at_call 113; refine HM.out.mono ?_; rintro e w1 ⟨A1, k1, c1, rfl, hown9, hb9⟩; have r0' := cell_on r0 hb9; have r1' := cell_on r1 hb9; have f0' := fro_on hf00 hwl hb9; have f1' := fro_on hf01 hwl hb9))
      go_wp2_with fail
      refine bodyPost_ret (v := .tuple #[.agg #[.int .i64 R.1.1, .slice A1 k1 c1], .bool R.2]) (by simp [results, Tryd.results111, go_sem, r0', r1']) rfl ?_
      have ho : Out w.heap.size (w.heap.size + 1) w1 ((w1.setCell ⟨w.heap.size, 0, none⟩ (.int .i64 R.1.1)).setCell ⟨w.heap.size, 1, none⟩ (.slice A1 k1 c1)) :=
        (Out.of_grown (only_set (g := w.heap.size)) (fun j hj => by injection hj; omega)).trans (Out.of_grown (only_set (g := w.heap.size)) (fun j hj => by injection hj; omega))
      have hs7 := ho.size
      have hb10 := bstep hb9
      have hs10 := hb10.size
      have hown10 : OwnL w1 wr.heap.size w1.heap.size A1 k1 c1 R.1.2 := hown9
      rw [HR.out]
      exact ⟨_, _, _, rfl, ((hown10.out ho (by omega)).less (lo' := w.heap.size) (by omega)).wide (by omega) (Nat.le_refl _), ((hb7.trans (hb10.mono hb7.size)).setCell (p := ⟨w.heap.size, 0, none⟩) (Nat.le_refl _) _).setCell (p := ⟨w.heap.size, 1, none⟩) (Nat.le_refl _) _⟩

/-- What a function gives: a term in memory of its own, and whether there is one. -/
def GivesT (R : (Int × List Int) × Bool) (w : World) (e : Ending) (w' : World) : Prop :=
  ∃ A k c, e = .returned (.tuple #[.agg #[.int .i64 R.1.1, .slice A k c], .bool R.2]) ∧ OwnL w' w.heap.size w'.heap.size A k c R.1.2 ∧ Below w.heap.size w w'
theorem tmB_nil (c : Int) (h1 : -1000000 ≤ c) (h2 : c ≤ 1000000) : tmB (c, []) = true := tmB_empty rfl h1 h2

theorem give_end {w w1 w2 : World} {rb : Nat} {A : Option Addr} {k c : Nat} {zs : List Int} {x y : Value} (hb : Below w.heap.size w w1) (h1 : w.heap.size ≤ rb) (h2 : rb < w1.heap.size) (hown : OwnL w2 w1.heap.size w2.heap.size A k c zs) (hb2 : Below w1.heap.size w1 w2) :
    OwnL ((w2.setCell ⟨rb, 0, none⟩ x).setCell ⟨rb, 1, none⟩ y) w.heap.size ((w2.setCell ⟨rb, 0, none⟩ x).setCell ⟨rb, 1, none⟩ y).heap.size A k c zs ∧ Below w.heap.size w ((w2.setCell ⟨rb, 0, none⟩ x).setCell ⟨rb, 1, none⟩ y) := by
  have ho : Out rb (rb + 1) w2 ((w2.setCell ⟨rb, 0, none⟩ x).setCell ⟨rb, 1, none⟩ y) := (Out.of_grown (only_set (g := rb)) (fun j hj => by injection hj; omega)).trans (Out.of_grown (only_set (g := rb)) (fun j hj => by injection hj; omega))
  have hs := ho.size
  exact ⟨((hown.out ho (by omega)).less (by omega)).wide hs (Nat.le_refl _), ((hb.trans (hb2.mono hb.size)).setCell (p := ⟨rb, 0, none⟩) h1 _).setCell (p := ⟨rb, 1, none⟩) h1 _⟩
theorem own_nil (w : World) (lo : Nat) : OwnL w lo w.heap.size none 0 0 [] := ⟨rfl, World.ownsRow_nil _ _ _ _, (fun j hj => by cases hj), Nat.le_refl _⟩
theorem give_no {w w1 : World} {rb : Nat} {x y : Value} (hb : Below w.heap.size w w1) (h1 : w.heap.size ≤ rb) : Below w.heap.size w ((w1.setCell ⟨rb, 0, none⟩ x).setCell ⟨rb, 1, none⟩ y) := (hb.setCell (p := ⟨rb, 0, none⟩) h1 _).setCell (p := ⟨rb, 1, none⟩) h1 _
end Go.Proofs.YtejgpooghengmaaDoor
