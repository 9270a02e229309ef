/-
  Valid configs: the model's test and the program's. Conditions: at most 2^20 numbers.
-/
import Derived.Test.YtnfapodeifpeoaaCfg
namespace Go.Proofs.Ytnfapodeifpeoaa
set_option linter.unusedVariables false
open Go.RowKit

/-- A valid config. -/
def cfgB (zs ys xs : List Int) (a : Int) : Bool := stB zs ys && ((decide (0 ≤ a) && decide (a ≤ 80)) && (decide (xs.length ≤ 6) && btw (-10000000000000000) 10000000000000000 xs))
theorem cfgB_st {zs ys xs : List Int} {a : Int} (h : stB zs ys = false) : cfgB zs ys xs a = false := by unfold cfgB; rw [h]; rfl
theorem cfgB_at {zs ys xs : List Int} {a : Int} (h : (decide (0 ≤ a) && decide (a ≤ 80)) = false) : cfgB zs ys xs a = false := by unfold cfgB; rw [h]; simp
theorem cfgB_len {zs ys xs : List Int} {a : Int} (h : ¬ xs.length ≤ 6) : cfgB zs ys xs a = false := by unfold cfgB; rw [decide_eq_false h]; simp
theorem cfgB_btw {zs ys xs : List Int} {a : Int} (h : btw (-10000000000000000) 10000000000000000 xs = false) : cfgB zs ys xs a = false := by unfold cfgB; rw [h]; simp
theorem cfgB_is {zs ys xs : List Int} {a : Int} (h : stB zs ys = true) (h1 : (decide (0 ≤ a) && decide (a ≤ 80)) = true) (h2 : xs.length ≤ 6) : cfgB zs ys xs a = btw (-10000000000000000) 10000000000000000 xs := by unfold cfgB; rw [h, h1, decide_eq_true h2]; rfl
/-- A valid config beside valid code. -/
def vcfB (cs : List (Int × Int)) (zs ys xs : List Int) (a : Int) : Bool := codeB cs && cfgB zs ys xs a
theorem vcfB_no {cs : List (Int × Int)} {zs ys xs : List Int} {a : Int} (h : codeB cs = false) : vcfB cs zs ys xs a = false := by unfold vcfB; rw [h]; rfl
theorem vcfB_is {cs : List (Int × Int)} {zs ys xs : List Int} {a : Int} (h : codeB cs = true) : vcfB cs zs ys xs a = cfgB zs ys xs a := by unfold vcfB; rw [h]; rfl

theorem l07Wide_c (n : Int) (w : World) : Calls Try.prog 86 #[.int .i64 n] w fun e w' => e = .returned (.bool (decide (-10000000000000000 ≤ n) && decide (n ≤ 10000000000000000))) ∧ w = w' := by
  go_enter Try.func86, Try.ntmps86
  go_wp2_with fail
  refine (l00In_i n (-10000000000000000) 10000000000000000 w).mono ?_
  rintro e w1 ⟨rfl, rfl⟩
  go_wp2_with fail
  go_ret
  exact ⟨rfl, rfl⟩

set_option maxRecDepth 100000 in
set_option maxHeartbeats 4000000 in
theorem l07Config_c (b : Nat) (A : Option Addr) (n c : Nat) (zs : List Int) (A' : Option Addr) (m c' : Nat) (ys : List Int) (A2 : Option Addr) (q c2 : Nat) (xs : List Int) (a : Int) (B : Nat) (w : World)
    (hP : BlkIs w b 44 #[.slice A n c, .slice A' m c', .slice A2 q c2, .int .i64 a]) (h0 : InL w B A n zs) (h1 : InL w B A' m ys) (h2 : InL w B A2 q xs) (hn : n ≤ 1048576) (hm : m ≤ 1048576) (hq : q ≤ 1048576) :
    Calls Try.prog 58 #[.pointer (some ⟨b, 0, none⟩)] w fun e w' => e = .returned (.bool (cfgB zs ys xs a)) ∧ w = w' := by
  have p0 : w.cell? ⟨b, 0, none⟩ = some (.slice A n c) := hP.cell 0
  have p1 : w.cell? ⟨b, 0 + 1, none⟩ = some (.slice A' m c') := hP.cell 1
  have p2 : w.cell? ⟨b, 2, none⟩ = some (.slice A2 q c2) := hP.cell 2
  have p3 : w.cell? ⟨b, 3, none⟩ = some (.int .i64 a) := hP.cell 3
  have hlen := Lib.hid h2.1
  have HS0 := l03State_c b 0 A n c zs A' m c' ys B w p0 p1 h0 h1 hn hm
  have HX := Lib.hid h2
  clear h0 h1 h2 hP p0 p1
  go_enter Try.func58, Try.ntmps58
  go_wp2_with fail
  go_loop [3] (fun i => ∃ j : Nat, j ≤ q ∧ i = .int .i64 j ∧ Hid (∀ z ∈ xs.take j, -10000000000000000 ≤ z ∧ z ≤ 10000000000000000)) (fun i => q - (intOf i).toNat)
  case atStart => exact ⟨0, Nat.zero_le _, rfl, by intro z hz; simp at hz⟩
  case round =>
    obtain ⟨j, hj, rfl, ha⟩ := hrel
    by_cases hlt : j < q
    · obtain ⟨bb, off, x, rfl, hb, hx, hc⟩ := HX.out.2.int_at (k := j) (by have := hlen.out; omega)
      by_cases hr : -10000000000000000 ≤ x ∧ x ≤ 10000000000000000
      · have HT := Lib.hid (btw_take_succ ha.out hx hr.1 hr.2)
        have HW0 := l07Wide_c x w
        rw [show (decide (-10000000000000000 ≤ x) && decide (x ≤ 10000000000000000)) = true by simp [hr]] at HW0
        have HW := Lib.hid HW0
        clear hx hr HW0 HS0
        go_wp2_with fail
        refine HW.out.mono ?_
        rintro e w1 ⟨rfl, rfl⟩
        go_wp2_with fail
        go_round
        case rel => exact ⟨j + 1, by omega, by go_num, HT⟩
        case measure => simp [intOf]; omega
      · have HN := Lib.hid (cfgB_btw (zs := zs) (ys := ys) (a := a) (btw_no hx hr))
        have HW0 := l07Wide_c x w
        rw [show (decide (-10000000000000000 ≤ x) && decide (x ≤ 10000000000000000)) = false by simpa using hr] at HW0
        have HW := Lib.hid HW0
        clear hx hr HW0 HS0
        go_wp2_with fail
        refine HW.out.mono ?_
        rintro e w1 ⟨rfl, rfl⟩
        go_wp2_with fail
        go_ret
        exact ⟨ret_bool HN.out.symm, rfl⟩
    · have HY := Lib.hid (btw_yes ha.out (by have := hlen.out; omega))
      cases hv : stB zs ys with
      | false =>
        have HN := Lib.hid (cfgB_st (xs := xs) (a := a) hv)
        rw [hv] at HS0
        have HS := Lib.hid HS0
        clear HS0 hv
        go_wp2_with fail
        refine HS.out.mono ?_
        rintro e w1 ⟨rfl, rfl⟩
        go_wp2_with fail
        go_ret
        exact ⟨ret_bool HN.out.symm, rfl⟩
      | true =>
        rw [hv] at HS0
        have HS := Lib.hid HS0
        have HV := Lib.hid hv
        clear HS0 hv
        by_cases h6 : q ≤ 6
        · have HI0 := l00In_i a 0 80 w
          cases hat : (decide (0 ≤ a) && decide (a ≤ 80)) with
          | false =>
            have HN := Lib.hid (cfgB_at (zs := zs) (ys := ys) (xs := xs) hat)
            rw [hat] at HI0
            have HI := Lib.hid HI0
            clear HI0 hat
            go_wp2_with fail
            refine HS.out.mono ?_
            rintro e w1 ⟨rfl, rfl⟩
            go_wp2_with fail
            refine HI.out.mono ?_
            rintro e w1 ⟨rfl, rfl⟩
            go_wp2_with fail
            go_ret
            exact ⟨ret_bool HN.out.symm, rfl⟩
          | true =>
            have HN := Lib.hid ((cfgB_is HV.out hat (by have := hlen.out; omega)).trans HY.out)
            rw [hat] at HI0
            have HI := Lib.hid HI0
            clear HI0 hat
            go_wp2_with fail
            refine HS.out.mono ?_
            rintro e w1 ⟨rfl, rfl⟩
            go_wp2_with fail
            refine HI.out.mono ?_
            rintro e w1 ⟨rfl, rfl⟩
            go_wp2_with fail
            go_ret
            exact ⟨ret_bool HN.out.symm, rfl⟩
        · have HN := Lib.hid (cfgB_len (zs := zs) (ys := ys) (a := a) (xs := xs) (by have := hlen.out; omega))
          go_wp2_with fail
          refine HS.out.mono ?_
          rintro e w1 ⟨rfl, rfl⟩
          go_wp2_with fail
          go_ret
          exact ⟨ret_bool HN.out.symm, rfl⟩

set_option maxRecDepth 100000 in
set_option maxHeartbeats 4000000 in
theorem specConfig_c (C : Option Addr) (k cc : Nat) (cs : List (Int × Int)) (A : Option Addr) (n c : Nat) (zs : List Int) (A' : Option Addr) (m c' : Nat) (ys : List Int) (A2 : Option Addr) (q c2 : Nat) (xs : List Int) (a : Int) (w : World)
    (hc : InC w w.heap.size C k cs) (h0 : InL w w.heap.size A n zs) (h1 : InL w w.heap.size A' m ys) (h2 : InL w w.heap.size A2 q xs) (hk : k ≤ 1048576) (hn : n ≤ 1048576) (hm : m ≤ 1048576) (hq : q ≤ 1048576) :
    Calls Try.prog 22 #[.slice C k cc, .agg #[.slice A n c, .slice A' m c', .slice A2 q c2, .int .i64 a]] w fun e w' => e = .returned (.bool (vcfB cs zs ys xs a)) ∧ Below w.heap.size w w' := by
  have hb0 := bnew w (.cells #[.slice A n c, .slice A' m c', .slice A2 q c2, .int .i64 a] 44)
  have hP : BlkIs (w.alloc (.cells #[.slice A n c, .slice A' m c', .slice A2 q c2, .int .i64 a] 44)) w.heap.size 44 #[.slice A n c, .slice A' m c', .slice A2 q c2, .int .i64 a] := blk_new _ _ _ _ rfl
  have HC0 := l07Is_c C k cc w.heap.size cs _ (hc.next hb0 (Nat.le_refl _)) hb0.size hk
  cases hv : codeB cs with
  | false =>
    have HN := Lib.hid (vcfB_no (zs := zs) (ys := ys) (xs := xs) (a := a) hv)
    rw [hv] at HC0
    have HC := Lib.hid HC0
    clear HC0 hv hc h0 h1 h2
    go_enter Try.func22, Try.ntmps22
    go_wp2_with fail
    generalize w.alloc (.cells #[.slice A n c, .slice A' m c', .slice A2 q c2, .int .i64 a] 44) = W at hb0 hP HC ⊢
    refine HC.out.mono ?_
    rintro e w1 ⟨rfl, hb1⟩
    go_wp2_with fail
    go_ret
    exact ⟨ret_bool HN.out.symm, bon hb0 hb1⟩
  | true =>
    have HN := Lib.hid (vcfB_is (zs := zs) (ys := ys) (xs := xs) (a := a) hv)
    rw [hv] at HC0
    have HC := Lib.hid HC0
    have H0 := Lib.hid (h0.next hb0 (Nat.le_refl _))
    have H1 := Lib.hid (h1.next hb0 (Nat.le_refl _))
    have H2 := Lib.hid (h2.next hb0 (Nat.le_refl _))
    clear HC0 hv hc h0 h1 h2
    go_enter Try.func22, Try.ntmps22
    go_wp2_with fail
    generalize w.alloc (.cells #[.slice A n c, .slice A' m c', .slice A2 q c2, .int .i64 a] 44) = W at hb0 hP HC H0 H1 H2 ⊢
    refine HC.out.mono ?_
    rintro e w1 ⟨rfl, hb1⟩
    go_wp2_with fail
    refine (l07Config_c w.heap.size A n c zs A' m c' ys A2 q c2 xs a _ w1 (hP.next hb1) (H0.out.next hb1 hb0.size) (H1.out.next hb1 hb0.size) (H2.out.next hb1 hb0.size) hn hm hq).mono ?_
    rintro e w2 ⟨rfl, rfl⟩
    generalize cfgB zs ys xs a = r at HN ⊢
    cases r <;>
    · go_wp2_with fail
      go_ret
      exact ⟨ret_bool HN.out.symm, bon hb0 hb1⟩

set_option maxRecDepth 100000 in
set_option maxHeartbeats 4000000 in
theorem implConfig_c (C : Option Addr) (k cc : Nat) (cs : List (Int × Int)) (A : Option Addr) (n c : Nat) (zs : List Int) (A' : Option Addr) (m c' : Nat) (ys : List Int) (A2 : Option Addr) (q c2 : Nat) (xs : List Int) (a : Int) (w : World)
    (hc : InC w w.heap.size C k cs) (h0 : InL w w.heap.size A n zs) (h1 : InL w w.heap.size A' m ys) (h2 : InL w w.heap.size A2 q xs) (hk : k ≤ 1048576) (hn : n ≤ 1048576) (hm : m ≤ 1048576) (hq : q ≤ 1048576) :
    Calls Try.prog 24 #[.slice C k cc, .agg #[.slice A n c, .slice A' m c', .slice A2 q c2, .int .i64 a]] w fun e w' => e = .returned (.bool (vcfB cs zs ys xs a)) ∧ Below w.heap.size w w' := by
  have hb0 := bnew w (.cells #[.slice A n c, .slice A' m c', .slice A2 q c2, .int .i64 a] 44)
  have hP : BlkIs (w.alloc (.cells #[.slice A n c, .slice A' m c', .slice A2 q c2, .int .i64 a] 44)) w.heap.size 44 #[.slice A n c, .slice A' m c', .slice A2 q c2, .int .i64 a] := blk_new _ _ _ _ rfl
  have HC0 := implCode_c C k cc w.heap.size cs _ (hc.next hb0 (Nat.le_refl _)) hb0.size hk
  have hlen := Lib.hid h2.1
  cases hv : codeB cs with
  | false =>
    have HN := Lib.hid (vcfB_no (zs := zs) (ys := ys) (xs := xs) (a := a) hv)
    rw [hv] at HC0
    have HC := Lib.hid HC0
    clear HC0 hv hc h0 h1 h2
    go_enter Try.func24, Try.ntmps24
    go_wp2_with fail
    generalize w.alloc (.cells #[.slice A n c, .slice A' m c', .slice A2 q c2, .int .i64 a] 44) = W at hb0 hP HC ⊢
    refine HC.out.mono ?_
    rintro e w1 ⟨rfl, hb1⟩
    go_wp2_with fail
    go_ret
    exact ⟨ret_bool HN.out.symm, bon hb0 hb1⟩
  | true =>
    have HN := Lib.hid (vcfB_is (zs := zs) (ys := ys) (xs := xs) (a := a) hv)
    rw [hv] at HC0
    have HC := Lib.hid HC0
    have H0 := Lib.hid (h0.next hb0 (Nat.le_refl _))
    have H1 := Lib.hid (h1.next hb0 (Nat.le_refl _))
    have H2 := Lib.hid (h2.next hb0 (Nat.le_refl _))
    clear HC0 hv hc h0 h1 h2
    go_enter Try.func24, Try.ntmps24
    go_wp2_with fail
    generalize w.alloc (.cells #[.slice A n c, .slice A' m c', .slice A2 q c2, .int .i64 a] 44) = W at hb0 hP HC H0 H1 H2 ⊢
    refine HC.out.mono ?_
    rintro e w1 ⟨rfl, hb1⟩
    have hP1 := hP.next hb1
    have p0 : w1.cell? ⟨w.heap.size, 0, none⟩ = some (.slice A n c) := hP1.cell 0
    have p1 : w1.cell? ⟨w.heap.size, 1, none⟩ = some (.slice A' m c') := hP1.cell 1
    have hs1 := hb1.size
    have hs0 := hb0.size
    have HS0 := implState_c A n c _ zs A' m c' ys w1 (H0.out.next hb1 hb0.size) (H1.out.next hb1 hb0.size) (by omega) hn hm
    cases hvs : stB zs ys with
    | false =>
      have HF := Lib.hid (cfgB_st (xs := xs) (a := a) hvs)
      rw [hvs] at HS0
      have HS := Lib.hid HS0
      clear HS0 hvs
      go_wp2_with fail
      refine HS.out.mono ?_
      rintro e w2 ⟨rfl, hb2⟩
      go_wp2_with fail
      go_ret
      exact ⟨by rw [HN.out, HF.out]; rfl, bon (bon hb0 hb1) hb2⟩
    | true =>
      rw [hvs] at HS0
      have HS := Lib.hid HS0
      have HV := Lib.hid hvs
      clear HS0 hvs
      go_wp2_with fail
      refine HS.out.mono ?_
      rintro e w2 ⟨rfl, hb2⟩
      have hP2 := hP1.next hb2
      have p2 : w2.cell? ⟨w.heap.size, 2, none⟩ = some (.slice A2 q c2) := hP2.cell 2
      have p3 : w2.cell? ⟨w.heap.size, 3, none⟩ = some (.int .i64 a) := hP2.cell 3
      have hb02 := bon (bon hb0 hb1) hb2
      have HI0 := isBetween_i a 0 80 w2
      clear p0 p1
      cases hat : (decide (0 ≤ a) && decide (a ≤ 80)) with
      | false =>
        have HF := Lib.hid (cfgB_at (zs := zs) (ys := ys) (xs := xs) hat)
        rw [hat] at HI0
        have HI := Lib.hid HI0
        clear HI0 hat
        go_wp2_with fail
        refine HI.out.mono ?_
        rintro e w3 ⟨rfl, rfl⟩
        go_wp2_with fail
        go_ret
        exact ⟨by rw [HN.out, HF.out]; rfl, hb02⟩
      | true =>
        rw [hat] at HI0
        have HI := Lib.hid HI0
        have HAT := Lib.hid hat
        clear HI0 hat
        by_cases h6 : q ≤ 6
        · have HF := Lib.hid (cfgB_is (xs := xs) HV.out HAT.out (by have := hlen.out; omega))
          have HB := Lib.hid (areBetween_c A2 q c2 _ (-10000000000000000) 10000000000000000 xs w2 ((H2.out.next hb1 hb0.size).next hb2 (by omega)).2 hlen.out hq)
          generalize btw (-10000000000000000) 10000000000000000 xs = r at HF HB
          go_wp2_with fail
          refine HI.out.mono ?_
          rintro e w3 ⟨rfl, rfl⟩
          go_wp2_with fail
          refine HB.out.mono ?_
          rintro e w4 ⟨rfl, rfl⟩
          cases r <;>
          · go_wp2_with fail
            go_ret
            exact ⟨by rw [HN.out, HF.out]; rfl, hb02⟩
        · have HF := Lib.hid (cfgB_len (zs := zs) (ys := ys) (a := a) (xs := xs) (by have := hlen.out; omega))
          go_wp2_with fail
          refine HI.out.mono ?_
          rintro e w3 ⟨rfl, rfl⟩
          go_wp2_with fail
          go_ret
          exact ⟨by rw [HN.out, HF.out]; rfl, hb02⟩
end Go.Proofs.Ytnfapodeifpeoaa
