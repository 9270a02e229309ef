/-
  JoinCode: the model's and the program's. Conditions: at most 2^20 instructions.
-/
import Derived.Test.YtnfapodeifpeoaaJoinI
namespace Go.Proofs.Ytnfapodeifpeoaa
set_option linter.unusedVariables false
open Go.RowKit

set_option maxRecDepth 100000 in
set_option maxHeartbeats 8000000 in
theorem specJoin_c (A : Option Addr) (n c : Nat) (A' : Option Addr) (m c' : Nat) (xs ys : List (Int × Int)) (w : World) (h : InC w w.heap.size A n xs) (h' : InC w w.heap.size A' m ys) (hn : n ≤ 1048576) (hm : m ≤ 1048576) :
    Calls Try.prog 50 #[.slice A n c, .slice A' m c'] w fun e w' => ∃ R d, e = .returned (.tuple #[.slice R (joiR xs ys).1.length d, .bool (joiR xs ys).2]) ∧ InC w' w'.heap.size R (joiR xs ys).1.length (joiR xs ys).1 ∧ Below w.heap.size w w' := by
  have hlen := Lib.hid h.1
  have hlen' := Lib.hid h'.1
  have HC0 := l07Is_c A n c w.heap.size xs w h (Nat.le_refl _) hn
  cases hv : codeB xs with
  | false =>
    have HE := Lib.hid (joiR_no1 (ys := ys) hv)
    rw [hv] at HC0
    rw [HE.out]
    have HC := Lib.hid HC0
    clear HC0 hv h h'
    go_enter Try.func50, Try.ntmps50
    go_wp2_with fail
    refine HC.out.mono ?_
    rintro e w1 ⟨rfl, hb1⟩
    go_wp2_with fail
    go_ret2
    exact ⟨none, 0, rfl, ⟨rfl, fun j x hj => by simp at hj⟩, hb1⟩
  | true =>
    have hp := codeB_parts hv
    have hn80 : n ≤ 80 ∧ 1 ≤ n := by have := hlen.out; omega
    rw [hv] at HC0
    have HC := Lib.hid HC0
    have HVV := Lib.hid hv
    have HI := Lib.hid h
    have HI' := Lib.hid h'
    clear HC0 hv hp h h'
    cases hv' : codeB ys with
    | false =>
      have HE := Lib.hid (joiR_no2 (xs := xs) hv')
      rw [HE.out]
      go_enter Try.func50, Try.ntmps50
      go_wp2_with fail
      refine HC.out.mono ?_
      rintro e w1 ⟨rfl, hb1⟩
      have HC2 := l07Is_c A' m c' w.heap.size ys w1 (HI'.out.next hb1 (Nat.le_refl _)) hb1.size hm
      rw [hv'] at HC2
      have HD := Lib.hid HC2
      clear HC2 hv'
      go_wp2_with fail
      refine HD.out.mono ?_
      rintro e w2 ⟨rfl, hb2⟩
      go_wp2_with fail
      go_ret2
      exact ⟨none, 0, rfl, ⟨rfl, fun j x hj => by simp at hj⟩, bon hb1 hb2⟩
    | true =>
      have hp' := codeB_parts hv'
      have hm80 : m ≤ 80 := by have := hlen'.out; omega
      have HV' := Lib.hid hp'.2.2
      have HVV' := Lib.hid hv'
      clear hp'
      obtain ⟨R, HR⟩ : ∃ R, Hid (joiR xs ys = R) := ⟨_, rfl⟩
      rw [HR.out]
      go_enter Try.func50, Try.ntmps50
      go_wp2_with fail
      refine HC.out.mono ?_
      rintro e w1 ⟨rfl, hb1⟩
      have HC2 := l07Is_c A' m c' w.heap.size ys w1 (HI'.out.next hb1 (Nat.le_refl _)) hb1.size hm
      rw [hv'] at HC2
      have HD := Lib.hid HC2
      clear HC2 hv'
      go_wp2_with fail
      refine HD.out.mono ?_
      rintro e w2 ⟨rfl, hb2⟩
      have hb02 := bon hb1 hb2
      obtain ⟨v3, w3, e1, e2, e3⟩ := app_cs (k := 0) (ys := []) (c := c) (own_empty2 w2 25) ((HI.out.next hb02 (Nat.le_refl _)).next (bnew w2 (.cells #[] 25)) hb02.size) (bnew w2 (.cells #[] 25)).size (by omega) (by omega)
      have hb23 : Below w2.heap.size w2 w3 := (bnew w2 (.cells #[] 25)).trans e3
      rw [Nat.zero_add, List.nil_append] at e2
      obtain ⟨A1, c1, rfl, hO⟩ := own_sliceC e2 hlen.out
      have E1 := Lib.hid e1
      have HO : Hid (OwnC w3 w2.heap.size w3.heap.size A1 n c1 (turned (joi1 n) xs 0)) := by show OwnC _ _ _ _ _ _ _; rw [turned_zero]; exact hO
      clear e1 e2 e3 hO
      go_wp2_with (at_builtin; refine Lib.wpList_append_run _ rfl _ _ _ _ rfl _ _ rfl rfl _ _ E1.out ?_)
      go_loopw [8] (fun i wr => ∃ k : Nat, k ≤ n ∧ i = .int .i64 k ∧ Hid (OwnC wr w2.heap.size w3.heap.size A1 n c1 (turned (joi1 n) xs k)) ∧ Below w2.heap.size w2 wr) (fun i _ => n - (intOf i).toNat)
      case atStart => exact ⟨0, Nat.zero_le _, rfl, HO, hb23⟩
      case round =>
        clear HO
        obtain ⟨k, hk, rfl, hO, hbel⟩ := hrel
        by_cases hlt : k < n
        · obtain ⟨t, ht⟩ : ∃ t, xs[k]? = some t := ⟨_, List.getElem?_eq_getElem (by have := hlen.out; omega)⟩
          obtain ⟨q1, q2, q3, q4⟩ := hO.out
          obtain ⟨f0, f1⟩ := flatC_at (turned_at (joi1 n) ht)
          obtain ⟨g, rfl⟩ : ∃ g, A1 = some ⟨g, 0, none⟩ := by
            rcases q2.2 with h' | ⟨g, cap, cur, k1, _⟩
            · have := h'.2; omega
            · injection k1 with k1; exact ⟨g, k1⟩
          have hlg := (q2.lt g rfl).1
          have p0 := q2.cellAt (k * 2) (by omega)
          have p1 := q2.cellAt (k * 2 + 1) (by omega)
          rw [f0] at p0
          rw [f1] at p1
          have z0 := q2.frozenAt (k * 2)
          have z1 := q2.frozenAt (k * 2 + 1)
          by_cases hp : t.1 = 11
          · have hst := ((q2.stored (k * 2) (.int .i64 5)).1.stored (k * 2 + 1) (.int .i64 n)).1
            rw [flatC_set (5, (n : Int)) (by rw [turned_len]; have := hlen.out; omega), ← joi1_yes (n := (n : Int)) hp, turned_succ _ ht] at hst
            have HN : Hid (OwnC ((wr.setCell ⟨g, k * 2, none⟩ (.int .i64 5)).setCell ⟨g, k * 2 + 1, none⟩ (.int .i64 n)) w2.heap.size w3.heap.size (some ⟨g, 0, none⟩) n c1 (turned (joi1 n) xs (k + 1))) := ⟨by rw [turned_len]; exact hlen.out, hst, q3, by simpa using q4⟩
            have hb4 := (hbel.setCell (p := ⟨g, k * 2, none⟩) hlg (.int .i64 5)).setCell (p := ⟨g, k * 2 + 1, none⟩) hlg (.int .i64 n)
            have e5 : (t.1 == 11) = true := by simp [hp]
            clear hst q1 q2 q3 q4 hO ht f0 f1 hp
            go_wp2_with fail
            go_roundw
            case rel => exact ⟨k + 1, by omega, by go_num, HN, hb4⟩
            case measure => simp [intOf]; omega
          · have HN : Hid (OwnC wr w2.heap.size w3.heap.size (some ⟨g, 0, none⟩) n c1 (turned (joi1 n) xs (k + 1))) := by
              show OwnC _ _ _ _ _ _ _
              rw [← turned_same _ ht (joi1_no hp)]; exact hO.out
            have e5 : (t.1 == 11) = false := by simp [hp]
            clear q1 q2 q3 q4 hO ht f0 f1 hp
            go_wp2_with fail
            go_roundw
            case rel => exact ⟨k + 1, by omega, by go_num, HN, hbel⟩
            case measure => simp [intOf]; omega
        · have e : k = n := by omega
          subst e
          have HF : Hid (OwnC wr w2.heap.size w3.heap.size A1 k c1 (xs.map (joi1 k))) := by
            have := hO.out
            rw [turned_all _ (by have := hlen.out; omega)] at this
            exact this
          have hb0r : Below w.heap.size w wr := hb02.trans (hbel.mono hb02.size)
          have HS := Lib.hid (l07Shift_c A' m c' w.heap.size ys (k : Int) wr (HI'.out.next hb0r (Nat.le_refl _)) hb0r.size (by omega) HV'.out (by omega) (by omega))
          clear hO
          go_wp2_with fail
          refine HS.out.mono ?_
          rintro e w4 ⟨A3, c3, rfl, hO3, hb4⟩
          have hbr4 := (hbel.trans (hb4.mono hbel.size))
          obtain ⟨v5, w5, e1, e2, e3⟩ := app_cs (c := c3) (own_below HF.out.2.1 hb4) hO3.inn hbr4.size (by omega) (by omega)
          have hjl : xs.map (joi1 k) ++ shiL ys k = joiL xs ys := by unfold joiL; rw [hlen.out]
          rw [hjl] at e2
          obtain ⟨A5, c5, rfl, hO5⟩ := own_sliceC e2 (by rw [joiL_len, hlen.out, hlen'.out])
          have E1 := Lib.hid e1
          have hb05 : Below w.heap.size w w5 := hb02.trans ((hbr4.trans e3).mono hb02.size)
          have HC5 := l07Is_c A5 (k + m) c5 _ _ w5 hO5.inn (Nat.le_refl _) (by omega)
          have HO5 := Lib.hid hO5.inn
          have hsz4 := hbr4.size
          clear e1 e2 e3 hO3 hO5 hjl
          have HRR := HR.out
          cases hvj : codeB (joiL xs ys) with
          | false =>
            rw [hvj] at HC5
            have HD5 := Lib.hid HC5
            rw [joiR_no3 hvj] at HRR
            have HRX := Lib.hid HRR.symm
            clear HC5 HRR hvj
            go_wp2_with (at_builtin; refine Lib.wpList_append_run _ rfl _ _ _ _ rfl _ _ rfl rfl _ _ E1.out ?_)
            refine HD5.out.mono ?_
            rintro e w6 ⟨rfl, hb6⟩
            go_wp2_with fail
            go_ret2
            rw [HRX.out]
            exact ⟨none, 0, rfl, ⟨rfl, fun j x hj => by simp at hj⟩, bon hb05 hb6⟩
          | true =>
            rw [hvj] at HC5
            have HD5 := Lib.hid HC5
            rw [joiR_yes HVV.out HVV'.out hvj] at HRR
            have HRX := Lib.hid HRR.symm
            have HJL : Hid ((joiL xs ys).length = k + m) := by show _ = _; rw [joiL_len, hlen.out, hlen'.out]
            clear HC5 HRR hvj
            go_wp2_with (at_builtin; refine Lib.wpList_append_run _ rfl _ _ _ _ rfl _ _ rfl rfl _ _ E1.out ?_)
            refine HD5.out.mono ?_
            rintro e w6 ⟨rfl, hb6⟩
            go_wp2_with fail
            go_ret2
            rw [HRX.out]
            refine ⟨A5, c5, by rw [HJL.out]; rfl, ?_, bon hb05 hb6⟩
            show InC _ _ _ (joiL xs ys).length _
            rw [HJL.out]
            exact (HO5.out.next hb6 (Nat.le_refl _)).more hb6.size

set_option maxRecDepth 100000 in
set_option maxHeartbeats 8000000 in
theorem implJoin_c (A : Option Addr) (n c : Nat) (A' : Option Addr) (m c' : Nat) (xs ys : List (Int × Int)) (w : World) (h : InC w w.heap.size A n xs) (h' : InC w w.heap.size A' m ys) (hn : n ≤ 1048576) (hm : m ≤ 1048576) :
    Calls Try.prog 51 #[.slice A n c, .slice A' m c'] w fun e w' => ∃ R d, e = .returned (.tuple #[.slice R (joiR xs ys).1.length d, .bool (joiR xs ys).2]) ∧ OwnC w' w.heap.size w'.heap.size R (joiR xs ys).1.length d (joiR xs ys).1 ∧ Below w.heap.size w w' := by
  have hlen := Lib.hid h.1
  have hlen' := Lib.hid h'.1
  have HC0 := implCode_c A n c w.heap.size xs w h (Nat.le_refl _) hn
  cases hv : codeB xs with
  | false =>
    have HE := Lib.hid (joiR_no1 (ys := ys) hv)
    rw [hv] at HC0
    rw [HE.out]
    have HC := Lib.hid HC0
    clear HC0 hv h h'
    go_enter Try.func51, Try.ntmps51
    go_wp2_with fail
    refine HC.out.mono ?_
    rintro e w1 ⟨rfl, hb1⟩
    go_wp2_with fail
    go_ret2
    exact ⟨none, 0, rfl, ⟨rfl, World.ownsRow_nil _ _ _ _, (fun j hj => by cases hj), Nat.le_refl _⟩, hb1⟩
  | true =>
    have hp := codeB_parts hv
    have hn80 : n ≤ 80 ∧ 1 ≤ n := by have := hlen.out; omega
    rw [hv] at HC0
    have HC := Lib.hid HC0
    have HVV := Lib.hid hv
    have HI := Lib.hid h
    have HI' := Lib.hid h'
    clear HC0 hv hp h h'
    cases hv' : codeB ys with
    | false =>
      have HE := Lib.hid (joiR_no2 (xs := xs) hv')
      rw [HE.out]
      go_enter Try.func51, Try.ntmps51
      go_wp2_with fail
      refine HC.out.mono ?_
      rintro e w1 ⟨rfl, hb1⟩
      have HC2 := implCode_c A' m c' w.heap.size ys w1 (HI'.out.next hb1 (Nat.le_refl _)) hb1.size hm
      rw [hv'] at HC2
      have HD := Lib.hid HC2
      clear HC2 hv'
      go_wp2_with fail
      refine HD.out.mono ?_
      rintro e w2 ⟨rfl, hb2⟩
      go_wp2_with fail
      go_ret2
      exact ⟨none, 0, rfl, ⟨rfl, World.ownsRow_nil _ _ _ _, (fun j hj => by cases hj), Nat.le_refl _⟩, bon hb1 hb2⟩
    | true =>
      have hp' := codeB_parts hv'
      have hm80 : m ≤ 80 := by have := hlen'.out; omega
      have HV' := Lib.hid hp'.2.2
      have HVV' := Lib.hid hv'
      clear hp'
      obtain ⟨R, HR⟩ : ∃ R, Hid (joiR xs ys = R) := ⟨_, rfl⟩
      rw [HR.out]
      go_enter Try.func51, Try.ntmps51
      go_wp2_with fail
      refine HC.out.mono ?_
      rintro e w1 ⟨rfl, hb1⟩
      have HC2 := implCode_c A' m c' w.heap.size ys w1 (HI'.out.next hb1 (Nat.le_refl _)) hb1.size hm
      rw [hv'] at HC2
      have HD := Lib.hid HC2
      clear HC2 hv'
      go_wp2_with fail
      refine HD.out.mono ?_
      rintro e w2 ⟨rfl, hb2⟩
      have hb02 := bon hb1 hb2
      have hbn := bnew w2 (.cells #[.int .i64 n] 2)
      have hP : BlkIs (w2.alloc (.cells #[.int .i64 n] 2)) w2.heap.size 2 #[.int .i64 n] := blk_new _ _ _ _ rfl
      have hb03 := bon hb02 hbn
      have HE := Lib.hid (eachJoin_c (joi1 n) ⟨w2.heap.size, 0, none⟩ A n c w.heap.size xs _ (HI.out.next hb03 (Nat.le_refl _)) hb03.size (by omega) (fun W x hW hx => join1_c x.1 x.2 n w2.heap.size W ((hP.next hW).cell 0)))
      go_wp2_with fail
      generalize w2.alloc (.cells #[.int .i64 n] 2) = W3 at hbn hP hb03 HE ⊢
      refine HE.out.mono ?_
      rintro e w4 ⟨g4, rfl, hO4, hb4⟩
      have hb04 := bon hb03 hb4
      have p4 : w4.cell? ⟨w2.heap.size, 0, none⟩ = some (.int .i64 n) := (hP.next hb4).cell 0
      have HO4 := Lib.hid hO4
      have HS := Lib.hid (shifted_c A' m c' w.heap.size ys (n : Int) w4 (HI'.out.next hb04 (Nat.le_refl _)) hb04.size (by omega) HV'.out (by omega) (by omega))
      clear hO4 HE
      go_wp2_with fail
      refine HS.out.mono ?_
      rintro e w5 ⟨g5, rfl, hO5, hb5⟩
      have hb05 := bon hb04 hb5
      have hbm := bnew w5 (.cells #[.slice (some ⟨g4, 0, none⟩) n n, .slice (some ⟨g5, 0, none⟩) m m] 31)
      have hQ : BlkIs (w5.alloc (.cells #[.slice (some ⟨g4, 0, none⟩) n n, .slice (some ⟨g5, 0, none⟩) m m] 31)) w5.heap.size 31 #[.slice (some ⟨g4, 0, none⟩) n n, .slice (some ⟨g5, 0, none⟩) m m] := blk_new _ _ _ _ rfl
      have HCO := Lib.hid (concatC_c w5.heap.size (some ⟨g4, 0, none⟩) n n w5.heap.size _ (some ⟨g5, 0, none⟩) m m _ _ hQ ((HO4.out.next hb5).all.next hbm (Nat.le_refl _)) (hO5.all.next hbm (Nat.le_refl _)) hbm.size (by omega) (by omega) hn80.2)
      have hb06 := bon hb05 hbm
      clear hO5 HS
      go_wp2_with fail
      generalize w5.alloc (.cells #[.slice (some ⟨g4, 0, none⟩) n n, .slice (some ⟨g5, 0, none⟩) m m] 31) = W6 at hbm hQ hb06 HCO ⊢
      refine HCO.out.mono ?_
      rintro e w7 ⟨A7, c7, rfl, hO7, hb7⟩
      have hjl : xs.map (joi1 n) ++ shiL ys n = joiL xs ys := by unfold joiL; rw [hlen.out]
      rw [hjl] at hO7
      have hb07 := bon hb06 hb7
      have HC7 := implCode_c A7 (n + m) c7 _ _ w7 hO7.inn (Nat.le_refl _) (by omega)
      have HO7 := Lib.hid (hO7.less hb06.size)
      have HRR := HR.out
      clear hO7 hjl HCO
      cases hvj : codeB (joiL xs ys) with
      | false =>
        rw [hvj] at HC7
        have HD7 := Lib.hid HC7
        rw [joiR_no3 hvj] at HRR
        have HRX := Lib.hid HRR.symm
        clear HC7 HRR hvj
        go_wp2_with fail
        refine HD7.out.mono ?_
        rintro e w8 ⟨rfl, hb8⟩
        go_wp2_with fail
        go_ret2
        rw [HRX.out]
        exact ⟨none, 0, rfl, ⟨rfl, World.ownsRow_nil _ _ _ _, (fun j hj => by cases hj), Nat.le_refl _⟩, bon hb07 hb8⟩
      | true =>
        rw [hvj] at HC7
        have HD7 := Lib.hid HC7
        rw [joiR_yes HVV.out HVV'.out hvj] at HRR
        have HRX := Lib.hid HRR.symm
        have HJL : Hid ((joiL xs ys).length = n + m) := by show _ = _; rw [joiL_len, hlen.out, hlen'.out]
        clear HC7 HRR hvj
        go_wp2_with fail
        refine HD7.out.mono ?_
        rintro e w8 ⟨rfl, hb8⟩
        go_wp2_with fail
        go_ret2
        rw [HRX.out]
        refine ⟨A7, c7, by rw [HJL.out]; rfl, ?_, bon hb07 hb8⟩
        show OwnC _ _ _ _ (joiL xs ys).length _ _
        rw [HJL.out]
        exact (HO7.out.next hb8).wide hb8.size (Nat.le_refl _)
end Go.Proofs.Ytnfapodeifpeoaa
