/-
  Where blocks begin: the program's. Conditions: at most 2^20 instructions.
-/
import Derived.Test.YtffkdidgfeknkaaDoorDel
import Derived.Test.YtffkdidgfeknkaaDoorShiftI
namespace Go.Proofs.YtffkdidgfeknkaaDoor
set_option linter.unusedVariables false
open Go.RowKit

/-- A number put into a set: the equation of the run, and what the set then is. -/
theorem setF_upd {w : World} {b n : Nat} {L : List Int} (h : SetF w b n L) (hn : n ≤ 100000) (x : Int) (hx : -1000000000 ≤ x ∧ x ≤ 1000000000) :
    ∃ w', (Instr.mapUpdate 85 (.map (some b)) (.int .i64 x) (.bool true)).run Tryd.prog w = .ok () w' ∧ SetF w' b (n + 1) (L ++ [x]) ∧ w.grownBy w' (some b) := by
  obtain ⟨D, h1, h2⟩ := h
  obtain ⟨w', r, o, g⟩ := h1.update keyedS Tryd.underlying85 (by unfold maxLen; omega) (Maps.keyOf_int_mk (P := Tryd.prog) Tryd.underlying2 (a := x) (WalkArith.wf_i64 (n := x) (by omega))) (plainElem_bool (P := Tryd.prog) (H := Unit) Tryd.underlying4 true)
  exact ⟨w', r, setF_put h2 h1.isMap o (fun y => by simp), g⟩

set_option maxRecDepth 100000 in
set_option maxHeartbeats 16000000 in
theorem implLeaders_c (A : Option Addr) (n c B : Nat) (xs : List (Int × Int)) (w : World) (h : InC w B A n xs) (hB : B ≤ w.heap.size) (hn : n ≤ 1048576) :
    Calls Tryd.prog 25 #[.slice A n c] w fun e w' => ∃ A' c', e = .returned (.tuple #[.slice A' (ledR xs).1.length c', .bool (ledR xs).2]) ∧ OwnL w' w.heap.size w'.heap.size A' (ledR xs).1.length c' (ledR xs).1 ∧ Below w.heap.size w w' := by
  have hmm := @run_makeMap Tryd.prog
  have hlen := Lib.hid h.1
  have hb0 := bnew w (.cells #[.slice A n c] 43)
  have hP : BlkIs (w.alloc (.cells #[.slice A n c] 43)) w.heap.size 43 #[.slice A n c] := blk_new _ _ _ _ rfl
  have HC0 := implCode_c A n c B xs _ (h.next hb0 hB) (Nat.le_trans hB hb0.size) hn
  cases hv : codeB xs with
  | false =>
    have HE := Lib.hid (ledR_no hv)
    rw [hv] at HC0
    rw [HE.out]
    have HC := Lib.hid HC0
    clear HC0 hv h
    go_enter Tryd.func25, Tryd.ntmps25
    go_wp2_with fail
    refine HC.out.mono ?_
    rintro e w1 ⟨rfl, hb1⟩
    go_wp2_with fail
    go_ret2
    exact ⟨none, 0, rfl, (ownL_nil _).less (Nat.le_trans hb0.size hb1.size), bon hb0 hb1⟩
  | true =>
    have hp := codeB_parts hv
    have hn80 : n ≤ 80 ∧ 1 ≤ n := by have := hlen.out; omega
    have HV := Lib.hid (fun x (hx : x ∈ xs) => instrB_arg (hp.2.2 x hx))
    have HE := Lib.hid (ledR_yes hv)
    rw [hv] at HC0
    rw [HE.out, hlen.out]
    have HC := Lib.hid HC0
    have HI := Lib.hid h
    clear HC0 hv hp h
    go_enter Tryd.func25, Tryd.ntmps25
    go_wp2_with fail
    generalize w.alloc (.cells #[.slice A n c] 43) = W at hb0 hP HC ⊢
    refine HC.out.mono ?_
    rintro e w1 ⟨rfl, hb1⟩
    have hP1 := hP.next hb1
    have hb01 := bon hb0 hb1
    obtain ⟨w2, r2, hS0, g2⟩ := setF_upd (setF_made w1) (by omega) 0 (by omega)
    have hb2 : Below w1.heap.size w1 w2 := (bnew w1 (.map #[] 0)).trans (only_below g2 (Nat.le_refl _) (bnew w1 (.map #[] 0)).size)
    have hP2 := hP1.next hb2
    have p2 : w2.cell? ⟨w.heap.size, 0, none⟩ = some (.slice A n c) := hP2.cell 0
    have HS0 : Hid (SetF w2 w1.heap.size (1 + 2 * 0) (rawTo xs 0)) := hS0
    clear hS0 g2
    go_wp2_with fail
    go_loopw [5, 6, 14] (fun _ _ i wr => ∃ k : Nat, k ≤ n ∧ i = .int .i64 k ∧ Hid (SetF wr w1.heap.size (1 + 2 * k) (rawTo xs k)) ∧ Below w1.heap.size w1 wr) (fun _ _ i _ => n - (intOf i).toNat)
    case atStart => exact ⟨0, Nat.zero_le _, rfl, HS0, hb2⟩
    case round =>
      clear HS0 hb2 p2 hP2 r2
      obtain ⟨k, hk, rfl, hS, hbel⟩ := hrel
      have hsz := hbel.size
      have hbw := hS.out.lt
      by_cases hlt : k < n
      · obtain ⟨b, off, x, rfl, hb, hx, q0, q1⟩ := (HI.out.next (bon hb01 hbel) hB).at_ hlt
        have ha := HV.out x (List.mem_of_getElem? hx)
        obtain ⟨op, a⟩ := x
        have hR := rawTo_succ hx
        have p0 : wr.cell? ⟨b, off + k * 2, none⟩ = some (.int .i64 op) := q0
        have p1 : wr.cell? ⟨b, off + k * 2 + 1, none⟩ = some (.int .i64 a) := q1
        have ha' : -1000000 ≤ a ∧ a ≤ 1000000 := ha
        have hb3 := bnew wr (.cells #[.int .i64 op, .int .i64 a] 87)
        have hX : BlkIs (wr.alloc (.cells #[.int .i64 op, .int .i64 a] 87)) wr.heap.size 87 #[.int .i64 op, .int .i64 a] := blk_new _ _ _ _ rfl
        have hS3 := hS.out.next hb3 hS.out.lt
        have hwr : IntKind.i64.wrap ((k : Int) + 1) = (k : Int) + 1 := IntWalk.i64_in _ (by omega)
        clear hx ha q0 q1 hS
        generalize rawTo xs k = O at hS3 hR ⊢
        go_wp2_with fail
        generalize wr.alloc (.cells #[.int .i64 op, .int .i64 a] 87) = W3 at hb3 hX hS3 ⊢
        refine (hasPlace_c op a W3).mono ?_
        rintro e w4 ⟨rfl, hb4⟩
        have hX4 := hX.next hb4
        have hS4 := hS3.next hb4 hS3.lt
        have hb34 := bon hb3 hb4
        have x40 : w4.cell? ⟨wr.heap.size, 0, none⟩ = some (.int .i64 op) := hX4.cell 0
        have x41 : w4.cell? ⟨wr.heap.size, 1, none⟩ = some (.int .i64 a) := hX4.cell 1
        by_cases hpl : op = 5 ∨ op = 6
        · rw [decide_eq_true hpl]
          have hep : plcB (op, a) = true := decide_eq_true hpl
          have hee : endB (op, a) = true := by unfold endB; rw [hep]; rfl
          obtain ⟨w5, r5, hS5, g5⟩ := setF_upd hS4 (by omega) a (by omega)
          have hX5 : BlkIs w5 wr.heap.size 87 #[.int .i64 op, .int .i64 a] := (g5.block wr.heap.size hX4.lt (fun e => by injection e; omega)).trans hX4
          have hb5 : Below w1.heap.size w1 w5 := (bon hbel hb34).trans (only_below g5 (Nat.le_refl _) (bon hbel hb34).size)
          have x50 : w5.cell? ⟨wr.heap.size, 0, none⟩ = some (.int .i64 op) := hX5.cell 0
          have x51 : w5.cell? ⟨wr.heap.size, 1, none⟩ = some (.int .i64 a) := hX5.cell 1
          have HL : Hid (rawTo xs (k + 1) = O ++ [a] ++ [(k : Int) + 1]) := by show _ = _; rw [hR]; simp [raw1, hep, hee]
          have hpd : decide (op = 5 ∨ op = 6) = true := decide_eq_true hpl
          clear hS4 g5 hX4 hR hep hee hpl
          go_wp2_with fail
          refine (hasPlace_c op a w5).mono ?_
          rintro e w6 ⟨rfl, hb6⟩
          rw [hpd]
          have hb56 := bon hb5 hb6
          obtain ⟨w7, r7, hS7, g7⟩ := setF_upd (hS5.next hb6 hS5.lt) (by omega) ((k : Int) + 1) (by omega)
          have hb7 : Below w1.heap.size w1 w7 := hb56.trans (only_below g7 (Nat.le_refl _) hb56.size)
          have HS7 : Hid (SetF w7 w1.heap.size (1 + 2 * (k + 1)) (rawTo xs (k + 1))) := by
            show SetF _ _ _ _
            rw [HL.out]; exact hS7.mono (by omega)
          clear hS5 hS7 g7 hpd
          go_wp2_with fail
          go_roundw
          case rel => exact ⟨k + 1, by omega, by go_num, HS7, hb7⟩
          case measure => simp [intOf]; omega
        · rw [decide_eq_false hpl]
          have hep : plcB (op, a) = false := decide_eq_false hpl
          have hpd : decide (op = 5 ∨ op = 6) = false := decide_eq_false hpl
          go_wp2_with fail
          refine (hasPlace_c op a w4).mono ?_
          rintro e w6 ⟨rfl, hb6⟩
          rw [hpd]
          have hX6 := hX4.next hb6
          have x60 : w6.cell? ⟨wr.heap.size, 0, none⟩ = some (.int .i64 op) := hX6.cell 0
          have hb36 := bon hbel (bon hb34 hb6)
          have hS6 := hS4.next hb6 hS4.lt
          by_cases h11 : op = 11
          · have hee : endB (op, a) = true := by unfold endB; rw [hep]; simp [h11]
            have d11 : (op == 11) = true := by simp [h11]
            obtain ⟨w7, r7, hS7, g7⟩ := setF_upd hS6 (by omega) ((k : Int) + 1) (by omega)
            have hb7 : Below w1.heap.size w1 w7 := hb36.trans (only_below g7 (Nat.le_refl _) hb36.size)
            have HL : Hid (rawTo xs (k + 1) = O ++ [(k : Int) + 1]) := by show _ = _; rw [hR]; simp [raw1, hep, hee]
            have HS7 : Hid (SetF w7 w1.heap.size (1 + 2 * (k + 1)) (rawTo xs (k + 1))) := by
              show SetF _ _ _ _
              rw [HL.out]; exact hS7.mono (by omega)
            clear hS3 hS4 hS6 hS7 g7 hpd hep hee hpl hR h11
            go_wp2_with fail
            go_roundw
            case rel => exact ⟨k + 1, by omega, by go_num, HS7, hb7⟩
            case measure => simp [intOf]; omega
          · have hee : endB (op, a) = false := by unfold endB; rw [hep]; simp [h11]
            have d11 : (op == 11) = false := by simp [h11]
            have HL : Hid (rawTo xs (k + 1) = O) := by show _ = _; rw [hR]; simp [raw1, hep, hee]
            have HS7 : Hid (SetF w6 w1.heap.size (1 + 2 * (k + 1)) (rawTo xs (k + 1))) := by
              show SetF _ _ _ _
              rw [HL.out]; exact hS6.mono (by omega)
            clear hS3 hS4 hS6 hpd hep hee hpl hR h11
            go_wp2_with fail
            go_roundw
            case rel => exact ⟨k + 1, by omega, by go_num, HS7, hb36⟩
            case measure => simp [intOf]; omega
      · have e : k = n := by omega
        subst e
        obtain ⟨D, d1, d2⟩ := hS.out
        obtain ⟨s1, s2⟩ := srt_ok (rawTo xs k)
        have hll : (srt (rawTo xs k)).length ≤ 161 := by have := srt_len (rawTo xs k); have := rawTo_len xs k; omega
        have HC2 := Lib.hid (increasing_c w1.heap.size _ D (srt (rawTo xs k)) wr d1 (by omega) s1 (fun y => (s2 y).trans (d2 y)))
        obtain ⟨i, i1, i2, i3, i4⟩ := rise_front s1 (k : Int)
        have hld : (srt (rawTo xs k)).take i = ledTo xs k := by
          have := led_is xs (by have := hlen.out; omega) k
          rw [hlen.out, i2] at this
          exact this
        have hli : (ledTo xs k).length = i := by rw [← hld, List.length_take]; omega
        have HLI := Lib.hid hli
        have HLD := Lib.hid hld
        have HPw := Lib.hid (hP1.next hbel)
        clear hS d1 d2 s1 s2 i2 hli hld
        generalize srt (rawTo xs k) = L at hll HC2 i1 i3 i4 HLD
        go_wp2_with fail
        refine HC2.out.mono ?_
        rintro e w5 ⟨v, rfl, hrow, hb5⟩
        obtain ⟨V5, c5, rfl, _⟩ := own_slice hrow
        have hb15 := bon hbel hb5
        have HD := Lib.hid (delete_c w.heap.size w1.heap.size (A) k c V5 L.length c5 L i w5 ((HPw.out.next hb5).cell 0) hP1.lt (own_less hrow hsz) hb15.size (by omega) i1 i3 i4)
        clear hrow i3 i4
        go_wp2_with fail
        refine HD.out.mono ?_
        rintro e w6 ⟨A6, c6, rfl, hrow6, hb6⟩
        rw [HLD.out] at hrow6
        have HO := Lib.hid (OwnL.of_own hrow6)
        have hb06 := bon hb01 (hb15.trans hb6)
        clear hrow6
        go_wp2_with fail
        go_ret2
        rw [HLI.out]
        exact ⟨A6, c6, rfl, HO.out.less hb01.size, hb06⟩
end Go.Proofs.YtffkdidgfeknkaaDoor
