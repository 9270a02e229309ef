/-
  The facts of a start in memory of the call's own; the marks that the law writes into a list of terms, and reads again. Conditions: at most 2^20 elements, terms and coefficients.
-/
import Derived.Test.YthgegomccbpgeaaDoorHoldsAt
import Derived.Test.YthgegomccbpgeaaDoorMarkTS
import Derived.Test.YthgegomccbpgeaaDoorCopyO
import Derived.Test.YthgegomccbpgeaaDoorHeldTS
namespace Go.Proofs.YthgegomccbpgeaaDoor
set_option linter.unusedVariables false
open Go.RowKit

set_option maxRecDepth 100000 in
set_option maxHeartbeats 4000000 in
theorem startFacts_o (A : Option Addr) (n c : Nat) (ts : List (Int × List Int)) (D : Option Addr) (m d : Nat) (xs : List S8) (E : Option Addr) (q e' B : Nat) (us : List (Int × List Int)) (s : Int) (w : World) (hT : TabE w) (h : PIn w B A n ts D m xs E q us) (hB : B ≤ w.heap.size)
    (hn : progN n ts m xs q us ≤ 1048576) :
    Calls Tryd.prog 7 #[.agg #[.slice A n c, .slice D m d, .slice E q e'], .int .i64 s] w fun e w' => ∃ VA Vc, e = .returned (.tuple #[.slice VA (startR ts xs us s).1.length Vc, .bool (startR ts xs us s).2]) ∧ OwnTS w' w.heap.size w'.heap.size VA (startR ts xs us s).1.length Vc (startR ts xs us s).1 ∧ Below w.heap.size w w' := by
  have hb0 := bnew w (.cells #[.slice A n c, .slice D m d, .slice E q e'] 32)
  have hP : BlkIs (w.alloc (.cells #[.slice A n c, .slice D m d, .slice E q e'] 32)) w.heap.size 32 #[.slice A n c, .slice D m d, .slice E q e'] := blk_new _ _ _ _ rfl
  have HN := Lib.hid (h.next hb0 hB)
  have C0 := loopsOf_c A n c ts D m d xs E q e' B us _ (hT.next hb0) HN.out (Nat.le_trans hB hb0.size) hn
  have hlm : xs.length = m := h.2.1.1
  have hln : ts.length = n := h.1.1
  clear h hn
  obtain ⟨R, HR⟩ : ∃ R, Hid (startR ts xs us s = R) := ⟨_, rfl⟩
  rw [HR.out]
  cases hp : progB ts xs us with
  | false =>
    have HE : Hid (R = ([], false)) := HR.out.symm.trans (startR_no hp)
    rw [loopsR_no hp] at C0
    have HC := Lib.hid C0
    obtain rfl := HE.out
    clear C0 hp HR HE
    go_enter Tryd.func7, Tryd.ntmps7
    go_wp2_with fail
    generalize w.alloc (.cells #[.slice A n c, .slice D m d, .slice E q e'] 32) = W at hb0 hP HN HC ⊢
    refine HC.out.mono ?_
    rintro e w1 ⟨v, rfl, hown, hb1⟩
    go_wp2_with fail
    go_ret2
    exact ⟨none, 0, rfl, ownTS_nil _ _, bon hb0 hb1⟩
  | true =>
    obtain ⟨hpre, hall, _, h30⟩ := prog_parts hp
    rw [loopsR_yes hp] at C0
    have C1 : Calls Tryd.prog 20 #[.agg #[.slice A n c, .slice D m d, .slice E q e']] (w.alloc (.cells #[.slice A n c, .slice D m d, .slice E q e'] 32)) fun e w' => ∃ LA Lc, e = .returned (.tuple #[.slice LA (loopsU xs xs.length).length Lc, .bool true]) ∧ InL w' w'.heap.size LA (loopsU xs xs.length).length (loopsU xs xs.length) ∧ Below (w.alloc (.cells #[.slice A n c, .slice D m d, .slice E q e'] 32)).heap.size (w.alloc (.cells #[.slice A n c, .slice D m d, .slice E q e'] 32)) w' := by
      refine C0.mono ?_
      rintro e w1 ⟨v, rfl, hown, hb1⟩
      obtain ⟨A1, c1, rfl, _⟩ := own_slice hown
      exact ⟨A1, c1, rfl, (OwnL.of_own hown).all, hb1⟩
    have HC := Lib.hid C1
    have HL := loopsU_len xs xs.length
    by_cases h1 : s = -1
    · subst h1
      have HE : Hid (R = (ts, true)) := HR.out.symm.trans (startR_entry hp)
      obtain rfl := HE.out
      have hpp := overs_parts hpre
      have HPP := Lib.hid hpp.2
      have hn6 := hpp.1
      clear C0 C1 hp HR HE hall hpp
      generalize (loopsU xs xs.length) = ls at HC HL
      go_enter Tryd.func7, Tryd.ntmps7
      go_wp2_with fail
      generalize w.alloc (.cells #[.slice A n c, .slice D m d, .slice E q e'] 32) = W at hb0 hP HN HC ⊢
      have hs0 := hb0.size
      refine HC.out.mono ?_
      rintro e w1 ⟨LA, Lc, rfl, hIL, hb1⟩
      have hs1 := hb1.size
      have a0 : w1.cell? ⟨w.heap.size, 0, none⟩ = some (.slice A n c) := (hP.next hb1).cell 0
      have HEC := Lib.hid (eachCopy_o A n c B ts w1 (HN.out.1.next hb1 (by omega)) (by omega) (by omega) (fun t ht => by have := (HPP.out t ht).2; omega))
      clear hP HN HC hIL
      go_wp2_with fail
      refine HEC.out.mono ?_
      rintro e w2 ⟨VG, rfl, hf, hb2⟩
      go_wp2_with fail
      go_ret2
      exact ⟨some ⟨VG, 0, none⟩, n, by rw [hln]; exact rfl, by rw [hln]; exact hf.less (by omega), bon (bon hb0 hb1) hb2⟩
    · have q1 : (s == -1) = false := by simpa using h1
      have HKB := Lib.hid (fun W => isBetween_k s 0 (((loopsU xs xs.length).length : Int) - 1) W)
      by_cases hin : 0 ≤ s ∧ s < (loopsU xs xs.length).length
      · obtain ⟨h0, hlt⟩ := hin
        obtain ⟨k, rfl⟩ := Int.eq_ofNat_of_zero_le h0
        have hkl : k < (loopsU xs xs.length).length := by omega
        have HE : Hid (R = (factsAt xs k, true)) := HR.out.symm.trans (startR_loop hp hkl)
        obtain rfl := HE.out
        obtain ⟨i, x, hli, hxi, hfx, hil⟩ := factsAt_is hkl
        rw [hfx]
        have hxf := stmt_facts (hall x (List.mem_of_getElem? hxi))
        have HXF := Lib.hid hxf.2
        have hx6 := hxf.1
        have HKB2 : Hid (∀ W, Calls Tryd.prog 23 #[.int .i64 (k : Int), .int .i64 0, .int .i64 (((loopsU xs xs.length).length : Int) - 1)] W fun e w' => e = .returned (.bool true) ∧ W = w') := fun W => by
          have := HKB.out W
          rw [decide_eq_true ⟨h0, by omega⟩] at this
          exact this
        have HXI := Lib.hid hxi
        have HLI := Lib.hid hli
        clear C0 C1 hp HR HE hall HKB hxf hfx hxi hli
        generalize (loopsU xs xs.length) = ls at HC HL HKB2 HLI hkl hlt
        go_enter Tryd.func7, Tryd.ntmps7
        go_wp2_with fail
        generalize w.alloc (.cells #[.slice A n c, .slice D m d, .slice E q e'] 32) = W at hb0 hP HN HC ⊢
        have hs0 := hb0.size
        refine HC.out.mono ?_
        rintro e w1 ⟨LA, Lc, rfl, hIL, hb1⟩
        have hs1 := hb1.size
        have a1 : w1.cell? ⟨w.heap.size, 1, none⟩ = some (.slice D m d) := (hP.next hb1).cell 1
        obtain ⟨lb, lo, y, rfl, hlb, hy, hlc⟩ := hIL.2.int_at (k := k) hkl
        obtain rfl : y = (i : Int) := by rw [HLI.out] at hy; exact (Option.some.inj hy).symm
        have HIB := Lib.hid (HN.out.2.1.next hb1 (by omega))
        obtain ⟨bb, off, x', rfl, hbb, hx', As, ns, cs, Ai, ni, ci, Af, nf, cf, q0, q1', q2, q3, q4, q5, q6, q7, k1, k2, k3⟩ := HIB.out.at_ (k := i) (by omega)
        obtain rfl : x = x' := by rw [HXI.out] at hx'; exact Option.some.inj hx'
        have HEC := Lib.hid (eachCopy_o Af nf cf B x.f w1.drew (show InTS w1.drew B Af nf x.f from k3) (by show B ≤ w1.heap.size; omega) (by have := k3.1; omega) (fun t ht => by have := (HXF.out t ht).2; omega))
        have hnf := Lib.hid k3.1
        have hb01 := bon hb0 hb1
        clear hP HN HC hIL hy hx' HIB q0 q1' q2 q3 q4 q5 q6 k1 k2 k3
        go_wp2_with fail
        refine (HKB2.out _).mono ?_
        rintro e w9 ⟨rfl, rfl⟩
        go_wp2_with fail
        have hkm : (k : Int) < (ls.length : Int) := by omega
        have him : (i : Int) < (m : Int) := by omega
        go_region_held3 (fun w' => w'.cell? ⟨w.heap.size, 1, none⟩ = some (.slice (some ⟨bb, off, none⟩) m d) ∧ w'.cell? ⟨lb, lo + k, none⟩ = some (.int .i64 (i : Int)) ∧ w'.cell? ⟨bb, off + i * 8 + 7, none⟩ = some (.slice Af nf cf))
          (first | go_keep | exact ⟨cell_on a1 hb2, cell_on hlc hb2, cell_on q7 hb2⟩ | fail)
          (first | (go_at_call 21; refine HEC.out.mono ?_; rintro e w2 ⟨VG, rfl, hf, hb2⟩) | fail)
        go_wp2_with fail
        go_ret2
        exact ⟨some ⟨VG, 0, none⟩, nf, by rw [hnf.out]; exact rfl, by rw [hnf.out]; exact hf.less (show w.heap.size ≤ w1.heap.size by omega), bon hb01 (bstep hb2)⟩
      · have HE : Hid (R = ([], false)) := HR.out.symm.trans (startR_out (by omega))
        obtain rfl := HE.out
        have HKB2 : Hid (∀ W, Calls Tryd.prog 23 #[.int .i64 s, .int .i64 0, .int .i64 (((loopsU xs xs.length).length : Int) - 1)] W fun e w' => e = .returned (.bool false) ∧ W = w') := fun W => by
          have := HKB.out W
          rw [decide_eq_false (by omega)] at this
          exact this
        clear C0 C1 hp HR HE hall HKB hin
        generalize (loopsU xs xs.length) = ls at HC HL HKB2
        go_enter Tryd.func7, Tryd.ntmps7
        go_wp2_with fail
        generalize w.alloc (.cells #[.slice A n c, .slice D m d, .slice E q e'] 32) = W at hb0 hP HN HC ⊢
        refine HC.out.mono ?_
        rintro e w1 ⟨LA, Lc, rfl, hIL, hb1⟩
        clear hP HN HC hIL
        go_wp2_with fail
        refine (HKB2.out _).mono ?_
        rintro e w9 ⟨rfl, rfl⟩
        go_wp2_with fail
        go_ret2
        exact ⟨none, 0, rfl, ownTS_nil _ _, bon hb0 hb1⟩

set_option maxRecDepth 100000 in
set_option maxHeartbeats 2000000 in
theorem specStart_c (A : Option Addr) (n c : Nat) (ts : List (Int × List Int)) (D : Option Addr) (m d : Nat) (xs : List S8) (E : Option Addr) (q e' B : Nat) (us : List (Int × List Int)) (s : Int) (w : World) (h : PIn w B A n ts D m xs E q us) (hB : B ≤ w.heap.size)
    (hn : progN n ts m xs q us ≤ 1048576) :
    Calls Tryd.prog 5 #[.agg #[.slice A n c, .slice D m d, .slice E q e'], .int .i64 s] w fun e w' => ∃ VA Vc, e = .returned (.tuple #[.slice VA (startR ts xs us s).1.length Vc, .bool (startR ts xs us s).2]) ∧ InTS w' w'.heap.size VA (startR ts xs us s).1.length (startR ts xs us s).1 ∧ Below w.heap.size w w' := by
  have hb0 := bnew w (.cells #[.slice A n c, .slice D m d, .slice E q e'] 32)
  have hP : BlkIs (w.alloc (.cells #[.slice A n c, .slice D m d, .slice E q e'] 32)) w.heap.size 32 #[.slice A n c, .slice D m d, .slice E q e'] := blk_new _ _ _ _ rfl
  have HN := Lib.hid (h.next hb0 hB)
  have hmle : m ≤ 1048576 := by unfold progN at hn; omega
  have hlm : xs.length = m := h.2.1.1
  clear h
  obtain ⟨R, HR⟩ : ∃ R, Hid (startR ts xs us s = R) := ⟨_, rfl⟩
  rw [HR.out]
  go_enter Tryd.func5, Tryd.ntmps5
  go_wp2_with fail
  generalize w.alloc (.cells #[.slice A n c, .slice D m d, .slice E q e'] 32) = W at hb0 hP HN ⊢
  have hs0 := hb0.size
  have p0 : W.cell? ⟨w.heap.size, 0, none⟩ = some (.slice A n c) := hP.cell 0
  have p1 : W.cell? ⟨w.heap.size, 1, none⟩ = some (.slice D m d) := hP.cell 1
  have p2 : W.cell? ⟨w.heap.size, 2, none⟩ = some (.slice E q e') := hP.cell 2
  refine (l03Is_c w.heap.size A n c ts D m d xs E q e' B us W HN.out p0 p1 p2 hn).mono ?_
  rintro e9 w9 ⟨rfl, rfl⟩
  cases hp : progB ts xs us with
  | false =>
    have HE : Hid (R = ([], false)) := HR.out.symm.trans (startR_no hp)
    obtain rfl := HE.out
    clear HE HR hp hP
    go_wp2_with fail
    go_ret2
    exact ⟨none, ⟨0, rfl⟩, ⟨rfl, TRow.nil⟩, hb0⟩
  | true =>
    have HPP := Lib.hid hp
    clear hp
    have HC1 := Lib.hid (l04Start_c w.heap.size D m d xs B s W HN.out.2.1 (by omega) p1 hmle)
    obtain ⟨bb, HBB⟩ : ∃ x, Hid (decide (-1 ≤ s ∧ s < (loopsU xs m).length) = x) := ⟨_, rfl⟩
    rw [HBB.out] at HC1
    go_wp2_with fail
    refine HC1.out.mono ?_
    rintro e9 w1 ⟨rfl, hb1⟩
    have hs1 := hb1.size
    have hb01 := bon hb0 hb1
    cases bb with
    | false =>
      have HE : Hid (R = ([], false)) := HR.out.symm.trans (startR_out (by rw [hlm]; exact of_decide_eq_false HBB.out))
      obtain rfl := HE.out
      clear HE HR HC1 hP
      go_wp2_with fail
      go_ret2
      exact ⟨none, ⟨0, rfl⟩, ⟨rfl, TRow.nil⟩, hb01⟩
    | true =>
      have hrange : -1 ≤ s ∧ s < (loopsU xs m).length := of_decide_eq_true HBB.out
      have hok := startR_ok (us := us) HPP.out (show -1 ≤ s ∧ s < (loopsU xs xs.length).length by rw [hlm]; exact hrange)
      have p0' : w1.cell? ⟨w.heap.size, 0, none⟩ = some (.slice A n c) := (hP.next hb1).cell 0
      have p1' : w1.cell? ⟨w.heap.size, 1, none⟩ = some (.slice D m d) := (hP.next hb1).cell 1
      have hF := l04Facts_c w.heap.size A n c ts D m d xs E q e' B us s w1 (HN.out.next hb1 (by omega)) (by omega) p0' p1' HPP.out hrange
      rw [HR.out] at hF hok
      have HF := Lib.hid hF
      have HOK : Hid (R.2 = true) := hok
      clear hF hok HR HC1 hP HBB hrange p0 p1 p2
      go_wp2_with fail
      refine HF.out.mono ?_
      rintro e9 w2 ⟨v, rfl, hf, hb2⟩
      obtain ⟨VA, Vc, rfl, hin⟩ := hf.inn
      go_wp2_with fail
      go_ret2
      exact ⟨VA, Vc, by rw [HOK.out]; exact rfl, hin, bon hb01 hb2⟩
end Go.Proofs.YthgegomccbpgeaaDoor
