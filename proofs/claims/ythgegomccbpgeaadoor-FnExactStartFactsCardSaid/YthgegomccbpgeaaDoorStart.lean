/-
  The facts of a start, and whether they hold: the model's and the program's functions. Conditions: at most 2^20 elements, terms, coefficients and numbers; the table elementForms holds what the program's text lays.
-/
import Derived.Test.YthgegomccbpgeaaDoorLoops
import Derived.Test.YthgegomccbpgeaaDoorRowT
import Derived.Test.YthgegomccbpgeaaDoorHold
import Derived.Test.YthgegomccbpgeaaDoorEval
namespace Go.Proofs.YthgegomccbpgeaaDoor
set_option linter.unusedVariables false
open Go.RowKit

/-- The facts of the loop with a number. -/
def factsAt (xs : List S8) (s : Nat) : List (Int × List Int) := ((xs[((loopsU xs xs.length).getD s 0).toNat]?).map S8.f).getD []
theorem factsAt_is {xs : List S8} {s : Nat} (hs : s < (loopsU xs xs.length).length) : ∃ (i : Nat) (x : S8), (loopsU xs xs.length)[s]? = some (i : Int) ∧ xs[i]? = some x ∧ factsAt xs s = x.f ∧ i < xs.length := by
  have h1 := List.getElem?_eq_getElem hs
  obtain ⟨i, hi, hlt, x, hx, _⟩ := loopsU_in (List.getElem_mem hs)
  rw [hi] at h1
  refine ⟨i, x, h1, hx, ?_, hlt⟩
  unfold factsAt
  rw [List.getD_eq_getElem?_getD, h1]
  simp [hx]
/-- The facts of a start, and whether there is one. -/
def startR (ts : List (Int × List Int)) (xs : List S8) (us : List (Int × List Int)) (s : Int) : List (Int × List Int) × Bool :=
  if progB ts xs us = true ∧ -1 ≤ s ∧ s < (loopsU xs xs.length).length then (if s = -1 then ts else factsAt xs s.toNat, true) else ([], false)
theorem startR_no {ts us : List (Int × List Int)} {xs : List S8} {s : Int} (h : progB ts xs us = false) : startR ts xs us s = ([], false) := if_neg (by rw [h]; simp)
theorem startR_out {ts us : List (Int × List Int)} {xs : List S8} {s : Int} (h : ¬ (-1 ≤ s ∧ s < (loopsU xs xs.length).length)) : startR ts xs us s = ([], false) := if_neg (fun a => h a.2)
theorem startR_entry {ts us : List (Int × List Int)} {xs : List S8} (h : progB ts xs us = true) : startR ts xs us (-1) = (ts, true) := by
  unfold startR
  rw [if_pos ⟨h, by omega, by omega⟩, if_pos rfl]
theorem startR_loop {ts us : List (Int × List Int)} {xs : List S8} {s : Nat} (h : progB ts xs us = true) (hs : s < (loopsU xs xs.length).length) : startR ts xs us s = (factsAt xs s, true) := by
  unfold startR
  rw [if_pos ⟨h, by omega, by omega⟩, if_neg (by omega)]
  simp
theorem overs_parts {k : Nat} {ts : List (Int × List Int)} (h : oversB k ts = true) : ts.length ≤ k ∧ ∀ t ∈ ts, tmB t = true ∧ t.2.length ≤ 4 := by
  unfold oversB at h
  simp only [Bool.and_eq_true, decide_eq_true_eq, List.all_eq_true] at h
  refine ⟨h.2, fun t ht => ?_⟩
  have := h.1 t ht
  unfold overB at this
  simp only [Bool.and_eq_true, decide_eq_true_eq] at this
  exact this
theorem stmt_facts {x : S8} (h : stmtB x = true) : x.f.length ≤ 6 ∧ ∀ t ∈ x.f, tmB t = true ∧ t.2.length ≤ 4 := by
  unfold stmtB at h
  simp only [Bool.and_eq_true] at h
  exact overs_parts h.1.1.1.1.1.2
theorem prog_parts {ts us : List (Int × List Int)} {xs : List S8} (h : progB ts xs us = true) : oversB 6 ts = true ∧ (∀ x ∈ xs, stmtB x = true) ∧ oversB 6 us = true ∧ xs.length ≤ 30 := by
  unfold progB at h
  simp only [Bool.and_eq_true] at h
  exact ⟨h.1.1, (bodyB_parts h.1.2).2.1, h.2, (bodyB_parts h.1.2).1.2⟩
/-- A start's facts are few valid terms over variables. -/
theorem start_small {ts us : List (Int × List Int)} {xs : List S8} {s : Int} (h : (startR ts xs us s).2 = true) : (startR ts xs us s).1.length ≤ 6 ∧ ∀ t ∈ (startR ts xs us s).1, tmB t = true ∧ t.2.length ≤ 4 := by
  unfold startR at h ⊢
  split at h
  · rename_i hc
    rw [if_pos hc]
    obtain ⟨p1, p2, p3, p4⟩ := prog_parts hc.1
    show (if s = -1 then ts else factsAt xs s.toNat).length ≤ 6 ∧ ∀ t ∈ (if s = -1 then ts else factsAt xs s.toNat), tmB t = true ∧ t.2.length ≤ 4
    split
    · exact overs_parts p1
    · obtain ⟨i, x, _, hx, hf, _⟩ := factsAt_is (xs := xs) (s := s.toNat) (by have := hc.2; omega)
      rw [hf]
      exact stmt_facts (p2 x (List.mem_of_getElem? hx))
  · cases h

set_option maxRecDepth 100000 in
set_option maxHeartbeats 4000000 in
theorem startFacts_c (A : Option Addr) (n c : Nat) (ts : List (Int × List Int)) (D : Option Addr) (m d : Nat) (xs : List S8) (E : Option Addr) (q e' B : Nat) (us : List (Int × List Int)) (s : Int) (w : World) (hT : TabE w) (h : PIn w B A n ts D m xs E q us) (hB : B ≤ w.heap.size)
    (hn : progN n ts m xs q us ≤ 1048576) :
    Calls Tryd.prog 7 #[.agg #[.slice A n c, .slice D m d, .slice E q e'], .int .i64 s] w fun e w' => ∃ v, e = .returned (.tuple #[v, .bool (startR ts xs us s).2]) ∧ FRow w' w.heap.size v (startR ts xs us s).1.length (startR ts xs us s).1 ∧ Below w.heap.size w w' := by
  have hb0 := bnew w (.cells #[.slice A n c, .slice D m d, .slice E q e'] 32)
  have hP : BlkIs (w.alloc (.cells #[.slice A n c, .slice D m d, .slice E q e'] 32)) w.heap.size 32 #[.slice A n c, .slice D m d, .slice E q e'] := blk_new _ _ _ _ rfl
  have HN := Lib.hid (h.next hb0 hB)
  have C0 := loopsOf_c A n c ts D m d xs E q e' B us _ (hT.next hb0) HN.out (Nat.le_trans hB hb0.size) hn
  have hlm : xs.length = m := h.2.1.1
  have hln : ts.length = n := h.1.1
  clear h hn
  obtain ⟨R, HR⟩ : ∃ R, Hid (startR ts xs us s = R) := ⟨_, rfl⟩
  rw [HR.out]
  cases hp : progB ts xs us with
  | false =>
    have HE : Hid (R = ([], false)) := HR.out.symm.trans (startR_no hp)
    rw [loopsR_no hp] at C0
    have HC := Lib.hid C0
    obtain rfl := HE.out
    clear C0 hp HR HE
    go_enter Tryd.func7, Tryd.ntmps7
    go_wp2_with fail
    generalize w.alloc (.cells #[.slice A n c, .slice D m d, .slice E q e'] 32) = W at hb0 hP HN HC ⊢
    refine HC.out.mono ?_
    rintro e w1 ⟨v, rfl, hown, hb1⟩
    go_wp2_with fail
    go_ret2
    exact ⟨_, rfl, ⟨rfl, [], World.ownsRow_nil _ _ _ _, fun j t hj => by simp at hj⟩, bon hb0 hb1⟩
  | true =>
    obtain ⟨hpre, hall, _, h30⟩ := prog_parts hp
    rw [loopsR_yes hp] at C0
    have C1 : Calls Tryd.prog 20 #[.agg #[.slice A n c, .slice D m d, .slice E q e']] (w.alloc (.cells #[.slice A n c, .slice D m d, .slice E q e'] 32)) fun e w' => ∃ LA Lc, e = .returned (.tuple #[.slice LA (loopsU xs xs.length).length Lc, .bool true]) ∧ InL w' w'.heap.size LA (loopsU xs xs.length).length (loopsU xs xs.length) ∧ Below (w.alloc (.cells #[.slice A n c, .slice D m d, .slice E q e'] 32)).heap.size (w.alloc (.cells #[.slice A n c, .slice D m d, .slice E q e'] 32)) w' := by
      refine C0.mono ?_
      rintro e w1 ⟨v, rfl, hown, hb1⟩
      obtain ⟨A1, c1, rfl, _⟩ := own_slice hown
      exact ⟨A1, c1, rfl, (OwnL.of_own hown).all, hb1⟩
    have HC := Lib.hid C1
    have HL := loopsU_len xs xs.length
    by_cases h1 : s = -1
    · subst h1
      have HE : Hid (R = (ts, true)) := HR.out.symm.trans (startR_entry hp)
      obtain rfl := HE.out
      have hpp := overs_parts hpre
      have HPP := Lib.hid hpp.2
      have hn6 := hpp.1
      clear C0 C1 hp HR HE hall hpp
      generalize (loopsU xs xs.length) = ls at HC HL
      go_enter Tryd.func7, Tryd.ntmps7
      go_wp2_with fail
      generalize w.alloc (.cells #[.slice A n c, .slice D m d, .slice E q e'] 32) = W at hb0 hP HN HC ⊢
      have hs0 := hb0.size
      refine HC.out.mono ?_
      rintro e w1 ⟨LA, Lc, rfl, hIL, hb1⟩
      have hs1 := hb1.size
      have a0 : w1.cell? ⟨w.heap.size, 0, none⟩ = some (.slice A n c) := (hP.next hb1).cell 0
      have HEC := Lib.hid (eachCopy_c A n c B ts w1 (HN.out.1.next hb1 (by omega)) (by omega) (by omega) (fun t ht => by have := (HPP.out t ht).2; omega))
      clear hP HN HC hIL
      go_wp2_with fail
      refine HEC.out.mono ?_
      rintro e w2 ⟨v, rfl, hf, hb2⟩
      go_wp2_with fail
      go_ret2
      exact ⟨v, rfl, by rw [hln]; exact ⟨hf.1, by obtain ⟨_, xs', hx, hxx⟩ := hf; exact ⟨xs', own_less hx (by omega), hxx⟩⟩, bon (bon hb0 hb1) hb2⟩
    · have q1 : (s == -1) = false := by simpa using h1
      have HKB := Lib.hid (fun W => isBetween_k s 0 (((loopsU xs xs.length).length : Int) - 1) W)
      by_cases hin : 0 ≤ s ∧ s < (loopsU xs xs.length).length
      · obtain ⟨h0, hlt⟩ := hin
        obtain ⟨k, rfl⟩ := Int.eq_ofNat_of_zero_le h0
        have hkl : k < (loopsU xs xs.length).length := by omega
        have HE : Hid (R = (factsAt xs k, true)) := HR.out.symm.trans (startR_loop hp hkl)
        obtain rfl := HE.out
        obtain ⟨i, x, hli, hxi, hfx, hil⟩ := factsAt_is hkl
        rw [hfx]
        have hxf := stmt_facts (hall x (List.mem_of_getElem? hxi))
        have HXF := Lib.hid hxf.2
        have hx6 := hxf.1
        have HKB2 : Hid (∀ W, Calls Tryd.prog 23 #[.int .i64 (k : Int), .int .i64 0, .int .i64 (((loopsU xs xs.length).length : Int) - 1)] W fun e w' => e = .returned (.bool true) ∧ W = w') := fun W => by
          have := HKB.out W
          rw [decide_eq_true ⟨h0, by omega⟩] at this
          exact this
        have HXI := Lib.hid hxi
        have HLI := Lib.hid hli
        clear C0 C1 hp HR HE hall HKB hxf hfx hxi hli
        generalize (loopsU xs xs.length) = ls at HC HL HKB2 HLI hkl hlt
        go_enter Tryd.func7, Tryd.ntmps7
        go_wp2_with fail
        generalize w.alloc (.cells #[.slice A n c, .slice D m d, .slice E q e'] 32) = W at hb0 hP HN HC ⊢
        have hs0 := hb0.size
        refine HC.out.mono ?_
        rintro e w1 ⟨LA, Lc, rfl, hIL, hb1⟩
        have hs1 := hb1.size
        have a1 : w1.cell? ⟨w.heap.size, 1, none⟩ = some (.slice D m d) := (hP.next hb1).cell 1
        obtain ⟨lb, lo, y, rfl, hlb, hy, hlc⟩ := hIL.2.int_at (k := k) hkl
        obtain rfl : y = (i : Int) := by rw [HLI.out] at hy; exact (Option.some.inj hy).symm
        have HIB := Lib.hid (HN.out.2.1.next hb1 (by omega))
        obtain ⟨bb, off, x', rfl, hbb, hx', As, ns, cs, Ai, ni, ci, Af, nf, cf, q0, q1', q2, q3, q4, q5, q6, q7, k1, k2, k3⟩ := HIB.out.at_ (k := i) (by omega)
        obtain rfl : x = x' := by rw [HXI.out] at hx'; exact Option.some.inj hx'
        have HEC := Lib.hid (eachCopy_c Af nf cf B x.f w1.drew (show InTS w1.drew B Af nf x.f from k3) (by show B ≤ w1.heap.size; omega) (by have := k3.1; omega) (fun t ht => by have := (HXF.out t ht).2; omega))
        have hnf := Lib.hid k3.1
        have hb01 := bon hb0 hb1
        clear hP HN HC hIL hy hx' HIB q0 q1' q2 q3 q4 q5 q6 k1 k2 k3
        go_wp2_with fail
        refine (HKB2.out _).mono ?_
        rintro e w9 ⟨rfl, rfl⟩
        go_wp2_with fail
        have hkm : (k : Int) < (ls.length : Int) := by omega
        have him : (i : Int) < (m : Int) := by omega
        go_region_held3 (fun w' => w'.cell? ⟨w.heap.size, 1, none⟩ = some (.slice (some ⟨bb, off, none⟩) m d) ∧ w'.cell? ⟨lb, lo + k, none⟩ = some (.int .i64 (i : Int)) ∧ w'.cell? ⟨bb, off + i * 8 + 7, none⟩ = some (.slice Af nf cf))
          (first | go_keep | exact ⟨cell_on a1 hb2, cell_on hlc hb2, cell_on q7 hb2⟩ | fail)
          (first | (go_at_call 21; refine HEC.out.mono ?_; rintro e w2 ⟨v, rfl, hf, hb2⟩) | fail)
        go_wp2_with fail
        go_ret2
        exact ⟨v, rfl, by rw [hnf.out]; exact ⟨hf.1, by obtain ⟨_, xs', hx, hxx⟩ := hf; exact ⟨xs', own_less hx (show w.heap.size ≤ w1.heap.size by omega), hxx⟩⟩, bon hb01 (bstep hb2)⟩
      · have HE : Hid (R = ([], false)) := HR.out.symm.trans (startR_out (by omega))
        obtain rfl := HE.out
        have HKB2 : Hid (∀ W, Calls Tryd.prog 23 #[.int .i64 s, .int .i64 0, .int .i64 (((loopsU xs xs.length).length : Int) - 1)] W fun e w' => e = .returned (.bool false) ∧ W = w') := fun W => by
          have := HKB.out W
          rw [decide_eq_false (by omega)] at this
          exact this
        clear C0 C1 hp HR HE hall HKB hin
        generalize (loopsU xs xs.length) = ls at HC HL HKB2
        go_enter Tryd.func7, Tryd.ntmps7
        go_wp2_with fail
        generalize w.alloc (.cells #[.slice A n c, .slice D m d, .slice E q e'] 32) = W at hb0 hP HN HC ⊢
        refine HC.out.mono ?_
        rintro e w1 ⟨LA, Lc, rfl, hIL, hb1⟩
        clear hP HN HC hIL
        go_wp2_with fail
        refine (HKB2.out _).mono ?_
        rintro e w9 ⟨rfl, rfl⟩
        go_wp2_with fail
        go_ret2
        exact ⟨_, rfl, ⟨rfl, [], World.ownsRow_nil _ _ _ _, fun j t hj => by simp at hj⟩, bon hb0 hb1⟩
end Go.Proofs.YthgegomccbpgeaaDoor
