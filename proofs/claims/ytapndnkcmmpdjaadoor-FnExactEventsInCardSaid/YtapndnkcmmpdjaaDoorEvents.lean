/-
  The events that a program can emit: what the model and the program give. Conditions: at most 2^20 elements, terms and coefficients; the table elementForms holds what the program's text lays.
-/
import Derived.Test.YtapndnkcmmpdjaaDoorPgmM
import Derived.Test.YtapndnkcmmpdjaaDoorSyms
namespace Go.Proofs.YtapndnkcmmpdjaaDoor
set_option linter.unusedVariables false
open Go.RowKit

/-- The events of the first k elements, rising. -/
def evL (xs : List S8) : Nat → List Int
  | 0 => []
  | k + 1 => match xs[k]? with
    | some x => if x.k = 5 then putR x.e (evL xs k) else evL xs k
    | none => evL xs k
theorem evL_yes {xs : List S8} {k : Nat} {x : S8} (hx : xs[k]? = some x) (h : x.k = 5) : evL xs (k + 1) = putR x.e (evL xs k) := by rw [evL, hx]; simp only; rw [if_pos h]
theorem evL_no {xs : List S8} {k : Nat} {x : S8} (hx : xs[k]? = some x) (h : ¬ x.k = 5) : evL xs (k + 1) = evL xs k := by rw [evL, hx]; simp only; rw [if_neg h]
theorem evL_rise (xs : List S8) : ∀ k, (evL xs k).Pairwise (· < ·)
  | 0 => by simp [evL]
  | k + 1 => by
    have h := evL_rise xs k
    rw [evL]
    split
    · split
      · exact (putR_ok h).1
      · exact h
    · exact h
theorem evL_len (xs : List S8) : ∀ k, (evL xs k).length ≤ k
  | 0 => by simp [evL]
  | k + 1 => by
    have h := evL_len xs k
    rw [evL]
    split
    · split
      · exact Nat.le_trans (putR_len _ _) (by omega)
      · omega
    · omega
theorem evL_more {xs : List S8} {k : Nat} {x : S8} (hx : xs[k]? = some x) (h : x.k = 5) (y : Int) : y ∈ evL xs (k + 1) ↔ y ∈ evL xs k ∨ y = x.e := by
  rw [evL_yes hx h]; exact (putR_ok (evL_rise xs k)).2 y
def eventsR (ts : List (Int × List Int)) (xs : List S8) (us : List (Int × List Int)) : List Int × Bool := if progB ts xs us = true then (evL xs xs.length, true) else ([], false)
theorem eventsR_yes {ts us : List (Int × List Int)} {xs : List S8} (h : progB ts xs us = true) : eventsR ts xs us = (evL xs xs.length, true) := if_pos h
theorem eventsR_no {ts us : List (Int × List Int)} {xs : List S8} (h : progB ts xs us = false) : eventsR ts xs us = ([], false) := if_neg (by rw [h]; simp)
theorem prog_small {ts us : List (Int × List Int)} {xs : List S8} (h : progB ts xs us = true) : xs.length ≤ 30 ∧ ∀ x ∈ xs, x.k = 5 → 0 ≤ x.e ∧ x.e ≤ 3 := by
  unfold progB at h
  simp only [Bool.and_eq_true] at h
  have hb := h.1.2
  unfold bodyB at hb
  simp only [Bool.and_eq_true, decide_eq_true_eq, List.all_eq_true] at hb
  refine ⟨hb.1.1.2, fun x hx h5 => ?_⟩
  have h1 := hb.1.2 x hx
  rw [stmtB_form x 5 (by omega) h5] at h1
  unfold elemV at h1
  simp only [Bool.and_eq_true, decide_eq_true_eq] at h1
  exact h1.2.1
theorem eventsR_len (ts us : List (Int × List Int)) (xs : List S8) : (eventsR ts xs us).1.length ≤ 30 := by
  unfold eventsR
  split
  · rename_i h
    exact Nat.le_trans (evL_len _ _) (prog_small h).1
  · simp

set_option maxRecDepth 100000 in
set_option maxHeartbeats 4000000 in
theorem specEvents_c (A : Option Addr) (n c : Nat) (ts : List (Int × List Int)) (D : Option Addr) (m d : Nat) (xs : List S8) (E : Option Addr) (q e' B : Nat) (us : List (Int × List Int)) (w : World) (h : PIn w B A n ts D m xs E q us) (hB : B ≤ w.heap.size)
    (hn : progN n ts m xs q us ≤ 1048576) :
    Calls Tryd.prog 11 #[.agg #[.slice A n c, .slice D m d, .slice E q e']] w fun e w' => ∃ v, e = .returned (.tuple #[v, .bool (eventsR ts xs us).2]) ∧ w'.ownsRow w.heap.size 2 1 v (eventsR ts xs us).1.length ((eventsR ts xs us).1.map ic) ∧ Below w.heap.size w w' := by
  have hb0 := bnew w (.cells #[.slice A n c, .slice D m d, .slice E q e'] 33)
  have hin := h.next hb0 hB
  have hP : BlkIs (w.alloc (.cells #[.slice A n c, .slice D m d, .slice E q e'] 33)) w.heap.size 33 #[.slice A n c, .slice D m d, .slice E q e'] := blk_new _ _ _ _ rfl
  have C0 := l03Is_c w.heap.size A n c ts D m d xs E q e' B us (w.alloc (.cells #[.slice A n c, .slice D m d, .slice E q e'] 33)) hin (by simp) (by simp) (by simp) hn
  have hlen := hin.2.1.1
  obtain ⟨R, HR⟩ : ∃ R, Hid (eventsR ts xs us = R) := ⟨_, rfl⟩
  rw [HR.out]
  cases hp : progB ts xs us with
  | false =>
    have HE : Hid (R = ([], false)) := HR.out.symm.trans (eventsR_no hp)
    rw [hp] at C0
    have HC := Lib.hid C0
    obtain rfl := HE.out
    clear C0 hp HR HE hin h hP
    go_enter Tryd.func11, Tryd.ntmps11
    go_wp2_with fail
    refine HC.out.mono ?_
    rintro e w1 ⟨rfl, rfl⟩
    go_wp2_with fail
    go_ret2
    exact ⟨_, rfl, World.ownsRow_nil _ _ _ _, hb0⟩
  | true =>
    have HE : Hid (R = (evL xs m, true)) := HR.out.symm.trans (by rw [eventsR_yes hp, hlen])
    rw [hp] at C0
    have HC := Lib.hid C0
    have hsm := prog_small hp
    have hm30 : m ≤ 30 := by omega
    obtain rfl := HE.out
    have HIN := Lib.hid hin.2.1
    clear C0 hp HR HE hin h hlen hsm
    go_enter Tryd.func11, Tryd.ntmps11
    go_wp2_with fail
    generalize w.alloc (.cells #[.slice A n c, .slice D m d, .slice E q e'] 33) = W at hb0 hP HC HIN ⊢
    have hs0 := hb0.size
    have hPl := hP.lt
    refine HC.out.mono ?_
    rintro e w1 ⟨rfl, rfl⟩
    go_wp2_with fail
    have hbz := bnew W (.cells #[] 2)
    have hrz := row_new W
    obtain ⟨W1, hW1⟩ : ∃ x, x = W.alloc (.cells #[] 2) := ⟨_, rfl⟩
    rw [← hW1] at hbz hrz ⊢
    clear hW1
    go_loopw [4, 5] (fun v i wr => ∃ k : Nat, k ≤ m ∧ i = .int .i64 k ∧ wr.ownsRow W.heap.size 2 1 v (evL xs k).length ((evL xs k).map ic) ∧ Below W.heap.size W wr) (fun _ i _ => m - (intOf i).toNat)
    case atStart => exact ⟨0, Nat.zero_le _, rfl, hrz, hbz⟩
    case round =>
      clear hrz hbz
      obtain ⟨k, hk, rfl, hown, hbel⟩ := hrel
      have hsz := hbel.size
      have P1 : wr.cell? ⟨w.heap.size, 1, none⟩ = some (.slice D m d) := (hP.next hbel).cell 1
      by_cases hlt : k < m
      · obtain ⟨bb, off, x, rfl, hbb, hx, As, ns, cs, Ai, ni, ci, Af, nf, cf, q0, q1, q2, q3, q4, q5, q6, q7, k1, k2, k3⟩ := (HIN.out.next hbel (by omega)).at_ hlt
        clear k1 k2 k3 q1 q3 q4 q5 q6 q7
        by_cases h5 : x.k = 5
        · have r1 : (x.k == 5) = true := by simpa using h5
          have HS := Lib.hid (evL_yes hx h5)
          obtain ⟨VA, Vc, rfl, _⟩ := own_slice hown
          have HC := Lib.hid (l00Put_c VA _ Vc wr.heap.size (evL xs k) x.e wr (OwnL.of_own hown).all (Nat.le_refl _) (by have := evL_len xs k; omega))
          rw [← HS.out] at HC
          clear hown hx h5
          go_wp2_with fail
          refine HC.out.mono ?_
          rintro e w2 ⟨v2, rfl, hr2, hb2⟩
          have hr3 := own_less hr2 hsz
          clear hr2
          go_wp2_with fail
          go_roundw
          case rel => exact ⟨k + 1, by omega, by go_num, hr3, bon hbel hb2⟩
          case measure => simp [intOf]; omega
        · have r1 : (x.k == 5) = false := by simpa using h5
          have HS := Lib.hid (evL_no hx h5)
          clear hx h5
          go_wp2_with fail
          go_roundw
          case rel => exact ⟨k + 1, by omega, by go_num, by rw [HS.out]; exact hown, hbel⟩
          case measure => simp [intOf]; omega
      · have e : k = m := by omega
        subst e
        go_wp2_with fail
        go_ret2
        exact ⟨_, rfl, own_less hown hs0, bon hb0 hbel⟩

set_option maxRecDepth 100000 in
set_option maxHeartbeats 4000000 in
theorem eventsIn_c (A : Option Addr) (n c : Nat) (ts : List (Int × List Int)) (D : Option Addr) (m d : Nat) (xs : List S8) (E : Option Addr) (q e' B : Nat) (us : List (Int × List Int)) (w : World) (hT : TabE w) (h : PIn w B A n ts D m xs E q us) (hB : B ≤ w.heap.size)
    (hn : progN n ts m xs q us ≤ 1048576) :
    Calls Tryd.prog 13 #[.agg #[.slice A n c, .slice D m d, .slice E q e']] w fun e w' => ∃ v, e = .returned (.tuple #[v, .bool (eventsR ts xs us).2]) ∧ w'.ownsRow w.heap.size 2 1 v (eventsR ts xs us).1.length ((eventsR ts xs us).1.map ic) ∧ Below w.heap.size w w' := by
  have hmm := @run_makeMap Tryd.prog
  have hb0 := bnew w (.cells #[.slice A n c, .slice D m d, .slice E q e'] 33)
  have hP : BlkIs (w.alloc (.cells #[.slice A n c, .slice D m d, .slice E q e'] 33)) w.heap.size 33 #[.slice A n c, .slice D m d, .slice E q e'] := blk_new _ _ _ _ rfl
  have HN := Lib.hid (h.next hb0 hB)
  have C0 := validProg_c A n c ts D m d xs E q e' B us _ (hT.next hb0) HN.out (Nat.le_trans hB hb0.size) hn
  clear h hn
  obtain ⟨R, HR⟩ : ∃ R, Hid (eventsR ts xs us = R) := ⟨_, rfl⟩
  rw [HR.out]
  cases hp : progB ts xs us with
  | false =>
    have HE : Hid (R = ([], false)) := HR.out.symm.trans (eventsR_no hp)
    rw [hp] at C0
    have HC := Lib.hid C0
    obtain rfl := HE.out
    clear C0 hp HR HE
    go_enter Tryd.func13, Tryd.ntmps13
    go_wp2_with fail
    generalize w.alloc (.cells #[.slice A n c, .slice D m d, .slice E q e'] 33) = W at hb0 hP HN HC ⊢
    refine HC.out.mono ?_
    rintro e w1 ⟨rfl, hb1⟩
    go_wp2_with fail
    go_ret2
    exact ⟨_, rfl, World.ownsRow_nil _ _ _ _, bon hb0 hb1⟩
  | true =>
    have hlen := HN.out.2.1.1
    have HE : Hid (R = (evL xs m, true)) := HR.out.symm.trans (by rw [eventsR_yes hp, hlen])
    rw [hp] at C0
    have HC := Lib.hid C0
    have hsm := prog_small hp
    have hm30 : m ≤ 30 := by omega
    have HSM := Lib.hid hsm.2
    obtain rfl := HE.out
    clear C0 hp HR HE hlen hsm
    go_enter Tryd.func13, Tryd.ntmps13
    go_wp2_with fail
    generalize w.alloc (.cells #[.slice A n c, .slice D m d, .slice E q e'] 33) = W at hb0 hP HN HC ⊢
    have hs0 := hb0.size
    refine HC.out.mono ?_
    rintro e w1 ⟨rfl, hb1⟩
    have hs1 := hb1.size
    have a1 : w1.cell? ⟨w.heap.size, 1, none⟩ = some (.slice D m d) := (hP.next hb1).cell 1
    have H1 := Lib.hid (HN.out.2.1.next hb1 (by omega))
    have hb01 := bon hb0 hb1
    have hst0 := setF_made w1
    have hbm := bnew w1 (.map #[] 0)
    have a1m := cell_next a1 hbm
    clear HC HN hP
    go_wp2_with fail
    obtain ⟨W1, hW1⟩ : ∃ x, x = w1.alloc (.map #[] 0) := ⟨_, rfl⟩
    rw [← hW1] at hst0 hbm a1m ⊢
    clear hW1
    go_wp2_with fail
    go_loopw [6, 14] (fun _ i wr => ∃ k : Nat, k ≤ m ∧ i = .int .i64 k ∧ SetF wr w1.heap.size k (evL xs k) ∧ Below w1.heap.size w1 wr) (fun _ i _ => m - (intOf i).toNat)
    case atStart => exact ⟨0, Nat.zero_le _, rfl, hst0, hbm⟩
    case round =>
      clear hst0 hbm a1m
      obtain ⟨k, hk, rfl, hst, hbel⟩ := hrel
      have hsz := hbel.size
      have hstl := hst.lt
      by_cases hlt : k < m
      · obtain ⟨bb, off, x, rfl, hbb, hx, As, ns, cs, Ai, ni, ci, Af, nf, cf, q0, q1, q2, q3, q4, q5, q6, q7, k1, k2, k3⟩ := (H1.out.next hbel (by omega)).at_ hlt
        have hb2 := bnew wr (.cells #[.int .i64 x.k, .int .i64 x.v, .int .i64 x.e, .int .i64 x.s.1, .slice As ns cs, .int .i64 x.i.1, .slice Ai ni ci, .slice Af nf cf] 77)
        have hst2 := hst.next hb2 hstl
        clear k1 k2 k3 hst
        by_cases h5 : x.k = 5
        · have r1 : (x.k == 5) = true := by simpa using h5
          have HS := Lib.hid (evL_more hx h5)
          have he := HSM.out x (List.mem_of_getElem? hx) h5
          have hw : (Lit.int .i64 x.e).wf = true := WalkArith.wf_i64 (by omega)
          have hkey := Maps.keyOf_int_mk (P := Tryd.prog) Tryd.underlying2 hw
          obtain ⟨De, h1, h2⟩ := hst2
          have hD := h1.isMap
          have H2 := Lib.hid h2
          clear hx h5 h2 he
          go_wp2_with (at_mapUpdate; refine wpList_mapUpdate_own _ rfl _ _ _ 83 rfl 2 4 keyedS Tryd.underlying83 _ w1.heap.size k De rfl h1 (by unfold maxLen; omega) _ _ _ rfl rfl hkey _ [] (plainElem_bool Tryd.underlying4 true) ?_; intro w3 hown3 hgrow3)
          have hst3 := Lib.hid (setF_put (L' := evL xs (k + 1)) H2.out hD hown3 HS.out)
          have hb4 : Below w1.heap.size w1 w3 := (bon hbel hb2).trans (only_below hgrow3 (Nat.le_refl _) (Nat.le_trans hsz hb2.size))
          clear hown3 hgrow3 h1
          go_wp2_with fail
          go_roundw
          case rel => exact ⟨k + 1, by omega, by go_num, hst3.out, hb4⟩
          case measure => simp [intOf]; omega
        · have r1 : (x.k == 5) = false := by simpa using h5
          have HS := Lib.hid (evL_no hx h5)
          clear hx h5
          go_wp2_with fail
          go_roundw
          case rel => exact ⟨k + 1, by omega, by go_num, by rw [HS.out]; exact hst2.mono (by omega), bon hbel hb2⟩
          case measure => simp [intOf]; omega
      · have e : k = m := by omega
        subst e
        obtain ⟨De, h1, h2⟩ := hst
        have HI := Lib.hid (increasing_c w1.heap.size _ De (evL xs k) wr h1 (by omega) (evL_rise _ _) h2)
        clear h1 h2
        go_wp2_with fail
        refine HI.out.mono ?_
        rintro e w3 ⟨v, rfl, hr, hb3⟩
        go_wp2_with fail
        go_ret2
        exact ⟨_, rfl, own_less hr (by omega), bon (bon hb01 hbel) hb3⟩
end Go.Proofs.YtapndnkcmmpdjaaDoor
