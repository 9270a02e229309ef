/-
  Whole bodies: what the program's endAt and IsBody give, EndOf of both. Conditions: at most 2^20 elements, terms and coefficients; the table elementForms holds what the program's text lays.
-/
import Derived.Test.YtajmbnimdngjhaaGreatDoorElemI
namespace Go.Proofs.YtajmbnimdngjhaaGreatDoor
set_option linter.unusedVariables false
open Go.RowKit

/-- The index behind a statement, 0 if its end is missing. -/
def endI (z : Int) : Int := if z = -1 then 0 else z
theorem endL_ge : ∀ (xs : List S8) (m k : Nat), endL m xs k = -1 ∨ (k : Int) ≤ endL m xs k
  | xs, 0, k => by rw [endL_done]; exact .inr (Int.le_refl _)
  | [], m + 1, k => .inl rfl
  | x :: xs, m + 1, k => by
    rcases endL_ge xs (m + below x.k) (k + 1) with h | h
    · exact .inl h
    · refine .inr ?_
      show (k : Int) ≤ endL (m + below x.k) xs (k + 1)
      omega
/-- Where more statements are whole, fewer are. -/
theorem endL_less : ∀ (xs : List S8) (m m' k : Nat), m' ≤ m → endL m xs k ≠ -1 → endL m' xs k ≠ -1
  | xs, m, 0, k, _, _ => by rw [endL_done]; omega
  | [], 0, m' + 1, k, hm, _ => by omega
  | [], m + 1, m' + 1, k, hm, h => h
  | x :: xs, 0, m' + 1, k, hm, _ => by omega
  | x :: xs, m + 1, m' + 1, k, hm, h => endL_less xs (m + below x.k) (m' + below x.k) (k + 1) (by omega) h
/-- A body's elements each begin a whole statement. -/
theorem endL_part (xs : List S8) (h : endL 1 xs 0 = (xs.length : Int)) : ∀ j, j < xs.length → ∃ m, 1 ≤ m ∧ endL m (xs.drop j) j = (xs.length : Int)
  | 0, hj => ⟨1, Nat.le_refl _, h⟩
  | j + 1, hj => by
    obtain ⟨m, hm, he⟩ := endL_part xs h j (by omega)
    have hx : xs[j]? = some xs[j] := List.getElem?_eq_getElem (by omega)
    rw [endL_next hm hx] at he
    rcases Nat.eq_zero_or_pos (m - 1 + below xs[j].k) with h0 | h0
    · rw [h0, endL_done] at he
      omega
    · exact ⟨_, h0, he⟩
theorem endL_body (xs : List S8) (h : endL 1 xs 0 = (xs.length : Int)) (j : Nat) (hj : j < xs.length) : endL 1 (xs.drop j) j ≠ -1 := by
  obtain ⟨m, hm, he⟩ := endL_part xs h j hj
  exact endL_less _ m 1 j hm (by omega)
theorem bodyB_parts {xs : List S8} (h : bodyB xs = true) : (1 ≤ xs.length ∧ xs.length ≤ 30) ∧ (∀ x ∈ xs, stmtB x = true) ∧ endL 1 xs 0 = (xs.length : Int) := by
  unfold bodyB at h
  simp only [Bool.and_eq_true, decide_eq_true_eq, List.all_eq_true] at h
  exact ⟨h.1.1, h.1.2, h.2⟩
/-- The index behind a statement, and whether there is one. -/
def endR (xs : List S8) (k : Int) : Int × Bool := if bodyB xs = true ∧ 0 ≤ k ∧ k < xs.length then (endL 1 (xs.drop k.toNat) k.toNat, true) else (0, false)
theorem endR_no {xs : List S8} {k : Int} (h : bodyB xs = false) : endR xs k = (0, false) := if_neg (by rw [h]; simp)
theorem endR_out {xs : List S8} {k : Int} (h : ¬ (0 ≤ k ∧ k < xs.length)) : endR xs k = (0, false) := if_neg (fun a => h a.2)
theorem endR_yes {xs : List S8} {k : Nat} (h : bodyB xs = true) (hk : k < xs.length) : endR xs k = (endL 1 (xs.drop k) k, true) := by
  unfold endR
  rw [if_pos ⟨h, by omega, by omega⟩]
  simp

set_option maxRecDepth 100000 in
set_option maxHeartbeats 2000000 in
theorem endAt_c (A : Option Addr) (n c B : Nat) (xs : List S8) (k0 : Nat) (w : World) (h : InST w B A n xs) (hn : n ≤ 1048576) (hk0 : k0 ≤ n) (hk : ∀ x ∈ xs, 0 ≤ x.k ∧ x.k ≤ 8) (hT : TabE w) :
    Calls Tryz.prog 105 #[.slice A n c, .int .i64 (k0 : Int)] w fun e w' => e = .returned (.int .i64 (endI (endL 1 (xs.drop k0) k0))) ∧ ∃ d, w' = w.drewN d := by
  have hlen := Lib.hid h.1
  have HK := Lib.hid hk
  clear hk
  obtain ⟨E, HE⟩ : ∃ E, Hid (endL 1 (xs.drop k0) k0 = E) := ⟨_, rfl⟩
  rw [HE.out]
  go_enter Tryz.func105, Tryz.ntmps105
  go_wp2_with fail
  go_loopw [5, 6] (fun d i wr => ∃ j m q : Nat, j ≤ n ∧ 1 ≤ m ∧ m ≤ 2 * j + 1 ∧ i = .int .i64 j ∧ d = .int .i64 m ∧ Hid (endL m (xs.drop j) j = E) ∧ wr = w.drewN q) (fun _ i _ => n - (intOf i).toNat)
  case atStart => exact ⟨k0, 1, 0, hk0, Nat.le_refl _, by omega, rfl, rfl, HE, rfl⟩
  case round =>
    obtain ⟨j, m, q, hj, hm1, hm, rfl, rfl, he, rfl⟩ := hrel
    by_cases hlt : j < n
    · obtain ⟨b, off, x, rfl, hb, ht, As, ns, cs, Ai, ni, ci, Af, nf, cf, q0, q1, q2, q3, q4, q5, q6, q7, k1, k2, k3⟩ := h.at_ hlt
      obtain ⟨g0, g8⟩ := HK.out x (List.mem_of_getElem? ht)
      have HV : Hid (endL (m - 1 + below x.k) (xs.drop (j + 1)) (j + 1) = E) := (endL_next hm1 ht).symm.trans he.out
      have hbl := below_le x.k
      obtain ⟨k, hk⟩ := Int.eq_ofNat_of_zero_le g0
      rw [hk] at q0 hbl HV g8
      have hk8 : k ≤ 8 := by omega
      obtain ⟨t0, t1, t2, t3, t4, t5⟩ := hT k (by omega)
      rw [(form_below k hk8).1] at t5
      generalize below (k : Int) = be at hbl HV t5
      have HZ : Hid (m - 1 + be = 0 → E = ((j + 1 : Nat) : Int)) := fun e0 => by have := HV.out; rw [e0, endL_done] at this; exact this.symm
      clear ht k1 k2 k3 q1 q2 q3 q4 q5 q6 q7 t0 t1 t2 t3 t4 hk g0 he
      by_cases hz : m - 1 + be = 0
      · have HE2 := HZ.out hz
        subst HE2
        have r1 : ((m : Int) + ((be : Int) - 1) == 0) = true := by simp; omega
        go_wp2_with fail
        go_ret
        exact ⟨ret_int (by unfold endI; rw [if_neg (by omega)]), _, rfl⟩
      · have r1 : ((m : Int) + ((be : Int) - 1) == 0) = false := by rw [beq_eq_false_iff_ne]; omega
        go_wp2_with fail
        go_roundw
        case rel => exact ⟨j + 1, m - 1 + be, q, by omega, by omega, by omega, by go_num, by go_num, HV, rfl⟩
        case measure => simp [intOf]; omega
    · have HV : Hid (E = -1) := he.out.symm.trans (endL_out hm1 (by rw [hlen.out]; omega))
      go_wp2_with fail
      go_ret
      exact ⟨by rw [HV.out]; rfl, _, rfl⟩

theorem endI_eq {z : Int} {n : Nat} (h : 1 ≤ n) : decide (endI z = (n : Int)) = decide (z = (n : Int)) := by
  unfold endI
  split
  · rw [decide_eq_false (by omega), decide_eq_false (by omega)]
  · rfl
theorem body_kinds {xs : List S8} (h : ∀ x ∈ xs, stmtB x = true) : ∀ x ∈ xs, 0 ≤ x.k ∧ x.k ≤ 8 := fun x hx => stmtB_is (h x hx)
set_option maxRecDepth 100000 in
set_option maxHeartbeats 4000000 in
theorem isBody_c (A : Option Addr) (n c B : Nat) (xs : List S8) (w : World) (hT : TabE w) (h : InST w B A n xs) (hB : B ≤ w.heap.size) (hn : n ≤ 1048576) (he : totS xs ≤ 1048576) :
    Calls Tryz.prog 82 #[.slice A n c] w fun e w' => e = .returned (.bool (bodyB xs)) ∧ Below w.heap.size w w' := by
  have hlen := Lib.hid h.1
  by_cases hb : 1 ≤ n ∧ n ≤ 30
  · have r0 : ((n : Int) == 0) = false := by rw [beq_eq_false_iff_ne]; omega
    have r1 : ¬ (30 : Int) < (n : Int) := by omega
    go_enter Tryz.func82, Tryz.ntmps82
    go_wp2_with fail
    go_loopw [4, 15] (fun _ i wr => ∃ k : Nat, k ≤ n ∧ i = .int .i64 k ∧ Hid (∀ u ∈ xs.take k, stmtB u = true) ∧ Below w.heap.size w wr) (fun _ i _ => n - (intOf i).toNat)
    case atStart => exact ⟨0, Nat.zero_le _, rfl, fun u hu => by simp at hu, Below.refl _ _⟩
    case round =>
      obtain ⟨k, hk, rfl, ha, hbel⟩ := hrel
      have hsz := hbel.size
      by_cases hlt : k < n
      · obtain ⟨b, off, x, rfl, hbb, hx, As, ns, cs, Ai, ni, ci, Af, nf, cf, q0, q1, q2, q3, q4, q5, q6, q7, k1, k2, k3⟩ := (h.next hbel hB).at_ hlt
        have hmx := totS_mem (List.mem_of_getElem? hx)
        have HI := Lib.hid (fun (o : Obj) => isElement_c x As ns cs Ai ni ci Af nf cf B (wr.alloc o) ((hT.next hbel).next (bnew wr o)) (k1.next (bnew wr o) (by omega)) (k2.next (bnew wr o) (by omega)) (k3.next (bnew wr o) (by omega)) (Nat.le_trans (by omega) (bnew wr o).size) (by omega))
        unfold S8.val at HI
        cases hv : stmtB x with
        | true =>
          have HS := Lib.hid (sall_succ ha.out hx hv)
          rw [hv] at HI
          clear k1 k2 k3 hx hv hmx
          go_wp2_with fail
          refine (HI.out _).mono ?_
          rintro e w1 ⟨rfl, hb1⟩
          go_wp2_with fail
          go_roundw
          case rel => exact ⟨k + 1, by omega, by go_num, HS, bon (bon hbel (bnew _ _)) hb1⟩
          case measure => simp [intOf]; omega
        | false =>
          have HN := Lib.hid (bodyB_elem hx hv)
          rw [hv] at HI
          clear k1 k2 k3 hx hv hmx
          go_wp2_with fail
          refine (HI.out _).mono ?_
          rintro e w1 ⟨rfl, hb1⟩
          go_wp2_with fail
          go_ret
          exact ⟨ret_bool HN.out.symm, bon (bon hbel (bnew _ _)) hb1⟩
      · have hall : ∀ t ∈ xs, stmtB t = true := fun t ht => ha.out t (by rw [List.take_of_length_le (by rw [hlen.out]; omega)]; exact ht)
        have HV := Lib.hid (bodyB_all (by rw [hlen.out]; exact hb) hall)
        rw [hlen.out, ← endI_eq hb.1] at HV
        have HE : Hid (Calls Tryz.prog 105 #[.slice A n c, .int .i64 0] wr fun e w' => e = .returned (.int .i64 (endI (endL 1 xs 0))) ∧ ∃ d, w' = wr.drewN d) := endAt_c A n c B xs 0 wr (h.next hbel hB) hn (Nat.zero_le _) (body_kinds hall) (hT.next hbel)
        clear hall
        generalize endI (endL 1 xs 0) = E at HV HE
        go_wp2_with fail
        refine HE.out.mono ?_
        rintro e9 w9 ⟨rfl, d, rfl⟩
        go_wp2_with fail
        go_ret
        exact ⟨ret_bool (by rw [HV.out, Bool.eq_iff_iff]; simp), ⟨hbel.os, hbel.tape, hbel.output, hbel.size, hbel.block⟩⟩
  · have HV := Lib.hid (bodyB_size (xs := xs) (by rw [hlen.out]; exact hb))
    by_cases h0 : n = 0
    · have r0 : ((n : Int) == 0) = true := by rw [beq_iff_eq]; omega
      go_enter Tryz.func82, Tryz.ntmps82
      go_wp2_with fail
      go_ret
      exact ⟨ret_bool HV.out.symm, Below.refl _ _⟩
    · have r0 : ((n : Int) == 0) = false := by rw [beq_eq_false_iff_ne]; omega
      have r1 : (30 : Int) < (n : Int) := by omega
      go_enter Tryz.func82, Tryz.ntmps82
      go_wp2_with fail
      go_ret
      exact ⟨ret_bool HV.out.symm, Below.refl _ _⟩

end Go.Proofs.YtajmbnimdngjhaaGreatDoor
