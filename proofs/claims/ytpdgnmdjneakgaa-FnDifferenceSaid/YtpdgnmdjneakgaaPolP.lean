/-
  Policies as lists of rows: valid ones, a step, a run. No conditions. (pure)
-/
import Derived.Test.YtpdgnmdjneakgaaPol
namespace Go.Proofs.Ytpdgnmdjneakgaa
set_option linter.unusedVariables false
open Go.RowKit

/-- A valid row of a policy with m states. -/
def rowB (m : Nat) (r : List Int) : Bool := decide (r.length = 4) && btw (-1) ((m : Int) - 1) r
def polB (xs : List (List Int)) : Bool := (decide ((1 : Int) ≤ (xs.length : Int)) && decide ((xs.length : Int) ≤ 12)) && xs.all (rowB xs.length)
theorem rowB_len {m : Nat} {r : List Int} (h : r.length ≠ 4) : rowB m r = false := by unfold rowB; rw [decide_eq_false h]; rfl
theorem rowB_is {m : Nat} {r : List Int} (h : r.length = 4) : rowB m r = btw (-1) ((m : Int) - 1) r := by unfold rowB; rw [decide_eq_true h]; rfl
theorem polB_len {xs : List (List Int)} (h : (decide ((1 : Int) ≤ (xs.length : Int)) && decide ((xs.length : Int) ≤ 12)) = false) : polB xs = false := by unfold polB; rw [h]; rfl
theorem polB_no {xs : List (List Int)} {j : Nat} {r : List Int} (h : xs[j]? = some r) (hr : rowB xs.length r = false) : polB xs = false := by
  unfold polB
  rw [Bool.and_eq_false_iff]
  right
  rw [List.all_eq_false]
  exact ⟨r, List.mem_of_getElem? h, by simp [hr]⟩
theorem polB_yes {xs : List (List Int)} {k : Nat} (h : (decide ((1 : Int) ≤ (xs.length : Int)) && decide ((xs.length : Int) ≤ 12)) = true) (ha : ∀ r ∈ xs.take k, rowB xs.length r = true) (hk : xs.length ≤ k) : polB xs = true := by
  rw [List.take_of_length_le hk] at ha
  unfold polB
  rw [h, Bool.true_and, List.all_eq_true]
  exact ha
theorem row_take {m : Nat} {xs : List (List Int)} {j : Nat} {r : List Int} (ha : ∀ r ∈ xs.take j, rowB m r = true) (hx : xs[j]? = some r) (hr : rowB m r = true) : Hid (∀ r ∈ xs.take (j + 1), rowB m r = true) := by
  show ∀ r ∈ xs.take (j + 1), rowB m r = true
  intro z hz
  rw [List.take_add_one, hx] at hz
  rcases List.mem_append.1 hz with h | h
  · exact ha z h
  · obtain rfl : z = r := by simpa using h
    exact hr

/-- A valid policy, told. -/
structure PolOk (xs : List (List Int)) : Prop where
  lo : 1 ≤ xs.length
  hi : xs.length ≤ 12
  len : ∀ r ∈ xs, r.length = 4
  num : ∀ r ∈ xs, ∀ z ∈ r, -1 ≤ z ∧ z ≤ (xs.length : Int) - 1
theorem polOk_of {xs : List (List Int)} (h : polB xs = true) : PolOk xs := by
  unfold polB at h
  simp only [Bool.and_eq_true, decide_eq_true_eq, List.all_eq_true] at h
  obtain ⟨⟨h1, h2⟩, h3⟩ := h
  have h4 : ∀ r ∈ xs, r.length = 4 ∧ ∀ z ∈ r, -1 ≤ z ∧ z ≤ (xs.length : Int) - 1 := by
    intro r hr
    have h5 := h3 r hr
    unfold rowB at h5
    simp only [Bool.and_eq_true, decide_eq_true_eq] at h5
    exact ⟨h5.1, btw_in h5.2⟩
  exact ⟨by omega, by omega, fun r hr => (h4 r hr).1, fun r hr => (h4 r hr).2⟩

/-- The state to which an event leads. -/
def nxP (xs : List (List Int)) (s e : Nat) : Int := (xs.getD s []).getD e 0
theorem PolOk.at_ {xs : List (List Int)} (h : PolOk xs) {s e : Nat} (hs : s < xs.length) (he : e < 4) : ∃ r, xs[s]? = some r ∧ r.length = 4 ∧ r[e]? = some (nxP xs s e) ∧ -1 ≤ nxP xs s e ∧ nxP xs s e ≤ (xs.length : Int) - 1 := by
  obtain ⟨r, hr⟩ : ∃ r, xs[s]? = some r := ⟨_, List.getElem?_eq_getElem hs⟩
  have hm := List.mem_of_getElem? hr
  have hl := h.len r hm
  obtain ⟨z, hz⟩ : ∃ z, r[e]? = some z := ⟨_, List.getElem?_eq_getElem (by omega)⟩
  have hv : nxP xs s e = z := by
    unfold nxP
    simp [List.getD, hr, hz]
  have hn := h.num r hm z (List.mem_of_getElem? hz)
  exact ⟨r, hr, hl, by rw [hv]; exact hz, by rw [hv]; exact hn.1, by rw [hv]; exact hn.2⟩

theorem InLL.cell_at {w : World} {B : Nat} {A : Option Addr} {n : Nat} {xs : List (List Int)} (h : InLL w B A n xs) (ok : PolOk xs) {s e : Nat} (hs : s < n) (he : e < 4) :
    ∃ b off A0 c0 b2 off2, A = some ⟨b, off, none⟩ ∧ w.cell? ⟨b, off + s, none⟩ = some (.slice A0 4 c0) ∧ A0 = some ⟨b2, off2, none⟩ ∧ w.cell? ⟨b2, off2 + e, none⟩ = some (.int .i64 (nxP xs s e)) := by
  obtain ⟨b, off, x, hA, hb, hx, A0, n0, c0, hc, hin⟩ := h.at_ hs
  obtain ⟨r, hr, hl, hz, _, _⟩ := ok.at_ (s := s) (e := e) (by rw [h.1]; exact hs) he
  obtain rfl : x = r := by rw [hx] at hr; exact Option.some.inj hr
  obtain rfl : n0 = 4 := by have := hin.1; omega
  obtain ⟨b2, off2, z, hA2, hb2, hz2, hcz⟩ := hin.2.int_at (k := e) (by omega)
  obtain rfl : z = nxP xs s e := by rw [hz] at hz2; exact (Option.some.inj hz2).symm
  exact ⟨b, off, A0, c0, b2, off2, hA, hc, hA2, hcz⟩

/-- How many events are allowed from a state on, and the state behind them. -/
def runL (xs : List (List Int)) : Nat → List Int → Nat × Nat
  | s, [] => (0, s)
  | s, e :: es => if nxP xs s e.toNat < 0 then (0, s) else ((runL xs (nxP xs s e.toNat).toNat es).1 + 1, (runL xs (nxP xs s e.toNat).toNat es).2)
theorem runL_no {xs : List (List Int)} {s : Nat} {e : Int} {es : List Int} (h : nxP xs s e.toNat < 0) : runL xs s (e :: es) = (0, s) := by rw [runL, if_pos h]
theorem runL_yes {xs : List (List Int)} {s : Nat} {e : Int} {es : List Int} (h : ¬ nxP xs s e.toNat < 0) : runL xs s (e :: es) = ((runL xs (nxP xs s e.toNat).toNat es).1 + 1, (runL xs (nxP xs s e.toNat).toNat es).2) := by rw [runL, if_neg h]
theorem runL_le (xs : List (List Int)) : ∀ (s : Nat) (es : List Int), (runL xs s es).1 ≤ es.length
  | s, [] => Nat.zero_le _
  | s, e :: es => by
    by_cases h : nxP xs s e.toNat < 0
    · rw [runL_no h]; exact Nat.zero_le _
    · rw [runL_yes h]; have := runL_le xs (nxP xs s e.toNat).toNat es; simp; omega
theorem runL_state {xs : List (List Int)} (h : PolOk xs) : ∀ (s : Nat) (es : List Int), s < xs.length → (∀ e ∈ es, 0 ≤ e ∧ e ≤ 3) → (runL xs s es).2 < xs.length
  | s, [], hs, _ => hs
  | s, e :: es, hs, he => by
    have h0 := he e (by simp)
    obtain ⟨r, _, _, _, h1, h2⟩ := h.at_ hs (e := e.toNat) (by omega)
    by_cases hq : nxP xs s e.toNat < 0
    · rw [runL_no hq]; exact hs
    · rw [runL_yes hq]; exact runL_state h _ es (by omega) (fun e' hm => he e' (by simp [hm]))
end Go.Proofs.Ytpdgnmdjneakgaa
