/-
  Where blocks of code begin: pure. No conditions.
-/
import Derived.Test.YtnfapodeifpeoaaTargP
namespace Go.Proofs.Ytnfapodeifpeoaa
set_option linter.unusedVariables false

def plcB (x : Int × Int) : Bool := decide (x.1 = 5 ∨ x.1 = 6)
def endB (x : Int × Int) : Bool := plcB x || decide (x.1 = 11)
/-- One more instruction, at place k of n: the model's list. -/
def led1 (n : Nat) (k : Nat) (x : Int × Int) (o : List Int) : List Int :=
  let o1 := if plcB x = true ∧ x.2 < n then putR x.2 o else o
  if endB x = true ∧ (k : Int) + 1 < n then putR ((k : Int) + 1) o1 else o1
def ledTo (xs : List (Int × Int)) : Nat → List Int
  | 0 => [0]
  | k + 1 => led1 xs.length k (xs.getD k (0, 0)) (ledTo xs k)
/-- The program's numbers, in the order in which they come. -/
def raw1 (k : Nat) (x : Int × Int) : List Int := (if plcB x = true then [x.2] else []) ++ (if endB x = true then [(k : Int) + 1] else [])
def rawTo (xs : List (Int × Int)) : Nat → List Int
  | 0 => [0]
  | k + 1 => rawTo xs k ++ raw1 k (xs.getD k (0, 0))
theorem getD_of {xs : List (Int × Int)} {k : Nat} {x : Int × Int} (h : xs[k]? = some x) : xs.getD k (0, 0) = x := by rw [List.getD_eq_getElem?_getD, h]; rfl
theorem ledTo_succ {xs : List (Int × Int)} {k : Nat} {x : Int × Int} (h : xs[k]? = some x) : ledTo xs (k + 1) = led1 xs.length k x (ledTo xs k) := by rw [ledTo, getD_of h]
theorem rawTo_succ {xs : List (Int × Int)} {k : Nat} {x : Int × Int} (h : xs[k]? = some x) : rawTo xs (k + 1) = rawTo xs k ++ raw1 k x := by rw [rawTo, getD_of h]
theorem led1_ok {n k : Nat} {x : Int × Int} {o : List Int} (h : o.Pairwise (· < ·)) : (led1 n k x o).Pairwise (· < ·) ∧ ∀ z, z ∈ led1 n k x o ↔ z ∈ o ∨ (z ∈ raw1 k x ∧ z < n) := by
  have h1 : (if plcB x = true ∧ x.2 < n then putR x.2 o else o).Pairwise (· < ·) ∧ ∀ z, z ∈ (if plcB x = true ∧ x.2 < n then putR x.2 o else o) ↔ z ∈ o ∨ (z ∈ (if plcB x = true then [x.2] else []) ∧ z < n) := by
    by_cases hp : plcB x = true
    · by_cases hn : x.2 < n
      · rw [if_pos ⟨hp, hn⟩, if_pos hp]
        obtain ⟨a, b⟩ := putR_ok (x := x.2) h
        refine ⟨a, fun z => (b z).trans ⟨fun e => e.imp_right fun e => ?_, fun e => e.imp_right fun e => ?_⟩⟩
        · subst e; exact ⟨by simp, hn⟩
        · have := e.1; simpa using this
      · rw [if_neg (fun e => hn e.2), if_pos hp]
        refine ⟨h, fun z => ⟨.inl, fun e => e.elim id fun e => ?_⟩⟩
        have := e.1; simp at this; subst this; exact absurd e.2 hn
    · rw [if_neg (fun e => hp e.1), if_neg hp]
      exact ⟨h, fun z => ⟨.inl, fun e => e.elim id fun e => by have := e.1; simp at this⟩⟩
  unfold led1 raw1
  show (if endB x = true ∧ (k : Int) + 1 < n then putR ((k : Int) + 1) (if plcB x = true ∧ x.2 < n then putR x.2 o else o) else (if plcB x = true ∧ x.2 < n then putR x.2 o else o)).Pairwise (· < ·) ∧ _
  generalize (if plcB x = true ∧ x.2 < n then putR x.2 o else o) = o1 at h1 ⊢
  by_cases he : endB x = true
  · by_cases hn : (k : Int) + 1 < n
    · rw [if_pos ⟨he, hn⟩, if_pos he]
      obtain ⟨a, b⟩ := putR_ok (x := (k : Int) + 1) h1.1
      refine ⟨a, fun z => ?_⟩
      rw [b z, h1.2 z, List.mem_append, List.mem_singleton]
      constructor
      · rintro ((e | e) | e)
        · exact .inl e
        · exact .inr ⟨.inl e.1, e.2⟩
        · subst e; exact .inr ⟨.inr rfl, hn⟩
      · rintro (e | ⟨e | e, e2⟩)
        · exact .inl (.inl e)
        · exact .inl (.inr ⟨e, e2⟩)
        · exact .inr e
    · rw [if_neg (fun e => hn e.2), if_pos he]
      refine ⟨h1.1, fun z => ?_⟩
      rw [h1.2 z, List.mem_append, List.mem_singleton]
      constructor
      · rintro (e | e)
        · exact .inl e
        · exact .inr ⟨.inl e.1, e.2⟩
      · rintro (e | ⟨e | e, e2⟩)
        · exact .inl e
        · exact .inr ⟨e, e2⟩
        · subst e; exact absurd e2 hn
  · rw [if_neg (fun e => he e.1), if_neg he]
    refine ⟨h1.1, fun z => ?_⟩
    rw [h1.2 z, List.append_nil]
theorem ledTo_ok (xs : List (Int × Int)) (hx : 0 < xs.length) : ∀ k, (ledTo xs k).Pairwise (· < ·) ∧ ∀ z, z ∈ ledTo xs k ↔ z ∈ rawTo xs k ∧ z < xs.length
  | 0 => ⟨by simp [ledTo], fun z => by simp [ledTo, rawTo]; intro e; subst e; omega⟩
  | k + 1 => by
    obtain ⟨a, b⟩ := ledTo_ok xs hx k
    obtain ⟨c, d⟩ := led1_ok (n := xs.length) (k := k) (x := xs.getD k (0, 0)) a
    refine ⟨c, fun z => ?_⟩
    show z ∈ led1 xs.length k (xs.getD k (0, 0)) (ledTo xs k) ↔ z ∈ rawTo xs k ++ raw1 k (xs.getD k (0, 0)) ∧ _
    rw [d z, b z, List.mem_append]
    constructor
    · rintro (e | e)
      · exact ⟨.inl e.1, e.2⟩
      · exact ⟨.inr e.1, e.2⟩
    · rintro ⟨e | e, e2⟩
      · exact .inl ⟨e, e2⟩
      · exact .inr ⟨e, e2⟩
theorem led1_len (n k : Nat) (x : Int × Int) (o : List Int) : (led1 n k x o).length ≤ o.length + 2 := by
  unfold led1
  have h1 := putR_len x.2 o
  by_cases a : plcB x = true ∧ x.2 < n
  · simp only [if_pos a]
    by_cases b : endB x = true ∧ (k : Int) + 1 < n
    · rw [if_pos b]; have := putR_len ((k : Int) + 1) (putR x.2 o); omega
    · rw [if_neg b]; omega
  · simp only [if_neg a]
    by_cases b : endB x = true ∧ (k : Int) + 1 < n
    · rw [if_pos b]; have := putR_len ((k : Int) + 1) o; omega
    · rw [if_neg b]; omega
theorem ledTo_len (xs : List (Int × Int)) : ∀ k, (ledTo xs k).length ≤ 2 * k + 1
  | 0 => by simp [ledTo]
  | k + 1 => by
    have h1 := ledTo_len xs k
    have h2 := led1_len xs.length k (xs.getD k (0, 0)) (ledTo xs k)
    show (led1 xs.length k (xs.getD k (0, 0)) (ledTo xs k)).length ≤ _
    omega
/-- The rising list of some numbers. -/
def srt : List Int → List Int
  | [] => []
  | x :: l => putR x (srt l)
theorem srt_ok : ∀ l, (srt l).Pairwise (· < ·) ∧ ∀ z, z ∈ srt l ↔ z ∈ l
  | [] => ⟨by simp [srt], fun z => by simp [srt]⟩
  | x :: l => by
    obtain ⟨a, b⟩ := srt_ok l
    obtain ⟨c, d⟩ := putR_ok (x := x) a
    exact ⟨c, fun z => by show z ∈ putR x (srt l) ↔ _; rw [d z, b z, List.mem_cons, or_comm]⟩
theorem srt_len : ∀ l, (srt l).length ≤ l.length
  | [] => by simp [srt]
  | x :: l => by have := srt_len l; have := putR_len x (srt l); show (putR x (srt l)).length ≤ _; simp; omega
theorem rawTo_len (xs : List (Int × Int)) : ∀ k, (rawTo xs k).length ≤ 2 * k + 1
  | 0 => by simp [rawTo]
  | k + 1 => by
    have h1 := rawTo_len xs k
    show (rawTo xs k ++ raw1 k (xs.getD k (0, 0))).length ≤ _
    unfold raw1
    simp only [List.length_append]
    split <;> split <;> simp <;> omega
/-- What is not too great stands in front. -/
theorem rise_front {l : List Int} (h : l.Pairwise (· < ·)) (n : Int) : ∃ i, i ≤ l.length ∧ l.filter (fun z => decide (z < n)) = l.take i ∧ (∀ z ∈ l.take i, z < n) ∧ ∀ z ∈ l.drop i, n ≤ z := by
  induction l with
  | nil => exact ⟨0, by simp⟩
  | cons x l ih =>
    obtain ⟨hx, hl⟩ := List.pairwise_cons.1 h
    by_cases e : x < n
    · obtain ⟨i, h1, h2, h3, h4⟩ := ih hl
      refine ⟨i + 1, by simp; omega, by rw [List.filter_cons_of_pos (by simpa using e), h2, List.take_succ_cons], ?_, ?_⟩
      · intro z hz
        rw [List.take_succ_cons] at hz
        rcases List.mem_cons.1 hz with rfl | hz
        · exact e
        · exact h3 z hz
      · intro z hz
        rw [List.drop_succ_cons] at hz
        exact h4 z hz
    · refine ⟨0, by simp, ?_, by simp, ?_⟩
      · rw [List.take_zero, List.filter_eq_nil_iff]
        intro z hz
        rcases List.mem_cons.1 hz with rfl | hz
        · simpa using e
        · have := hx z hz; simp; omega
      · intro z hz
        rw [List.drop_zero] at hz
        rcases List.mem_cons.1 hz with rfl | hz
        · omega
        · have := hx z hz; omega
theorem led_is (xs : List (Int × Int)) (hx : 0 < xs.length) (k : Nat) : (srt (rawTo xs k)).filter (fun z => decide (z < (xs.length : Int))) = ledTo xs k := by
  obtain ⟨a, b⟩ := srt_ok (rawTo xs k)
  obtain ⟨c, d⟩ := ledTo_ok xs hx k
  refine rise_unique (a.filter _) c fun z => ?_
  rw [List.mem_filter, b z, d z]
  simp
def ledR (xs : List (Int × Int)) : List Int × Bool := if codeB xs = true then (ledTo xs xs.length, true) else ([], false)
theorem ledR_yes {xs : List (Int × Int)} (h : codeB xs = true) : ledR xs = (ledTo xs xs.length, true) := if_pos h
theorem ledR_no {xs : List (Int × Int)} (h : codeB xs = false) : ledR xs = ([], false) := if_neg (by rw [h]; simp)
theorem ledR_len (xs : List (Int × Int)) : (ledR xs).1.length ≤ 161 := by
  unfold ledR
  split
  · rename_i h; have := (codeB_parts h).2.1; have := ledTo_len xs xs.length; show (ledTo xs xs.length).length ≤ 161; omega
  · simp
end Go.Proofs.Ytnfapodeifpeoaa
