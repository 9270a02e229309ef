/-
  The model's cutting of a text, and WordsOf of both. Conditions: texts of at most 2^20 bytes; internal/bytealg.MaxLen holds an int.
-/
import Derived.Test.YtffkdidgfeknkaaDoorEach
namespace Go.Proofs.YtffkdidgfeknkaaDoor
open Go.RowKit

/-- The parts from place f on. -/
def restS (c : UInt8) (s : ByteArray) (f : Nat) : List ByteArray := (cutL c (s.data.toList.drop f)).map fun l => ⟨l.toArray⟩
/-- No mark from f to k. -/
def free (c : UInt8) (s : ByteArray) (f k : Nat) : Prop := ∀ j, f ≤ j → j < k → s.data.toList[j]? ≠ some c
theorem free_not {c : UInt8} {s : ByteArray} {f k : Nat} (h : free c s f k) : c ∉ (s.data.toList.drop f).take (k - f) := by
  intro hm
  obtain ⟨i, hi⟩ := List.getElem?_of_mem hm
  rw [List.getElem?_take] at hi
  split at hi
  · rw [List.getElem?_drop] at hi
    exact h (f + i) (by omega) (by omega) hi
  · cases hi
theorem extract_list (s : ByteArray) (f k : Nat) : (⟨((s.data.toList.drop f).take (k - f)).toArray⟩ : ByteArray) = s.extract f k := by
  apply ByteArray.ext
  have h := Lib.extract_data s f k
  apply Array.ext'
  rw [h]
theorem rest_hit {c : UInt8} {s : ByteArray} {f k : Nat} (h : free c s f k) (hf : f ≤ k) (hk : k < s.size) (hc : s.data.toList[k]? = some c) : restS c s f = s.extract f k :: restS c s (k + 1) := by
  have e : s.data.toList.drop f = (s.data.toList.drop f).take (k - f) ++ c :: s.data.toList.drop (k + 1) := by
    have h1 : s.data.toList.drop k = c :: s.data.toList.drop (k + 1) := by
      rw [List.drop_eq_getElem_cons (by simpa using hk)]
      congr 1
      rw [List.getElem?_eq_getElem (by simpa using hk)] at hc
      exact Option.some.inj hc
    conv => lhs; rw [← List.take_append_drop (k - f) (s.data.toList.drop f)]
    rw [List.drop_drop, show f + (k - f) = k by omega, h1]
  unfold restS
  rw [e, cut_hit c _ _ (free_not h), List.map_cons, extract_list]
theorem rest_end {c : UInt8} {s : ByteArray} {f : Nat} (h : free c s f s.size) : restS c s f = [s.extract f s.size] := by
  have e : s.data.toList.drop f = (s.data.toList.drop f).take (s.size - f) := by
    rw [List.take_of_length_le]
    rw [List.length_drop, Array.length_toList]
    exact Nat.le_refl _
  unfold restS
  rw [e, cut_end c _ (free_not h), List.map_cons, List.map_nil, extract_list]

theorem at_lt {s : ByteArray} {k : Nat} (h : k < s.size) : s.data.toList[k]? = some s[k] := by
  rw [List.getElem?_eq_getElem (by simpa using h)]; rfl

theorem part_step {base : Nat} {v' : Value} {w1 : World} {ps : List ByteArray} {x : ByteArray} (h : w1.ownsRow base 9 1 v' (ps.length + 1) (ps.map Value.string ++ [Value.string x])) :
    w1.ownsRow base 9 1 v' (ps ++ [x]).length ((ps ++ [x]).map Value.string) := by
  simpa using h
end Go.Proofs.YtffkdidgfeknkaaDoor
