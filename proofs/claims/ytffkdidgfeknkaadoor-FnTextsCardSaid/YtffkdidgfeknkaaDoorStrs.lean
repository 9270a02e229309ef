/-
  Slices of strings: what the law compares, writes and looks for. Conditions: at most 2^40 strings.
-/
import Derived.Test.YtffkdidgfeknkaaDoorMarkT
import Derived.Test.YtffkdidgfeknkaaDoorKeep
import Derived.Lib.BufferOwn
import Derived.BigQuiet
import Derived.Deep.QuietTactic
import Derived.Deep.RegionLaw
import Derived.Maps.AppendAt
namespace Go.Proofs.YtffkdidgfeknkaaDoor
open Go.RowKit

theorem Row.str_at {w : World} {B : Nat} {A : Option Addr} {zs : List ByteArray} {k : Nat} (h : Row w B A (zs.map Value.string)) (hk : k < zs.length) :
    ∃ b off x, A = some ⟨b, off, none⟩ ∧ b < B ∧ zs[k]? = some x ∧ w.cell? ⟨b, off + k, none⟩ = some (.string x) := by
  obtain ⟨b, off, e, hb, hc⟩ := h k (by simpa using hk)
  refine ⟨b, off, zs[k], e, hb, List.getElem?_eq_getElem hk, ?_⟩
  rw [hc]; simp [hk]

/-- n marks that rise from k on. -/
def riseS (k n : Nat) : List ByteArray := (List.range n).map fun i => markS (k + i)
theorem riseS_len (k n : Nat) : (riseS k n).length = n := by simp [riseS]
theorem riseS_at {k n i : Nat} (h : i < n) : (riseS k n)[i]? = some (markS (k + i)) := by simp [riseS, h]
/-- What the row holds when i cells have been written. -/
def markedS (k i : Nat) (xs : List Value) : List Value := (riseS k i).map Value.string ++ xs.drop i
theorem markedS_zero (k : Nat) (xs : List Value) : markedS k 0 xs = xs := by simp [markedS, riseS]
theorem markedS_succ {k i : Nat} {xs : List Value} (h : i < xs.length) : (markedS k i xs).set i (.string (markS (k + i))) = markedS k (i + 1) xs := by
  have hl : ((riseS k i).map Value.string).length = i := by rw [List.length_map, riseS_len]
  unfold markedS
  rw [List.set_append_right _ _ (by omega), hl, Nat.sub_self, List.drop_eq_getElem_cons h, List.set_cons_zero]
  simp [riseS, List.range_succ]
theorem markedS_end {k : Nat} {xs : List Value} : markedS k xs.length xs = (riseS k xs.length).map Value.string := by simp [markedS]
theorem markedS_len {k i : Nat} {xs : List Value} (h : i ≤ xs.length) : (markedS k i xs).length = xs.length := by
  simp [markedS, riseS_len]; omega

theorem cell_on {w w1 : World} {b o : Nat} {v : Value} (hc : w.cell? ⟨b, o, none⟩ = some v) (h : Below w.drew.heap.size w.drew w1) : w1.cell? ⟨b, o, none⟩ = some v := by
  have h1 : w.drew.cell? ⟨b, o, none⟩ = some v := hc
  exact (h.cell (p := ⟨b, o, none⟩) (cell_lt h1)).trans h1
end Go.Proofs.YtffkdidgfeknkaaDoor
