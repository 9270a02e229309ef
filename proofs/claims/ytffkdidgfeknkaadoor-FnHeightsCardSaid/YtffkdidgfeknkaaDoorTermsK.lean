/-
  Lists of terms: what they hold, how the law counts, copies and compares them; whether all are valid. Conditions: at most 2^20 terms and coefficients.
-/
import Derived.Test.YtffkdidgfeknkaaDoorTermK
import Derived.Test.YtffkdidgfeknkaaDoorValid
import Derived.Test.YtffkdidgfeknkaaDoorTms
import Derived.BigQuiet
import Derived.Deep.QuietTactic
namespace Go.Proofs.YtffkdidgfeknkaaDoor
open Go.RowKit

/-- How many coefficients a list of terms holds. -/
def totT (ts : List (Int × List Int)) : Nat := (ts.map fun t => t.2.length).sum
theorem totT_succ {ts : List (Int × List Int)} {k : Nat} {t : Int × List Int} (h : ts[k]? = some t) : totT (ts.take (k + 1)) = totT (ts.take k) + t.2.length := by
  unfold totT; rw [List.take_add_one, h]; simp
theorem totT_take (ts : List (Int × List Int)) (k : Nat) : totT (ts.take k) ≤ totT ts := by
  have h : totT ts = totT (ts.take k) + totT (ts.drop k) := by
    unfold totT
    have := congrArg List.sum (List.take_append_drop k (ts.map fun t => t.2.length))
    rw [List.sum_append, ← List.map_take, ← List.map_drop] at this
    exact this.symm
  omega
theorem totT_mem {ts : List (Int × List Int)} {t : Int × List Int} (h : t ∈ ts) : t.2.length ≤ totT ts := by
  obtain ⟨k, hk⟩ := List.getElem?_of_mem h
  have h1 := totT_succ hk
  have h2 := totT_take ts (k + 1)
  omega
theorem each_of {ts : List (Int × List Int)} (h : totT ts ≤ 1048576) : ∀ t ∈ ts, t.2.length ≤ maxLen := fun t ht => by
  have := totT_mem ht
  unfold maxLen; omega
theorem take_all {α : Type} {ts : List α} {k : Nat} (h : ts.length ≤ k) : ts.take k = ts := List.take_of_length_le h

/-- Terms that a slice leads to, below block B. -/
def InTS (w : World) (B : Nat) (A : Option Addr) (n : Nat) (ts : List (Int × List Int)) : Prop := ts.length = n ∧ TRow w B A ts
section
variable {w w' : World} {lo hi B B' : Nat} {A : Option Addr} {n : Nat} {ts : List (Int × List Int)}
theorem InTS.next (h : InTS w B A n ts) (hb : Below B' w w') (hB : B ≤ B') : InTS w' B A n ts := ⟨h.1, h.2.below hb hB⟩
theorem InTS.more (h : InTS w B A n ts) (hB : B ≤ B') : InTS w B' A n ts := ⟨h.1, h.2.more hB⟩
theorem InTS.drew (h : InTS w B A n ts) : InTS w.drew B A n ts := h
theorem InTS.out (h : InTS w B A n ts) (ho : Out lo hi w w') (hB : B ≤ lo) (hs : B ≤ w.heap.size) : InTS w' B A n ts := h.next (ho.below hB hs) (Nat.le_refl _)
theorem InTS.call (h : InTS w B A n ts) (hB : B ≤ w.heap.size) (hb : Below w.drew.heap.size w.drew w') : InTS w' B A n ts := h.next (bstep hb) hB
theorem InTS.at_ (h : InTS w B A n ts) {k : Nat} (hk : k < n) : ∃ b off A' n' c' t, A = some ⟨b, off, none⟩ ∧ b < B ∧ ts[k]? = some t ∧ w.cell? ⟨b, off + k * 2, none⟩ = some (.int .i64 t.1) ∧ w.cell? ⟨b, off + k * 2 + 1, none⟩ = some (.slice A' n' c') ∧ InL w B A' n' t.2 := by
  have hk' : k < ts.length := by rw [h.1]; exact hk
  obtain ⟨b, off, A', n', c', e, hb, h1, h2, h3, h4⟩ := h.2 k ts[k] (List.getElem?_eq_getElem hk')
  exact ⟨b, off, A', n', c', ts[k], e, hb, List.getElem?_eq_getElem hk', h1, h2, h3, h4⟩
end

/-- All of some terms are valid, and they are not too many. -/
def allT (most : Nat) (ts : List (Int × List Int)) : Bool := decide (∀ t ∈ ts, tmB t = true) && decide (ts.length ≤ most)
theorem allT_step {ts : List (Int × List Int)} {k : Nat} {t : Int × List Int} (h : ∀ u ∈ ts.take k, tmB u = true) (ht : ts[k]? = some t) (hv : tmB t = true) : ∀ u ∈ ts.take (k + 1), tmB u = true := by
  intro u hu
  rw [List.take_add_one, ht] at hu
  simp only [Option.toList, List.mem_append, List.mem_singleton] at hu
  rcases hu with hu | rfl
  · exact h u hu
  · exact hv
theorem allT_no {most : Nat} {ts : List (Int × List Int)} {k : Nat} {t : Int × List Int} (ht : ts[k]? = some t) (hv : tmB t = false) : allT most ts = false := by
  unfold allT
  rw [decide_eq_false (fun a => by have := a t (List.mem_of_getElem? ht); rw [hv] at this; cases this)]; rfl
theorem allT_yes {most : Nat} {ts : List (Int × List Int)} {k : Nat} (h : ∀ u ∈ ts.take k, tmB u = true) (hk : ts.length ≤ k) : allT most ts = decide (ts.length ≤ most) := by
  rw [take_all hk] at h
  unfold allT; rw [decide_eq_true h]; rfl
theorem allT_parts {most : Nat} {ts : List (Int × List Int)} (h : allT most ts = true) : (∀ t ∈ ts, tmB t = true) ∧ ts.length ≤ most := by
  unfold allT at h
  simp only [Bool.and_eq_true, decide_eq_true_eq] at h
  exact h

end Go.Proofs.YtffkdidgfeknkaaDoor
