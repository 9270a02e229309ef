/-
  Lists of lists of numbers: what one that came in reads as; how the law counts and compares them. Conditions: at most 2^20 rows and numbers.
-/
import Derived.Test.YtpdgnmdjneakgaaBlk
import Derived.Test.YtpdgnmdjneakgaaTms
import Derived.Test.YtpdgnmdjneakgaaStK
import Derived.Test.YtpdgnmdjneakgaaInts
namespace Go.Proofs.Ytpdgnmdjneakgaa
set_option linter.unusedVariables false
open Go.RowKit Go.ChangeShapes Go.WideShapes Go.Deep Go.Joins

/-- Rows side by side where a slice's value leads, below block B. -/
def InLL (w : World) (B : Nat) (A : Option Addr) (n : Nat) (xs : List (List Int)) : Prop := xs.length = n ∧ ∀ j x, xs[j]? = some x → ∃ b off, A = some ⟨b, off, none⟩ ∧ b < B ∧ ∃ A0 n0 c0, w.cell? ⟨b, off + j, none⟩ = some (.slice A0 n0 c0) ∧ InL w B A0 n0 x
section
variable {w w' : World} {lo hi B B' : Nat} {A : Option Addr} {n : Nat} {xs : List (List Int)}
theorem InLL.next (h : InLL w B A n xs) (hb : Below B' w w') (hB : B ≤ B') : InLL w' B A n xs := ⟨h.1, fun j x hj => by
  obtain ⟨b, off, e, hlt, A0, n0, c0, hc, hl⟩ := h.2 j x hj
  exact ⟨b, off, e, hlt, A0, n0, c0, (hb.cell (p := ⟨b, off + j, none⟩) (by show b < B'; omega)).trans hc, hl.next hb hB⟩⟩
theorem InLL.more (h : InLL w B A n xs) (hB : B ≤ B') : InLL w B' A n xs := ⟨h.1, fun j x hj => by
  obtain ⟨b, off, e, hlt, A0, n0, c0, hc, hl⟩ := h.2 j x hj
  exact ⟨b, off, e, by omega, A0, n0, c0, hc, hl.more hB⟩⟩
theorem InLL.drew (h : InLL w B A n xs) : InLL w.drew B A n xs := h
theorem InLL.out (h : InLL w B A n xs) (ho : Out lo hi w w') (hB : B ≤ lo) (hs : B ≤ w.heap.size) : InLL w' B A n xs := h.next (ho.below hB hs) (Nat.le_refl _)
theorem InLL.call {w1 : World} (h : InLL w B A n xs) (hB : B ≤ w.heap.size) (hb : Below w.drew.heap.size w.drew w1) : InLL w1 B A n xs := h.next (bstep hb) hB
theorem InLL.at_ (h : InLL w B A n xs) {k : Nat} (hk : k < n) : ∃ b off x, A = some ⟨b, off, none⟩ ∧ b < B ∧ xs[k]? = some x ∧ ∃ A0 n0 c0, w.cell? ⟨b, off + k, none⟩ = some (.slice A0 n0 c0) ∧ InL w B A0 n0 x := by
  have hk' : k < xs.length := by rw [h.1]; exact hk
  obtain ⟨b, off, e, hlt, hs⟩ := h.2 k xs[k] (List.getElem?_eq_getElem hk')
  exact ⟨b, off, xs[k], e, hlt, List.getElem?_eq_getElem hk', hs⟩
end
def totLL (xs : List (List Int)) : Nat := (xs.map List.length).sum
theorem totLL_succ {xs : List (List Int)} {k : Nat} {x : List Int} (h : xs[k]? = some x) : totLL (xs.take (k + 1)) = totLL (xs.take k) + x.length := by
  unfold totLL; rw [List.take_add_one, h]; simp
theorem totLL_take (xs : List (List Int)) (k : Nat) : totLL (xs.take k) ≤ totLL xs := by
  have h : totLL xs = totLL (xs.take k) + totLL (xs.drop k) := by
    unfold totLL
    have := congrArg List.sum (List.take_append_drop k (xs.map List.length))
    rw [List.sum_append, ← List.map_take, ← List.map_drop] at this
    exact this.symm
  omega
theorem totLL_mem {xs : List (List Int)} {x : List Int} (h : x ∈ xs) : x.length ≤ totLL xs := by
  obtain ⟨k, hk⟩ := List.getElem?_of_mem h
  have h1 := totLL_succ hk
  have h2 := totLL_take xs (k + 1)
  omega
theorem totLL_cons (t : List Int) (ts : List (List Int)) : totLL (t :: ts) = t.length + totLL ts := by simp [totLL]
theorem fitsLL_of {xs : List (List Int)} (h : totLL xs ≤ maxLen) : ∀ x ∈ xs, x.length ≤ maxLen := fun x hx => Nat.le_trans (totLL_mem hx) h

/-! What came in. -/
section
variable {H : Type} {enc : TypeId × Value → H} {w : World} {held : Bool}
theorem cellsRow : Try.prog.cellsOf 29 = 1 := by kernel_rfl
set_option maxRecDepth 100000 in
theorem rows_in {fuel : Nat} {v : Value} {x : DataW H × List MemPlace} (h : DataW.trod enc Try.prog w 0 (fun _ => true) held fuel 24 [v] = some x) :
    ∃ (A : Option Addr) (n c : Nat) (xs : List (List Int)), v = .slice A n c ∧ n ≤ maxLen ∧ InLL w w.heap.size A n xs ∧ ∀ y ∈ xs, y.length ≤ maxLen := by
  rcases open_slice Try.underlying24 h with ⟨hcs, _⟩ | ⟨a, len, cap, m, n, D, Pl, hcs, _, hl, hm, hmm, _, hx⟩
  · obtain rfl : v = .slice none 0 0 := by simpa using hcs
    exact ⟨none, 0, 0, [], rfl, Nat.zero_le _, ⟨rfl, fun j y hj => by simp at hj⟩, fun y hy => by simp at hy⟩
  · obtain rfl : v = .slice (some a) len cap := by simpa using hcs
    rw [cellsRow] at hx
    have hm' : m = cap := by simpa using hmm
    obtain ⟨f, hf⟩ := choose_lt (α := List Int) (n := len) (p := fun i y => y.length ≤ maxLen ∧ ∃ (A0 : Option Addr) (n0 c0 : Nat),
        w.cell? ((a.add (i * 1)).add 0) = some (.slice A0 n0 c0) ∧ InL w w.heap.size A0 n0 y) (fun i hi => by
      obtain ⟨cs', hc, ht⟩ := hx i (by omega)
      obtain ⟨_, hlen, hat⟩ := World.cells?_some hc
      match cs', hlen with
      | [d], _ =>
        obtain ⟨A0, n0, c0, zs, rfl, a1, a2, a3, _⟩ := ints_in Try.underlying29 Try.underlying2 (by kernel_rfl) ht
        exact ⟨zs, by omega, A0, n0, c0, hat 0 (by omega), a1, a3⟩)
    refine ⟨some a, len, cap, (List.range len).map f, rfl, by omega, ⟨by simp, fun j y hj => ?_⟩, fun y hy => ?_⟩
    · have hjl : j < len := by
        have := (List.getElem?_eq_some_iff.1 hj).1
        simpa using this
      obtain rfl : f j = y := by simpa [hjl] using hj
      obtain ⟨_, A0, n0, c0, hq, hk⟩ := hf j hjl
      obtain ⟨_, _, _, _, gg, _⟩ := hf 0 (by omega)
      have hs : a.spot = none := by simpa [Addr.add] using World.cell?_spot gg
      obtain ⟨b, off, spot⟩ := a
      have hs' : spot = none := hs
      subst hs'
      rw [add_plain, Nat.mul_one] at hq
      exact ⟨b, off, rfl, cell_lt hq, A0, n0, c0, hq, hk⟩
    · obtain ⟨i, hi, rfl⟩ := List.mem_map.1 hy
      exact (hf i (by simpa using hi)).1
end

end Go.Proofs.Ytpdgnmdjneakgaa
