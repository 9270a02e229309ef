/-
  Lists of instructions (pairs of numbers): what a list that came in reads as, and lists in rows of the call's own. Conditions: none.
-/
import Derived.Test.YtffkdidgfeknkaaDoorBlk
import Derived.Test.YtffkdidgfeknkaaDoorTms
import Derived.Test.YtffkdidgfeknkaaDoorStK
import Derived.Test.YtffkdidgfeknkaaDoorInts
namespace Go.Proofs.YtffkdidgfeknkaaDoor
set_option linter.unusedVariables false
open Go.RowKit Go.ChangeShapes Go.WideShapes Go.Deep Go.Joins

/-- The cells of pairs, side by side. -/
def flatC (l : List (Int × Int)) : List Value := l.flatMap fun p => [.int .i64 p.1, .int .i64 p.2]
theorem flatC_snoc (l : List (Int × Int)) (p : Int × Int) : flatC (l ++ [p]) = flatC l ++ [.int .i64 p.1, .int .i64 p.2] := by simp [flatC]
theorem flatC_app (l k : List (Int × Int)) : flatC (l ++ k) = flatC l ++ flatC k := by simp [flatC]
theorem flatC_len (l : List (Int × Int)) : (flatC l).length = l.length * 2 := by
  induction l with
  | nil => rfl
  | cons x l ih =>
    have e : flatC (x :: l) = .int .i64 x.1 :: .int .i64 x.2 :: flatC l := rfl
    rw [e, List.length_cons, List.length_cons, List.length_cons, ih]; omega
theorem flatC_at : ∀ {l : List (Int × Int)} {j : Nat} {p : Int × Int}, l[j]? = some p → (flatC l)[j * 2]? = some (.int .i64 p.1) ∧ (flatC l)[j * 2 + 1]? = some (.int .i64 p.2)
  | [], j, p, h => by simp at h
  | q :: l, 0, p, h => by
    obtain rfl : q = p := by simpa using h
    exact ⟨rfl, rfl⟩
  | q :: l, j + 1, p, h => by
    have := flatC_at (l := l) (j := j) (p := p) (by simpa using h)
    have e : flatC (q :: l) = .int .i64 q.1 :: .int .i64 q.2 :: flatC l := rfl
    rw [e, show (j + 1) * 2 = j * 2 + 1 + 1 by omega, List.getElem?_cons_succ, List.getElem?_cons_succ, show j * 2 + 1 + 1 + 1 = (j * 2 + 1) + 1 + 1 by omega, List.getElem?_cons_succ, List.getElem?_cons_succ]
    exact this
theorem flatC_take (l : List (Int × Int)) (k : Nat) : flatC (l.take k) = (flatC l).take (k * 2) := by
  induction l generalizing k with
  | nil => simp [flatC]
  | cons x l ih =>
    cases k with
    | zero => simp [flatC]
    | succ k =>
      have e : flatC (x :: l) = .int .i64 x.1 :: .int .i64 x.2 :: flatC l := rfl
      have e2 : flatC (x :: l.take k) = .int .i64 x.1 :: .int .i64 x.2 :: flatC (l.take k) := rfl
      rw [List.take_succ_cons, e2, e, show (k + 1) * 2 = k * 2 + 1 + 1 by omega, List.take_succ_cons, List.take_succ_cons, ih]
/-- One pair is written over. -/
theorem flatC_set {l : List (Int × Int)} {k : Nat} (p : Int × Int) (h : k < l.length) : ((flatC l).set (k * 2) (.int .i64 p.1)).set (k * 2 + 1) (.int .i64 p.2) = flatC (l.set k p) := by
  apply List.ext_getElem?
  intro j
  rcases Nat.mod_two_eq_zero_or_one j with hj | hj
  · obtain ⟨i, rfl⟩ : ∃ i, j = i * 2 := ⟨j / 2, by omega⟩
    by_cases e : i = k
    · subst e
      have h1 := flatC_at (l := l.set i p) (j := i) (p := p) (by simp [h])
      rw [h1.1, List.getElem?_set_ne (by omega), List.getElem?_set_self (by rw [flatC_len]; omega)]
    · rw [List.getElem?_set_ne (by omega), List.getElem?_set_ne (by omega)]
      rcases Nat.lt_or_ge i l.length with hl | hl
      · have h1 := flatC_at (l := l.set k p) (j := i) (p := l[i]) (by rw [List.getElem?_set_ne (by omega)]; exact List.getElem?_eq_getElem hl)
        have h2 := flatC_at (l := l) (j := i) (p := l[i]) (List.getElem?_eq_getElem hl)
        rw [h1.1, h2.1]
      · rw [List.getElem?_eq_none (by rw [flatC_len]; omega), List.getElem?_eq_none (by rw [flatC_len, List.length_set]; omega)]
  · obtain ⟨i, rfl⟩ : ∃ i, j = i * 2 + 1 := ⟨j / 2, by omega⟩
    by_cases e : i = k
    · subst e
      have h1 := flatC_at (l := l.set i p) (j := i) (p := p) (by simp [h])
      rw [h1.2, List.getElem?_set_self (by rw [List.length_set, flatC_len]; omega)]
    · rw [List.getElem?_set_ne (by omega), List.getElem?_set_ne (by omega)]
      rcases Nat.lt_or_ge i l.length with hl | hl
      · have h1 := flatC_at (l := l.set k p) (j := i) (p := l[i]) (by rw [List.getElem?_set_ne (by omega)]; exact List.getElem?_eq_getElem hl)
        have h2 := flatC_at (l := l) (j := i) (p := l[i]) (List.getElem?_eq_getElem hl)
        rw [h1.2, h2.2]
      · rw [List.getElem?_eq_none (by rw [flatC_len]; omega), List.getElem?_eq_none (by rw [flatC_len, List.length_set]; omega)]
/-- The second number of a pair is written over. -/
theorem flatC_set2 {l : List (Int × Int)} {k : Nat} {x : Int × Int} (v : Int) (h : l[k]? = some x) : (flatC l).set (k * 2 + 1) (.int .i64 v) = flatC (l.set k (x.1, v)) := by
  have hl : k < l.length := (List.getElem?_eq_some_iff.1 h).1
  rw [← flatC_set (x.1, v) hl]
  have h1 := (flatC_at h).1
  congr 1
  apply List.ext_getElem?
  intro j
  by_cases e : j = k * 2
  · subst e
    rw [h1, List.getElem?_set_self (by rw [flatC_len]; omega)]
  · rw [List.getElem?_set_ne (by omega)]

def CAt (w : World) (b o : Nat) (x : Int × Int) : Prop := w.cell? ⟨b, o, none⟩ = some (.int .i64 x.1) ∧ w.cell? ⟨b, o + 1, none⟩ = some (.int .i64 x.2)
/-- Pairs side by side where a slice's value leads, below block B. -/
def InC (w : World) (B : Nat) (A : Option Addr) (n : Nat) (xs : List (Int × Int)) : Prop := xs.length = n ∧ ∀ j x, xs[j]? = some x → ∃ b off, A = some ⟨b, off, none⟩ ∧ b < B ∧ CAt w b (off + j * 2) x
/-- .. in a row of the call's own, between two blocks. -/
def OwnC (w : World) (lo hi : Nat) (A : Option Addr) (n c : Nat) (xs : List (Int × Int)) : Prop :=
  xs.length = n ∧ w.ownsRow lo 87 2 (.slice A n c) n (flatC xs) ∧ (∀ k, (Value.slice A n c).ownBlock = some k → k < hi) ∧ hi ≤ w.heap.size
section
variable {w w' : World} {lo hi B B' b o : Nat} {A : Option Addr} {n c : Nat} {x : Int × Int} {xs : List (Int × Int)}
theorem CAt.next (h : CAt w b o x) (hb : Below B' w w') (hlt : b < B') : CAt w' b o x := ⟨(hb.cell (p := ⟨b, o, none⟩) hlt).trans h.1, (hb.cell (p := ⟨b, o + 1, none⟩) hlt).trans h.2⟩
theorem InC.next (h : InC w B A n xs) (hb : Below B' w w') (hB : B ≤ B') : InC w' B A n xs := ⟨h.1, fun j x hj => by
  obtain ⟨b, off, e, hlt, hs⟩ := h.2 j x hj
  exact ⟨b, off, e, hlt, hs.next hb (by omega)⟩⟩
theorem InC.more (h : InC w B A n xs) (hB : B ≤ B') : InC w B' A n xs := ⟨h.1, fun j x hj => by
  obtain ⟨b, off, e, hlt, hs⟩ := h.2 j x hj
  exact ⟨b, off, e, by omega, hs⟩⟩
theorem InC.drew (h : InC w B A n xs) : InC w.drew B A n xs := h
theorem InC.out (h : InC w B A n xs) (ho : Out lo hi w w') (hB : B ≤ lo) (hs : B ≤ w.heap.size) : InC w' B A n xs := h.next (ho.below hB hs) (Nat.le_refl _)
theorem InC.call {w1 : World} (h : InC w B A n xs) (hB : B ≤ w.heap.size) (hb : Below w.drew.heap.size w.drew w1) : InC w1 B A n xs := h.next (bstep hb) hB
theorem InC.at_ (h : InC w B A n xs) {k : Nat} (hk : k < n) : ∃ b off x, A = some ⟨b, off, none⟩ ∧ b < B ∧ xs[k]? = some x ∧ w.cell? ⟨b, off + k * 2, none⟩ = some (.int .i64 x.1) ∧ w.cell? ⟨b, off + k * 2 + 1, none⟩ = some (.int .i64 x.2) := by
  have hk' : k < xs.length := by rw [h.1]; exact hk
  obtain ⟨b, off, e, hlt, hs⟩ := h.2 k xs[k] (List.getElem?_eq_getElem hk')
  exact ⟨b, off, xs[k], e, hlt, List.getElem?_eq_getElem hk', hs⟩
theorem OwnC.next (h : OwnC w lo hi A n c xs) (hb : Below w.heap.size w w') : OwnC w' lo hi A n c xs :=
  ⟨h.1, own_below h.2.1 hb, h.2.2.1, Nat.le_trans h.2.2.2 hb.size⟩
theorem OwnC.drew (h : OwnC w lo hi A n c xs) : OwnC w.drew lo hi A n c xs := h
theorem OwnC.out {lo' hi' : Nat} (h : OwnC w lo hi A n c xs) (ho : Out lo' hi' w w') (hd : hi' ≤ lo ∨ hi ≤ lo') : OwnC w' lo hi A n c xs := by
  refine ⟨h.1, ⟨h.2.1.1, ?_⟩, h.2.2.1, Nat.le_trans h.2.2.2 ho.size⟩
  rcases h.2.1.2 with h' | ⟨g, cap, cur, h1, h2, h3, h4⟩
  · exact .inl h'
  · refine .inr ⟨g, cap, cur, h1, h2, ?_, h4⟩
    have hg : g < hi := h.2.2.1 g (by rw [h1]; rfl)
    have hs := h.2.2.2
    rw [ho.block g (by omega) (by omega)]
    exact h3
theorem OwnC.inn (h : OwnC w lo hi A n c xs) : InC w hi A n xs := by
  refine ⟨h.1, fun j x hj => ?_⟩
  have hjl := (List.getElem?_eq_some_iff.1 hj).1
  rcases h.2.1.2 with ⟨h1, h2⟩ | ⟨g, cap, cur, h1, h2, h3, h4⟩
  · have := h.1; omega
  · have hA : A = some ⟨g, 0, none⟩ := by injection h1
    subst hA
    obtain ⟨e1, e2⟩ := flatC_at hj
    have hn := h.1
    exact ⟨g, 0, rfl, h.2.2.1 g rfl, by rw [Nat.zero_add, h.2.1.cellAt (j * 2) (by omega), e1], by rw [Nat.zero_add, h.2.1.cellAt (j * 2 + 1) (by omega), e2]⟩
theorem OwnC.of_own (h : w.ownsRow lo 87 2 (.slice A n c) n (flatC xs)) (hx : xs.length = n) : OwnC w lo w.heap.size A n c xs :=
  ⟨hx, h, fun k hk => (h.lt k hk).2, Nat.le_refl _⟩
theorem OwnC.less (h : OwnC w lo hi A n c xs) {lo' : Nat} (hl : lo' ≤ lo) : OwnC w lo' hi A n c xs := ⟨h.1, own_less h.2.1 hl, h.2.2⟩
theorem OwnC.wide (h : OwnC w lo hi A n c xs) {hi' : Nat} (hl : hi ≤ hi') (hs : hi' ≤ w.heap.size) : OwnC w lo hi' A n c xs := ⟨h.1, h.2.1, fun k hk => Nat.lt_of_lt_of_le (h.2.2.1 k hk) hl, hs⟩
theorem OwnC.all (h : OwnC w lo hi A n c xs) : InC w w.heap.size A n xs := h.inn.more h.2.2.2
end

/-! What came in. -/
section
variable {H : Type} {enc : TypeId × Value → H} {w : World} {held : Bool}
end
end Go.Proofs.YtffkdidgfeknkaaDoor
