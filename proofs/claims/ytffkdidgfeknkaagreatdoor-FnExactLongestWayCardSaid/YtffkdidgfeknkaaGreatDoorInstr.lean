/-
  Lists of instructions (pairs of numbers): what a list that came in reads as, and lists in rows of the call's own. Conditions: none.
-/
import Derived.Test.YtffkdidgfeknkaaGreatDoorBlk
import Derived.Test.YtffkdidgfeknkaaGreatDoorTms
import Derived.Test.YtffkdidgfeknkaaGreatDoorStK
import Derived.Test.YtffkdidgfeknkaaGreatDoorInts
namespace Go.Proofs.YtffkdidgfeknkaaGreatDoor
set_option linter.unusedVariables false
open Go.RowKit Go.ChangeShapes Go.WideShapes Go.Deep Go.Joins

/-- The cells of pairs, side by side. -/
def flatC (l : List (Int × Int)) : List Value := l.flatMap fun p => [.int .i64 p.1, .int .i64 p.2]
theorem flatC_snoc (l : List (Int × Int)) (p : Int × Int) : flatC (l ++ [p]) = flatC l ++ [.int .i64 p.1, .int .i64 p.2] := by simp [flatC]
theorem flatC_app (l k : List (Int × Int)) : flatC (l ++ k) = flatC l ++ flatC k := by simp [flatC]
theorem flatC_len (l : List (Int × Int)) : (flatC l).length = l.length * 2 := by
  induction l with
  | nil => rfl
  | cons x l ih =>
    have e : flatC (x :: l) = .int .i64 x.1 :: .int .i64 x.2 :: flatC l := rfl
    rw [e, List.length_cons, List.length_cons, List.length_cons, ih]; omega
theorem flatC_at : ∀ {l : List (Int × Int)} {j : Nat} {p : Int × Int}, l[j]? = some p → (flatC l)[j * 2]? = some (.int .i64 p.1) ∧ (flatC l)[j * 2 + 1]? = some (.int .i64 p.2)
  | [], j, p, h => by simp at h
  | q :: l, 0, p, h => by
    obtain rfl : q = p := by simpa using h
    exact ⟨rfl, rfl⟩
  | q :: l, j + 1, p, h => by
    have := flatC_at (l := l) (j := j) (p := p) (by simpa using h)
    have e : flatC (q :: l) = .int .i64 q.1 :: .int .i64 q.2 :: flatC l := rfl
    rw [e, show (j + 1) * 2 = j * 2 + 1 + 1 by omega, List.getElem?_cons_succ, List.getElem?_cons_succ, show j * 2 + 1 + 1 + 1 = (j * 2 + 1) + 1 + 1 by omega, List.getElem?_cons_succ, List.getElem?_cons_succ]
    exact this
theorem flatC_take (l : List (Int × Int)) (k : Nat) : flatC (l.take k) = (flatC l).take (k * 2) := by
  induction l generalizing k with
  | nil => simp [flatC]
  | cons x l ih =>
    cases k with
    | zero => simp [flatC]
    | succ k =>
      have e : flatC (x :: l) = .int .i64 x.1 :: .int .i64 x.2 :: flatC l := rfl
      have e2 : flatC (x :: l.take k) = .int .i64 x.1 :: .int .i64 x.2 :: flatC (l.take k) := rfl
      rw [List.take_succ_cons, e2, e, show (k + 1) * 2 = k * 2 + 1 + 1 by omega, List.take_succ_cons, List.take_succ_cons, ih]
/-- One pair is written over. -/
theorem flatC_set {l : List (Int × Int)} {k : Nat} (p : Int × Int) (h : k < l.length) : ((flatC l).set (k * 2) (.int .i64 p.1)).set (k * 2 + 1) (.int .i64 p.2) = flatC (l.set k p) := by
  apply List.ext_getElem?
  intro j
  rcases Nat.mod_two_eq_zero_or_one j with hj | hj
  · obtain ⟨i, rfl⟩ : ∃ i, j = i * 2 := ⟨j / 2, by omega⟩
    by_cases e : i = k
    · subst e
      have h1 := flatC_at (l := l.set i p) (j := i) (p := p) (by simp [h])
      rw [h1.1, List.getElem?_set_ne (by omega), List.getElem?_set_self (by rw [flatC_len]; omega)]
    · rw [List.getElem?_set_ne (by omega), List.getElem?_set_ne (by omega)]
      rcases Nat.lt_or_ge i l.length with hl | hl
      · have h1 := flatC_at (l := l.set k p) (j := i) (p := l[i]) (by rw [List.getElem?_set_ne (by omega)]; exact List.getElem?_eq_getElem hl)
        have h2 := flatC_at (l := l) (j := i) (p := l[i]) (List.getElem?_eq_getElem hl)
        rw [h1.1, h2.1]
      · rw [List.getElem?_eq_none (by rw [flatC_len]; omega), List.getElem?_eq_none (by rw [flatC_len, List.length_set]; omega)]
  · obtain ⟨i, rfl⟩ : ∃ i, j = i * 2 + 1 := ⟨j / 2, by omega⟩
    by_cases e : i = k
    · subst e
      have h1 := flatC_at (l := l.set i p) (j := i) (p := p) (by simp [h])
      rw [h1.2, List.getElem?_set_self (by rw [List.length_set, flatC_len]; omega)]
    · rw [List.getElem?_set_ne (by omega), List.getElem?_set_ne (by omega)]
      rcases Nat.lt_or_ge i l.length with hl | hl
      · have h1 := flatC_at (l := l.set k p) (j := i) (p := l[i]) (by rw [List.getElem?_set_ne (by omega)]; exact List.getElem?_eq_getElem hl)
        have h2 := flatC_at (l := l) (j := i) (p := l[i]) (List.getElem?_eq_getElem hl)
        rw [h1.2, h2.2]
      · rw [List.getElem?_eq_none (by rw [flatC_len]; omega), List.getElem?_eq_none (by rw [flatC_len, List.length_set]; omega)]
/-- The second number of a pair is written over. -/
theorem flatC_set2 {l : List (Int × Int)} {k : Nat} {x : Int × Int} (v : Int) (h : l[k]? = some x) : (flatC l).set (k * 2 + 1) (.int .i64 v) = flatC (l.set k (x.1, v)) := by
  have hl : k < l.length := (List.getElem?_eq_some_iff.1 h).1
  rw [← flatC_set (x.1, v) hl]
  have h1 := (flatC_at h).1
  congr 1
  apply List.ext_getElem?
  intro j
  by_cases e : j = k * 2
  · subst e
    rw [h1, List.getElem?_set_self (by rw [flatC_len]; omega)]
  · rw [List.getElem?_set_ne (by omega)]

def CAt (w : World) (b o : Nat) (x : Int × Int) : Prop := w.cell? ⟨b, o, none⟩ = some (.int .i64 x.1) ∧ w.cell? ⟨b, o + 1, none⟩ = some (.int .i64 x.2)
/-- Pairs side by side where a slice's value leads, below block B. -/
def InC (w : World) (B : Nat) (A : Option Addr) (n : Nat) (xs : List (Int × Int)) : Prop := xs.length = n ∧ ∀ j x, xs[j]? = some x → ∃ b off, A = some ⟨b, off, none⟩ ∧ b < B ∧ CAt w b (off + j * 2) x
/-- .. in a row of the call's own, between two blocks. -/
def OwnC (w : World) (lo hi : Nat) (A : Option Addr) (n c : Nat) (xs : List (Int × Int)) : Prop :=
  xs.length = n ∧ w.ownsRow lo 92 2 (.slice A n c) n (flatC xs) ∧ (∀ k, (Value.slice A n c).ownBlock = some k → k < hi) ∧ hi ≤ w.heap.size
section
variable {w w' : World} {lo hi B B' b o : Nat} {A : Option Addr} {n c : Nat} {x : Int × Int} {xs : List (Int × Int)}
theorem CAt.next (h : CAt w b o x) (hb : Below B' w w') (hlt : b < B') : CAt w' b o x := ⟨(hb.cell (p := ⟨b, o, none⟩) hlt).trans h.1, (hb.cell (p := ⟨b, o + 1, none⟩) hlt).trans h.2⟩
theorem InC.next (h : InC w B A n xs) (hb : Below B' w w') (hB : B ≤ B') : InC w' B A n xs := ⟨h.1, fun j x hj => by
  obtain ⟨b, off, e, hlt, hs⟩ := h.2 j x hj
  exact ⟨b, off, e, hlt, hs.next hb (by omega)⟩⟩
theorem InC.more (h : InC w B A n xs) (hB : B ≤ B') : InC w B' A n xs := ⟨h.1, fun j x hj => by
  obtain ⟨b, off, e, hlt, hs⟩ := h.2 j x hj
  exact ⟨b, off, e, by omega, hs⟩⟩
theorem InC.drew (h : InC w B A n xs) : InC w.drew B A n xs := h
theorem InC.out (h : InC w B A n xs) (ho : Out lo hi w w') (hB : B ≤ lo) (hs : B ≤ w.heap.size) : InC w' B A n xs := h.next (ho.below hB hs) (Nat.le_refl _)
theorem InC.call {w1 : World} (h : InC w B A n xs) (hB : B ≤ w.heap.size) (hb : Below w.drew.heap.size w.drew w1) : InC w1 B A n xs := h.next (bstep hb) hB
theorem InC.at_ (h : InC w B A n xs) {k : Nat} (hk : k < n) : ∃ b off x, A = some ⟨b, off, none⟩ ∧ b < B ∧ xs[k]? = some x ∧ w.cell? ⟨b, off + k * 2, none⟩ = some (.int .i64 x.1) ∧ w.cell? ⟨b, off + k * 2 + 1, none⟩ = some (.int .i64 x.2) := by
  have hk' : k < xs.length := by rw [h.1]; exact hk
  obtain ⟨b, off, e, hlt, hs⟩ := h.2 k xs[k] (List.getElem?_eq_getElem hk')
  exact ⟨b, off, xs[k], e, hlt, List.getElem?_eq_getElem hk', hs⟩
theorem OwnC.next (h : OwnC w lo hi A n c xs) (hb : Below w.heap.size w w') : OwnC w' lo hi A n c xs :=
  ⟨h.1, own_below h.2.1 hb, h.2.2.1, Nat.le_trans h.2.2.2 hb.size⟩
theorem OwnC.drew (h : OwnC w lo hi A n c xs) : OwnC w.drew lo hi A n c xs := h
theorem OwnC.out {lo' hi' : Nat} (h : OwnC w lo hi A n c xs) (ho : Out lo' hi' w w') (hd : hi' ≤ lo ∨ hi ≤ lo') : OwnC w' lo hi A n c xs := by
  refine ⟨h.1, ⟨h.2.1.1, ?_⟩, h.2.2.1, Nat.le_trans h.2.2.2 ho.size⟩
  rcases h.2.1.2 with h' | ⟨g, cap, cur, h1, h2, h3, h4⟩
  · exact .inl h'
  · refine .inr ⟨g, cap, cur, h1, h2, ?_, h4⟩
    have hg : g < hi := h.2.2.1 g (by rw [h1]; rfl)
    have hs := h.2.2.2
    rw [ho.block g (by omega) (by omega)]
    exact h3
theorem OwnC.inn (h : OwnC w lo hi A n c xs) : InC w hi A n xs := by
  refine ⟨h.1, fun j x hj => ?_⟩
  have hjl := (List.getElem?_eq_some_iff.1 hj).1
  rcases h.2.1.2 with ⟨h1, h2⟩ | ⟨g, cap, cur, h1, h2, h3, h4⟩
  · have := h.1; omega
  · have hA : A = some ⟨g, 0, none⟩ := by injection h1
    subst hA
    obtain ⟨e1, e2⟩ := flatC_at hj
    have hn := h.1
    exact ⟨g, 0, rfl, h.2.2.1 g rfl, by rw [Nat.zero_add, h.2.1.cellAt (j * 2) (by omega), e1], by rw [Nat.zero_add, h.2.1.cellAt (j * 2 + 1) (by omega), e2]⟩
theorem OwnC.of_own (h : w.ownsRow lo 92 2 (.slice A n c) n (flatC xs)) (hx : xs.length = n) : OwnC w lo w.heap.size A n c xs :=
  ⟨hx, h, fun k hk => (h.lt k hk).2, Nat.le_refl _⟩
theorem OwnC.less (h : OwnC w lo hi A n c xs) {lo' : Nat} (hl : lo' ≤ lo) : OwnC w lo' hi A n c xs := ⟨h.1, own_less h.2.1 hl, h.2.2⟩
theorem OwnC.wide (h : OwnC w lo hi A n c xs) {hi' : Nat} (hl : hi ≤ hi') (hs : hi' ≤ w.heap.size) : OwnC w lo hi' A n c xs := ⟨h.1, h.2.1, fun k hk => Nat.lt_of_lt_of_le (h.2.2.1 k hk) hl, hs⟩
theorem OwnC.all (h : OwnC w lo hi A n c xs) : InC w w.heap.size A n xs := h.inn.more h.2.2.2
end

/-! What came in. -/
section
variable {H : Type} {enc : TypeId × Value → H} {w : World} {held : Bool}
set_option maxRecDepth 100000 in
theorem cellsInstr : Tryz.prog.cellsOf 96 = 2 := by kernel_rfl
set_option maxRecDepth 100000 in
theorem Instr_cells {fuel : Nat} {cs : List Value} {x : DataW H × List MemPlace} (hc : cs.length = 2) (h : DataW.trod enc Tryz.prog w 0 (fun _ => true) held fuel 96 cs = some x) :
    ∃ y : Int × Int, cs = [.int .i64 y.1, .int .i64 y.2] ∧ (Lit.int .i64 y.1).wf = true ∧ (Lit.int .i64 y.2).wf = true := by
  match cs, hc with
  | [d0, d1], _ =>
    obtain ⟨y0, y1, m, h0, h1⟩ := cells2 Tryz.underlying96 (by kernel_rfl) h
    have h0' : DataW.trod enc Tryz.prog w 0 (fun _ => true) held m 2 [d0] = some y0 := h0
    have h1' : DataW.trod enc Tryz.prog w 0 (fun _ => true) held m 2 [d1] = some y1 := h1
    obtain ⟨z0, e0, _, k0⟩ := DataW.trod_int Tryz.underlying2 h0'
    obtain ⟨z1, e1, _, k1⟩ := DataW.trod_int Tryz.underlying2 h1'
    obtain rfl : d0 = .int .i64 z0 := by simpa using e0
    obtain rfl : d1 = .int .i64 z1 := by simpa using e1
    exact ⟨(z0, z1), rfl, k0, k1⟩
set_option maxRecDepth 100000 in
/-- An instruction that came in. -/
theorem instr_in {r : Reach} {b0 : Nat} {v : Value} {d : DataW H} {p : List MemPlace} (hv : Value.okWide Tryz.prog w r b0 96 v) (h : DataW.Trod enc Tryz.prog w 0 (fun _ => true) held 96 v d p) :
    ∃ y0 y1 : Int, v = .agg #[.int .i64 y0, .int .i64 y1] ∧ (Lit.int .i64 y0).wf = true ∧ (Lit.int .i64 y1).wf = true := by
  obtain ⟨cs, rfl, hsz⟩ := okWide_struct Tryz.underlying96 hv
  have h2 : cs.toList.length = 2 := by rw [cellsInstr] at hsz; simpa using hsz
  obtain ⟨fuel, hf⟩ := h
  have hf' : DataW.trod enc Tryz.prog w 0 (fun _ => true) held fuel 96 cs.toList = some (d, p) := by simpa [Value.cells] using hf
  obtain ⟨l⟩ := cs
  obtain ⟨y, e, k0, k1⟩ := Instr_cells h2 hf'
  have e' : l = [.int .i64 y.1, .int .i64 y.2] := e
  subst e'
  exact ⟨y.1, y.2, rfl, k0, k1⟩
set_option maxRecDepth 100000 in
/-- A list of instructions that came in. -/
theorem instrs_in {fuel : Nat} {v : Value} {x : DataW H × List MemPlace} (h : DataW.trod enc Tryz.prog w 0 (fun _ => true) held fuel 23 [v] = some x) :
    ∃ (A : Option Addr) (n c : Nat) (xs : List (Int × Int)), v = .slice A n c ∧ n ≤ maxLen ∧ InC w w.heap.size A n xs ∧ ∀ y ∈ xs, (Lit.int .i64 y.1).wf = true ∧ (Lit.int .i64 y.2).wf = true := by
  rcases open_slice Tryz.underlying23 h with ⟨hcs, _⟩ | ⟨a, len, cap, m, n, D, Pl, hcs, _, hl, hm, hmm, _, hx⟩
  · obtain rfl : v = .slice none 0 0 := by simpa using hcs
    exact ⟨none, 0, 0, [], rfl, Nat.zero_le _, ⟨rfl, fun j y hj => by simp at hj⟩, fun y hy => by simp at hy⟩
  · obtain rfl : v = .slice (some a) len cap := by simpa using hcs
    rw [cellsInstr] at hx
    have hm' : m = cap := by simpa using hmm
    obtain ⟨f, hf⟩ := choose_lt (α := Int × Int) (n := len) (p := fun i y => ((Lit.int .i64 y.1).wf = true ∧ (Lit.int .i64 y.2).wf = true) ∧
        w.cell? ((a.add (i * 2)).add 0) = some (.int .i64 y.1) ∧ w.cell? ((a.add (i * 2)).add 1) = some (.int .i64 y.2)) (fun i hi => by
      obtain ⟨cs', hc, ht⟩ := hx i (by omega)
      obtain ⟨_, hlen, hat⟩ := World.cells?_some hc
      obtain ⟨y, rfl, k0, k1⟩ := Instr_cells hlen ht
      exact ⟨y, ⟨k0, k1⟩, hat 0 (by omega), hat 1 (by omega)⟩)
    refine ⟨some a, len, cap, (List.range len).map f, rfl, by omega, ⟨by simp, fun j y hj => ?_⟩, fun y hy => ?_⟩
    · have hjl : j < len := by
        have := (List.getElem?_eq_some_iff.1 hj).1
        simpa using this
      obtain rfl : f j = y := by simpa [hjl] using hj
      obtain ⟨_, q0, q1⟩ := hf j hjl
      obtain ⟨_, g0, _⟩ := hf 0 (by omega)
      have hs : a.spot = none := by simpa [Addr.add] using World.cell?_spot g0
      obtain ⟨b, off, spot⟩ := a
      have hs' : spot = none := hs
      subst hs'
      rw [add_plain, add_plain] at q0 q1
      exact ⟨b, off, rfl, cell_lt q0, q0, q1⟩
    · obtain ⟨i, hi, rfl⟩ := List.mem_map.1 hy
      exact (hf i (by simpa using hi)).1
end
end Go.Proofs.YtffkdidgfeknkaaGreatDoor
