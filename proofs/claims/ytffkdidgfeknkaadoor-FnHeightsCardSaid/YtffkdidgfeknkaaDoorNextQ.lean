/-
  The config that the model's step makes, in memory: a block of the call's own that leads to three rows of the call's own. No conditions.
-/
import Derived.Test.YtffkdidgfeknkaaDoorNextO
namespace Go.Proofs.YtffkdidgfeknkaaDoor
set_option linter.unusedVariables false
open Go.RowKit

theorem OwnL.set {w : World} {lo hi n c i b : Nat} {zs : List Int} (h : OwnL w lo hi (some ⟨b, 0, none⟩) n c zs) (hi' : i < n) (v : Int) : OwnL (w.setCell ⟨b, i, none⟩ (.int .i64 v)) lo hi (some ⟨b, 0, none⟩) n c (zs.set i v) := by
  have := (h.2.1.stored i (.int .i64 v)).1
  refine ⟨by rw [List.length_set]; exact h.1, ?_, h.2.2.1, Nat.le_trans h.2.2.2 (by simp)⟩
  rw [show (zs.set i v).map ic = (zs.map ic).set i (.int .i64 v) from by rw [List.map_set]; rfl]
  exact this
/-- A config of the call's own: rows and the block apart. -/
def OutIs (w : World) (base g : Nat) (X : Option Addr) (cx : Nat) (X' : Option Addr) (cx' : Nat) (X2 : Option Addr) (cx2 : Nat) (vs zs st : List Int) (p : Int) : Prop :=
  ∃ l1 h1 l2 h2 l3 h3, BlkIs w g 131 #[.slice X 4 cx, .slice X' 8 cx', .slice X2 st.length cx2, .int .i64 p] ∧ OwnL w l1 h1 X 4 cx vs ∧ OwnL w l2 h2 X' 8 cx' zs ∧ OwnL w l3 h3 X2 st.length cx2 st ∧
    (base ≤ g ∧ base ≤ l1 ∧ base ≤ l2 ∧ base ≤ l3) ∧ (g < l1 ∨ h1 ≤ g) ∧ (g < l2 ∨ h2 ≤ g) ∧ (g < l3 ∨ h3 ≤ g) ∧ h1 ≤ l2 ∧ h2 ≤ l3 ∧ h1 ≤ l3
section
variable {w w' : World} {base g cx cx' cx2 : Nat} {X X' X2 : Option Addr} {vs zs st : List Int} {p : Int}
theorem OutIs.next (h : OutIs w base g X cx X' cx' X2 cx2 vs zs st p) (hb : Below w.heap.size w w') : OutIs w' base g X cx X' cx' X2 cx2 vs zs st p := by
  obtain ⟨l1, h1, l2, h2, l3, h3, hB, o1, o2, o3, r⟩ := h
  exact ⟨l1, h1, l2, h2, l3, h3, hB.next hb, o1.next hb, o2.next hb, o3.next hb, r⟩
theorem OutIs.drew (h : OutIs w base g X cx X' cx' X2 cx2 vs zs st p) : OutIs w.drew base g X cx X' cx' X2 cx2 vs zs st p := h
theorem OutIs.drewN {d : Nat} (h : OutIs w base g X cx X' cx' X2 cx2 vs zs st p) : OutIs (w.drewN d) base g X cx X' cx' X2 cx2 vs zs st p := h
theorem OutIs.blk (h : OutIs w base g X cx X' cx' X2 cx2 vs zs st p) : BlkIs w g 131 #[.slice X 4 cx, .slice X' 8 cx', .slice X2 st.length cx2, .int .i64 p] := by obtain ⟨_, _, _, _, _, _, hB, _⟩ := h; exact hB
theorem OutIs.ge (h : OutIs w base g X cx X' cx' X2 cx2 vs zs st p) : base ≤ g ∧ g < w.heap.size := by obtain ⟨_, _, _, _, _, _, hB, _, _, _, r, _⟩ := h; exact ⟨r.1, hB.lt⟩
/-- What is needed of it at the end. -/
theorem OutIs.rows (h : OutIs w base g X cx X' cx' X2 cx2 vs zs st p) : OwnL w base w.heap.size X 4 cx vs ∧ OwnL w base w.heap.size X' 8 cx' zs ∧ OwnL w base w.heap.size X2 st.length cx2 st := by
  obtain ⟨l1, h1, l2, h2, l3, h3, hB, o1, o2, o3, r, _⟩ := h
  exact ⟨(o1.less r.2.1).wide o1.2.2.2 (Nat.le_refl _), (o2.less r.2.2.1).wide o2.2.2.2 (Nat.le_refl _), (o3.less r.2.2.2).wide o3.2.2.2 (Nat.le_refl _)⟩
/-- What turns only elsewhere. -/
theorem OutIs.out {lo hi : Nat} (h : OutIs w base g X cx X' cx' X2 cx2 vs zs st p) (ho : Out lo hi w w') (hd : hi ≤ base) : OutIs w' base g X cx X' cx' X2 cx2 vs zs st p := by
  obtain ⟨l1, h1, l2, h2, l3, h3, hB, o1, o2, o3, r⟩ := h
  exact ⟨l1, h1, l2, h2, l3, h3, hB.out ho (by omega), o1.out ho (by omega), o2.out ho (by omega), o3.out ho (by omega), r⟩
theorem OutIs.place (h : OutIs w base g X cx X' cx' X2 cx2 vs zs st p) (p' : Int) : OutIs (w.setCell ⟨g, 3, none⟩ (.int .i64 p')) base g X cx X' cx' X2 cx2 vs zs st p' := by
  obtain ⟨l1, h1, l2, h2, l3, h3, hB, o1, o2, o3, r⟩ := h
  have ho : Out g (g + 1) w (w.setCell ⟨g, 3, none⟩ (.int .i64 p')) := out_set (Out.refl _ _ _) (by omega)
  exact ⟨l1, h1, l2, h2, l3, h3, hB.set 3 (.int .i64 p'), o1.out ho (by omega), o2.out ho (by omega), o3.out ho (by omega), r⟩
end
section
variable {w w' : World} {base g cx cx' cx2 : Nat} {X X' X2 : Option Addr} {vs zs st : List Int} {p : Int}
/-- A new row for the stack, behind all that was there when it was made. -/
theorem OutIs.stack {w0 : World} (h : OutIs w0 base g X cx X' cx' X2 cx2 vs zs st p) (hb : Below w0.heap.size w0 w) {Y : Option Addr} {cy : Nat} {st' : List Int} {h' : Nat} (o : OwnL w w0.heap.size h' Y st'.length cy st') :
    OutIs (w.setCell ⟨g, 2, none⟩ (.slice Y st'.length cy)) base g X cx X' cx' Y cy vs zs st' p := by
  have hge := h.ge
  obtain ⟨l1, h1, l2, h2, l3, h3, hB, o1, o2, o3, r⟩ := h.next hb
  have ho : Out g (g + 1) w (w.setCell ⟨g, 2, none⟩ (.slice Y st'.length cy)) := out_set (Out.refl _ _ _) (by omega)
  obtain ⟨l1', h1', l2', h2', l3', h3', hB0, o10, o20, o30, r0⟩ := h
  have e2 := o20.2.2.2
  have hB2 := hB0.next hb
  have q1 := o10.next hb
  have q2 := o20.next hb
  exact ⟨l1', h1', l2', h2', w0.heap.size, h', hB2.set 2 (.slice Y st'.length cy), q1.out ho (by omega), q2.out ho (by omega), o.out ho (by omega), ⟨r0.1.1, r0.1.2.1, r0.1.2.2.1, by omega⟩, r0.2.1, r0.2.2.1, by omega, r0.2.2.2.2.1, e2, o10.2.2.2⟩
theorem OutIs.vars (h : OutIs w base g X cx X' cx' X2 cx2 vs zs st p) {b i : Nat} (hX : X = some ⟨b, 0, none⟩) (hi : i < 4) (v : Int) : OutIs (w.setCell ⟨b, i, none⟩ (.int .i64 v)) base g X cx X' cx' X2 cx2 (vs.set i v) zs st p := by
  subst hX
  obtain ⟨l1, h1, l2, h2, l3, h3, hB, o1, o2, o3, r⟩ := h
  have hb := o1.2.1.lt b rfl
  have hb2 := o1.2.2.1 b rfl
  have ho : Out b (b + 1) w (w.setCell ⟨b, i, none⟩ (.int .i64 v)) := out_set (Out.refl _ _ _) (by omega)
  exact ⟨l1, h1, l2, h2, l3, h3, hB.far (by omega) i _, o1.set hi v, o2.out ho (by omega), o3.out ho (by omega), r⟩
theorem OutIs.cells (h : OutIs w base g X cx X' cx' X2 cx2 vs zs st p) {b i : Nat} (hX : X' = some ⟨b, 0, none⟩) (hi : i < 8) (v : Int) : OutIs (w.setCell ⟨b, i, none⟩ (.int .i64 v)) base g X cx X' cx' X2 cx2 vs (zs.set i v) st p := by
  subst hX
  obtain ⟨l1, h1, l2, h2, l3, h3, hB, o1, o2, o3, r⟩ := h
  have hb := o2.2.1.lt b rfl
  have hb2 := o2.2.2.1 b rfl
  have ho : Out b (b + 1) w (w.setCell ⟨b, i, none⟩ (.int .i64 v)) := out_set (Out.refl _ _ _) (by omega)
  exact ⟨l1, h1, l2, h2, l3, h3, hB.far (by omega) i _, o1.out ho (by omega), o2.set hi v, o3.out ho (by omega), r⟩
/-- A row of numbers of the call's own that is not empty. -/
theorem OwnL.at0 {lo hi n c : Nat} {A : Option Addr} {l : List Int} (h : OwnL w lo hi A n c l) (hn : 0 < n) : ∃ b, A = some ⟨b, 0, none⟩ ∧ (∀ i, i < n → w.cell? ⟨b, i, none⟩ = some (.int .i64 (l.getD i 0))) ∧ ∀ i, w.frozen? ⟨b, i, none⟩ = false := by
  rcases h.2.1.2 with ⟨h1, h2⟩ | ⟨b, cap, cur, h1, h2, h3, h4⟩
  · omega
  · injection h1 with e1 e2 e3
    subst e1
    refine ⟨b, rfl, fun i hi' => ?_, fun i => h.2.1.frozenAt i⟩
    have hc := h.2.1.cellAt i (by omega)
    rw [List.getElem?_map, some_getD (by rw [h.1]; omega)] at hc
    exact hc
theorem OutIs.row0 (h : OutIs w base g X cx X' cx' X2 cx2 vs zs st p) : ∃ b, X = some ⟨b, 0, none⟩ ∧ (∀ i, i < 4 → w.cell? ⟨b, i, none⟩ = some (.int .i64 (vs.getD i 0))) ∧ ∀ i, w.frozen? ⟨b, i, none⟩ = false := h.rows.1.at0 (by omega)
theorem OutIs.row1 (h : OutIs w base g X cx X' cx' X2 cx2 vs zs st p) : ∃ b, X' = some ⟨b, 0, none⟩ ∧ (∀ i, i < 8 → w.cell? ⟨b, i, none⟩ = some (.int .i64 (zs.getD i 0))) ∧ ∀ i, w.frozen? ⟨b, i, none⟩ = false := h.rows.2.1.at0 (by omega)
end
theorem wsub1 {n j : Nat} (h : n = j + 1) (hn : n ≤ 6) : IntKind.i64.wrap ((n : Int) - 1) = (j : Int) := by
  rw [h, show ((j + 1 : Nat) : Int) - 1 = j by omega]; exact IntWalk.i64_in _ (by omega)
theorem wsub2 {n j : Nat} (h : n = j + 2) (hn : n ≤ 6) : IntKind.i64.wrap ((n : Int) - 2) = (j : Int) := by
  rw [h, show ((j + 2 : Nat) : Int) - 2 = j by omega]; exact IntWalk.i64_in _ (by omega)
theorem InL.cut {w : World} {B n j : Nat} {A : Option Addr} {zs : List Int} (h : InL w B A n zs) (hj : j ≤ n) : InL w B A j (zs.take j) := by
  refine ⟨by rw [List.length_take, h.1]; omega, fun i hi => ?_⟩
  rw [List.length_map, List.length_take] at hi
  obtain ⟨b, off, e, hb, hc⟩ := h.2 i (by rw [List.length_map]; omega)
  exact ⟨b, off, e, hb, by rw [hc, List.getElem?_map, List.getElem?_map, List.getElem?_take_of_lt (by omega)]⟩
/-- What a step of the model gives. -/
def NextR (vs zs st : List Int) (p o : Int) (w : World) : Ending → World → Prop := fun e w' =>
  ∃ X cx X' cx' X2 cx2, e = .returned (.tuple #[.agg #[.slice X 4 cx, .slice X' 8 cx', .slice X2 st.length cx2, .int .i64 p], .int .i64 o]) ∧ OwnL w' w.heap.size w'.heap.size X 4 cx vs ∧ OwnL w' w.heap.size w'.heap.size X' 8 cx' zs ∧ OwnL w' w.heap.size w'.heap.size X2 st.length cx2 st ∧ Below w.heap.size w w'
theorem OutIs.done {w w' : World} {base g cx cx' cx2 : Nat} {X X' X2 : Option Addr} {vs zs st : List Int} {p : Int} (h : OutIs w base g X cx X' cx' X2 cx2 vs zs st p) (ho : Out g (g + 1) w w') {Y : Option Addr} {cy : Nat} {st' : List Int} {p' : Int} {h' : Nat} (hB : BlkIs w' g 131 #[.slice X 4 cx, .slice X' 8 cx', .slice Y st'.length cy, .int .i64 p']) (o : OwnL w' w.heap.size h' Y st'.length cy st') :
    OutIs w' base g X cx X' cx' Y cy vs zs st' p' := by
  have hge := h.ge
  obtain ⟨l1, h1, l2, h2, l3, h3, hB0, o1, o2, o3, r⟩ := h
  have e1 := o1.2.2.2
  have e2 := o2.2.2.2
  exact ⟨l1, h1, l2, h2, w.heap.size, h', hB, o1.out ho (by omega), o2.out ho (by omega), o, ⟨r.1.1, r.1.2.1, r.1.2.2.1, by omega⟩, r.2.1, r.2.2.1, by omega, r.2.2.2.2.1, e2, e1⟩
theorem Out.grow_new {lo hi : Nat} {w w1 w2 : World} {r : Option Nat} (h : Out lo hi w w1) (hg : w1.grownBy w2 r) (hr : ∀ k, r = some k → w.heap.size ≤ k) : Out lo hi w w2 :=
  ⟨hg.os.trans h.os, hg.tape.trans h.tape, hg.output.trans h.output, Nat.le_trans h.size hg.size, fun k hk hn => (hg.block k (Nat.lt_of_lt_of_le hk h.size) (fun e => by have := hr k e.symm; omega)).trans (h.block k hk hn)⟩
theorem cell_one_at (w : World) (x : Value) (t : TypeId) (g : Nat) (hg : g = w.heap.size) : ∀ j u, [x][j]? = some u → (w.alloc (.cells #[x] t)).cell? ((⟨g, 0, none⟩ : Addr).add j) = some u := by
  subst hg
  intro j u hj
  match j, hj with
  | 0, hj => simp at hj; subst hj; simp [Addr.add]
theorem own_cons {w : World} {base n : Nat} {A : Option Addr} {c : Nat} {l : List Int} {x : Int} (h : w.ownsRow base 2 1 (.slice A n c) n (l.map ic ++ [.int .i64 x])) : OwnL w base w.heap.size A n c (l ++ [x]) := by
  refine OwnL.of_own ?_
  have : (l ++ [x]).map ic = l.map ic ++ [.int .i64 x] := by rw [List.map_append]; rfl
  rw [this]; exact h
/-- .. of an operation for which the stack fits. -/
def NextB (op a : Int) (vs zs st : List Int) (p : Int) (w : World) : Ending → World → Prop :=
  if outO op a st = 0 then NextR (varsO op a vs st) (cellsO op zs st) (stO op a vs zs st) (atO op a st p) 0 w else NextR vs zs st p (outO op a st) w
theorem nextB_done {op a : Int} {vs zs st : List Int} {p : Int} {w : World} (h : outO op a st = 0) : NextB op a vs zs st p w = NextR (varsO op a vs st) (cellsO op zs st) (stO op a vs zs st) (atO op a st p) 0 w := if_pos h
theorem nextB_stop {op a o : Int} {vs zs st : List Int} {p : Int} {w : World} (h : outO op a st = o) (ho : o ≠ 0) : NextB op a vs zs st p w = NextR vs zs st p o w := by
  subst h; exact if_neg ho
end Go.Proofs.YtffkdidgfeknkaaDoor
