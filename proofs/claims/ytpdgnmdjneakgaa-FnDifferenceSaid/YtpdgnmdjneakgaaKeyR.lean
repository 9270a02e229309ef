/-
  Rows of four numbers as keys of a map: their literals, and the map of the rows' numbers. Conditions: numbers that fit.
-/
import Derived.Test.YtpdgnmdjneakgaaMinQ
import Derived.WideKeyPair
import Derived.DeepKeys4
import Derived.OpenShut
namespace Go.Proofs.Ytpdgnmdjneakgaa
set_option linter.unusedVariables false
open Go.RowKit Go.ChangeShapes Go.WideShapes Go.WideMaps

theorem laidOutR : laidOutB Try.prog = true := by kernel_rfl
theorem cellsR : Try.prog.cellsOf 92 = 4 := by kernel_rfl
theorem arrR : ArrKey Try.prog 92 2 4 := ⟨Try.underlying92, by kernel_rfl, by kernel_rfl, cellsR⟩
theorem wideR : (match Try.prog.underlying 92 with | some (.array _ _) | some (.struct _) => true | _ => false) = true := by rw [Try.underlying92]
theorem typesR : ∃ m, Try.prog.types.size = m + 1 := ⟨Try.prog.types.size - 1, by
  have : 0 < Try.prog.types.size := of_decide_eq_true (by kernel_rfl)
  omega⟩
set_option maxRecDepth 100000 in
theorem lawR : KeyLaw Try.prog 92 := deep_law_laid laidOutR (m := 2) (by omega) (of_decide_eq_true (by kernel_rfl)) (by kernel_rfl) wideR
theorem keyedR : Maps.Keyed Try.prog 92 := Maps.Keyed.of_law lawR

theorem keyOf_quad {P : Program} {k e : TypeId} {q : IntKind} (A : ArrKey P k e 4) (he : P.underlying e = some (.int q)) (hsz : ∃ m, P.types.size = m + 1) {a b c d : Int} (wa : (Lit.int q a).wf = true) (wb : (Lit.int q b).wf = true) (wc : (Lit.int q c).wf = true) (wd : (Lit.int q d).wf = true) :
    keyOf P k (.agg #[.int q a, .int q b, .int q c, .int q d]) = some (.string (keyBytes [.int q a, .int q b, .int q c, .int q d])) := by
  have hkt := A.keyType hsz
  obtain ⟨m, hm⟩ := hsz
  unfold keyOf
  simp only [A.hu]
  rw [if_pos (by simp [hkt, Value.formed, A.hu, A.size]), hm]
  unfold Program.keyLits
  simp only [A.hu, Value.cells]
  rw [if_pos (by rw [A.size]; rfl), show List.range 4 = [0, 1, 2, 3] from rfl, List.mapM_cons, List.mapM_cons, List.mapM_cons, List.mapM_cons, List.mapM_nil]
  simp [A.one, Program.keyLits, he, wa, wb, wc, wd]

/-- A row of four numbers that fit, with the numbers between -1 and 1000. -/
def RowG (r : List Int) : Prop := r.length = 4 ∧ ∀ x ∈ r, -1 ≤ x ∧ x ≤ 1000000
/-- The literal of a row. -/
def kL (r : List Int) : Lit := .string (keyBytes (r.map (Lit.int .i64)))
theorem kL_key {r : List Int} (h : RowG r) : keyOf Try.prog 92 (.agg (r.map ic).toArray) = some (kL r) := by
  obtain ⟨h1, h2⟩ := h
  match r, h1 with
  | [a, b, c, d], _ =>
    have w : ∀ x ∈ [a, b, c, d], (Lit.int .i64 x).wf = true := fun x hx => WalkArith.wf_i64 (by have := h2 x hx; omega)
    exact keyOf_quad arrR Try.underlying2 typesR (w a (by simp)) (w b (by simp)) (w c (by simp)) (w d (by simp))
theorem ic_inj : ∀ {r s : List Int}, r.map ic = s.map ic → r = s
  | [], [], _ => rfl
  | [], b :: s, h => by cases h
  | a :: r, [], h => by cases h
  | a :: r, b :: s, h => by
    simp only [List.map_cons, List.cons.injEq] at h
    have h1 : a = b := by have := h.1; simpa [ic] using this
    rw [h1, ic_inj h.2]
set_option maxRecDepth 100000 in
theorem kL_inj {r s : List Int} (h : RowG r) (h' : RowG s) (e : kL r = kL s) : r = s := by
  have h1 := kL_key h
  rw [e] at h1
  have h2 := keyedR.inj h1 (kL_key h')
  injection h2 with h2
  have h3 := congrArg Array.toList h2
  exact ic_inj h3
theorem kL_lit (r : List Int) : WideAt.IsKeyLit (kL r) := trivial

set_option maxRecDepth 100000 in
theorem zeroR (w : World) : (zeroValue 2).run Try.prog w = .ok (.int .i64 0) w := by kernel_rfl
/-- Block b is the map of the numbers of a list's rows. -/
def NumR (w : World) (b : Nat) (L : List (List Int)) : Prop :=
  ∃ D : DataW Unit, w.ownsMap Try.prog 92 (plainElem Try.prog 2) b L.length D ∧ ∀ r, RowG r → Maps.has D (kL r) = decide (r ∈ L) ∧ (r ∈ L → D.atKey (kL r) (.lit (.int .i64 0)) = .lit (.int .i64 (L.idxOf r : Int)))
theorem numR_made (w : World) : NumR (w.alloc (.map #[] 0)) w.heap.size [] := ⟨.map [], World.ownsMap_made _ _ _ _, fun k _ => ⟨by simp [Maps.has_eq], fun h => by cases h⟩⟩
theorem numR_put {w : World} {D : DataW Unit} {b : Nat} {L : List (List Int)} {x : List Int} (h : ∀ r, RowG r → Maps.has D (kL r) = decide (r ∈ L) ∧ (r ∈ L → D.atKey (kL r) (.lit (.int .i64 0)) = .lit (.int .i64 (L.idxOf r : Int))))
    (hD : Maps.IsMap D) (hx : x ∉ L) (hg : RowG x) (h3 : w.ownsMap Try.prog 92 (plainElem Try.prog 2) b (L.length + 1) (D.put (kL x) (.lit (.int .i64 (L.length : Int))))) : NumR w b (L ++ [x]) := by
  refine ⟨_, by rw [List.length_append]; exact h3, fun k hk => ?_⟩
  by_cases e : k = x
  · subst e
    refine ⟨?_, fun _ => ?_⟩
    · rw [Maps.has_put_same (k := kL k) hD (kL_lit _)]; simp
    · rw [Maps.atKey_put_same (k := kL k) hD (kL_lit _), List.idxOf_append, if_neg hx]
      simp
  · have ne : kL k ≠ kL x := fun h' => e (kL_inj hk hg h')
    refine ⟨?_, fun hm => ?_⟩
    · rw [Maps.has_put_other ne, (h k hk).1]
      simp [e]
    · have hm' : k ∈ L := by rcases List.mem_append.1 hm with h' | h'; exact h'; simp at h'; exact absurd h' e
      rw [Maps.atKey_put_other ne, (h k hk).2 hm', List.idxOf_append, if_pos hm']
theorem NumR.kept {w w' : World} {b : Nat} {L : List (List Int)} {r : Option Nat} (h : NumR w b L) (hg : w.grownBy w' r) (hr : r ≠ some b) : NumR w' b L := by
  obtain ⟨D, h1, h2⟩ := h
  exact ⟨D, h1.kept hg (fun e => hr e.symm), h2⟩
theorem NumR.blk {w w' : World} {b : Nat} {L : List (List Int)} (h : NumR w b L) (hb : w'.heap[b]? = w.heap[b]?) : NumR w' b L := by
  obtain ⟨D, ⟨es, clock, h3, h4⟩, h2⟩ := h
  exact ⟨D, ⟨es, clock, hb.trans h3, h4⟩, h2⟩
theorem NumR.lt {w : World} {b : Nat} {L : List (List Int)} (h : NumR w b L) : b < w.heap.size := by obtain ⟨D, h1, _⟩ := h; exact h1.lt
theorem NumR.isMap {w : World} {b : Nat} {L : List (List Int)} (h : NumR w b L) : ∃ es cl, w.heap[b]? = some (.map es cl) := by obtain ⟨D, ⟨es, cl, h1, _⟩, _⟩ := h; exact ⟨es, cl, h1⟩
end Go.Proofs.Ytpdgnmdjneakgaa
