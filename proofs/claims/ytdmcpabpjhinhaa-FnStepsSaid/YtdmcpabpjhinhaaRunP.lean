/-
  Runs of code, told by numbers: step after step, the places of what is executed, how often each is, and the events. No conditions.
-/
import Derived.Test.YtdmcpabpjhinhaaStepP
namespace Go.Proofs.Ytdmcpabpjhinhaa
set_option linter.unusedVariables false
open Go.RowKit

/-- How a step of a config stops. -/
def outN (cs : List (Int × Int)) (st : List Int) (p : Int) : Int :=
  match cs[p.toNat]? with
  | none => 5
  | some x => if fitB x.1 (st.length : Int) = true then outO x.1 x.2 st else 5
/-- Variables, cells, stack and place. -/
abbrev Cf := List Int × List Int × List Int × Int
def nextN (cs : List (Int × Int)) (c : Cf) : Cf :=
  match cs[c.2.2.2.toNat]? with
  | none => c
  | some x => (varsO x.1 x.2 c.1 c.2.2.1, cellsO x.1 c.2.1 c.2.2.1, stO x.1 x.2 c.1 c.2.1 c.2.2.1, atO x.1 x.2 c.2.2.1 c.2.2.2)
def outC (cs : List (Int × Int)) (c : Cf) : Int := outN cs c.2.2.1 c.2.2.2
/-- The config that a step gives. -/
def behN (cs : List (Int × Int)) (c : Cf) : Cf := if outC cs c = 0 then nextN cs c else c
def CfC (c : Cf) : Prop := CfV c.1 c.2.1 c.2.2.1 c.2.2.2
def endO (o : Int) : Int := if o = 6 then 0 else o
/-- The last config, the places executed, and how a run with so much fuel ends. -/
def runN (cs : List (Int × Int)) : Nat → Cf → Cf × List Int × Int
  | 0, c => (c, [], 1)
  | f + 1, c => if outC cs c = 0 then ((runN cs f (nextN cs c)).1, c.2.2.2 :: (runN cs f (nextN cs c)).2.1, (runN cs f (nextN cs c)).2.2) else (c, [], endO (outC cs c))

section
variable {cs : List (Int × Int)} {vs zs st : List Int} {p : Int} {c : Cf} {f : Nat}
theorem outN_some {x : Int × Int} (h : cs[p.toNat]? = some x) : outN cs st p = if fitB x.1 (st.length : Int) = true then outO x.1 x.2 st else 5 := by unfold outN; rw [h]
theorem outN_beyond (h : (cs.length : Int) ≤ p) : outN cs st p = 5 := by
  unfold outN
  rw [List.getElem?_eq_none (by omega)]
theorem outN_fit {x : Int × Int} (h : cs[p.toNat]? = some x) (hf : fitB x.1 (st.length : Int) = true) : outN cs st p = outO x.1 x.2 st := by rw [outN_some h, if_pos hf]
theorem outN_unfit {x : Int × Int} (h : cs[p.toNat]? = some x) (hf : fitB x.1 (st.length : Int) = false) : outN cs st p = 5 := by rw [outN_some h, if_neg (by rw [hf]; simp)]
theorem nextN_some {x : Int × Int} (h : cs[p.toNat]? = some x) : nextN cs (vs, zs, st, p) = (varsO x.1 x.2 vs st, cellsO x.1 zs st, stO x.1 x.2 vs zs st, atO x.1 x.2 st p) := by
  unfold nextN; simp only; rw [h]
/-- A step that doesn't stop is one of an instruction for which the stack fits. -/
theorem outC_parts (h : outC cs c = 0) (hv : CfC c) : c.2.2.2 < cs.length ∧ ∃ x, cs[c.2.2.2.toNat]? = some x ∧ fitB x.1 (c.2.2.1.length : Int) = true ∧ outO x.1 x.2 c.2.2.1 = 0 := by
  unfold outC outN at h
  have h0 := hv.p0
  cases e : cs[c.2.2.2.toNat]? with
  | none => rw [e] at h; simp at h
  | some x =>
    rw [e] at h
    have hl := (List.getElem?_eq_some_iff.1 e).1
    simp only at h
    split at h
    · exact ⟨by omega, x, rfl, by assumption, h⟩
    · omega
theorem CfC.next (hv : CfC c) (hc : codeB cs = true) (h : outC cs c = 0) : CfC (nextN cs c) := by
  obtain ⟨h1, x, hx, hf, ho⟩ := outC_parts h hv
  obtain ⟨vs, zs, st, p⟩ := c
  rw [nextN_some hx]
  have hk := (codeB_parts hc).2.1
  have h1' : p < (cs.length : Int) := h1
  exact CfV.step hv (codeB_at hc hx) hf ho (by show p < 80; omega)
theorem runN_zero : runN cs 0 c = (c, [], 1) := rfl
theorem runN_go (h : outC cs c = 0) : runN cs (f + 1) c = ((runN cs f (nextN cs c)).1, c.2.2.2 :: (runN cs f (nextN cs c)).2.1, (runN cs f (nextN cs c)).2.2) := by
  show (if outC cs c = 0 then _ else _) = _
  rw [if_pos h]
theorem runN_stop (h : outC cs c ≠ 0) : runN cs (f + 1) c = (c, [], endO (outC cs c)) := by
  show (if outC cs c = 0 then _ else _) = _
  rw [if_neg h]
/-- What is executed are places of the code. -/
theorem runN_places (hc : codeB cs = true) : ∀ (f : Nat) (c : Cf), CfC c → (runN cs f c).2.1.length ≤ f ∧ ∀ k ∈ (runN cs f c).2.1, 0 ≤ k ∧ k < (cs.length : Int)
  | 0, c, hv => ⟨Nat.le_refl _, fun k hk => by cases hk⟩
  | f + 1, c, hv => by
    by_cases h : outC cs c = 0
    · rw [runN_go h]
      obtain ⟨h1, _⟩ := outC_parts h hv
      obtain ⟨i1, i2⟩ := runN_places hc f (nextN cs c) (hv.next hc h)
      refine ⟨by simp; omega, fun k hk => ?_⟩
      rcases List.mem_cons.1 hk with rfl | hk
      · exact ⟨hv.p0, h1⟩
      · exact i2 k hk
    · rw [runN_stop h]
      exact ⟨Nat.zero_le _, fun k hk => by cases hk⟩
theorem runN_valid (hc : codeB cs = true) : ∀ (f : Nat) (c : Cf), CfC c → CfC (runN cs f c).1
  | 0, c, hv => hv
  | f + 1, c, hv => by
    by_cases h : outC cs c = 0
    · rw [runN_go h]; exact runN_valid hc f _ (hv.next hc h)
    · rw [runN_stop h]; exact hv
end

/-- One more at a place. -/
def bump (l : List Int) (k : Int) : List Int := l.set k.toNat (l.getD k.toNat 0 + 1)
def countR (n : Nat) (ks : List Int) : List Int := ks.foldl bump (List.replicate n 0)
theorem bump_len (l : List Int) (k : Int) : (bump l k).length = l.length := by unfold bump; simp
theorem foldl_bump_len (ks : List Int) : ∀ l : List Int, (ks.foldl bump l).length = l.length := by
  induction ks with
  | nil => intro l; rfl
  | cons k ks ih => intro l; rw [List.foldl_cons, ih, bump_len]
theorem countR_len (n : Nat) (ks : List Int) : (countR n ks).length = n := by unfold countR; rw [foldl_bump_len]; simp
theorem bump_bound {l : List Int} {m k : Int} (h : ∀ x ∈ l, 0 ≤ x ∧ x ≤ m) (hm : 0 ≤ m) : ∀ x ∈ bump l k, 0 ≤ x ∧ x ≤ m + 1 := by
  intro x hx
  unfold bump at hx
  rcases List.mem_or_eq_of_mem_set hx with hx | rfl
  · have := h x hx; omega
  · rcases Nat.lt_or_ge k.toNat l.length with hl | hl
    · have := h _ (mem_getD hl); omega
    · rw [List.getD_eq_getElem?_getD, List.getElem?_eq_none hl]; simp; omega
theorem foldl_bump_bound (ks : List Int) : ∀ (l : List Int) (m : Int), (∀ x ∈ l, 0 ≤ x ∧ x ≤ m) → 0 ≤ m → ∀ x ∈ ks.foldl bump l, 0 ≤ x ∧ x ≤ m + ks.length := by
  induction ks with
  | nil => intro l m h hm x hx; have := h x hx; simpa using this
  | cons k ks ih =>
    intro l m h hm x hx
    rw [List.foldl_cons] at hx
    have := ih (bump l k) (m + 1) (bump_bound h hm) (by omega) x hx
    simp only [List.length_cons]
    omega
theorem countR_bound {n : Nat} {ks : List Int} : ∀ x ∈ countR n ks, 0 ≤ x ∧ x ≤ ks.length := by
  intro x hx
  have := foldl_bump_bound ks (List.replicate n 0) 0 (by intro y hy; have := List.eq_of_mem_replicate hy; omega) (Int.le_refl _) x hx
  omega
theorem countR_snoc (n : Nat) (ks : List Int) (k : Int) : countR n (ks ++ [k]) = bump (countR n ks) k := by unfold countR; rw [List.foldl_append]; rfl
/-- The events of the places executed. -/
def evR (cs : List (Int × Int)) (ks : List Int) : List Int := ks.flatMap fun k => match cs[k.toNat]? with | none => [] | some x => if x.1 = 9 then [x.2] else []
theorem evR_snoc (cs : List (Int × Int)) (ks : List Int) (k : Int) : evR cs (ks ++ [k]) = evR cs ks ++ (match cs[k.toNat]? with | none => [] | some x => if x.1 = 9 then [x.2] else []) := by
  unfold evR; rw [List.flatMap_append]; congr 1; simp
theorem evR_yes {cs : List (Int × Int)} {ks : List Int} {k : Int} {x : Int × Int} (h : cs[k.toNat]? = some x) (e : x.1 = 9) : evR cs (ks ++ [k]) = evR cs ks ++ [x.2] := by rw [evR_snoc, h]; simp only; rw [if_pos e]
theorem evR_no {cs : List (Int × Int)} {ks : List Int} {k : Int} {x : Int × Int} (h : cs[k.toNat]? = some x) (e : x.1 ≠ 9) : evR cs (ks ++ [k]) = evR cs ks := by rw [evR_snoc, h]; simp only; rw [if_neg e, List.append_nil]
theorem evR_len (cs : List (Int × Int)) (ks : List Int) : (evR cs ks).length ≤ ks.length := by
  induction ks with
  | nil => simp [evR]
  | cons k ks ih =>
    have e : evR cs (k :: ks) = (match cs[k.toNat]? with | none => [] | some x => if x.1 = 9 then [x.2] else []) ++ evR cs ks := by unfold evR; rw [List.flatMap_cons]
    rw [e, List.length_append, List.length_cons]
    split
    · simp; omega
    · split <;> simp <;> omega
end Go.Proofs.Ytdmcpabpjhinhaa
