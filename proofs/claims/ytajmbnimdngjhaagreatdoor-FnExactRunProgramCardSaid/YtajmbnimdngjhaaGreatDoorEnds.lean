/-
  How a statement of a tree ends, whatever follows it: pure. Conditions: none.
-/
import Derived.Test.YtajmbnimdngjhaaGreatDoorTree
namespace Go.Proofs.YtajmbnimdngjhaaGreatDoor
set_option linter.unusedVariables false

/-- A statement goes from one state to another: it ends the run so, or the run goes on from there. -/
def Ends (fuel : Nat) (t : Tr) (s : RS) (o : Int) (s1 : RS) : Prop :=
  (o = 0 ∧ ∀ r o' s', Go fuel r s1 o' s' → Go fuel (t :: r) s o' s') ∨ (o ≠ 0 ∧ ∀ r, Go fuel (t :: r) s o s1)
section
variable {fuel : Nat} {x : S8} {t a b : Tr} {s s1 s2 : RS} {o : Int}
theorem Ends.go (h : Ends fuel t s o s1) : Go fuel [t] s o s1 := by
  rcases h with ⟨rfl, h⟩ | ⟨_, h⟩
  · exact h [] 0 s1 (.done s1)
  · exact h []
theorem ends_seq_stop (hk : x.k = 1) (h : Ends fuel a s o s1) (ho : o ≠ 0) : Ends fuel (.two x a b) s o s1 := by
  rcases h with ⟨e, _⟩ | ⟨_, h⟩
  · exact absurd e ho
  · exact .inr ⟨ho, fun r => .seq hk (h (b :: r))⟩
theorem ends_seq (hk : x.k = 1) (h : Ends fuel a s 0 s1) (h2 : Ends fuel b s1 o s2) : Ends fuel (.two x a b) s o s2 := by
  rcases h with ⟨_, h⟩ | ⟨e, _⟩
  · rcases h2 with ⟨rfl, h2⟩ | ⟨e, h2⟩
    · exact .inl ⟨rfl, fun r o' s' g => .seq hk (h _ _ _ (h2 _ _ _ g))⟩
    · exact .inr ⟨e, fun r => .seq hk (h _ _ _ (h2 r))⟩
  · exact absurd rfl e
theorem ends_fuel (hk : t.top.k ≠ 1) (hn : s.n = fuel) : Ends fuel t s 1 s := .inr ⟨by decide, fun r => .fuel hk hn⟩
theorem ends_stop (hk : t.top.k ≠ 1) (hn : s.n ≠ fuel) (h : stepS t.top s.more = (o, s1)) (ho : o ≠ 0) : Ends fuel t s o s1 := .inr ⟨ho, fun r => .stop hk hn h ho⟩
theorem ends_leaf (hk : x.k ≠ 1) (hn : s.n ≠ fuel) (h : stepS x s.more = (0, s1)) : Ends fuel (.leaf x) s 0 (nextS (.leaf x) s1).2 := .inl ⟨rfl, fun r o' s' g => .step (t := .leaf x) hk hn h g⟩
theorem step_plain (h : x.k = 7 ∨ x.k = 8) : stepS x s = (0, s) := by
  unfold stepS
  have e : ¬ (x.k = 3 ∨ x.k = 4) ∧ ¬ (x.k = 2 ∨ x.k = 4) ∧ ¬ x.k = 2 ∧ ¬ x.k = 3 ∧ ¬ x.k = 4 ∧ ¬ x.k = 6 := by omega
  rw [if_neg (fun q => e.1 q.1), if_neg (fun q => e.2.1 q.1), if_neg e.2.2.1, if_neg e.2.2.2.1, if_neg e.2.2.2.2.1, if_neg (fun q => e.2.2.2.2.2 q.1)]
theorem ends_then (hk : x.k = 7) (hn : s.n ≠ fuel) (hc : 0 ≤ numS s.v x.s) (h : Ends fuel a s.more o s1) : Ends fuel (.two x a b) s o s1 := by
  have key : ∀ r o' s', Go fuel (a :: r) s.more o' s' → Go fuel (.two x a b :: r) s o' s' := fun r o' s' g => .step (t := .two x a b) (show x.k ≠ 1 by omega) hn (step_plain (.inl hk)) (by simp only [nextS]; rw [if_pos (show 0 ≤ numS s.more.v x.s from hc)]; exact g)
  rcases h with ⟨rfl, h⟩ | ⟨e, h⟩
  · exact .inl ⟨rfl, fun r o' s' g => key _ _ _ (h _ _ _ g)⟩
  · exact .inr ⟨e, fun r => key _ _ _ (h r)⟩
theorem ends_else (hk : x.k = 7) (hn : s.n ≠ fuel) (hc : ¬ 0 ≤ numS s.v x.s) (h : Ends fuel b s.more o s1) : Ends fuel (.two x a b) s o s1 := by
  have key : ∀ r o' s', Go fuel (b :: r) s.more o' s' → Go fuel (.two x a b :: r) s o' s' := fun r o' s' g => .step (t := .two x a b) (show x.k ≠ 1 by omega) hn (step_plain (.inl hk)) (by simp only [nextS]; rw [if_neg (show ¬ 0 ≤ numS s.more.v x.s from hc)]; exact g)
  rcases h with ⟨rfl, h⟩ | ⟨e, h⟩
  · exact .inl ⟨rfl, fun r o' s' g => key _ _ _ (h _ _ _ g)⟩
  · exact .inr ⟨e, fun r => key _ _ _ (h r)⟩
theorem ends_out (hk : x.k = 8) (hn : s.n ≠ fuel) (hc : ¬ 0 ≤ numS s.v x.s) : Ends fuel (.one x a) s 0 s.more :=
  .inl ⟨rfl, fun r o' s' g => .step (t := .one x a) (show x.k ≠ 1 by omega) hn (step_plain (.inr hk)) (by simp only [nextS]; rw [if_neg (show ¬ 0 ≤ numS s.more.v x.s from hc)]; exact g)⟩
/-- A loop comes round again. -/
def Rounds (fuel : Nat) (t : Tr) (s s1 : RS) : Prop := ∀ r o' s', Go fuel (t :: r) s1 o' s' → Go fuel (t :: r) s o' s'
theorem rounds_in (hk : x.k = 8) (hn : s.n ≠ fuel) (hc : 0 ≤ numS s.v x.s) : ∀ r o' s', Go fuel (a :: .one x a :: r) s.more o' s' → Go fuel (.one x a :: r) s o' s' :=
  fun r o' s' g => .step (t := .one x a) (show x.k ≠ 1 by omega) hn (step_plain (.inr hk)) (by simp only [nextS]; rw [if_pos (show 0 ≤ numS s.more.v x.s from hc)]; exact g)
theorem rounds_one (hk : x.k = 8) (hn : s.n ≠ fuel) (hc : 0 ≤ numS s.v x.s) (h : Ends fuel a s.more 0 s1) : Rounds fuel (.one x a) s s1 := by
  rcases h with ⟨_, h⟩ | ⟨e, _⟩
  · exact fun r o' s' g => rounds_in hk hn hc _ _ _ (h _ _ _ g)
  · exact absurd rfl e
theorem ends_in (hk : x.k = 8) (hn : s.n ≠ fuel) (hc : 0 ≤ numS s.v x.s) (h : Ends fuel a s.more o s1) (ho : o ≠ 0) : Ends fuel (.one x a) s o s1 := by
  rcases h with ⟨e, _⟩ | ⟨_, h⟩
  · exact absurd e ho
  · exact .inr ⟨ho, fun r => rounds_in hk hn hc _ _ _ (h _)⟩
theorem Rounds.refl : Rounds fuel t s s := fun _ _ _ g => g
theorem Rounds.trans (h : Rounds fuel t s s1) (k : Rounds fuel t s1 s2) : Rounds fuel t s s2 := fun r o' s' g => h _ _ _ (k _ _ _ g)
theorem Rounds.ends (h : Rounds fuel t s s1) (k : Ends fuel t s1 o s2) : Ends fuel t s o s2 := by
  rcases k with ⟨rfl, k⟩ | ⟨e, k⟩
  · exact .inl ⟨rfl, fun r o' s' g => h _ _ _ (k _ _ _ g)⟩
  · exact .inr ⟨e, fun r => h _ _ _ (k r)⟩
end
end Go.Proofs.YtajmbnimdngjhaaGreatDoor
