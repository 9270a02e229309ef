/-
  What a run of a program gives: pure. Conditions: none.
-/
import Derived.Test.YtajmbnimdngjhaaGreatDoorExeR
import Derived.Test.YtajmbnimdngjhaaGreatDoorPgmV
import Derived.Test.YtajmbnimdngjhaaGreatDoorStV
import Derived.Test.YtajmbnimdngjhaaGreatDoorBodyI
namespace Go.Proofs.YtajmbnimdngjhaaGreatDoor
set_option linter.unusedVariables false

theorem nextR_good {fuel : Nat} {t : Tr} {s : RS} (h : GoodR fuel s) (hm : s.e.length + 1 ≤ s.n) : GoodR fuel (nextS t s).2 := by
  cases t with
  | leaf x =>
    simp only [nextS]
    split
    · exact ⟨⟨h.g.lv, h.g.lc, h.g.v, h.g.c⟩, by show (s.e ++ [x.e]).length ≤ s.n; rw [List.length_append]; exact hm, h.n, h.f⟩
    · exact h
  | one x a => exact h
  | two x a b => exact h
theorem Go.good {fuel : Nat} {ts : List Tr} {s s' : RS} {o : Int} (h : Go fuel ts s o s') : GoodR fuel s → GoodR fuel s' := by
  induction h with
  | done s => exact id
  | seq _ _ ih => exact ih
  | fuel _ _ => exact id
  | stop hk hn hs ho => exact fun g => g.step hn hs
  | @step t r s s1 s' o hk hn hs _ ih =>
    refine fun g => ih (nextR_good (g.step hn hs) ?_)
    have h3 := stepS_n t.top s.more
    have h4 := stepS_e t.top s.more
    rw [hs] at h3 h4
    have := g.e
    show s1.e.length + 1 ≤ s1.n
    rw [h3, h4]
    show s.e.length + 1 ≤ s.n + 1
    omega
/-- What a run of a program gives: how it ends, its last state, whether the program, the state and the fuel are valid. -/
def RunIs (ts : List (Int × List Int)) (xs : List S8) (us : List (Int × List Int)) (vs zs : List Int) (f : Int) (o : Int) (s : RS) (ok : Bool) : Prop :=
  (progB ts xs us = true ∧ stB vs zs = true ∧ (0 ≤ f ∧ f ≤ 2000) ∧ ok = true ∧ ∃ t, xs = flatT t ∧ WfT t ∧ (∀ x ∈ flatT t, stmtB x = true) ∧ (flatT t).length ≤ 30 ∧ Go f.toNat [t] ⟨vs, zs, [], 0⟩ o s ∧ GoodR f.toNat ⟨vs, zs, [], 0⟩ ∧ GoodR f.toNat s) ∨
  (¬ (progB ts xs us = true ∧ stB vs zs = true ∧ 0 ≤ f ∧ f ≤ 2000) ∧ ok = false ∧ o = 0 ∧ s = ⟨[], [], [], 0⟩)
theorem prog_body {ts us : List (Int × List Int)} {xs : List S8} (h : progB ts xs us = true) : bodyB xs = true := by
  unfold progB at h
  simp only [Bool.and_eq_true] at h
  exact h.1.2
theorem run_exists (ts : List (Int × List Int)) (xs : List S8) (us : List (Int × List Int)) (vs zs : List Int) (f : Int) : ∃ o s ok, RunIs ts xs us vs zs f o s ok := by
  by_cases h : progB ts xs us = true ∧ stB vs zs = true ∧ 0 ≤ f ∧ f ≤ 2000
  · obtain ⟨h1, h2, h3, h4⟩ := h
    obtain ⟨hl, hok, hend⟩ := bodyB_parts (prog_body h1)
    obtain ⟨t, rfl, hw⟩ := body_tree hend
    have hst := h2
    unfold stB at hst
    rw [Bool.and_eq_true] at hst
    have a := numsB_parts hst.1
    have b := numsB_parts hst.2
    have g : GoodR f.toNat ⟨vs, zs, [], 0⟩ := ⟨⟨a.1, b.1, a.2, b.2⟩, Nat.le_refl _, Nat.zero_le _, by omega⟩
    obtain ⟨o, s, hg⟩ := go_exists f.toNat 30 _ [t] ⟨vs, zs, [], 0⟩ (Nat.le_refl _) (Nat.zero_le _) (fun u hu => by obtain rfl := List.mem_singleton.1 hu; exact ⟨hw, hl.2⟩)
    exact ⟨o, s, true, .inl ⟨h1, h2, ⟨h3, h4⟩, rfl, t, rfl, hw, hok, hl.2, hg, g, hg.good g⟩⟩
  · exact ⟨0, _, false, .inr ⟨h, rfl, rfl, rfl⟩⟩
theorem RunIs.small {ts us : List (Int × List Int)} {xs : List S8} {vs zs : List Int} {f o : Int} {s : RS} {ok : Bool} (h : RunIs ts xs us vs zs f o s ok) : s.v.length ≤ 4 ∧ s.c.length ≤ 8 ∧ s.e.length ≤ 2000 := by
  rcases h with ⟨_, _, _, _, t, _, _, _, _, _, _, g⟩ | ⟨_, _, _, rfl⟩
  · have := g.e; have := g.n; have := g.f; exact ⟨by rw [g.g.lv]; omega, by rw [g.g.lc]; omega, by omega⟩
  · exact ⟨by simp, by simp, by simp⟩
end Go.Proofs.YtajmbnimdngjhaaGreatDoor
