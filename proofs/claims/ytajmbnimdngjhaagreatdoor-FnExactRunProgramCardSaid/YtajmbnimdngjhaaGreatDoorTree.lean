/-
  Bodies as trees, and the machine that the model runs them by: pure. Conditions: none.
-/
import Derived.Test.YtajmbnimdngjhaaGreatDoorHold
import Derived.Test.YtajmbnimdngjhaaGreatDoorBody
namespace Go.Proofs.YtajmbnimdngjhaaGreatDoor
set_option linter.unusedVariables false

/-- A statement: an element and the statements behind it. -/
inductive Tr where
  | leaf (x : S8)
  | one (x : S8) (a : Tr)
  | two (x : S8) (a b : Tr)
def Tr.top : Tr → S8
  | .leaf x => x
  | .one x _ => x
  | .two x _ _ => x
def flatT : Tr → List S8
  | .leaf x => [x]
  | .one x a => x :: flatT a
  | .two x a b => x :: (flatT a ++ flatT b)
def WfT : Tr → Prop
  | .leaf x => below x.k = 0
  | .one x a => below x.k = 1 ∧ WfT a
  | .two x a b => below x.k = 2 ∧ WfT a ∧ WfT b
theorem flatT_pos (t : Tr) : 1 ≤ (flatT t).length := by cases t <;> simp [flatT]
theorem parseT : ∀ (n : Nat) (xs : List S8) (m j : Nat), xs.length ≤ n → 0 < m → endL m xs j ≠ -1 → ∃ t r, xs = flatT t ++ r ∧ WfT t ∧ endL m xs j = endL (m - 1) r (j + (flatT t).length)
  | n, [], m, j, _, hm, h => by
    cases m with
    | zero => omega
    | succ m => exact absurd rfl h
  | 0, x :: xs, m, j, hl, _, _ => by simp at hl
  | n + 1, x :: xs, m, j, hl, hm, h => by
    have e : endL m (x :: xs) j = endL (m - 1 + below x.k) xs (j + 1) := by
      have := endL_next (xs := x :: xs) (m := m) (j := 0) (x := x) hm rfl
      cases m with
      | zero => omega
      | succ m => rfl
    rw [List.length_cons] at hl
    rw [e] at h
    have hb := below_le x.k
    rcases (by omega : below x.k = 0 ∨ below x.k = 1 ∨ below x.k = 2) with hk | hk | hk
    · exact ⟨.leaf x, xs, rfl, hk, by rw [e, hk]; rfl⟩
    · rw [hk] at h
      obtain ⟨a, r, h1, h2, h3⟩ := parseT n xs (m - 1 + 1) (j + 1) (by omega) (by omega) h
      refine ⟨.one x a, r, by rw [h1]; rfl, ⟨hk, h2⟩, ?_⟩
      rw [e, hk, h3]
      congr 1
      show _ = j + (flatT a).length.succ
      omega
    · rw [hk] at h
      obtain ⟨a, r, h1, h2, h3⟩ := parseT n xs (m - 1 + 2) (j + 1) (by omega) (by omega) h
      rw [h3] at h
      have hr : r.length ≤ n := by have := congrArg List.length h1; rw [List.length_append] at this; omega
      obtain ⟨b, r2, k1, k2, k3⟩ := parseT n r (m - 1 + 2 - 1) (j + 1 + (flatT a).length) hr (by omega) h
      refine ⟨.two x a b, r2, by rw [h1, k1]; simp [flatT], ⟨hk, h2, k2⟩, ?_⟩
      rw [e, hk, h3, k3]
      have e1 : (flatT (.two x a b)).length = 1 + (flatT a).length + (flatT b).length := by simp [flatT]; omega
      rw [e1]
      have e2 : m - 1 + 2 - 1 - 1 = m - 1 := by omega
      have e3 : j + 1 + (flatT a).length + (flatT b).length = j + (1 + (flatT a).length + (flatT b).length) := by omega
      rw [e2, e3]
theorem endL_flat : ∀ (t : Tr) (r : List S8) (m j : Nat), WfT t → 0 < m → endL m (flatT t ++ r) j = endL (m - 1) r (j + (flatT t).length)
  | .leaf x, r, m, j, h, hm => by
    cases m with
    | zero => omega
    | succ m =>
      show endL (m + below x.k) r (j + 1) = _
      rw [show below x.k = 0 from h]; rfl
  | .one x a, r, m, j, h, hm => by
    cases m with
    | zero => omega
    | succ m =>
      show endL (m + below x.k) (flatT a ++ r) (j + 1) = _
      rw [h.1, endL_flat a r (m + 1) (j + 1) h.2 (by omega)]
      congr 1
      show _ = j + (flatT a).length.succ
      omega
  | .two x a b, r, m, j, h, hm => by
    cases m with
    | zero => omega
    | succ m =>
      show endL (m + below x.k) (flatT a ++ flatT b ++ r) (j + 1) = _
      rw [h.1, List.append_assoc, endL_flat a _ (m + 2) (j + 1) h.2.1 (by omega), endL_flat b r (m + 2 - 1) _ h.2.2 (by omega)]
      have e1 : (flatT (.two x a b)).length = 1 + (flatT a).length + (flatT b).length := by simp [flatT]; omega
      rw [e1]
      congr 1
      omega
/-- A body is one statement. -/
theorem body_tree {xs : List S8} (h : endL 1 xs 0 = (xs.length : Int)) : ∃ t, xs = flatT t ∧ WfT t := by
  obtain ⟨t, r, h1, h2, h3⟩ := parseT xs.length xs 1 0 (Nat.le_refl _) (by omega) (by rw [h]; omega)
  refine ⟨t, ?_, h2⟩
  rw [h] at h3
  rw [show 1 - 1 = 0 from rfl, endL_done] at h3
  have hl := congrArg List.length h1
  rw [List.length_append] at hl
  have : r = [] := List.eq_nil_of_length_eq_zero (by omega)
  rw [h1, this, List.append_nil]

/-- A run on its way. -/
structure RS where
  v : List Int
  c : List Int
  e : List Int
  n : Nat
/-- What the step of an element does, and how it ends (0: it goes on). -/
def stepS (x : S8) (s : RS) : Int × RS :=
  if (x.k = 3 ∨ x.k = 4) ∧ ¬ (0 ≤ numS s.v x.i ∧ numS s.v x.i ≤ 7) then (2, s)
  else if (x.k = 2 ∨ x.k = 4) ∧ ¬ (-1000000000 ≤ numS s.v x.s ∧ numS s.v x.s ≤ 1000000000) then (4, s)
  else if x.k = 2 then (0, { s with v := s.v.set x.v.toNat (numS s.v x.s) })
  else if x.k = 3 then (0, { s with v := s.v.set x.v.toNat (s.c.getD (numS s.v x.i).toNat 0) })
  else if x.k = 4 then (0, { s with c := s.c.set (numS s.v x.i).toNat (numS s.v x.s) })
  else if x.k = 6 ∧ numS s.v x.s < 0 then (3, s)
  else (0, s)
/-- What is still to be executed behind the step of a statement. -/
def nextS (t : Tr) (s : RS) : List Tr × RS := match t with
  | .leaf x => ([], if x.k = 5 then { s with e := s.e ++ [x.e] } else s)
  | .one x a => (if 0 ≤ numS s.v x.s then [a, .one x a] else [], s)
  | .two x a b => (if 0 ≤ numS s.v x.s then [a] else [b], s)
def RS.more (s : RS) : RS := { s with n := s.n + 1 }
/-- A run from the statements that are still to be executed: how it ends (1: no fuel), and its last state. -/
inductive Go (fuel : Nat) : List Tr → RS → Int → RS → Prop
  | done (s : RS) : Go fuel [] s 0 s
  | seq {x : S8} {a b : Tr} {r : List Tr} {s s' : RS} {o : Int} : x.k = 1 → Go fuel (a :: b :: r) s o s' → Go fuel (.two x a b :: r) s o s'
  | fuel {t : Tr} {r : List Tr} {s : RS} : t.top.k ≠ 1 → s.n = fuel → Go fuel (t :: r) s 1 s
  | stop {t : Tr} {r : List Tr} {s s' : RS} {o : Int} : t.top.k ≠ 1 → s.n ≠ fuel → stepS t.top s.more = (o, s') → o ≠ 0 → Go fuel (t :: r) s o s'
  | step {t : Tr} {r : List Tr} {s s1 s' : RS} {o : Int} : t.top.k ≠ 1 → s.n ≠ fuel → stepS t.top s.more = (0, s1) → Go fuel ((nextS t s1).1 ++ r) (nextS t s1).2 o s' → Go fuel (t :: r) s o s'
theorem Go.det {fuel : Nat} {ts : List Tr} {s s' : RS} {o : Int} (h : Go fuel ts s o s') : ∀ {o2 : Int} {s2 : RS}, Go fuel ts s o2 s2 → o = o2 ∧ s' = s2 := by
  induction h with
  | done s => intro o2 s2 k; cases k; exact ⟨rfl, rfl⟩
  | seq hk _ ih =>
    intro o2 s2 k
    cases k with
    | seq _ k => exact ih k
    | fuel h1 => exact absurd hk h1
    | stop h1 => exact absurd hk h1
    | step h1 => exact absurd hk h1
  | fuel h1 h2 =>
    intro o2 s2 k
    cases k with
    | seq hk _ => exact absurd hk h1
    | fuel _ _ => exact ⟨rfl, rfl⟩
    | stop _ k2 => exact absurd h2 k2
    | step _ k2 => exact absurd h2 k2
  | stop h1 h2 h3 h4 =>
    intro o2 s2 k
    cases k with
    | seq hk _ => exact absurd hk h1
    | fuel _ k2 => exact absurd k2 h2
    | stop _ _ k3 _ => rw [h3] at k3; exact ⟨congrArg Prod.fst k3, congrArg Prod.snd k3⟩
    | step _ _ k3 _ => rw [h3] at k3; exact absurd (congrArg Prod.fst k3) h4
  | step h1 h2 h3 _ ih =>
    intro o2 s2 k
    cases k with
    | seq hk _ => exact absurd hk h1
    | fuel _ k2 => exact absurd k2 h2
    | stop _ _ k3 k4 => rw [h3] at k3; exact absurd (congrArg Prod.fst k3).symm k4
    | step _ _ k3 k4 => rw [h3] at k3; cases k3; exact ih k4
theorem Go.seq_inv {fuel : Nat} {x : S8} {a b : Tr} {r : List Tr} {s s' : RS} {o : Int} (h : Go fuel (.two x a b :: r) s o s') (hk : x.k = 1) : Go fuel (a :: b :: r) s o s' := by
  cases h with
  | seq _ k => exact k
  | fuel h1 => exact absurd hk h1
  | stop h1 => exact absurd hk h1
  | step h1 => exact absurd hk h1
theorem Go.fuel_inv {fuel : Nat} {t : Tr} {r : List Tr} {s s' : RS} {o : Int} (h : Go fuel (t :: r) s o s') (hk : t.top.k ≠ 1) (hn : s.n = fuel) : o = 1 ∧ s' = s := by
  have := Go.det h (Go.fuel hk hn); exact this
theorem Go.stop_inv {fuel : Nat} {t : Tr} {r : List Tr} {s s' s1 : RS} {o o1 : Int} (h : Go fuel (t :: r) s o s') (hk : t.top.k ≠ 1) (hn : s.n ≠ fuel) (hs : stepS t.top s.more = (o1, s1)) (ho : o1 ≠ 0) : o = o1 ∧ s' = s1 :=
  Go.det h (Go.stop hk hn hs ho)
theorem Go.step_inv {fuel : Nat} {t : Tr} {r : List Tr} {s s' s1 : RS} {o : Int} (h : Go fuel (t :: r) s o s') (hk : t.top.k ≠ 1) (hn : s.n ≠ fuel) (hs : stepS t.top s.more = (0, s1)) : Go fuel ((nextS t s1).1 ++ r) (nextS t s1).2 o s' := by
  cases h with
  | seq k _ => exact absurd k hk
  | fuel _ k => exact absurd k hn
  | stop _ _ k3 k4 => rw [hs] at k3; exact absurd (congrArg Prod.fst k3).symm k4
  | step _ _ k3 k4 => rw [hs] at k3; cases k3; exact k4
theorem stepS_n (x : S8) (s : RS) : (stepS x s).2.n = s.n := by
  unfold stepS
  repeat' split
  all_goals rfl
theorem nextS_n (t : Tr) (s : RS) : (nextS t s).2.n = s.n := by
  cases t <;> simp only [nextS]
  split <;> rfl
def szT (ts : List Tr) : Nat := (ts.map fun t => (flatT t).length).sum
theorem szT_cons (t : Tr) (r : List Tr) : szT (t :: r) = (flatT t).length + szT r := by simp [szT]
theorem szT_app (a b : List Tr) : szT (a ++ b) = szT a + szT b := by simp [szT]
theorem nextS_sz (t : Tr) (s : RS) : szT (nextS t s).1 ≤ 2 * (flatT t).length ∧ ∀ u ∈ (nextS t s).1, (flatT u).length ≤ (flatT t).length ∧ (WfT t → WfT u) := by
  cases t with
  | leaf x => exact ⟨by simp [nextS, szT], fun u hu => by simp [nextS] at hu⟩
  | one x a =>
    have e : (flatT (.one x a)).length = (flatT a).length + 1 := rfl
    by_cases h : 0 ≤ numS s.v x.s
    · simp only [nextS, if_pos h]
      refine ⟨by rw [szT_cons, szT_cons, e]; simp [szT]; omega, fun u hu => ?_⟩
      rcases List.mem_cons.1 hu with rfl | hu
      · exact ⟨by rw [e]; omega, fun w => w.2⟩
      · obtain rfl := List.mem_singleton.1 hu
        exact ⟨Nat.le_refl _, id⟩
    · simp only [nextS, if_neg h]
      exact ⟨by simp [szT], fun u hu => by simp at hu⟩
  | two x a b =>
    have e : (flatT (.two x a b)).length = (flatT a).length + (flatT b).length + 1 := by simp [flatT]
    by_cases h : 0 ≤ numS s.v x.s
    · simp only [nextS, if_pos h]
      refine ⟨by rw [szT_cons, e]; simp [szT]; omega, fun u hu => ?_⟩
      obtain rfl := List.mem_singleton.1 hu
      exact ⟨by rw [e]; omega, fun w => w.2.1⟩
    · simp only [nextS, if_neg h]
      refine ⟨by rw [szT_cons, e]; simp [szT]; omega, fun u hu => ?_⟩
      obtain rfl := List.mem_singleton.1 hu
      exact ⟨by rw [e]; omega, fun w => w.2.2⟩
/-- How far a run is from its end. -/
def farT (fuel M : Nat) (ts : List Tr) (s : RS) : Nat := (fuel - s.n) * (2 * M + 1) + szT ts
theorem farT_step {fuel M : Nat} {t : Tr} {r : List Tr} {s s1 : RS} (hs : s.n < fuel) (hM : (flatT t).length ≤ M) (h1 : s1.n = s.n + 1) : farT fuel M ((nextS t s1).1 ++ r) (nextS t s1).2 < farT fuel M (t :: r) s := by
  have h2 := (nextS_sz t s1).1
  have h3 := flatT_pos t
  unfold farT
  rw [szT_app, szT_cons, nextS_n, h1]
  obtain ⟨d, hd⟩ : ∃ d, fuel - s.n = d + 1 := ⟨fuel - s.n - 1, by omega⟩
  have : fuel - (s.n + 1) = d := by omega
  rw [hd, this, Nat.add_mul]
  omega
theorem go_exists (fuel M : Nat) : ∀ (g : Nat) (ts : List Tr) (s : RS), farT fuel M ts s ≤ g → s.n ≤ fuel → (∀ t ∈ ts, WfT t ∧ (flatT t).length ≤ M) → ∃ o s', Go fuel ts s o s' := by
  intro g
  induction g with
  | zero =>
    intro ts s hg hn hw
    cases ts with
    | nil => exact ⟨0, s, .done s⟩
    | cons t r => have := flatT_pos t; unfold farT at hg; rw [szT_cons] at hg; omega
  | succ g ih =>
    intro ts s hg hn hw
    cases ts with
    | nil => exact ⟨0, s, .done s⟩
    | cons t r =>
      by_cases hk : t.top.k = 1
      · cases t with
        | leaf x => have h := (hw _ (List.mem_cons_self ..)).1; simp only [WfT, below, Tr.top] at h hk; simp [hk] at h
        | one x a => have h := (hw _ (List.mem_cons_self ..)).1.1; simp only [below, Tr.top] at h hk; simp [hk] at h
        | two x a b =>
          have h := hw _ (List.mem_cons_self ..)
          have e : (flatT (.two x a b)).length = (flatT a).length + (flatT b).length + 1 := by simp [flatT]
          obtain ⟨o, s', k⟩ := ih (a :: b :: r) s (by unfold farT at hg ⊢; rw [szT_cons] at hg ⊢; rw [szT_cons]; omega) hn (by
            intro u hu
            rcases List.mem_cons.1 hu with rfl | hu
            · exact ⟨h.1.2.1, by omega⟩
            rcases List.mem_cons.1 hu with rfl | hu
            · exact ⟨h.1.2.2, by omega⟩
            · exact hw u (List.mem_cons_of_mem _ hu))
          exact ⟨o, s', .seq hk k⟩
      · by_cases hf : s.n = fuel
        · exact ⟨1, s, .fuel hk hf⟩
        · obtain ⟨⟨o, s1⟩, hs⟩ : ∃ p, stepS t.top s.more = p := ⟨_, rfl⟩
          by_cases ho : o = 0
          · subst ho
            have h := hw _ (List.mem_cons_self ..)
            have hn1 : s1.n = s.n + 1 := by have := stepS_n t.top s.more; rw [hs] at this; exact this
            obtain ⟨o, s', k⟩ := ih ((nextS t s1).1 ++ r) (nextS t s1).2 (by have := farT_step (fuel := fuel) (M := M) (t := t) (r := r) (s := s) (s1 := s1) (by omega) h.2 hn1; omega) (by rw [nextS_n, hn1]; omega) (by
              intro u hu
              rcases List.mem_append.1 hu with hu | hu
              · have := (nextS_sz t s1).2 u hu
                exact ⟨this.2 h.1, by omega⟩
              · exact hw u (List.mem_cons_of_mem _ hu))
            exact ⟨o, s', .step hk hf hs k⟩
          · exact ⟨o, s1, .stop hk hf hs ho⟩
/-- The numbers of a run are within the bounds of a state. -/
structure GoodS (s : RS) : Prop where
  lv : s.v.length = 4
  lc : s.c.length = 8
  v : ∀ z ∈ s.v, -1000000000 ≤ z ∧ z ≤ 1000000000
  c : ∀ z ∈ s.c, -1000000000 ≤ z ∧ z ≤ 1000000000
theorem GoodS.big {s : RS} (h : GoodS s) : BigV s.v := bigV_of h.v
theorem mem_set {l : List Int} {i : Nat} {y z : Int} (h : z ∈ l.set i y) : z = y ∨ z ∈ l := by
  rcases List.mem_or_eq_of_mem_set h with h | h
  · exact .inr h
  · exact .inl h
theorem stepS_good {x : S8} {s : RS} (h : GoodS s) : GoodS (stepS x s).2 := by
  unfold stepS
  split
  · exact h
  split
  · exact h
  rename_i h1 h2
  split
  · rename_i hk
    refine ⟨by simp [h.lv], h.lc, fun z hz => ?_, h.c⟩
    rcases mem_set hz with rfl | hz
    · exact Decidable.byContradiction fun hn => h2 ⟨.inl hk, hn⟩
    · exact h.v z hz
  split
  · refine ⟨by simp [h.lv], h.lc, fun z hz => ?_, h.c⟩
    rcases mem_set hz with rfl | hz
    · rw [List.getD_eq_getElem?_getD]
      cases e : s.c[(numS s.v x.i).toNat]? with
      | none => simp
      | some y => exact h.c y (List.mem_of_getElem? e)
    · exact h.v z hz
  split
  · rename_i hk
    refine ⟨h.lv, by simp [h.lc], h.v, fun z hz => ?_⟩
    rcases mem_set hz with rfl | hz
    · exact Decidable.byContradiction fun hn => h2 ⟨.inr hk, hn⟩
    · exact h.c z hz
  split
  · exact h
  · exact h
theorem nextS_good {t : Tr} {s : RS} (h : GoodS s) : GoodS (nextS t s).2 := by
  cases t with
  | leaf x =>
    simp only [nextS]
    split
    · exact ⟨h.lv, h.lc, h.v, h.c⟩
    · exact h
  | one x a => exact h
  | two x a b => exact h
theorem GoodS.more {s : RS} (h : GoodS s) : GoodS s.more := ⟨h.lv, h.lc, h.v, h.c⟩
end Go.Proofs.YtajmbnimdngjhaaGreatDoor
