/-
  Passes over annotated code, as lists: an instruction left out, idle jumps, threaded jumps. No conditions.
-/
import Derived.Test.YtglbkbdljjaioaaGreatPtsP
import Derived.Test.YtglbkbdljjaioaaGreatShiftP
namespace Go.Proofs.YtglbkbdljjaioaaGreat
set_option linter.unusedVariables false

/-- An instruction, and a point, behind an instruction k that is left out. -/
def subI (k : Int) (x : Int × Int) : Int × Int := if (x.1 = 5 ∨ x.1 = 6) ∧ k < x.2 then (x.1, x.2 - 1) else x
def subP (k : Int) (p : P2) : P2 := if k < p.a then ⟨p.a - 1, p.s⟩ else p
def leaveC (k : Nat) (xs : List (Int × Int)) : List (Int × Int) := (xs.take k ++ xs.drop (k + 1)).map (subI k)
def leaveP (k : Nat) (ps : List P2) : List P2 := ps.map (subP k)
theorem leaveC_len {k : Nat} {xs : List (Int × Int)} (h : k < xs.length) : (leaveC k xs).length = xs.length - 1 := by
  simp [leaveC]; omega
theorem leaveP_len (k : Nat) (ps : List P2) : (leaveP k ps).length = ps.length := by simp [leaveP]
theorem leaveP_at {k j : Nat} {ps : List P2} {p : P2} (h : ps[j]? = some p) : (leaveP k ps)[j]? = some (subP k p) := by simp [leaveP, h]
theorem subP_s (k : Int) (p : P2) : (subP k p).s = p.s := by unfold subP; split <;> rfl
/-- Whether there is a point at a place. -/
def ptB (ps : List P2) (k : Int) : Bool := ps.any fun p => decide (p.a = k)
theorem ptB_take_no {ps : List P2} {k : Int} {j : Nat} {p : P2} (h : ptB (ps.take j) k = false) (hp : ps[j]? = some p) (hn : p.a ≠ k) : ptB (ps.take (j + 1)) k = false := by
  rw [List.take_add_one, hp]
  unfold ptB at h ⊢
  rw [List.any_append, h]
  simp [hn]
theorem ptB_yes {ps : List P2} {k : Int} {j : Nat} {p : P2} (hp : ps[j]? = some p) (hn : p.a = k) : ptB ps k = true := by
  unfold ptB
  rw [List.any_eq_true]
  exact ⟨p, List.mem_of_getElem? hp, by simp [hn]⟩
theorem ptB_all {ps : List P2} {k : Int} {j : Nat} (h : ptB (ps.take j) k = false) (hj : ps.length ≤ j) : ptB ps k = false := by
  rwa [List.take_of_length_le hj] at h
/-- DropIdleJumps at an instruction, and at all instructions below n, the last one first. -/
def idleB (k : Nat) (xs : List (Int × Int)) (ps : List P2) : Bool := decide (1 < xs.length) && decide (xs[k]? = some (5, (k : Int) + 1)) && !ptB ps k
def idle1 (k : Nat) (s : List (Int × Int) × List P2) : List (Int × Int) × List P2 := if idleB k s.1 s.2 then (leaveC k s.1, leaveP k s.2) else s
def idleN : Nat → List (Int × Int) × List P2 → List (Int × Int) × List P2
  | 0, s => s
  | k + 1, s => idleN k (idle1 k s)
theorem idle1_len {k : Nat} {s : List (Int × Int) × List P2} (h : k < s.1.length) : k ≤ (idle1 k s).1.length ∧ (idle1 k s).1.length ≤ s.1.length ∧ (idle1 k s).2.length = s.2.length := by
  unfold idle1
  split
  · have := leaveC_len h; exact ⟨by simp only; omega, by simp only; omega, leaveP_len _ _⟩
  · exact ⟨by omega, by omega, rfl⟩

/-! ThreadJumps. -/
/-- Whether an instruction of an operation is at a place, and no point. -/
def openB (op : Int) (xs : List (Int × Int)) (ps : List P2) (k : Int) : Bool := decide (0 ≤ k) && (match xs[k.toNat]? with | some x => decide (x.1 = op) | none => false) && !ptB ps k
def nextJ (xs : List (Int × Int)) (k : Int) : Int := match xs[k.toNat]? with | some x => x.2 | none => k
/-- Over i jumps, as long as there is one. -/
def overJ (xs : List (Int × Int)) (k : Int) : Nat → Int
  | 0 => k
  | i + 1 => nextJ xs (overJ xs k i)
def allJ (xs : List (Int × Int)) (ps : List P2) (k : Int) (i : Nat) : Prop := ∀ j, j < i → openB 5 xs ps (overJ xs k j) = true
/-- The end of the jumps from a place on. -/
def FinalJ (xs : List (Int × Int)) (ps : List P2) (k e : Int) : Prop :=
  (∃ i, allJ xs ps k i ∧ openB 5 xs ps (overJ xs k i) = false ∧ e = overJ xs k i) ∨ ((∀ i, allJ xs ps k i) ∧ e = k)
theorem openB_lt {op : Int} {xs : List (Int × Int)} {ps : List P2} {k : Int} (h : openB op xs ps k = true) : 0 ≤ k ∧ k < xs.length := by
  unfold openB at h
  simp only [Bool.and_eq_true, decide_eq_true_eq] at h
  obtain ⟨⟨h0, h1⟩, _⟩ := h
  split at h1
  · rename_i x hx
    have := (List.getElem?_eq_some_iff.1 hx).1
    omega
  · cases h1
theorem allJ_succ {xs : List (Int × Int)} {ps : List P2} {k : Int} {i : Nat} (h : allJ xs ps k i) (ho : openB 5 xs ps (overJ xs k i) = true) : allJ xs ps k (i + 1) := fun j hj => by
  by_cases e : j = i
  · subst e; exact ho
  · exact h j (by omega)
theorem FinalJ.uniq {xs : List (Int × Int)} {ps : List P2} {k e e' : Int} (h : FinalJ xs ps k e) (h' : FinalJ xs ps k e') : e = e' := by
  rcases h with ⟨i, a, b, rfl⟩ | ⟨a, rfl⟩ <;> rcases h' with ⟨j, c, d, rfl⟩ | ⟨c, rfl⟩
  · have : i = j := by
      rcases Nat.lt_trichotomy i j with h | h | h
      · have := c i h; rw [b] at this; cases this
      · exact h
      · have := a j h; rw [d] at this; cases this
    rw [this]
  · have := c (i + 1) i (by omega); rw [b] at this; cases this
  · have := a (j + 1) j (by omega); rw [d] at this; cases this
  · rfl
/-- A way that comes to a place again goes on for ever. -/
theorem overJ_add (xs : List (Int × Int)) (k : Int) (i j : Nat) : overJ xs (overJ xs k i) j = overJ xs k (i + j) := by
  induction j with
  | zero => rfl
  | succ j ih => show nextJ xs _ = nextJ xs _; rw [ih]; rfl
theorem loop_ever {xs : List (Int × Int)} {ps : List P2} {k : Int} {i j : Nat} (h : allJ xs ps k j) (hij : i < j) (he : overJ xs k i = overJ xs k j) : ∀ n, allJ xs ps k n := by
  have key : ∀ n, openB 5 xs ps (overJ xs k n) = true := by
    intro n
    induction n using Nat.strongRecOn with
    | ind n ih =>
      by_cases hn : n < j
      · exact h n hn
      · have e : overJ xs k n = overJ xs k (i + (n - j)) := by
          rw [← overJ_add xs k i, he, overJ_add, show j + (n - j) = n by omega]
        rw [e]
        exact ih _ (by omega)
  exact fun n j _ => key j
/-- Many numbers below n: two of them are one. -/
theorem pigeon : ∀ (n : Nat) (f : Nat → Int), (∀ i, i ≤ n → 0 ≤ f i ∧ f i < n) → ∃ i j, i < j ∧ j ≤ n ∧ f i = f j := by
  intro n
  induction n with
  | zero => intro f h; have := h 0 (Nat.le_refl _); omega
  | succ n ih =>
    intro f h
    by_cases hx : ∃ i, i ≤ n ∧ f i = f (n + 1)
    · obtain ⟨i, hi, e⟩ := hx
      exact ⟨i, n + 1, by omega, Nat.le_refl _, e⟩
    · have hne : ∀ i, i ≤ n → f i ≠ f (n + 1) := fun i hi e => hx ⟨i, hi, e⟩
      have hl := h (n + 1) (Nat.le_refl _)
      obtain ⟨i, j, h1, h2, h3⟩ := ih (fun i => if f i < f (n + 1) then f i else f i - 1) (fun i hi => by
        have h0 := h i (by omega)
        have h1 := hne i hi
        show 0 ≤ (if f i < f (n + 1) then f i else f i - 1) ∧ (if f i < f (n + 1) then f i else f i - 1) < (n : Int)
        split <;> omega)
      refine ⟨i, j, h1, by omega, ?_⟩
      have hi := hne i (by omega)
      have hj := hne j (by omega)
      split at h3 <;> split at h3 <;> omega
theorem ever_of {xs : List (Int × Int)} {ps : List P2} {k : Int} (h : allJ xs ps k (xs.length + 1)) : ∀ n, allJ xs ps k n := by
  obtain ⟨i, j, h1, h2, h3⟩ := pigeon xs.length (overJ xs k) (fun i hi => openB_lt (h i (by omega)))
  exact loop_ever (fun m hm => h m (by omega)) h1 h3
theorem FinalJ.stop {xs : List (Int × Int)} {ps : List P2} {k : Int} {i : Nat} (h : allJ xs ps k i) (hn : openB 5 xs ps (overJ xs k i) = false) : FinalJ xs ps k (overJ xs k i) := .inl ⟨i, h, hn, rfl⟩
theorem FinalJ.long {xs : List (Int × Int)} {ps : List P2} {k : Int} (h : allJ xs ps k (xs.length + 1)) : FinalJ xs ps k k := .inr ⟨ever_of h, rfl⟩
theorem FinalJ.loop {xs : List (Int × Int)} {ps : List P2} {k : Int} {i j : Nat} (h : allJ xs ps k j) (hij : i < j) (he : overJ xs k i = overJ xs k j) : FinalJ xs ps k k := .inr ⟨loop_ever h hij he, rfl⟩
/-- The same, by so many jumps. -/
def finG (xs : List (Int × Int)) (ps : List P2) (k : Int) : Nat → Int → Int
  | 0, _ => k
  | f + 1, now => if openB 5 xs ps now then finG xs ps k f (nextJ xs now) else now
def finJ (xs : List (Int × Int)) (ps : List P2) (k : Int) : Int := finG xs ps k (xs.length + 1) k
theorem finG_is {xs : List (Int × Int)} {ps : List P2} {k : Int} : ∀ (f i : Nat), f + i = xs.length + 1 → allJ xs ps k i → FinalJ xs ps k (finG xs ps k f (overJ xs k i)) := by
  intro f
  induction f with
  | zero => intro i h ha; exact FinalJ.long (by rw [show xs.length + 1 = i by omega]; exact ha)
  | succ f ih =>
    intro i h ha
    unfold finG
    by_cases ho : openB 5 xs ps (overJ xs k i) = true
    · rw [if_pos ho]
      exact ih (i + 1) (by omega) (allJ_succ ha ho)
    · rw [if_neg ho]
      exact FinalJ.stop ha (by simpa using ho)
theorem finJ_is (xs : List (Int × Int)) (ps : List P2) (k : Int) : FinalJ xs ps k (finJ xs ps k) := finG_is (i := 0) _ rfl (fun j hj => by omega)
theorem finJ_eq {xs : List (Int × Int)} {ps : List P2} {k e : Int} (h : FinalJ xs ps k e) : finJ xs ps k = e := (finJ_is xs ps k).uniq h
/-- An instruction, and all of them, behind ThreadJumps. -/
def thr1 (xs : List (Int × Int)) (ps : List P2) (x : Int × Int) : Int × Int :=
  if x.1 = 5 then (if openB 11 xs ps (finJ xs ps x.2) then (11, 0) else (5, finJ xs ps x.2)) else if x.1 = 6 then (6, finJ xs ps x.2) else x
def thrL (xs : List (Int × Int)) (ps : List P2) : List (Int × Int) := xs.map (thr1 xs ps)

/-! Bounds of the numbers. -/
def BndC (xs : List (Int × Int)) : Prop := ∀ x ∈ xs, -1000000 ≤ x.2 ∧ x.2 ≤ 1000000
def BndP (ps : List P2) : Prop := ∀ p ∈ ps, 0 ≤ p.a ∧ p.a ≤ 1000000
theorem BndC.leave {k : Nat} {xs : List (Int × Int)} (h : BndC xs) : BndC (leaveC k xs) := by
  intro x hx
  obtain ⟨y, hy, rfl⟩ := List.mem_map.1 hx
  have hy' : y ∈ xs := by
    rcases List.mem_append.1 hy with hy | hy
    · exact List.mem_of_mem_take hy
    · exact List.mem_of_mem_drop hy
  have := h y hy'
  unfold subI
  split
  · rename_i hc; have := hc.2; simp only; omega
  · exact this
theorem BndP.leave {k : Nat} {ps : List P2} (h : BndP ps) : BndP (leaveP k ps) := by
  intro p hp
  obtain ⟨q, hq, rfl⟩ := List.mem_map.1 hp
  have := h q hq
  unfold subP
  split
  · simp only; omega
  · exact this
/-- Points of which the first i have been changed. -/
def mixF (f : P2 → P2) (i : Nat) (ps : List P2) : List P2 := (ps.take i).map f ++ ps.drop i
theorem mixF_zero (f : P2 → P2) (ps : List P2) : mixF f 0 ps = ps := rfl
theorem mixF_all {f : P2 → P2} {i : Nat} {ps : List P2} (h : ps.length ≤ i) : mixF f i ps = ps.map f := by
  unfold mixF; rw [List.take_of_length_le h, List.drop_of_length_le h, List.append_nil]
theorem mixF_len (f : P2 → P2) (i : Nat) (ps : List P2) : (mixF f i ps).length = ps.length := by
  unfold mixF; rw [List.length_append, List.length_map, List.length_take, List.length_drop]; omega
theorem mixF_at {f : P2 → P2} {i : Nat} {ps : List P2} {p : P2} (h : ps[i]? = some p) : (mixF f i ps)[i]? = some p := by
  have hl := (List.getElem?_eq_some_iff.1 h).1
  unfold mixF
  rw [List.getElem?_append_right (by simp; omega), List.length_map, List.length_take, Nat.min_eq_left (by omega), Nat.sub_self, List.getElem?_drop, Nat.add_zero]
  exact h
theorem mixF_set {f : P2 → P2} {i : Nat} {ps : List P2} {p : P2} (h : ps[i]? = some p) : (mixF f i ps).set i (f p) = mixF f (i + 1) ps := by
  have hl := (List.getElem?_eq_some_iff.1 h).1
  have hln : ((ps.take i).map f).length = i := by simp; omega
  unfold mixF
  rw [List.set_append_right _ _ (by omega), hln, Nat.sub_self, drop_at h, List.set_cons_zero, List.take_add_one, h]
  simp
theorem mixF_same {f : P2 → P2} {i : Nat} {ps : List P2} {p : P2} (h : ps[i]? = some p) (hf : f p = p) : mixF f (i + 1) ps = mixF f i ps := by
  unfold mixF
  rw [drop_at h, List.take_add_one, h]
  simp [hf]
theorem annB_bnd {t0 t1 : List (Int × List Int)} {xs : List (Int × Int)} {ps : List P2} (h : annB t0 t1 xs ps = true) : BndC xs ∧ BndP ps := by
  obtain ⟨hc, _, _, hp⟩ := annB_parts h
  refine ⟨fun x hx => instrB_arg ((codeB_parts hc).2.2 x hx), ?_⟩
  have key : ∀ {ps : List P2} {l : Int}, 0 ≤ l → ptsF (xs.length : Int) l ps = true → BndP ps := by
    intro ps
    induction ps with
    | nil => intro l _ _ p hp; cases hp
    | cons q ps ih =>
      intro l hl h p hp
      unfold ptsF at h
      simp only [Bool.and_eq_true, decide_eq_true_eq] at h
      have hx := (codeB_parts hc).2.1
      rcases List.mem_cons.1 hp with rfl | hp
      · omega
      · exact ih (by omega) h.2 p hp
  unfold ptsB at hp
  simp only [Bool.and_eq_true, decide_eq_true_eq] at hp
  exact key (Int.le_refl 0) hp.2
end Go.Proofs.YtglbkbdljjaioaaGreat
