/-
  Several texts in one: Over, PtsP, Pass, HgoP. Conditions: as each says.
-/
import Derived.Test.YtffkdidgfeknkaaGreatDoorValid
import Derived.Test.YtffkdidgfeknkaaGreatDoorTermsK
import Derived.Test.YtffkdidgfeknkaaGreatDoorPoint
import Derived.Test.YtffkdidgfeknkaaGreatDoorBunB

/-! Terms over variables: what the model's l03Term and l03Terms give. Conditions: at most 2^20 terms and coefficients. -/
namespace Go.Proofs.YtffkdidgfeknkaaGreatDoor
set_option linter.unusedVariables false
open Go.RowKit

/-- A valid term over variables alone. -/
def overB (t : Int × List Int) : Bool := tmB t && decide (t.2.length ≤ 4)
theorem overB_no {t : Int × List Int} (h : tmB t = false) : overB t = false := by unfold overB; rw [h]; rfl
theorem overB_long {t : Int × List Int} (h : 4 < t.2.length) : overB t = false := by unfold overB; rw [decide_eq_false (by omega)]; simp
theorem overB_is {t : Int × List Int} (h : tmB t = true) (hl : t.2.length ≤ 4) : overB t = true := by unfold overB; rw [h, decide_eq_true hl]; rfl
/-- So many valid terms over variables. -/
def oversB (m : Nat) (ts : List (Int × List Int)) : Bool := ts.all overB && decide (ts.length ≤ m)
theorem oversB_no {m : Nat} {ts : List (Int × List Int)} {k : Nat} {t : Int × List Int} (ht : ts[k]? = some t) (h : overB t = false) : oversB m ts = false := by
  have : ts.all overB = false := by
    rw [List.all_eq_false]
    exact ⟨t, List.mem_of_getElem? ht, by rw [h]; simp⟩
  unfold oversB; rw [this]; rfl
theorem oversB_long {m : Nat} {ts : List (Int × List Int)} (h : m < ts.length) : oversB m ts = false := by unfold oversB; rw [decide_eq_false (by omega)]; simp
theorem oversB_is {m : Nat} {ts : List (Int × List Int)} (h : ∀ t ∈ ts, overB t = true) (hl : ts.length ≤ m) : oversB m ts = true := by
  unfold oversB; rw [decide_eq_true hl, List.all_eq_true.2 h]; rfl
theorem all_succ {p : Int × List Int → Prop} {ts : List (Int × List Int)} {k : Nat} {t : Int × List Int} (h : ∀ u ∈ ts.take k, p u) (ht : ts[k]? = some t) (hp : p t) : ∀ u ∈ ts.take (k + 1), p u := by
  intro u hu
  rw [List.take_add_one, ht] at hu
  rcases List.mem_append.1 hu with h1 | h1
  · exact h u h1
  · obtain rfl : u = t := by simpa using h1
    exact hp

end Go.Proofs.YtffkdidgfeknkaaGreatDoor

/-! Points of annotated code: when they are as they must be. No conditions. -/
namespace Go.Proofs.YtffkdidgfeknkaaGreatDoor

/-- Points from a place on, in code of so many instructions. -/
def ptsF (len : Int) : Int → List P2 → Bool
  | _, [] => true
  | least, p :: ps => (decide (least ≤ p.a) && decide (p.a ≤ len - 1)) && oversB 6 p.s && ptsF len (p.a + 1) ps
def ptsB (len : Int) (ps : List P2) : Bool := decide (ps.length ≤ 8) && ptsF len 0 ps
def annB (t0 t1 : List (Int × List Int)) (xs : List (Int × Int)) (ps : List P2) : Bool := codeB xs && oversB 6 t0 && oversB 6 t1 && ptsB (xs.length : Int) ps
theorem ptsB_long {len : Int} {ps : List P2} (h : 8 < ps.length) : ptsB len ps = false := by
  unfold ptsB; rw [decide_eq_false (by omega)]; rfl
theorem ptsB_is {len : Int} {ps : List P2} (h : ps.length ≤ 8) : ptsB len ps = ptsF len 0 ps := by
  unfold ptsB; rw [decide_eq_true h]; rfl
theorem drop_at {α : Type} {ps : List α} {k : Nat} {p : α} (h : ps[k]? = some p) : ps.drop k = p :: ps.drop (k + 1) := by
  have hl := (List.getElem?_eq_some_iff.1 h).1
  rw [List.drop_eq_getElem_cons hl]
  congr 1
  rw [List.getElem?_eq_getElem hl] at h
  exact Option.some.inj h
/-- The place from which the point k may be. -/
def leastP (ps : List P2) (k : Nat) : Int := if k = 0 then 0 else match ps[k - 1]? with | some q => q.a + 1 | none => 0
theorem leastP_zero (ps : List P2) : leastP ps 0 = 0 := rfl
theorem leastP_succ {ps : List P2} {k : Nat} {p : P2} (h : ps[k]? = some p) : leastP ps (k + 1) = p.a + 1 := by
  unfold leastP; rw [if_neg (by omega), show k + 1 - 1 = k by omega, h]
theorem ptsF_step {len l : Int} {ps : List P2} {k : Nat} {p : P2} (h : ps[k]? = some p) : ptsF len l (ps.drop k) = ((decide (l ≤ p.a) && decide (p.a ≤ len - 1)) && oversB 6 p.s && ptsF len (p.a + 1) (ps.drop (k + 1))) := by
  rw [drop_at h]; rfl
theorem ptsF_end {len l : Int} {ps : List P2} {k : Nat} (h : ps.length ≤ k) : ptsF len l (ps.drop k) = true := by
  rw [List.drop_of_length_le h]; rfl
theorem annB_code {t0 t1 : List (Int × List Int)} {xs : List (Int × Int)} {ps : List P2} (h : codeB xs = false) : annB t0 t1 xs ps = false := by unfold annB; rw [h]; rfl
theorem annB_pre {t0 t1 : List (Int × List Int)} {xs : List (Int × Int)} {ps : List P2} (h : oversB 6 t0 = false) : annB t0 t1 xs ps = false := by unfold annB; rw [h]; simp
theorem annB_post {t0 t1 : List (Int × List Int)} {xs : List (Int × Int)} {ps : List P2} (h : oversB 6 t1 = false) : annB t0 t1 xs ps = false := by unfold annB; rw [h]; simp
theorem annB_is {t0 t1 : List (Int × List Int)} {xs : List (Int × Int)} {ps : List P2} (h : codeB xs = true) (h0 : oversB 6 t0 = true) (h1 : oversB 6 t1 = true) : annB t0 t1 xs ps = ptsB (xs.length : Int) ps := by unfold annB; rw [h, h0, h1]; rfl
theorem annB_parts {t0 t1 : List (Int × List Int)} {xs : List (Int × Int)} {ps : List P2} (h : annB t0 t1 xs ps = true) : codeB xs = true ∧ oversB 6 t0 = true ∧ oversB 6 t1 = true ∧ ptsB (xs.length : Int) ps = true := by
  unfold annB at h
  simp only [Bool.and_eq_true] at h
  exact ⟨h.1.1.1, h.1.1.2, h.1.2, h.2⟩
end Go.Proofs.YtffkdidgfeknkaaGreatDoor

/-! Passes over annotated code, as lists: an instruction left out, idle jumps, threaded jumps. No conditions. -/
namespace Go.Proofs.YtffkdidgfeknkaaGreatDoor
set_option linter.unusedVariables false

/-- An instruction, and a point, behind an instruction k that is left out. -/
def subI (k : Int) (x : Int × Int) : Int × Int := if (x.1 = 5 ∨ x.1 = 6) ∧ k < x.2 then (x.1, x.2 - 1) else x
def subP (k : Int) (p : P2) : P2 := if k < p.a then ⟨p.a - 1, p.s⟩ else p
def leaveC (k : Nat) (xs : List (Int × Int)) : List (Int × Int) := (xs.take k ++ xs.drop (k + 1)).map (subI k)
def leaveP (k : Nat) (ps : List P2) : List P2 := ps.map (subP k)
theorem leaveC_len {k : Nat} {xs : List (Int × Int)} (h : k < xs.length) : (leaveC k xs).length = xs.length - 1 := by
  simp [leaveC]; omega
theorem leaveP_len (k : Nat) (ps : List P2) : (leaveP k ps).length = ps.length := by simp [leaveP]
theorem leaveP_at {k j : Nat} {ps : List P2} {p : P2} (h : ps[j]? = some p) : (leaveP k ps)[j]? = some (subP k p) := by simp [leaveP, h]
theorem subP_s (k : Int) (p : P2) : (subP k p).s = p.s := by unfold subP; split <;> rfl
/-- Whether there is a point at a place. -/
def ptB (ps : List P2) (k : Int) : Bool := ps.any fun p => decide (p.a = k)
theorem ptB_take_no {ps : List P2} {k : Int} {j : Nat} {p : P2} (h : ptB (ps.take j) k = false) (hp : ps[j]? = some p) (hn : p.a ≠ k) : ptB (ps.take (j + 1)) k = false := by
  rw [List.take_add_one, hp]
  unfold ptB at h ⊢
  rw [List.any_append, h]
  simp [hn]
theorem ptB_yes {ps : List P2} {k : Int} {j : Nat} {p : P2} (hp : ps[j]? = some p) (hn : p.a = k) : ptB ps k = true := by
  unfold ptB
  rw [List.any_eq_true]
  exact ⟨p, List.mem_of_getElem? hp, by simp [hn]⟩
theorem ptB_all {ps : List P2} {k : Int} {j : Nat} (h : ptB (ps.take j) k = false) (hj : ps.length ≤ j) : ptB ps k = false := by
  rwa [List.take_of_length_le hj] at h
/-- DropIdleJumps at an instruction, and at all instructions below n, the last one first. -/
def idleB (k : Nat) (xs : List (Int × Int)) (ps : List P2) : Bool := decide (1 < xs.length) && decide (xs[k]? = some (5, (k : Int) + 1)) && !ptB ps k
def idle1 (k : Nat) (s : List (Int × Int) × List P2) : List (Int × Int) × List P2 := if idleB k s.1 s.2 then (leaveC k s.1, leaveP k s.2) else s
def idleN : Nat → List (Int × Int) × List P2 → List (Int × Int) × List P2
  | 0, s => s
  | k + 1, s => idleN k (idle1 k s)
theorem idle1_len {k : Nat} {s : List (Int × Int) × List P2} (h : k < s.1.length) : k ≤ (idle1 k s).1.length ∧ (idle1 k s).1.length ≤ s.1.length ∧ (idle1 k s).2.length = s.2.length := by
  unfold idle1
  split
  · have := leaveC_len h; exact ⟨by simp only; omega, by simp only; omega, leaveP_len _ _⟩
  · exact ⟨by omega, by omega, rfl⟩

/-! ThreadJumps. -/
/-- Whether an instruction of an operation is at a place, and no point. -/
def openB (op : Int) (xs : List (Int × Int)) (ps : List P2) (k : Int) : Bool := decide (0 ≤ k) && (match xs[k.toNat]? with | some x => decide (x.1 = op) | none => false) && !ptB ps k
def nextJ (xs : List (Int × Int)) (k : Int) : Int := match xs[k.toNat]? with | some x => x.2 | none => k
/-- Over i jumps, as long as there is one. -/
def overJ (xs : List (Int × Int)) (k : Int) : Nat → Int
  | 0 => k
  | i + 1 => nextJ xs (overJ xs k i)
def allJ (xs : List (Int × Int)) (ps : List P2) (k : Int) (i : Nat) : Prop := ∀ j, j < i → openB 5 xs ps (overJ xs k j) = true
/-- The end of the jumps from a place on. -/
def FinalJ (xs : List (Int × Int)) (ps : List P2) (k e : Int) : Prop :=
  (∃ i, allJ xs ps k i ∧ openB 5 xs ps (overJ xs k i) = false ∧ e = overJ xs k i) ∨ ((∀ i, allJ xs ps k i) ∧ e = k)
theorem openB_lt {op : Int} {xs : List (Int × Int)} {ps : List P2} {k : Int} (h : openB op xs ps k = true) : 0 ≤ k ∧ k < xs.length := by
  unfold openB at h
  simp only [Bool.and_eq_true, decide_eq_true_eq] at h
  obtain ⟨⟨h0, h1⟩, _⟩ := h
  split at h1
  · rename_i x hx
    have := (List.getElem?_eq_some_iff.1 hx).1
    omega
  · cases h1
theorem allJ_succ {xs : List (Int × Int)} {ps : List P2} {k : Int} {i : Nat} (h : allJ xs ps k i) (ho : openB 5 xs ps (overJ xs k i) = true) : allJ xs ps k (i + 1) := fun j hj => by
  by_cases e : j = i
  · subst e; exact ho
  · exact h j (by omega)
theorem FinalJ.uniq {xs : List (Int × Int)} {ps : List P2} {k e e' : Int} (h : FinalJ xs ps k e) (h' : FinalJ xs ps k e') : e = e' := by
  rcases h with ⟨i, a, b, rfl⟩ | ⟨a, rfl⟩ <;> rcases h' with ⟨j, c, d, rfl⟩ | ⟨c, rfl⟩
  · have : i = j := by
      rcases Nat.lt_trichotomy i j with h | h | h
      · have := c i h; rw [b] at this; cases this
      · exact h
      · have := a j h; rw [d] at this; cases this
    rw [this]
  · have := c (i + 1) i (by omega); rw [b] at this; cases this
  · have := a (j + 1) j (by omega); rw [d] at this; cases this
  · rfl
/-- A way that comes to a place again goes on for ever. -/
theorem overJ_add (xs : List (Int × Int)) (k : Int) (i j : Nat) : overJ xs (overJ xs k i) j = overJ xs k (i + j) := by
  induction j with
  | zero => rfl
  | succ j ih => show nextJ xs _ = nextJ xs _; rw [ih]; rfl
theorem loop_ever {xs : List (Int × Int)} {ps : List P2} {k : Int} {i j : Nat} (h : allJ xs ps k j) (hij : i < j) (he : overJ xs k i = overJ xs k j) : ∀ n, allJ xs ps k n := by
  have key : ∀ n, openB 5 xs ps (overJ xs k n) = true := by
    intro n
    induction n using Nat.strongRecOn with
    | ind n ih =>
      by_cases hn : n < j
      · exact h n hn
      · have e : overJ xs k n = overJ xs k (i + (n - j)) := by
          rw [← overJ_add xs k i, he, overJ_add, show j + (n - j) = n by omega]
        rw [e]
        exact ih _ (by omega)
  exact fun n j _ => key j
/-- Many numbers below n: two of them are one. -/
theorem pigeon : ∀ (n : Nat) (f : Nat → Int), (∀ i, i ≤ n → 0 ≤ f i ∧ f i < n) → ∃ i j, i < j ∧ j ≤ n ∧ f i = f j := by
  intro n
  induction n with
  | zero => intro f h; have := h 0 (Nat.le_refl _); omega
  | succ n ih =>
    intro f h
    by_cases hx : ∃ i, i ≤ n ∧ f i = f (n + 1)
    · obtain ⟨i, hi, e⟩ := hx
      exact ⟨i, n + 1, by omega, Nat.le_refl _, e⟩
    · have hne : ∀ i, i ≤ n → f i ≠ f (n + 1) := fun i hi e => hx ⟨i, hi, e⟩
      have hl := h (n + 1) (Nat.le_refl _)
      obtain ⟨i, j, h1, h2, h3⟩ := ih (fun i => if f i < f (n + 1) then f i else f i - 1) (fun i hi => by
        have h0 := h i (by omega)
        have h1 := hne i hi
        show 0 ≤ (if f i < f (n + 1) then f i else f i - 1) ∧ (if f i < f (n + 1) then f i else f i - 1) < (n : Int)
        split <;> omega)
      refine ⟨i, j, h1, by omega, ?_⟩
      have hi := hne i (by omega)
      have hj := hne j (by omega)
      split at h3 <;> split at h3 <;> omega
theorem ever_of {xs : List (Int × Int)} {ps : List P2} {k : Int} (h : allJ xs ps k (xs.length + 1)) : ∀ n, allJ xs ps k n := by
  obtain ⟨i, j, h1, h2, h3⟩ := pigeon xs.length (overJ xs k) (fun i hi => openB_lt (h i (by omega)))
  exact loop_ever (fun m hm => h m (by omega)) h1 h3
theorem FinalJ.stop {xs : List (Int × Int)} {ps : List P2} {k : Int} {i : Nat} (h : allJ xs ps k i) (hn : openB 5 xs ps (overJ xs k i) = false) : FinalJ xs ps k (overJ xs k i) := .inl ⟨i, h, hn, rfl⟩
theorem FinalJ.long {xs : List (Int × Int)} {ps : List P2} {k : Int} (h : allJ xs ps k (xs.length + 1)) : FinalJ xs ps k k := .inr ⟨ever_of h, rfl⟩
theorem FinalJ.loop {xs : List (Int × Int)} {ps : List P2} {k : Int} {i j : Nat} (h : allJ xs ps k j) (hij : i < j) (he : overJ xs k i = overJ xs k j) : FinalJ xs ps k k := .inr ⟨loop_ever h hij he, rfl⟩
/-- The same, by so many jumps. -/
def finG (xs : List (Int × Int)) (ps : List P2) (k : Int) : Nat → Int → Int
  | 0, _ => k
  | f + 1, now => if openB 5 xs ps now then finG xs ps k f (nextJ xs now) else now
def finJ (xs : List (Int × Int)) (ps : List P2) (k : Int) : Int := finG xs ps k (xs.length + 1) k
theorem finG_is {xs : List (Int × Int)} {ps : List P2} {k : Int} : ∀ (f i : Nat), f + i = xs.length + 1 → allJ xs ps k i → FinalJ xs ps k (finG xs ps k f (overJ xs k i)) := by
  intro f
  induction f with
  | zero => intro i h ha; exact FinalJ.long (by rw [show xs.length + 1 = i by omega]; exact ha)
  | succ f ih =>
    intro i h ha
    unfold finG
    by_cases ho : openB 5 xs ps (overJ xs k i) = true
    · rw [if_pos ho]
      exact ih (i + 1) (by omega) (allJ_succ ha ho)
    · rw [if_neg ho]
      exact FinalJ.stop ha (by simpa using ho)
theorem finJ_is (xs : List (Int × Int)) (ps : List P2) (k : Int) : FinalJ xs ps k (finJ xs ps k) := finG_is (i := 0) _ rfl (fun j hj => by omega)
theorem finJ_eq {xs : List (Int × Int)} {ps : List P2} {k e : Int} (h : FinalJ xs ps k e) : finJ xs ps k = e := (finJ_is xs ps k).uniq h
/-- An instruction, and all of them, behind ThreadJumps. -/
def thr1 (xs : List (Int × Int)) (ps : List P2) (x : Int × Int) : Int × Int :=
  if x.1 = 5 then (if openB 11 xs ps (finJ xs ps x.2) then (11, 0) else (5, finJ xs ps x.2)) else if x.1 = 6 then (6, finJ xs ps x.2) else x
def thrL (xs : List (Int × Int)) (ps : List P2) : List (Int × Int) := xs.map (thr1 xs ps)

/-! Bounds of the numbers. -/
def BndC (xs : List (Int × Int)) : Prop := ∀ x ∈ xs, -1000000 ≤ x.2 ∧ x.2 ≤ 1000000
def BndP (ps : List P2) : Prop := ∀ p ∈ ps, 0 ≤ p.a ∧ p.a ≤ 1000000
theorem BndC.leave {k : Nat} {xs : List (Int × Int)} (h : BndC xs) : BndC (leaveC k xs) := by
  intro x hx
  obtain ⟨y, hy, rfl⟩ := List.mem_map.1 hx
  have hy' : y ∈ xs := by
    rcases List.mem_append.1 hy with hy | hy
    · exact List.mem_of_mem_take hy
    · exact List.mem_of_mem_drop hy
  have := h y hy'
  unfold subI
  split
  · rename_i hc; have := hc.2; simp only; omega
  · exact this
theorem BndP.leave {k : Nat} {ps : List P2} (h : BndP ps) : BndP (leaveP k ps) := by
  intro p hp
  obtain ⟨q, hq, rfl⟩ := List.mem_map.1 hp
  have := h q hq
  unfold subP
  split
  · simp only; omega
  · exact this
/-- Points of which the first i have been changed. -/
def mixF (f : P2 → P2) (i : Nat) (ps : List P2) : List P2 := (ps.take i).map f ++ ps.drop i
theorem mixF_zero (f : P2 → P2) (ps : List P2) : mixF f 0 ps = ps := rfl
theorem mixF_all {f : P2 → P2} {i : Nat} {ps : List P2} (h : ps.length ≤ i) : mixF f i ps = ps.map f := by
  unfold mixF; rw [List.take_of_length_le h, List.drop_of_length_le h, List.append_nil]
theorem mixF_len (f : P2 → P2) (i : Nat) (ps : List P2) : (mixF f i ps).length = ps.length := by
  unfold mixF; rw [List.length_append, List.length_map, List.length_take, List.length_drop]; omega
theorem mixF_at {f : P2 → P2} {i : Nat} {ps : List P2} {p : P2} (h : ps[i]? = some p) : (mixF f i ps)[i]? = some p := by
  have hl := (List.getElem?_eq_some_iff.1 h).1
  unfold mixF
  rw [List.getElem?_append_right (by simp; omega), List.length_map, List.length_take, Nat.min_eq_left (by omega), Nat.sub_self, List.getElem?_drop, Nat.add_zero]
  exact h
theorem mixF_set {f : P2 → P2} {i : Nat} {ps : List P2} {p : P2} (h : ps[i]? = some p) : (mixF f i ps).set i (f p) = mixF f (i + 1) ps := by
  have hl := (List.getElem?_eq_some_iff.1 h).1
  have hln : ((ps.take i).map f).length = i := by simp; omega
  unfold mixF
  rw [List.set_append_right _ _ (by omega), hln, Nat.sub_self, drop_at h, List.set_cons_zero, List.take_add_one, h]
  simp
theorem mixF_same {f : P2 → P2} {i : Nat} {ps : List P2} {p : P2} (h : ps[i]? = some p) (hf : f p = p) : mixF f (i + 1) ps = mixF f i ps := by
  unfold mixF
  rw [drop_at h, List.take_add_one, h]
  simp [hf]
theorem annB_bnd {t0 t1 : List (Int × List Int)} {xs : List (Int × Int)} {ps : List P2} (h : annB t0 t1 xs ps = true) : BndC xs ∧ BndP ps := by
  obtain ⟨hc, _, _, hp⟩ := annB_parts h
  refine ⟨fun x hx => instrB_arg ((codeB_parts hc).2.2 x hx), ?_⟩
  have key : ∀ {ps : List P2} {l : Int}, 0 ≤ l → ptsF (xs.length : Int) l ps = true → BndP ps := by
    intro ps
    induction ps with
    | nil => intro l _ _ p hp; cases hp
    | cons q ps ih =>
      intro l hl h p hp
      unfold ptsF at h
      simp only [Bool.and_eq_true, decide_eq_true_eq] at h
      have hx := (codeB_parts hc).2.1
      rcases List.mem_cons.1 hp with rfl | hp
      · omega
      · exact ih (by omega) h.2 p hp
  unfold ptsB at hp
  simp only [Bool.and_eq_true, decide_eq_true_eq] at hp
  exact key (Int.le_refl 0) hp.2
end Go.Proofs.YtffkdidgfeknkaaGreatDoor

/-! Heights over annotated code: the model's search with the points, pure. No conditions. -/
namespace Go.Proofs.YtffkdidgfeknkaaGreatDoor
set_option linter.unusedVariables false
open Go.RowKit

/-- The places behind an instruction, in the model's order. -/
def rawT (op a : Int) (k : Nat) : List Int := if op = 11 then [] else if op = 5 then [a] else if op = 6 then [(k : Int) + 1, a] else [(k : Int) + 1]
theorem rawT_mem (op a : Int) (k : Nat) (t : Int) : t ∈ rawT op a k ↔ t ∈ tgt1 op a k := by
  unfold rawT tgt1
  split
  · rfl
  · split
    · rfl
    · split
      · rw [putR_one_mem]; simp
      · rfl
theorem rawT_len (op a : Int) (k : Nat) : (rawT op a k).length ≤ 2 := by
  unfold rawT
  split
  · simp
  · split
    · simp
    · split <;> simp
/-- No good heights, or a point where the least ones are not 0. -/
def BadH (xs : List (Int × Int)) (ps : List P2) : Prop := ∀ L, LeastH xs L → ∃ (j : Nat) (g : Int), L[j]? = some g ∧ 0 < g ∧ ptB ps j = true
theorem BadH.none {xs : List (Int × Int)} {ps : List P2} (h : ∀ K, ¬ GoodH xs K) : BadH xs ps := fun L hL => absurd hL.good (h L)
/-- Heights that are 0 at the points. -/
def FlatP (ps : List P2) (out : List Int) : Prop := ∀ (j : Nat) (g : Int), out[j]? = some g → 0 < g → ptB ps j = false
/-- The search between two places. -/
structure SrchV (xs : List (Int × Int)) (ps : List P2) (out q : List Int) : Prop where
  s : SrchH xs out q
  pts : ∀ (j : Nat) (g : Int), out[j]? = some g → 0 < g → (j : Int) ∉ q → ptB ps j = false
/-- .. within the places behind one. -/
structure SrchU (xs : List (Int × Int)) (ps : List P2) (T out q : List Int) (k : Nat) (h : Int) (i : Nat) : Prop where
  len : out.length = xs.length
  zero : out[0]? = some 0
  low : ∀ z ∈ out, -1 ≤ z
  under : Under xs out
  inq : ∀ t ∈ q, 0 ≤ t ∧ t < xs.length ∧ ∃ h, out[t.toNat]? = some h ∧ 0 ≤ h
  done : ∀ (j : Nat) (g : Int), out[j]? = some g → 0 ≤ g → (j : Int) ∉ q → j ≠ k → fitH xs j g ∧ ∀ t ∈ tgtN xs j, t < xs.length ∧ out[t.toNat]? = some (hgB xs j g)
  cur : out[k]? = some h
  pos : 0 ≤ h
  fit : fitH xs k h
  part : ∀ t ∈ T.take i, t < xs.length ∧ out[t.toNat]? = some (hgB xs k h)
  mem : ∀ t, t ∈ T ↔ t ∈ tgtN xs k
  pts : ∀ (j : Nat) (g : Int), out[j]? = some g → 0 < g → (j : Int) ∉ q → ptB ps j = false
section
variable {xs : List (Int × Int)} {ps : List P2} {T out q : List Int} {k i : Nat} {h : Int}
theorem SrchV.init (hn : 1 ≤ xs.length) : SrchV xs ps ((List.replicate xs.length (-1 : Int)).set 0 0) [0] := by
  refine ⟨SrchH.init hn, fun j g hj hg hq => ?_⟩
  rcases Nat.eq_zero_or_pos j with e | e
  · subst e; exact absurd (List.mem_singleton.2 rfl) hq
  · rw [List.getElem?_set_ne (by omega)] at hj
    have := List.eq_of_mem_replicate (List.mem_of_getElem? hj)
    omega
theorem SrchV.take (s : SrchV xs ps out ((k : Int) :: q)) (hk : out[k]? = some h) (h0 : 0 ≤ h) (hf : fitH xs k h) (hp : 0 < h → ptB ps k = false) (hT : ∀ t, t ∈ T ↔ t ∈ tgtN xs k) : SrchU xs ps T out q k h 0 :=
  ⟨s.s.len, s.s.zero, s.s.low, s.s.under, fun t ht => s.s.inq t (List.mem_cons_of_mem _ ht), fun j g hj hg hq hne => s.s.done j g hj hg (fun e => by
    rcases List.mem_cons.1 e with e | e
    · exact hne (by omega)
    · exact hq e), hk, h0, hf, (fun t ht => by cases ht), hT, fun j g hj hg hq => by
    by_cases e : j = k
    · subst e
      rw [hk] at hj
      obtain rfl := Option.some.inj hj
      exact hp hg
    · exact s.pts j g hj hg (fun e' => by
        rcases List.mem_cons.1 e' with e' | e'
        · exact e (by omega)
        · exact hq e')⟩
theorem SrchV.point (s : SrchV xs ps out q) (hk : out[k]? = some h) (h0 : 0 < h) (hp : ptB ps k = true) : BadH xs ps :=
  fun L hL => ⟨k, h, s.s.under L hL.good k h hk (by omega), h0, hp⟩
theorem SrchV.unfit (s : SrchV xs ps out q) (hk : out[k]? = some h) (h0 : 0 ≤ h) (hf : ¬ fitH xs k h) : BadH xs ps := .none (s.s.unfit hk h0 hf)
theorem SrchU.good (s : SrchU xs ps T out q k h i) {K : List Int} (hK : GoodH xs K) {t : Int} (ht : t ∈ T) : t < xs.length ∧ K[t.toNat]? = some (hgB xs k h) :=
  (hK.step k h (s.under K hK k h s.cur s.pos) s.pos).2 t ((s.mem t).1 ht)
/-- A target that has the height already. -/
theorem SrchU.skip (s : SrchU xs ps T out q k h i) {t : Int} (ht : T[i]? = some t) (hl : t < xs.length) (he : out[t.toNat]? = some (hgB xs k h)) : SrchU xs ps T out q k h (i + 1) :=
  ⟨s.len, s.zero, s.low, s.under, s.inq, s.done, s.cur, s.pos, s.fit, fun u hu => by
    rw [List.take_add_one, ht] at hu
    rcases List.mem_append.1 hu with e | e
    · exact s.part u e
    · have : u = t := by simpa using e
      subst this; exact ⟨hl, he⟩, s.mem, s.pts⟩
/-- A target without a height gets one, and is appended. -/
theorem SrchU.put (s : SrchU xs ps T out q k h i) {t a : Int} (ht : T[i]? = some t) (h0 : 0 ≤ t) (hl : t < xs.length) (he : out[t.toNat]? = some a) (ha : a < 0) : SrchU xs ps T (out.set t.toNat (hgB xs k h)) (q ++ [t]) k h (i + 1) := by
  have hge := s.fit.ge
  have hlt : t.toNat < out.length := (List.getElem?_eq_some_iff.1 he).1
  have hself : (out.set t.toNat (hgB xs k h))[t.toNat]? = some (hgB xs k h) := List.getElem?_set_self hlt
  have hkeep : ∀ (j : Nat) (g : Int), out[j]? = some g → 0 ≤ g → (out.set t.toNat (hgB xs k h))[j]? = some g := fun j g hj hg => by
    rw [List.getElem?_set_ne (fun e => by rw [e] at he; rw [he] at hj; have := Option.some.inj hj; omega)]; exact hj
  refine ⟨by rw [List.length_set]; exact s.len, hkeep 0 0 s.zero (Int.le_refl _), fun z hz => ?_, fun K hK j g hj hg => ?_, fun u hu => ?_, fun j g hj hg hq hne => ?_, hkeep k h s.cur s.pos, s.pos, s.fit, fun u hu => ?_, s.mem, fun j g hj hg hq => ?_⟩
  · rcases List.mem_or_eq_of_mem_set hz with e | rfl
    · exact s.low z e
    · omega
  · by_cases e : t.toNat = j
    · subst e
      rw [hself] at hj
      rw [← hj]; exact (s.good hK (List.mem_of_getElem? ht)).2
    · rw [List.getElem?_set_ne e] at hj
      exact s.under K hK j g hj hg
  · rcases List.mem_append.1 hu with e | e
    · obtain ⟨a1, a2, g, a3, a4⟩ := s.inq u e
      exact ⟨a1, a2, g, hkeep _ g a3 a4, a4⟩
    · obtain rfl := List.mem_singleton.1 e
      exact ⟨h0, hl, _, hself, hge⟩
  · have hjt : t.toNat ≠ j := fun e => hq (List.mem_append_right _ (List.mem_singleton.2 (by omega)))
    rw [List.getElem?_set_ne hjt] at hj
    obtain ⟨f1, f2⟩ := s.done j g hj hg (fun e => hq (List.mem_append_left _ e)) hne
    exact ⟨f1, fun u hu => ⟨(f2 u hu).1, hkeep _ _ (f2 u hu).2 f1.ge⟩⟩
  · rw [List.take_add_one, ht] at hu
    rcases List.mem_append.1 hu with e | e
    · exact ⟨(s.part u e).1, hkeep _ _ (s.part u e).2 hge⟩
    · have : u = t := by simpa using e
      subst this; exact ⟨hl, hself⟩
  · have hjt : t.toNat ≠ j := fun e => hq (List.mem_append_right _ (List.mem_singleton.2 (by omega)))
    rw [List.getElem?_set_ne hjt] at hj
    exact s.pts j g hj hg (fun e => hq (List.mem_append_left _ e))
theorem SrchU.far (s : SrchU xs ps T out q k h i) {t : Int} (ht : T[i]? = some t) (hl : ¬ t < xs.length) : BadH xs ps :=
  .none fun K hK => hl (s.good hK (List.mem_of_getElem? ht)).1
theorem SrchU.other (s : SrchU xs ps T out q k h i) {t a : Int} (ht : T[i]? = some t) (he : out[t.toNat]? = some a) (ha : 0 ≤ a) (hne : a ≠ hgB xs k h) : BadH xs ps :=
  .none fun K hK => by
    have h1 := (s.good hK (List.mem_of_getElem? ht)).2
    rw [s.under K hK t.toNat a he ha] at h1
    exact hne (Option.some.inj h1)
theorem SrchU.all (s : SrchU xs ps T out q k h i) (hi : T.length ≤ i) : SrchV xs ps out q :=
  ⟨⟨s.len, s.zero, s.low, s.under, s.inq, fun j g hj hg hq => by
    by_cases e : j = k
    · subst e
      have := s.cur
      rw [this] at hj
      obtain rfl := Option.some.inj hj
      exact ⟨s.fit, fun t ht => s.part t (by rw [List.take_of_length_le hi]; exact (s.mem t).2 ht)⟩
    · exact s.done j g hj hg hq e⟩, s.pts⟩
theorem SrchV.least (s : SrchV xs ps out []) : LeastH xs out ∧ FlatP ps out := ⟨s.s.least, fun j g hj hg => s.pts j g hj hg (by simp)⟩
end
/-- Whether heights are 0 at the points. -/
def flatB (L : List Int) (ps : List P2) : Bool := ps.all fun p => decide (L.getD p.a.toNat 0 ≤ 0)
theorem flatB_take {L : List Int} {ps : List P2} {j : Nat} {p : P2} (h : flatB L (ps.take j) = true) (hp : ps[j]? = some p) (hn : L.getD p.a.toNat 0 ≤ 0) : flatB L (ps.take (j + 1)) = true := by
  unfold flatB at h ⊢
  rw [List.take_add_one, hp, List.all_append, h]
  show (true && List.all [p] _) = true
  simp only [List.all_cons, List.all_nil, Bool.and_true, Bool.true_and]
  exact decide_eq_true hn
theorem flatB_no {L : List Int} {ps : List P2} {j : Nat} {p : P2} (hp : ps[j]? = some p) (hn : 0 < L.getD p.a.toNat 0) : flatB L ps = false := by
  unfold flatB
  rw [List.all_eq_false]
  exact ⟨p, List.mem_of_getElem? hp, fun e => by have := of_decide_eq_true e; omega⟩
theorem flatB_all {L : List Int} {ps : List P2} {j : Nat} (h : flatB L (ps.take j) = true) (hj : ps.length ≤ j) : flatB L ps = true := by
  rwa [List.take_of_length_le hj] at h
/-- What HeightsOf gives. -/
noncomputable def hgoR (t0 t1 : List (Int × List Int)) (xs : List (Int × Int)) (ps : List P2) : List Int × Bool :=
  if annB t0 t1 xs ps = true ∧ (hgtR xs).2 = true ∧ flatB (hgtR xs).1 ps = true then ((hgtR xs).1, true) else ([], false)
theorem ptsF_all {len : Int} : ∀ {l : Int} {ps : List P2}, 0 ≤ l → ptsF len l ps = true → ∀ p ∈ ps, 0 ≤ p.a ∧ p.a ≤ len - 1
  | l, [], h0, h => fun p hp => by cases hp
  | l, x :: ps, h0, h => fun p hp => by
    have h1 := ptsF_step (len := len) (l := l) (ps := x :: ps) (k := 0) (p := x) rfl
    rw [List.drop_zero] at h1
    rw [h] at h1
    have h2 := h1.symm
    simp only [Bool.and_eq_true, decide_eq_true_eq] at h2
    rcases List.mem_cons.1 hp with rfl | hp
    · exact ⟨by omega, h2.1.1.2⟩
    · exact ptsF_all (l := x.a + 1) (by omega) h2.2 p hp
theorem annB_pts {t0 t1 : List (Int × List Int)} {xs : List (Int × Int)} {ps : List P2} (h : annB t0 t1 xs ps = true) : ps.length ≤ 8 ∧ ∀ p ∈ ps, 0 ≤ p.a ∧ p.a ≤ (xs.length : Int) - 1 := by
  have h1 := (annB_parts h).2.2.2
  unfold ptsB at h1
  simp only [Bool.and_eq_true, decide_eq_true_eq] at h1
  exact ⟨h1.1, ptsF_all (Int.le_refl 0) h1.2⟩
theorem ptB_mem {ps : List P2} {k : Int} (h : ptB ps k = true) : ∃ p ∈ ps, p.a = k := by
  unfold ptB at h
  rw [List.any_eq_true] at h
  obtain ⟨p, hp, e⟩ := h
  exact ⟨p, hp, of_decide_eq_true e⟩
theorem flatB_of {L : List Int} {ps : List P2} {n : Nat} (hf : FlatP ps L) (hl : L.length = n) (hp : ∀ p ∈ ps, 0 ≤ p.a ∧ p.a ≤ (n : Int) - 1) : flatB L ps = true := by
  unfold flatB
  rw [List.all_eq_true]
  intro p h
  obtain ⟨h1, h2⟩ := hp p h
  refine decide_eq_true ?_
  rcases Int.lt_or_le 0 (L.getD p.a.toNat 0) with e | e
  · exfalso
    have hj : L[p.a.toNat]? = some (L.getD p.a.toNat 0) := by rw [List.getD_eq_getElem?_getD, List.getElem?_eq_getElem (by omega)]; rfl
    have := hf _ _ hj e
    rw [Int.toNat_of_nonneg h1] at this
    obtain ⟨j, hj2⟩ := List.getElem?_of_mem h
    rw [ptB_yes hj2 rfl] at this
    cases this
  · exact e
theorem hgoR_yes {t0 t1 : List (Int × List Int)} {xs : List (Int × Int)} {ps : List P2} {L : List Int} (ha : annB t0 t1 xs ps = true) (hL : LeastH xs L) (hf : FlatP ps L) : hgoR t0 t1 xs ps = (L, true) := by
  have e := hgtR_yes (annB_parts ha).1 hL
  have h2 := flatB_of hf hL.good.len (annB_pts ha).2
  unfold hgoR
  rw [e, if_pos ⟨ha, rfl, h2⟩]
theorem hgoR_no {t0 t1 : List (Int × List Int)} {xs : List (Int × Int)} {ps : List P2} (hb : BadH xs ps) : hgoR t0 t1 xs ps = ([], false) := by
  unfold hgoR
  rw [if_neg]
  rintro ⟨ha, h1, h2⟩
  obtain ⟨j, g, hj, hg, hp⟩ := hb _ (hgtR_is h1)
  obtain ⟨p, hpm, e⟩ := ptB_mem hp
  unfold flatB at h2
  rw [List.all_eq_true] at h2
  have := of_decide_eq_true (h2 p hpm)
  rw [e, Int.toNat_natCast, List.getD_eq_getElem?_getD, hj] at this
  have h3 : g ≤ 0 := this
  omega
theorem hgoR_bad {t0 t1 : List (Int × List Int)} {xs : List (Int × Int)} {ps : List P2} (h : annB t0 t1 xs ps = false) : hgoR t0 t1 xs ps = ([], false) := if_neg (fun e => by rw [h] at e; cases e.1)
theorem hgoR_steep {t0 t1 : List (Int × List Int)} {xs : List (Int × Int)} {ps : List P2} (h : (hgtR xs).2 = false) : hgoR t0 t1 xs ps = ([], false) := if_neg (fun e => by rw [h] at e; cases e.2.1)
theorem hgoR_up {t0 t1 : List (Int × List Int)} {xs : List (Int × Int)} {ps : List P2} (h : flatB (hgtR xs).1 ps = false) : hgoR t0 t1 xs ps = ([], false) := if_neg (fun e => by rw [h] at e; cases e.2.2)
theorem hgoR_all {t0 t1 : List (Int × List Int)} {xs : List (Int × Int)} {ps : List P2} (h0 : annB t0 t1 xs ps = true) (h1 : (hgtR xs).2 = true) (h2 : flatB (hgtR xs).1 ps = true) : hgoR t0 t1 xs ps = ((hgtR xs).1, true) := if_pos ⟨h0, h1, h2⟩
end Go.Proofs.YtffkdidgfeknkaaGreatDoor
