/-
  Plain lemmas on the parts of a text between marks, of no program: strings.Split at a mark of one byte, and the cutting byte for byte. No conditions.
-/
import Derived.Lib.SplitLaws
namespace Go.Proofs.YtffkdidgfeknkaaDoor

/-- The parts between the marks. -/
def cutL (c : UInt8) : List UInt8 → List (List UInt8)
  | [] => [[]]
  | b :: r => if b = c then [] :: cutL c r else match cutL c r with
    | p :: ps => (b :: p) :: ps
    | [] => [[b]]
theorem cut_hit (c : UInt8) (r : List UInt8) : ∀ (p : List UInt8), c ∉ p → cutL c (p ++ c :: r) = p :: cutL c r
  | [], _ => by simp [cutL]
  | b :: p, h => by
    have hb : ¬ b = c := fun e => h (by rw [e]; exact List.mem_cons_self)
    have ih := cut_hit c r p (fun e => h (List.mem_cons_of_mem _ e))
    rw [List.cons_append, cutL, if_neg hb, ih]
theorem cut_end (c : UInt8) : ∀ (p : List UInt8), c ∉ p → cutL c p = [p]
  | [], _ => rfl
  | b :: p, h => by
    have hb : ¬ b = c := fun e => h (by rw [e]; exact List.mem_cons_self)
    have ih := cut_end c p (fun e => h (List.mem_cons_of_mem _ e))
    rw [cutL, if_neg hb, ih]
theorem cut_len (c : UInt8) : ∀ (l : List UInt8), 0 < (cutL c l).length ∧ (cutL c l).length ≤ l.length + 1
  | [] => by simp [cutL]
  | b :: r => by
    have ih := cut_len c r
    rw [cutL]
    split
    · simp; omega
    · cases h : cutL c r with
      | nil => simp
      | cons p ps => rw [h] at ih; simp at ih ⊢; omega
theorem cut_part (c : UInt8) : ∀ (l : List UInt8), ∀ p ∈ cutL c l, p.length ≤ l.length
  | [] => by simp [cutL]
  | b :: r => by
    have ih := cut_part c r
    intro p hp
    rw [cutL] at hp
    split at hp
    · rcases List.mem_cons.1 hp with rfl | hp
      · simp
      · have := ih p hp; simp; omega
    · cases h : cutL c r with
      | nil => rw [h] at hp; simp at hp; subst hp; simp
      | cons q qs =>
        rw [h] at hp ih
        simp only at hp
        rcases List.mem_cons.1 hp with rfl | hp
        · have := ih q List.mem_cons_self; simp; omega
        · have := ih p (List.mem_cons_of_mem _ hp); simp; omega
theorem idx_one (c : UInt8) : ∀ (l : List UInt8), (c ∉ l ∧ Lib.index l [c] = -1) ∨ ∃ p r, l = p ++ c :: r ∧ c ∉ p ∧ Lib.index l [c] = (p.length : Int)
  | [] => .inl ⟨by simp, rfl⟩
  | b :: l => by
    by_cases hb : c = b
    · subst hb
      refine .inr ⟨[], l, rfl, by simp, ?_⟩
      unfold Lib.index
      simp
    · have hp : List.isPrefixOf [c] (b :: l) = false := by simp [List.isPrefixOf, hb]
      rcases idx_one c l with ⟨h1, h2⟩ | ⟨p, r, h1, h2, h3⟩
      · refine .inl ⟨by simp [hb, h1], ?_⟩
        unfold Lib.index
        rw [hp, h2]; rfl
      · refine .inr ⟨b :: p, r, by rw [h1]; rfl, by simp [hb, h2], ?_⟩
        unfold Lib.index
        rw [hp, h3]
        have : ((p.length : Int) == -1) = false := by rw [beq_eq_false_iff_ne]; omega
        simp [this]
theorem split_cut (c : UInt8) : ∀ (n : Nat) (l : List UInt8), l.length ≤ n → Lib.splitK [c] 0 (Lib.count l [c]) l = cutL c l := by
  intro n
  induction n with
  | zero =>
    intro l hl
    have : l = [] := List.eq_nil_of_length_eq_zero (by omega)
    subst this
    rw [Lib.count_miss rfl]; rfl
  | succ n ih =>
    intro l hl
    rcases idx_one c l with ⟨h1, h2⟩ | ⟨p, r, h1, h2, h3⟩
    · rw [Lib.count_miss h2, cut_end c l h1]; rfl
    · have hm : ¬ (Lib.index l [c] == -1) = true := fun e => by have := beq_iff_eq.1 e; omega
      have e : (Lib.index l [c]).toNat = p.length := by omega
      have hd : l.drop (p.length + 1) = r := by rw [h1, List.drop_append]; simp
      have ht : l.take p.length = p := by rw [h1]; simp
      rw [Lib.count_hit (by simp) h3, Nat.add_comm 1, Lib.splitK, if_neg hm, e]
      simp only [List.length_cons, List.length_nil, Nat.zero_add, Nat.add_zero, hd, ht]
      rw [ih r (by rw [h1] at hl; simp at hl; omega), h1, cut_hit c r p h2]
/-- The parts as strings. -/
def cutS (c : UInt8) (s : ByteArray) : List ByteArray := (cutL c s.data.toList).map fun l => ⟨l.toArray⟩
theorem split_is (c : UInt8) (s : ByteArray) : Lib.splitB ⟨#[c]⟩ 0 (Lib.countB s ⟨#[c]⟩) s = cutS c s := by
  have h := Lib.splitB_data ⟨#[c]⟩ 0 (Lib.countB s ⟨#[c]⟩) s
  have h2 := split_cut c _ s.data.toList (Nat.le_refl _)
  have h3 : (Lib.splitB ⟨#[c]⟩ 0 (Lib.countB s ⟨#[c]⟩) s).map (·.data.toList) = cutL c s.data.toList := h.trans h2
  unfold cutS
  rw [← h3, List.map_map]
  have e : ((fun l : List UInt8 => (⟨l.toArray⟩ : ByteArray)) ∘ fun b : ByteArray => b.data.toList) = id := by
    funext b
    rfl
  rw [e, List.map_id]
theorem count_is (c : UInt8) (s : ByteArray) : Lib.countB s ⟨#[c]⟩ + 1 = (cutS c s).length := by
  rw [← split_is, Lib.splitB_all ⟨#[c]⟩ (Nat.le_refl 1) 0 _ s rfl]
theorem cutS_len (c : UInt8) (s : ByteArray) : 0 < (cutS c s).length ∧ (cutS c s).length ≤ s.size + 1 := by
  have := cut_len c s.data.toList
  have e : s.data.toList.length = s.size := by rw [Array.length_toList]; rfl
  rw [e] at this
  simpa [cutS] using this
theorem cutS_part (c : UInt8) (s : ByteArray) : ∀ z ∈ cutS c s, z.size ≤ s.size := by
  intro z hz
  obtain ⟨p, hp, rfl⟩ := List.mem_map.1 hz
  have := cut_part c s.data.toList p hp
  have e : s.data.toList.length = s.size := by rw [Array.length_toList]; rfl
  rw [e] at this
  show p.toArray.size ≤ s.size
  simpa using this
theorem cut_ne (c : UInt8) (l : List UInt8) : cutL c l ≠ [] := by
  cases l with
  | nil => simp [cutL]
  | cons b r =>
    rw [cutL]
    split
    · simp
    · split <;> simp
theorem cut_mark (c : UInt8) : ∀ l : List UInt8, cutL c (l ++ [c]) = cutL c l ++ [[]]
  | [] => by simp [cutL]
  | b :: r => by
    have ih := cut_mark c r
    rw [List.cons_append, cutL, ih, cutL]
    split
    · rfl
    · cases h : cutL c r with
      | nil => exact absurd h (cut_ne c r)
      | cons p ps => rfl
theorem cut_other (c b : UInt8) (hb : ¬ b = c) : ∀ l : List UInt8, ∃ ps p, cutL c (l ++ [b]) = ps ++ [p ++ [b]]
  | [] => ⟨[], [], by simp [cutL, hb]⟩
  | x :: r => by
    obtain ⟨ps, p, ih⟩ := cut_other c b hb r
    rw [List.cons_append, cutL, ih]
    split
    · exact ⟨[] :: ps, p, rfl⟩
    · cases ps with
      | nil => exact ⟨[], x :: p, rfl⟩
      | cons q qs => exact ⟨(x :: q) :: qs, p, rfl⟩
end Go.Proofs.YtffkdidgfeknkaaDoor
