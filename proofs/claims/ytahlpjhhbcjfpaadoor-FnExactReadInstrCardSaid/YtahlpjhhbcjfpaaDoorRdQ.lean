/-
  Which instruction a text is the text of: by the number behind the first blank, and by the parts between blanks. No conditions.
-/
import Derived.Test.YtahlpjhhbcjfpaaDoorRdP
namespace Go.Proofs.YtahlpjhhbcjfpaaDoor

theorem cut_arg {l p r : List UInt8} (h : l = p ++ 32 :: r) (hp : (32 : UInt8) ∉ p) : (Lib.cut l [32]).2.1 = r := by
  rcases idx_one 32 l with ⟨hn, _⟩ | ⟨p', r', e, hp', hi⟩
  · exact absurd (by rw [h]; simp) hn
  · obtain ⟨rfl, rfl⟩ := split_uniq p' p r' r hp' hp (e.symm.trans h)
    unfold Lib.cut
    rw [hi, if_pos (by omega)]
    show l.drop ((p'.length : Int).toNat + 1) = r'
    rw [e, Int.toNat_natCast]
    simp [List.drop_append]
theorem cut_bare {l : List UInt8} (h : (32 : UInt8) ∉ l) : (Lib.cut l [32]).2.1 = [] := by
  rcases idx_one 32 l with ⟨_, hi⟩ | ⟨p', r', e, _, _⟩
  · unfold Lib.cut
    rw [hi, if_neg (by omega)]
  · exact absurd (by rw [e]; simp) h
theorem itoa_ne (n : Int) : Lib.itoa n ≠ [] := by
  unfold Lib.itoa
  split
  · simp
  · rw [Lib.decDigits]; split <;> simp
theorem rd_nil : rd [] = none := by
  unfold rd
  rw [if_neg]
  intro h
  exact itoa_ne _ h.2.2.2
/-- The number behind the first blank; 0 where there is none. -/
def rdN (s : List UInt8) : Int := match rd (Lib.cut s [32]).2.1 with | some n => n | none => 0
theorem isL_split {s : List UInt8} {op a : Int} (h : isL s op a) : (0 < hiB op ∧ s = nmL op ++ 32 :: Lib.itoa a) ∨ (¬ 0 < hiB op ∧ s = nmL op ∧ a = 0) := by
  by_cases g : 0 < hiB op
  · exact .inl ⟨g, by have := h.2; unfold lineL at this; rw [if_pos g] at this; exact this.symm⟩
  · exact .inr ⟨g, by have := h.2; unfold lineL at this; rw [if_neg g] at this; exact this.symm, bare_zero h.1 g⟩
theorem isL_n {s : List UInt8} {op a : Int} (h : isL s op a) : a = rdN s := by
  have l := instrB_lim h.1
  unfold rdN
  rcases isL_split h with ⟨_, e⟩ | ⟨_, e, e0⟩
  · rw [cut_arg e (nm_free l.1), rd_yes (by omega) (by omega) rfl]
  · rw [cut_bare (by rw [e]; exact nm_free l.1), rd_nil]; exact e0
theorem isL_cut {s : List UInt8} {op a : Int} (h : isL s op a) : cutL 32 s = [nmL op, Lib.itoa a] ∨ (cutL 32 s = [nmL op] ∧ a = 0) := by
  have l := instrB_lim h.1
  rcases isL_split h with ⟨_, e⟩ | ⟨_, e, e0⟩
  · left; rw [e, cut_hit 32 _ _ (nm_free l.1), cut_end 32 _ (itoa_free a)]
  · right; exact ⟨by rw [e, cut_end 32 _ (nm_free l.1)], e0⟩
theorem rdN_lim (s : List UInt8) : -1000000000 ≤ rdN s ∧ rdN s ≤ 1000000000 := by
  unfold rdN
  cases h : rd (Lib.cut s [32]).2.1 with
  | none => exact ⟨by decide, by decide⟩
  | some n => have := rd_some h; exact ⟨this.1, this.2.1⟩
theorem none_of {s : List UInt8} (h : ∀ k : Nat, k < 12 → ¬ isL s (k : Int) (rdN s)) (op a : Int) : ¬ isL s op a := fun hi => by
  have l := (instrB_lim hi.1).1
  have e := isL_n hi
  have := h op.toNat (by omega)
  rw [Int.toNat_of_nonneg l.1, ← e] at this
  exact this hi
end Go.Proofs.YtahlpjhhbcjfpaaDoor
