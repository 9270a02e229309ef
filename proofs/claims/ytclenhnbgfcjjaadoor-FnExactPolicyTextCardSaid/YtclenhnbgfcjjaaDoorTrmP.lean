/-
  The text of a term. No conditions.
-/
import Derived.Test.YtclenhnbgfcjjaaDoorSum
import Derived.Test.YtclenhnbgfcjjaaDoorTab10
import Derived.Lib.ItoaLen
import Derived.Lib.ItoaMem
import Derived.Lib.Join
namespace Go.Proofs.YtclenhnbgfcjjaaDoor

def strL (l : List UInt8) : ByteArray := ⟨l.toArray⟩
theorem strL_cat (a b : List UInt8) : strL a ++ strL b = strL (a ++ b) := by
  apply ByteArray.ext
  simp [strL, ByteArray.data_append]
theorem strL_size (l : List UInt8) : (strL l).size = l.length := by
  have e : (strL l).data.toList = l := by unfold strL; simp
  have : (strL l).data.toList.length = (strL l).size := by rw [Array.length_toList]; rfl
  rw [← this, e]
theorem strL_toList (l : List UInt8) : (strL l).data.toList = l := by unfold strL; simp
theorem strL_ne {l : List UInt8} (h : l ≠ []) : ¬ strL l = ⟨#[]⟩ := fun e => h (by
  have := congrArg (fun s : ByteArray => s.data.toList) e
  rw [strL_toList] at this
  simpa using this)
/-- The digits of a summand and its name. -/
def digL (n : Int) : List UInt8 := Lib.itoa (n.natAbs : Int)
def sgnL (n : Int) : UInt8 := if n < 0 then 45 else 43
def bodyL (s n : Int) : List UInt8 := if s = -1 then digL n else (if n.natAbs = 1 then [] else digL n) ++ [UInt8.ofNat (97 + s.toNat)]
def partL (p : Int × Int) : List UInt8 := sgnL p.2 :: bodyL p.1 p.2
def sumL (ps : List (Int × Int)) : List UInt8 := ps.flatMap partL
def trimL : List UInt8 → List UInt8
  | [] => []
  | x :: r => if x = 43 then r else x :: r
def termL (t : Int × List Int) : List UInt8 := if summ t = [] then [48] else trimL (sumL (summ t))
theorem digL_ne (n : Int) : digL n ≠ [] := by
  unfold digL
  rw [Lib.itoa_nonneg, Lib.decDigits]
  split <;> simp
theorem bodyL_ne (s n : Int) : bodyL s n ≠ [] := by
  unfold bodyL
  split
  · exact digL_ne n
  · simp
theorem trim_app {l r : List UInt8} (h : l ≠ []) : trimL (l ++ r) = trimL l ++ r := by
  cases l with
  | nil => exact absurd rfl h
  | cons x l =>
    show (if x = 43 then l ++ r else x :: (l ++ r)) = (if x = 43 then l else x :: l) ++ r
    split <;> rfl
theorem sumL_snoc (ps : List (Int × Int)) (p : Int × Int) : sumL (ps ++ [p]) = sumL ps ++ partL p := by simp [sumL]
theorem sumL_ne {ps : List (Int × Int)} (h : ps ≠ []) : sumL ps ≠ [] := by
  cases ps with
  | nil => exact absurd rfl h
  | cons p ps => simp [sumL, partL]
theorem trim_part (p : Int × Int) : trimL (partL p) = (if p.2 < 0 then [45] else []) ++ bodyL p.1 p.2 := by
  show (if sgnL p.2 = 43 then bodyL p.1 p.2 else sgnL p.2 :: bodyL p.1 p.2) = _
  unfold sgnL
  by_cases h : p.2 < 0
  · rw [if_pos h, if_pos h]; rfl
  · rw [if_neg h, if_neg h]; rfl
theorem trim_sum_ne {ps : List (Int × Int)} (h : ps ≠ []) : trimL (sumL ps) ≠ [] := by
  cases ps with
  | nil => exact absurd rfl h
  | cons p ps =>
    have e : sumL (p :: ps) = partL p ++ sumL ps := by simp [sumL]
    rw [e, trim_app (by simp [partL]), trim_part]
    have := bodyL_ne p.1 p.2
    simp [this]
theorem trim_first (p : Int × Int) : trimL (sumL ([] ++ [p])) = (if p.2 < 0 then [45] else []) ++ bodyL p.1 p.2 := by
  rw [sumL_snoc]; exact trim_part p
theorem trim_more {ps : List (Int × Int)} (h : ps ≠ []) (p : Int × Int) : trimL (sumL (ps ++ [p])) = trimL (sumL ps) ++ partL p := by
  rw [sumL_snoc, trim_app (sumL_ne h)]
theorem trim_empty {ps : List (Int × Int)} (h : trimL (sumL ps) = []) : ps = [] := Decidable.byContradiction fun hn => trim_sum_ne hn h

/-- The summands of the first coefficients; behind the last one, of the constant too. -/
def accP (t : Int × List Int) (k : Nat) : List (Int × Int) := if k ≤ t.2.length then sumTo t k else summ t
theorem accP_zero (t : Int × List Int) : accP t 0 = [] := by unfold accP; rw [if_pos (Nat.zero_le _)]; rfl
theorem accP_coeff {t : Int × List Int} {k : Nat} (h : k < t.2.length) : accP t (k + 1) = accP t k ++ (if t.2.getD k 0 = 0 then [] else [((k : Int), t.2.getD k 0)]) := by
  unfold accP; rw [if_pos (by omega), if_pos (by omega)]; rfl
theorem accP_const (t : Int × List Int) : accP t (t.2.length + 1) = accP t t.2.length ++ (if t.1 = 0 then [] else [(-1, t.1)]) := by
  unfold accP; rw [if_neg (by omega), if_pos (Nat.le_refl _)]; rfl
theorem accP_end {t : Int × List Int} {k : Nat} (h : t.2.length < k) : accP t k = summ t := by unfold accP; rw [if_neg (by omega)]
theorem bodyL_short {s n : Int} (h : -1000000 ≤ n ∧ n ≤ 1000000) : (bodyL s n).length ≤ 22 := by
  have h1 := Lib.itoa_length_le (n.natAbs : Int) (by omega) (by omega)
  unfold bodyL digL
  split
  · omega
  · split <;> simp <;> omega
theorem sumL_short : ∀ (ps : List (Int × Int)), (∀ p ∈ ps, -1000000 ≤ p.2 ∧ p.2 ≤ 1000000) → (sumL ps).length ≤ 23 * ps.length
  | [], _ => by simp [sumL]
  | p :: ps, h => by
    have h1 := sumL_short ps fun q hq => h q (List.mem_cons_of_mem _ hq)
    have h2 := bodyL_short (s := p.1) (h p List.mem_cons_self)
    have e : sumL (p :: ps) = (sgnL p.2 :: bodyL p.1 p.2) ++ sumL ps := by simp [sumL, partL]
    rw [e]
    simp only [List.length_append, List.length_cons]
    omega
theorem trimL_le (l : List UInt8) : (trimL l).length ≤ l.length := by
  cases l with
  | nil => exact Nat.le_refl _
  | cons x l =>
    show (if x = 43 then l else x :: l).length ≤ _
    split <;> simp
theorem accP_lim {t : Int × List Int} (h : tmB t = true) {k : Nat} : ∀ p ∈ accP t k, -1000000 ≤ p.2 ∧ p.2 ≤ 1000000 := by
  intro p hp
  unfold accP at hp
  split at hp
  · rename_i hk
    have hm := sumTo_mem hp
    have hs : p ∈ summ t := by
      unfold summ
      refine List.mem_append_left _ ?_
      have hsub : ∀ m, k ≤ m → p ∈ sumTo t m := by
        intro m hm'
        induction m with
        | zero => have : k = 0 := by omega
                  subst this; exact hp
        | succ m ih =>
          by_cases e : k = m + 1
          · subst e; exact hp
          · exact List.mem_append_left _ (ih (by omega))
      exact hsub _ hk
    have := summ_ok h hs
    exact ⟨this.2.2.1, this.2.2.2⟩
  · have := summ_ok h hp
    exact ⟨this.2.2.1, this.2.2.2⟩
theorem accP_len {t : Int × List Int} (h : t.2.length ≤ 10) (k : Nat) : (accP t k).length ≤ 11 := by
  unfold accP
  split
  · have := sumTo_len t k; omega
  · have := summ_len t; omega
theorem acc_short {t : Int × List Int} (h : tmB t = true) (hl : t.2.length ≤ 10) (k : Nat) : (trimL (sumL (accP t k))).length ≤ 253 := by
  have h1 := trimL_le (sumL (accP t k))
  have h2 := sumL_short (accP t k) (accP_lim h)
  have h3 := accP_len hl k
  omega
theorem termL_is (t : Int × List Int) : termL t = if trimL (sumL (summ t)) = [] then [48] else trimL (sumL (summ t)) := by
  unfold termL
  by_cases h : summ t = []
  · rw [if_pos h, h]; rfl
  · rw [if_neg h, if_neg (trim_sum_ne h)]
def ttR (t : Int × List Int) : ByteArray × Bool := if tmB t = true then (strL (termL t), true) else (⟨#[]⟩, false)
theorem ttR_yes {t : Int × List Int} (h : tmB t = true) : ttR t = (strL (termL t), true) := if_pos h
theorem ttR_no {t : Int × List Int} (h : tmB t = false) : ttR t = (⟨#[]⟩, false) := if_neg (by rw [h]; decide)
/-- A number's digits are '1' only if it is 1. -/
theorem dig_one (n : Int) : digL n = [49] ↔ n.natAbs = 1 := by
  unfold digL
  rw [Lib.itoa_nonneg]
  constructor
  · intro h
    rw [Lib.decDigits] at h
    split at h
    · rename_i hlt
      have : UInt8.ofNat (48 + n.natAbs) = 49 := by simpa using h
      have h2 := congrArg UInt8.toNat this
      simp at h2
      omega
    · have h2 := congrArg List.length h
      have h3 : Lib.decDigits (n.natAbs / 10) ≠ [] := by rw [Lib.decDigits]; split <;> simp
      have h4 : 0 < (Lib.decDigits (n.natAbs / 10)).length := List.length_pos_iff.2 h3
      simp only [List.length_append, List.length_cons, List.length_nil] at h2
      omega
  · intro h
    rw [h, Lib.decDigits]
    rfl
end Go.Proofs.YtclenhnbgfcjjaaDoor
