/-
  Plain lemmas on decimal texts, of no program: a text is read as its number, by the model's way and by strconv's. No conditions.
-/
import Derived.Lib.ItoaNum
import Derived.Lib.ItoaMem
import Derived.Lib.AtoiTie
import Derived.Lib.ParseIntBTie
namespace Go.Proofs.YtahlpjhhbcjfpaaDoor

theorem nDigits_le : ∀ (k u : Nat), u < 10 ^ (k + 1) → Lib.nDigits u ≤ k + 1
  | 0, u, h => by rw [Lib.nDigits_small (by simpa using h)]; omega
  | k + 1, u, h => by
    by_cases hu : u < 10
    · rw [Lib.nDigits_small hu]; omega
    · rw [Lib.nDigits_big hu]
      have := nDigits_le k (u / 10) (by rw [Nat.div_lt_iff_lt_mul (by decide)]; rw [Nat.pow_succ] at h; exact h)
      omega
theorem digit_byte {d : Nat} (h : d < 10) : (UInt8.ofNat (48 + d)).toNat = 48 + d := by
  have key : ∀ d : Fin 10, (UInt8.ofNat (48 + d.1)).toNat = 48 + d.1 := by decide
  exact key ⟨d, h⟩
theorem dec_bytes (u : Nat) : ∀ b ∈ Lib.decDigits u, 48 ≤ b.toNat ∧ b.toNat ≤ 57 := by
  induction u using Nat.strongRecOn with
  | _ u ih =>
    intro b hb
    rw [Lib.decDigits] at hb
    by_cases h : u < 10
    · rw [dif_pos h, List.mem_singleton] at hb
      subst hb
      rw [digit_byte h]; omega
    · rw [dif_neg h, List.mem_append, List.mem_singleton] at hb
      rcases hb with hb | rfl
      · exact ih (u / 10) (by omega) b hb
      · rw [digit_byte (Nat.mod_lt u (by decide))]
        have := Nat.mod_lt u (show 0 < 10 by decide)
        omega
theorem dec_ne (u : Nat) : Lib.decDigits u ≠ [] := by
  intro h
  have := congrArg List.length h
  rw [Lib.decDigits_length] at this
  have := Lib.nDigits_pos u
  simp at *; omega

/-- One byte more, as the model reads. -/
def vstep (acc : Nat) (c : UInt8) : Nat := if 48 ≤ c.toNat ∧ c.toNat ≤ 57 then 10 * acc + (c.toNat - 48) else acc
def vnat (l : List UInt8) : Nat := l.foldl vstep 0
theorem vstep_digit {acc d : Nat} (h : d < 10) : vstep acc (UInt8.ofNat (48 + d)) = 10 * acc + d := by
  rw [vstep, digit_byte h, if_pos (by omega)]; omega
theorem vnat_dec (u : Nat) : vnat (Lib.decDigits u) = u := by
  induction u using Nat.strongRecOn with
  | _ u ih =>
    rw [Lib.decDigits]
    by_cases h : u < 10
    · rw [dif_pos h]
      show vstep 0 (UInt8.ofNat (48 + u)) = u
      rw [vstep_digit h]; omega
    · rw [dif_neg h]
      have e := ih (u / 10) (by omega)
      unfold vnat at e ⊢
      rw [List.foldl_append, e]
      show vstep (u / 10) (UInt8.ofNat (48 + u % 10)) = u
      rw [vstep_digit (Nat.mod_lt u (by decide))]; omega
theorem vnat_take (l : List UInt8) (k : Nat) (c : UInt8) (h : l[k]? = some c) : vnat (l.take (k + 1)) = vstep (vnat (l.take k)) c := by
  unfold vnat
  rw [List.take_add_one, h, List.foldl_append]
  rfl
theorem vnat_lt (l : List UInt8) : ∀ k, vnat (l.take k) < 10 ^ k := by
  intro k
  induction k with
  | zero => simp [vnat]
  | succ k ih =>
    rw [Nat.pow_succ]
    by_cases h : k < l.length
    · rw [vnat_take l k l[k] (List.getElem?_eq_getElem h), vstep]
      split <;> omega
    · rw [List.take_of_length_le (by omega)]
      rw [List.take_of_length_le (by omega)] at ih
      omega

theorem decFrom_append : ∀ (l : List UInt8) (acc m d : Nat) (c : UInt8), Lib.decFrom acc l = some m → Lib.digitVal c = some d → Lib.decFrom acc (l ++ [c]) = some (m * 10 + d)
  | [], acc, m, d, c, h, hc => by
    simp only [Lib.decFrom, Option.some.injEq] at h
    subst h
    simp [Lib.decFrom, hc]
  | b :: r, acc, m, d, c, h, hc => by
    rw [List.cons_append]
    simp only [Lib.decFrom] at h ⊢
    cases hb : Lib.digitVal b with
    | none => simp [hb] at h
    | some e =>
      simp only [hb] at h ⊢
      exact decFrom_append r _ m d c h hc
theorem digitVal_digit {d : Nat} (h : d < 10) : Lib.digitVal (UInt8.ofNat (48 + d)) = some d := by
  rw [Lib.digitVal, digit_byte h, if_pos (by omega)]; congr 1; omega
theorem decFrom_dec (u : Nat) : Lib.decFrom 0 (Lib.decDigits u) = some u := by
  induction u using Nat.strongRecOn with
  | _ u ih =>
    rw [Lib.decDigits]
    by_cases h : u < 10
    · rw [dif_pos h]
      show (match Lib.digitVal (UInt8.ofNat (48 + u)) with | some d => Lib.decFrom (0 * 10 + d) [] | none => none) = some u
      rw [digitVal_digit h]
      simp [Lib.decFrom]
    · rw [dif_neg h, decFrom_append _ _ _ _ _ (ih (u / 10) (by omega)) (digitVal_digit (Nat.mod_lt u (by decide)))]
      congr 1; omega
theorem decNat_dec (u : Nat) : Lib.decNat (Lib.decDigits u) = some u := by
  have h := dec_ne u
  unfold Lib.decNat
  rw [if_neg (by simpa using h), decFrom_dec]

theorem dec_head (u : Nat) : ∃ b r, Lib.decDigits u = b :: r ∧ 48 ≤ b.toNat ∧ b.toNat ≤ 57 := by
  cases h : Lib.decDigits u with
  | nil => exact absurd h (dec_ne u)
  | cons b r => exact ⟨b, r, rfl, dec_bytes u b (by rw [h]; exact List.mem_cons_self)⟩
theorem atoi_itoa (n : Int) : Lib.atoi (Lib.itoa n) = some n := by
  unfold Lib.itoa
  by_cases h : n < 0
  · rw [if_pos h]
    simp only [Lib.atoi, beq_self_eq_true, if_true, decNat_dec, Option.map_some]
    congr 1; omega
  · rw [if_neg h]
    have hd := decNat_dec n.toNat
    obtain ⟨b, r, e, h1, h2⟩ := dec_head n.toNat
    rw [e] at hd ⊢
    have n45 : (b == 45) = false := by
      rw [beq_eq_false_iff_ne]; rintro rfl; exact absurd h1 (by decide)
    have n43 : (b == 43) = false := by
      rw [beq_eq_false_iff_ne]; rintro rfl; exact absurd h1 (by decide)
    simp only [Lib.atoi, n45, n43, hd, Option.map_some]
    simp; omega
theorem itoa_len11 {n : Int} (h1 : -1000000000 ≤ n) (h2 : n ≤ 1000000000) : (Lib.itoa n).length ≤ 11 := by
  have e : (10 : Nat) ^ (9 + 1) = 10000000000 := by decide
  unfold Lib.itoa
  split
  · rw [List.length_cons, Lib.decDigits_length]
    have := nDigits_le 9 n.natAbs (by omega)
    omega
  · rw [Lib.decDigits_length]
    have := nDigits_le 9 n.toNat (by omega)
    omega
theorem parse_itoa {n : Int} (h1 : -1000000000 ≤ n) (h2 : n ≤ 1000000000) : Lib.parseIntB 64 (Lib.itoa n) = .ok n := by
  rw [Lib.parseIntB_64, Lib.atoiAll_short _ (Nat.le_trans (itoa_len11 h1 h2) (by decide)), atoi_itoa]
  rfl

/-- The number that the model reads. -/
def valL (l : List UInt8) : Int := if l.head? = some 45 then -(vnat l : Int) else vnat l
theorem valL_itoa (n : Int) : valL (Lib.itoa n) = n := by
  unfold Lib.itoa
  by_cases h : n < 0
  · rw [if_pos h, valL, List.head?_cons, if_pos rfl]
    have e : vnat (45 :: Lib.decDigits n.natAbs) = vnat (Lib.decDigits n.natAbs) := rfl
    rw [e, vnat_dec]; omega
  · rw [if_neg h]
    have hv := vnat_dec n.toNat
    obtain ⟨b, r, e, h1, h2⟩ := dec_head n.toNat
    rw [e] at hv ⊢
    rw [valL, List.head?_cons, if_neg (by intro hb; injection hb with hb; subst hb; exact absurd h1 (by decide)), hv]; omega
/-- The number that has this text, if there is one. -/
def rd (l : List UInt8) : Option Int := if l.length ≤ 11 ∧ -1000000000 ≤ valL l ∧ valL l ≤ 1000000000 ∧ Lib.itoa (valL l) = l then some (valL l) else none
theorem rd_yes {l : List UInt8} {n : Int} (h1 : -1000000000 ≤ n) (h2 : n ≤ 1000000000) (h : Lib.itoa n = l) : rd l = some n := by
  subst h
  rw [rd, valL_itoa, if_pos ⟨itoa_len11 h1 h2, h1, h2, rfl⟩]
theorem rd_some {l : List UInt8} {n : Int} (h : rd l = some n) : -1000000000 ≤ n ∧ n ≤ 1000000000 ∧ Lib.itoa n = l := by
  unfold rd at h
  split at h
  · rename_i hh
    injection h with h
    subst h
    exact hh.2
  · cases h
/-- What strconv reads decides as well. -/
theorem rd_parse {l : List UInt8} {v : Int} (h : Lib.parseIntB 64 l = .ok v) : rd l = if -1000000000 ≤ v ∧ v ≤ 1000000000 ∧ Lib.itoa v = l then some v else none := by
  split
  · rename_i hh
    exact rd_yes hh.1 hh.2.1 hh.2.2
  · rename_i hh
    cases hr : rd l with
    | none => rfl
    | some n =>
      obtain ⟨a, b, c⟩ := rd_some hr
      have e := parse_itoa a b
      rw [c, h] at e
      injection e with e
      subst e
      exact absurd ⟨a, b, c⟩ hh
theorem rd_fail {l : List UInt8} (h : ∀ v, Lib.parseIntB 64 l ≠ .ok v) : rd l = none := by
  cases hr : rd l with
  | none => rfl
  | some n =>
    obtain ⟨a, b, c⟩ := rd_some hr
    exact absurd (c ▸ parse_itoa a b) (h n)
end Go.Proofs.YtahlpjhhbcjfpaaDoor
