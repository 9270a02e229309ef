/-
  Strings read back from their digits, and made up again from their parts: pure. Conditions: none, but at most 200 bytes for the check number.
-/
import Derived.Test.YtffkdidgfeknkaaDoorReadHex
import Derived.Test.YtffkdidgfeknkaaDoorLines
import Derived.Test.YtffkdidgfeknkaaDoorCheck
namespace Go.Proofs.YtffkdidgfeknkaaDoor
set_option linter.unusedVariables false
open Go.RowKit

/-- The parts with a mark between them. -/
def joinC (c : UInt8) : List (List UInt8) → List UInt8
  | [] => []
  | [p] => p
  | p :: q :: r => p ++ c :: joinC c (q :: r)
theorem joinC_cut (c : UInt8) : ∀ l : List UInt8, joinC c (cutL c l) = l
  | [] => rfl
  | b :: r => by
    have ih := joinC_cut c r
    rw [cutL]
    cases h : cutL c r with
    | nil => exact absurd h (cut_ne c r)
    | cons p ps =>
      rw [h] at ih
      split
      · rename_i e
        subst e
        show [] ++ b :: joinC b (p :: ps) = _
        rw [ih]; rfl
      · cases ps with
        | nil => show b :: p = _; rw [← ih]; rfl
        | cons q qs => show (b :: p) ++ c :: joinC c (q :: qs) = _; rw [← ih]; rfl
theorem cut_free (c : UInt8) : ∀ l : List UInt8, ∀ p ∈ cutL c l, c ∉ p
  | [], p, hp => by simp [cutL] at hp; subst hp; simp
  | b :: r, p, hp => by
    have ih := cut_free c r
    rw [cutL] at hp
    split at hp
    · rcases List.mem_cons.1 hp with rfl | hp
      · simp
      · exact ih p hp
    · rename_i hb
      cases h : cutL c r with
      | nil => exact absurd h (cut_ne c r)
      | cons q qs =>
        rw [h] at hp ih
        rcases List.mem_cons.1 hp with rfl | hp
        · intro e
          rcases List.mem_cons.1 e with e | e
          · exact hb e.symm
          · exact ih q (List.mem_cons_self ..) e
        · exact ih p (List.mem_cons_of_mem _ hp)
theorem joinC_snoc (c : UInt8) (p : List UInt8) : ∀ l : List (List UInt8), l ≠ [] → joinC c (l ++ [p]) = joinC c l ++ [c] ++ p
  | [], h => absurd rfl h
  | [a], _ => by simp [joinC]
  | a :: b :: r, _ => by
    have ih := joinC_snoc c p (b :: r) (by simp)
    show a ++ c :: joinC c (b :: r ++ [p]) = a ++ c :: joinC c (b :: r) ++ [c] ++ p
    rw [ih]; simp
/-- The parts, each with the mark behind it. -/
def endC (c : UInt8) (l : List (List UInt8)) : List UInt8 := l.flatMap fun p => p ++ [c]
theorem endC_join (c : UInt8) : ∀ l : List (List UInt8), l ≠ [] → endC c l = joinC c l ++ [c]
  | [], h => absurd rfl h
  | [a], _ => by simp [endC, joinC]
  | a :: b :: r, _ => by
    have ih := endC_join c (b :: r) (by simp)
    show (a ++ [c]) ++ endC c (b :: r) = (a ++ c :: joinC c (b :: r)) ++ [c]
    rw [ih]; simp
def bsOf (l : List UInt8) : ByteArray := ⟨l.toArray⟩
theorem bsOf_app (a b : List UInt8) : bsOf (a ++ b) = bsOf a ++ bsOf b := by
  apply ByteArray.ext; simp [bsOf]
theorem bsOf_data (s : ByteArray) : bsOf s.data.toList = s := by apply ByteArray.ext; simp [bsOf]
theorem bsOf_list (l : List UInt8) : (bsOf l).data.toList = l := by simp [bsOf]

/-- Where k words have been put together. -/
def lineK (s : ByteArray) (k : Nat) : ByteArray := bsOf (joinC 32 ((cutL 32 s.data.toList).take k))
theorem lineK_zero (s : ByteArray) : lineK s 0 = ⟨#[]⟩ := rfl
theorem lineK_end {s : ByteArray} {k : Nat} (h : (cutS 32 s).length ≤ k) : lineK s k = s := by
  unfold lineK
  rw [List.take_of_length_le (by simpa [cutS] using h), joinC_cut, bsOf_data]
theorem cutS_at {c : UInt8} {s p : ByteArray} {k : Nat} (h : (cutS c s)[k]? = some p) : ∃ l, (cutL c s.data.toList)[k]? = some l ∧ p = bsOf l ∧ l ∈ cutL c s.data.toList := by
  unfold cutS at h
  rw [List.getElem?_map] at h
  cases e : (cutL c s.data.toList)[k]? with
  | none => rw [e] at h; cases h
  | some l => rw [e] at h; exact ⟨l, rfl, (Option.some.inj h).symm, List.mem_of_getElem? e⟩
theorem lineK_first {s p : ByteArray} (h : (cutS 32 s)[0]? = some p) : lineK s 1 = lineK s 0 ++ p := by
  obtain ⟨l, h1, rfl, _⟩ := cutS_at h
  unfold lineK
  rw [List.take_add_one, h1, List.take_zero, ← bsOf_app]
  rfl
theorem lineK_next {s p : ByteArray} {k : Nat} (hk : 0 < k) (h : (cutS 32 s)[k]? = some p) : lineK s (k + 1) = lineK s k ++ ⟨#[32]⟩ ++ p := by
  obtain ⟨l, h1, rfl, _⟩ := cutS_at h
  have hl : k < (cutL 32 s.data.toList).length := (List.getElem?_eq_some_iff.1 h1).1
  unfold lineK
  rw [List.take_add_one, h1]
  show bsOf (joinC 32 ((cutL 32 s.data.toList).take k ++ [l])) = _
  rw [joinC_snoc _ _ _ (by intro e; have := congrArg List.length e; rw [List.length_take, List.length_nil] at this; omega), bsOf_app, bsOf_app]
  rfl
theorem word_free {s p : ByteArray} {k j : Nat} (h : (cutS 32 s)[k]? = some p) (hj : j < p.size) : (p[j].toNat : Int) ≠ 32 := by
  obtain ⟨l, h1, rfl, hm⟩ := cutS_at h
  intro e
  refine cut_free 32 _ l hm ?_
  have e2 : (bsOf l)[j] = (32 : UInt8) := by
    apply UInt8.toNat_inj.1
    show _ = 32
    omega
  have hj2 : j < l.length := by simpa [bsOf, ByteArray.size] using hj
  have e3 : l[j]? = some (32 : UInt8) := by
    rw [List.getElem?_eq_getElem hj2, ← e2]
    rfl
  exact List.mem_of_getElem? e3
/-- Where k lines have been put together. -/
def textK (s : ByteArray) (k : Nat) : ByteArray := bsOf (endC 10 ((cutL 10 s.data.toList).take k))
theorem textK_zero (s : ByteArray) : textK s 0 = ⟨#[]⟩ := rfl
theorem textK_end {s : ByteArray} {k : Nat} (h : (cutS 10 s).length ≤ k) : textK s k = s ++ ⟨#[10]⟩ := by
  unfold textK
  rw [List.take_of_length_le (by simpa [cutS] using h), endC_join _ _ (cut_ne _ _), joinC_cut, bsOf_app, bsOf_data]
  rfl
theorem textK_next {s p : ByteArray} {k : Nat} (h : (cutS 10 s)[k]? = some p) : textK s (k + 1) = textK s k ++ (p ++ ⟨#[10]⟩) := by
  obtain ⟨l, h1, rfl, _⟩ := cutS_at h
  unfold textK
  rw [List.take_add_one, h1]
  unfold endC
  rw [List.flatMap_append, bsOf_app]
  congr 1
  show bsOf ([l].flatMap _) = _
  rw [List.flatMap_cons, List.flatMap_nil, List.append_nil, bsOf_app]
  rfl
theorem lines_of {s : ByteArray} (hs : s.size ≤ 1000) : linesS (s ++ ⟨#[10]⟩) = (cutS 10 s, true) := by
  have e : (s ++ ⟨#[10]⟩ : ByteArray).data.toList = s.data.toList ++ [10] := by simp
  have hsz : (s ++ ⟨#[10]⟩ : ByteArray).size = s.size + 1 := by rw [ByteArray.size_append]; rfl
  refine lines_yes (by omega) (by omega) ?_ e
  rw [hsz]
  apply ByteArray.ext
  apply Array.ext'
  have := Lib.extract_data (s ++ ⟨#[10]⟩) 0 (s.size + 1 - 1)
  rw [this, e]
  have hl := bytes_len s
  simp [hl]

theorem hx_small : ∀ d, d < 16 → isH (hx d) ∧ dg (hx d) = d ∧ hx d < 256 := by
  intro d hd
  have key : ∀ d : Fin 16, isH (hx d.1) ∧ dg (hx d.1) = d.1 ∧ hx d.1 < 256 := by decide
  exact key ⟨d, hd⟩
theorem hexL_at : ∀ (l : List UInt8) (j : Nat), j < l.length → ∃ x, l[j]? = some x ∧ (hexL l)[2 * j]? = some (hx (x.toNat / 16)) ∧ (hexL l)[2 * j + 1]? = some (hx (x.toNat % 16))
  | [], j, h => by simp at h
  | c :: l, 0, h => ⟨c, rfl, rfl, rfl⟩
  | c :: l, j + 1, h => by
    obtain ⟨x, h1, h2, h3⟩ := hexL_at l j (by simpa using h)
    refine ⟨x, h1, ?_, ?_⟩
    · exact h2
    · exact h3
theorem ba_bstr {l : List Nat} {i v : Nat} (h : l[i]? = some v) (hv : v < 256) : ba (bstr l) i = v := by
  unfold ba bstr
  rw [List.getD_eq_getElem?_getD]
  simp only [List.getElem?_map, h, Option.map, Option.getD]
  simp; omega
theorem hex_backT (s : ByteArray) : okB (bstr (hexL s.data.toList)) = true ∧ rdV (bstr (hexL s.data.toList)) = s := by
  have hl := bytes_len s
  have hsz : (bstr (hexL s.data.toList)).size = 2 * s.size := by rw [bstr_size, hexL_len, hl]
  have hok : okB (bstr (hexL s.data.toList)) = true := by
    refine okB_yes (fun i hi => ?_)
    rw [hsz] at hi
    obtain ⟨x, _, h2, h3⟩ := hexL_at s.data.toList (i / 2) (by omega)
    have hx := x.toNat_lt
    rcases Nat.mod_two_eq_zero_or_one i with h | h
    · have e : 2 * (i / 2) = i := by omega
      rw [e] at h2
      have q := hx_small (x.toNat / 16) (by omega)
      rw [ba_bstr h2 q.2.2]; exact q.1
    · have e : 2 * (i / 2) + 1 = i := by omega
      rw [e] at h3
      have q := hx_small (x.toNat % 16) (by omega)
      rw [ba_bstr h3 q.2.2]; exact q.1
  refine ⟨hok, ?_⟩
  rw [rdV_yes hok, hsz]
  have key : rdK (bstr (hexL s.data.toList)) (2 * s.size) = sb s := by
    apply List.ext_getElem?
    intro j
    by_cases hj : j < s.size
    · obtain ⟨x, h1, h2, h3⟩ := hexL_at s.data.toList j (by omega)
      have hx := x.toNat_lt
      have q1 := hx_small (x.toNat / 16) (by omega)
      have q2 := hx_small (x.toNat % 16) (by omega)
      have e : 2 * s.size / 2 = s.size := by omega
      unfold rdK sb
      rw [List.getElem?_map, List.getElem?_map, h1, e, List.getElem?_range hj]
      show some (16 * dg (ba _ (2 * j)) + dg (ba _ (2 * j + 1))) = some x.toNat
      rw [ba_bstr h2 q1.2.2, ba_bstr h3 q2.2.2, q1.2.1, q2.2.1]
      congr 1; omega
    · rw [List.getElem?_eq_none (by rw [rdK_len]; omega), List.getElem?_eq_none (by rw [sb_len]; omega)]
  rw [key, bstr_of]
theorem chk_fst : ∀ (l : List UInt8) (p : Nat × Nat), 0 < p.1 → p.1 + 255 * l.length < 65521 → 0 < (l.foldl (fun (p : Nat × Nat) c => ((p.1 + c.toNat) % 65521, (p.2 + (p.1 + c.toNat) % 65521) % 65521)) p).1
  | [], p, h, _ => h
  | c :: l, p, h, hb => by
    have hc := c.toNat_lt
    rw [List.length_cons] at hb
    have e : (p.1 + c.toNat) % 65521 = p.1 + c.toNat := Nat.mod_eq_of_lt (by omega)
    rw [List.foldl_cons]
    refine chk_fst l _ ?_ ?_
    · show 0 < (p.1 + c.toNat) % 65521
      omega
    · show (p.1 + c.toNat) % 65521 + 255 * l.length < 65521
      omega
theorem chk_in {s : ByteArray} (hs : s.size ≤ 200) : 0 < chkV s ∧ chkV s < 4293001441 := by
  have h1 := chk_lt s
  have h2 : 0 < (chk s.data.toList).1 := chk_fst _ (1, 0) (by decide) (by have := bytes_len s; show 1 + 255 * _ < 65521; omega)
  unfold chkV
  omega
end Go.Proofs.YtffkdidgfeknkaaDoor
