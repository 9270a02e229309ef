/-
  Codes that lie within a string, and codes without their last byte: pure. Conditions: numbers that can be coded, texts of at most 40000 bytes.
-/
import Derived.Test.YtffkdidgfeknkaaDoorBack
namespace Go.Proofs.YtffkdidgfeknkaaDoor
set_option linter.unusedVariables false
open Go.RowKit

theorem ba_sb (s : ByteArray) (i : Nat) (h : i < s.size) : (sb s)[i]? = some (ba s i) := by
  unfold sb ba
  rw [List.getElem?_map, List.getD_eq_getElem?_getD]
  have : i < s.data.toList.length := by simpa using h
  rw [List.getElem?_eq_getElem this]; rfl
theorem sb_app (a b : ByteArray) : sb (a ++ b) = sb a ++ sb b := by simp [sb]
theorem sb_bstr {l : List Nat} (h : ∀ d ∈ l, d < 256) : sb (bstr l) = l := by
  unfold sb bstr
  simp only [List.map_map]
  conv => rhs; rw [← List.map_id l]
  apply List.map_congr_left
  intro d hd
  have := h d hd
  simp; omega
theorem digs_lt : ∀ (m : Nat), ∀ d ∈ digs m, d < 256 := by
  intro m
  induction m using Nat.strongRecOn with
  | _ m ih =>
    intro d hd
    by_cases hlt : m < 128
    · rw [digs_small hlt] at hd
      have := List.mem_singleton.1 hd; omega
    · rw [digs_great hlt] at hd
      rcases List.mem_cons.1 hd with e | e
      · omega
      · exact ih (m / 128) (by omega) d e
theorem digs_pos (m : Nat) : 1 ≤ (digs m).length := by
  by_cases hlt : m < 128
  · rw [digs_small hlt]; simp
  · rw [digs_great hlt]; simp
theorem codeL_lt (zs : List Int) : ∀ d ∈ codeL zs, d < 256 := by
  intro d hd
  unfold codeL at hd
  rcases List.mem_append.1 hd with e | e
  · exact digs_lt _ d e
  · obtain ⟨z, _, e⟩ := List.mem_flatMap.1 e
    exact digs_lt _ d e
theorem codeL_pos (zs : List Int) : 1 ≤ (codeL zs).length := by
  unfold codeL
  rw [List.length_append]
  have := digs_pos (zz zs.length)
  omega
/-- A string of three parts has the middle one where it begins. -/
theorem has_of {s : ByteArray} {a b c : List Nat} (h : sb s = a ++ (b ++ c)) : Has s a.length b := by
  have hl := congrArg List.length h
  rw [sb_len, List.length_append, List.length_append] at hl
  refine ⟨by omega, fun i hi => ?_⟩
  rw [← ba_sb s (a.length + i) (by omega), h, List.getElem?_append_right (by omega), Nat.add_sub_cancel_left, List.getElem?_append_left hi]
/-- As far as the string goes it has the bytes of l from place p on. -/
def Pre (s : ByteArray) (p : Nat) (l : List Nat) : Prop := ∀ i, i < l.length → p + i < s.size → l[i]? = some (ba s (p + i))
theorem Pre.tail {s : ByteArray} {p d : Nat} {l : List Nat} (h : Pre s p (d :: l)) : Pre s (p + 1) l := fun i hi hp => by
  have := h (i + 1) (by rw [List.length_cons]; omega) (by omega)
  rw [List.getElem?_cons_succ] at this
  rw [this]; congr 2; omega
theorem Pre.left {s : ByteArray} {p : Nat} {l r : List Nat} (h : Pre s p (l ++ r)) : Pre s p l := fun i hi hp => by
  have := h i (by rw [List.length_append]; omega) hp
  rwa [List.getElem?_append_left hi] at this
theorem Pre.right {s : ByteArray} {p : Nat} {l r : List Nat} (h : Pre s p (l ++ r)) : Pre s (p + l.length) r := fun i hi hp => by
  have := h (l.length + i) (by rw [List.length_append]; omega) (by omega)
  rw [List.getElem?_append_right (by omega), Nat.add_sub_cancel_left] at this
  rw [this]; congr 2; omega
theorem Pre.has {s : ByteArray} {p : Nat} {l : List Nat} (h : Pre s p l) (hs : p + l.length ≤ s.size) : Has s p l := ⟨hs, fun i hi => h i hi (by omega)⟩
theorem gnum_short (s : ByteArray) : ∀ (f m p a b : Nat), Pre s p (digs m) → s.size < p + (digs m).length → gnum s f p a b = none
  | 0, m, p, a, b, _, _ => rfl
  | f + 1, m, p, a, b, h, hs => by
    by_cases hlt : m < 128
    · rw [digs_small hlt] at hs
      rw [gnum, if_neg (by simp at hs; omega)]
    · rw [digs_great hlt] at h hs
      rw [List.length_cons] at hs
      by_cases hp : p < s.size
      · have h0 := h 0 (by simp) (by omega)
        rw [List.getElem?_cons_zero, Nat.add_zero] at h0
        have hb : ba s p = m % 128 + 128 := (Option.some.inj h0).symm
        rw [gnum, if_pos hp, hb, if_pos (by omega)]
        exact gnum_short s f (m / 128) (p + 1) _ _ h.tail (by omega)
      · rw [gnum, if_neg hp]
theorem getN_short {s : ByteArray} {p m : Nat} (h : Pre s p (digs m)) (hs : s.size < p + (digs m).length) : getN s p = none := getN_none (gnum_short s 8 m p 0 1 h hs)
theorem getLs_short (s : ByteArray) : ∀ (zs acc : List Int) (p : Nat), (∀ z ∈ zs, InC z) → p ≤ s.size → Pre s p (zs.flatMap fun z => digs (zz z)) → s.size < p + (zs.flatMap fun z => digs (zz z)).length → getLs s zs.length p acc = none
  | [], acc, p, _, hp, _, hs => by simp at hs; omega
  | z :: zs, acc, p, hin, hp, h, hs => by
    rw [List.flatMap_cons] at h hs
    rw [List.length_append] at hs
    rw [List.length_cons]
    by_cases hd : p + (digs (zz z)).length ≤ s.size
    · rw [getLs_yes (getN_back (hin z (List.mem_cons_self ..)) (h.left.has hd))]
      exact getLs_short s zs _ _ (fun y hy => hin y (List.mem_cons_of_mem _ hy)) hd h.right (by omega)
    · exact getLs_no (getN_short h.left (by omega))
theorem getL_short {s : ByteArray} {p : Nat} {zs : List Int} (hc : codedB zs = true) (hp : p ≤ s.size) (h : Pre s p (codeL zs)) (hs : s.size < p + (codeL zs).length) : getL s p = none := by
  have hl := coded_len hc
  unfold codeL at h hs
  rw [List.length_append] at hs
  by_cases hd : p + (digs (zz zs.length)).length ≤ s.size
  · rw [getL_of (getN_back ⟨by omega, by omega⟩ (h.left.has hd)) hl]
    exact getLs_short s zs [] _ (coded_in hc) hd h.right (by omega)
  · exact getL_no (fun n q e => by rw [getN_short h.left (by omega)] at e; cases e)
theorem sb_inj {a b : ByteArray} (h : sb a = sb b) : a = b := by rw [← bstr_of a, ← bstr_of b, h]
theorem sb_extract (s : ByteArray) (p q : Nat) : sb (s.extract p q) = ((sb s).drop p).take (q - p) := by
  unfold sb
  rw [ByteArray.data_extract, Array.toList_extract, List.map_take, List.map_drop]
theorem getT_back {s t : ByteArray} {a c : List Nat} (ht : t.size ≤ 40000) (h : sb s = a ++ (digs (zz t.size) ++ (sb t ++ c))) : getT s a.length = some (t, a.length + (digs (zz t.size)).length + t.size) := by
  have h1 : Has s a.length (digs (zz t.size)) := has_of h
  have hl := congrArg List.length h
  rw [sb_len, List.length_append, List.length_append, List.length_append, sb_len] at hl
  have hn := getN_back (n := (t.size : Int)) ⟨by omega, by omega⟩ h1
  rw [getT_yes hn ht (by omega)]
  congr 1
  refine Prod.ext ?_ rfl
  refine sb_inj ?_
  show sb (s.extract _ _) = sb t
  rw [sb_extract, h, Nat.add_sub_cancel_left, ← List.append_assoc, List.drop_append_of_le_length (by rw [List.length_append]; omega), List.drop_of_length_le (by rw [List.length_append]; omega), List.nil_append, List.take_append_of_le_length (by rw [sb_len]; omega), List.take_of_length_le (by rw [sb_len]; omega)]
theorem getT_short {s t : ByteArray} (ht : t.size ≤ 40000) (h : Pre s 0 (digs (zz t.size) ++ sb t)) (hs : s.size < (digs (zz t.size) ++ sb t).length) : getT s 0 = none := by
  rw [List.length_append, sb_len] at hs
  by_cases hd : (digs (zz t.size)).length ≤ s.size
  · have hn := getN_back (n := (t.size : Int)) ⟨by omega, by omega⟩ (h.left.has (by omega))
    exact getT_far hn (by omega)
  · exact getT_no (fun n q e => by rw [getN_short h.left (by omega)] at e; cases e)
/-- A code without its last byte. -/
theorem pre_cut {l : List Nat} (h : ∀ d ∈ l, d < 256) (k : Nat) : Pre ((bstr l).extract 0 k) 0 l := fun i hi hp => by
  have h1 := ba_sb ((bstr l).extract 0 k) (0 + i) (by omega)
  rw [sb_extract, sb_bstr h, List.drop_zero, Nat.zero_add, List.getElem?_take] at h1
  rw [Nat.zero_add, ← h1]
  split at h1
  · rename_i e; rw [if_pos e]
  · cases h1
end Go.Proofs.YtffkdidgfeknkaaDoor
