/-
  LinesOf of both. Conditions: texts of at most 2^20 bytes; internal/bytealg.MaxLen holds an int.
-/
import Derived.Test.YtffkdidgfeknkaaDoorCut
namespace Go.Proofs.YtffkdidgfeknkaaDoor
set_option linter.unusedVariables false
open Go.RowKit

/-- The lines of a text, and whether it is made of lines. -/
def linesS (s : ByteArray) : List ByteArray × Bool := if s.size = 0 then ([], true) else if s.size ≤ 40000 ∧ s.data.toList.getLast? = some 10 then (cutS 10 (s.extract 0 (s.size - 1)), true) else ([], false)
theorem bytes_len (s : ByteArray) : s.data.toList.length = s.size := by rw [Array.length_toList]; rfl
theorem snoc_of {s : ByteArray} (h : 0 < s.size) : ∃ b, s.data.toList = (s.extract 0 (s.size - 1)).data.toList ++ [b] := by
  have hl := bytes_len s
  have hne : s.data.toList ≠ [] := fun e => by rw [e] at hl; simp at hl; omega
  refine ⟨s.data.toList.getLast hne, ?_⟩
  have h1 := Lib.extract_data s 0 (s.size - 1)
  rw [h1]
  have h2 := List.dropLast_concat_getLast hne
  rw [List.dropLast_eq_take, hl] at h2
  simpa using h2.symm
theorem suffix_snoc (l : List UInt8) (b : UInt8) : Lib.hasSuffix (l ++ [b]) [10] = (b == 10) := by
  unfold Lib.hasSuffix
  simp only [List.isSuffixOf, List.reverse_append, List.reverse_cons, List.reverse_nil, List.nil_append, List.singleton_append, List.isPrefixOf, Bool.and_true]
  rw [Bool.eq_iff_iff, beq_iff_eq, beq_iff_eq]
  exact eq_comm
theorem full_str {s : ByteArray} (h : s.size ≠ 0) : s.toList.isEmpty = false := by
  have e : s.toList = s.data.toList := Lib.toList_data s
  rw [e]
  cases hl : s.data.toList with
  | nil =>
    have := bytes_len s
    rw [hl] at this
    simp at this
    exact absurd this.symm h
  | cons _ _ => rfl
theorem cutS_line {s t : ByteArray} (e : s.data.toList = t.data.toList ++ [10]) : cutS 10 s = cutS 10 t ++ [⟨#[]⟩] := by
  unfold cutS
  rw [e, cut_mark, List.map_append]; rfl
theorem cutS_bad {s t : ByteArray} {b : UInt8} (hb : ¬ b = 10) (e : s.data.toList = t.data.toList ++ [b]) : ∃ ps z, cutS 10 s = ps ++ [z] ∧ z.size ≠ 0 := by
  obtain ⟨ps, p, h⟩ := cut_other 10 b hb t.data.toList
  refine ⟨ps.map fun l => ⟨l.toArray⟩, ⟨(p ++ [b]).toArray⟩, by unfold cutS; rw [e, h, List.map_append]; rfl, ?_⟩
  show (p ++ [b]).toArray.size ≠ 0
  simp
theorem lines_zero {s : ByteArray} (h : s.size = 0) : linesS s = ([], true) := if_pos h
theorem lines_yes {s : ByteArray} {t : ByteArray} (h : 0 < s.size) (hs : s.size ≤ 40000) (ht : t = s.extract 0 (s.size - 1)) (e : s.data.toList = t.data.toList ++ [10]) : linesS s = (cutS 10 t, true) := by
  unfold linesS
  rw [if_neg (by omega), if_pos ⟨hs, by rw [e]; simp⟩, ht]
theorem lines_other {s t : ByteArray} {b : UInt8} (h : 0 < s.size) (hb : ¬ b = 10) (e : s.data.toList = t.data.toList ++ [b]) : linesS s = ([], false) := by
  unfold linesS
  rw [if_neg (by omega), if_neg (fun a => hb (by have := a.2; rw [e] at this; simpa using this))]
theorem lines_long {s : ByteArray} (h : 40000 < s.size) : linesS s = ([], false) := by
  unfold linesS
  rw [if_neg (by omega), if_neg (fun a => by omega)]
/-- The parts of a short text: its lines, and an empty part at the end; or none of its own. -/
theorem lines_parts (s : ByteArray) (h : s.size ≤ 40000) : ∃ ps z, cutS 10 s = ps ++ [z] ∧ ((z = ⟨#[]⟩ ∧ linesS s = (ps, true)) ∨ (z.size ≠ 0 ∧ linesS s = ([], false))) := by
  rcases Nat.eq_zero_or_pos s.size with h0 | h0
  · have e : s = ⟨#[]⟩ := empty_str h0
    subst e
    exact ⟨[], ⟨#[]⟩, rfl, .inl ⟨rfl, lines_zero rfl⟩⟩
  · obtain ⟨b, e⟩ := snoc_of h0
    by_cases hb : b = 10
    · subst hb
      exact ⟨_, _, cutS_line e, .inl ⟨rfl, lines_yes h0 h rfl e⟩⟩
    · obtain ⟨ps, z, h1, h2⟩ := cutS_bad hb e
      exact ⟨ps, z, h1, .inr ⟨h2, lines_other h0 hb e⟩⟩
theorem lines_len (s : ByteArray) : (linesS s).1.length ≤ s.size + 1 := by
  unfold linesS
  split
  · simp
  · split
    · have := (cutS_len 10 (s.extract 0 (s.size - 1))).2
      have h2 : (s.extract 0 (s.size - 1)).size ≤ s.size := by first | (simp; done) | (simp; omega)
      show (cutS 10 _).length ≤ _
      omega
    · simp

theorem suffix_c (s p : ByteArray) (w : World) (hs : s.size ≤ 9223372036854775807) :
    Calls Tryd.prog 45 #[.string s, .string p] w fun e w' => e = .returned (.tuple #[.string ⟨(Lib.trimSuffix s.data.toList p.data.toList).toArray⟩, .bool (Lib.hasSuffix s.data.toList p.data.toList)]) ∧ w' = w := Any.strings_CutSuffix Tryd.lays104 s p w hs
set_option maxRecDepth 100000 in
set_option maxHeartbeats 1000000 in
theorem implLines_c (s : ByteArray) (hs : s.size ≤ 1048576) (w : World) (hm : MaxInt w) :
    Calls Tryd.prog 19 #[.string s] w fun e w' => (∃ v, e = .returned (.tuple #[v, .bool (linesS s).2]) ∧ w'.ownsRow w.heap.size 9 1 v (linesS s).1.length ((linesS s).1.map Value.string)) ∧ Below w.heap.size w w' := by
  rcases Nat.eq_zero_or_pos s.size with h0 | h0
  · rw [lines_zero h0]
    have e : s = ⟨#[]⟩ := empty_str h0
    subst e
    clear hm
    go_enter Tryd.func19, Tryd.ntmps19
    go_wp2_with fail
    go_ret2
    exact ⟨⟨_, rfl, World.ownsRow_nil _ _ _ _⟩, Below.refl _ _⟩
  · obtain ⟨b, e⟩ := snoc_of h0
    have q := full_str (s := s) (by omega)
    have HC := suffix_c s ⟨#[10]⟩ w (by omega)
    have es : Lib.hasSuffix s.data.toList [10] = (b == 10) := by rw [e, suffix_snoc]
    have ec : Lib.hasSuffix s.data.toList (⟨#[10]⟩ : ByteArray).data.toList = (b == 10) := es
    rw [ec] at HC
    by_cases hb : b = 10
    · subst hb
      have et : (⟨(Lib.trimSuffix s.data.toList (⟨#[10]⟩ : ByteArray).data.toList).toArray⟩ : ByteArray) = s.extract 0 (s.size - 1) := by
        apply ByteArray.ext
        apply Array.ext'
        show Lib.trimSuffix s.data.toList [10] = _
        unfold Lib.trimSuffix
        rw [es, if_pos (by rfl), bytes_len]
        have := Lib.extract_data s 0 (s.size - 1)
        simpa using this.symm
      rw [et] at HC
      have HCC := Lib.hid HC
      have hsz : (s.extract 0 (s.size - 1)).size ≤ 1048576 := by simp; omega
      by_cases hl : s.size ≤ 40000
      · rw [lines_yes h0 hl rfl e]
        have HS := Lib.hid (splitText_c (s.extract 0 (s.size - 1)) 10 w hsz hm)
        generalize s.extract 0 (s.size - 1) = t at *
        have hl' : ¬ (40000 : Int) < s.size := by omega
        clear e es ec et HC hm
        go_enter Tryd.func19, Tryd.ntmps19
        go_wp2_with (first | (go_at_call 45; refine HCC.out.mono ?_; rintro e9 w9 ⟨rfl, rfl⟩) | (go_at_call 44; refine HS.out.mono ?_; rintro e9 w9 ⟨g, rfl, hown, hbel⟩))
        go_ret2
        exact ⟨⟨_, rfl, hown⟩, hbel⟩
      · rw [lines_long (by omega)]
        have hl' : (40000 : Int) < s.size := by omega
        clear e es ec et HC hm
        go_enter Tryd.func19, Tryd.ntmps19
        go_wp2_with (go_at_call 45; refine HCC.out.mono ?_; rintro e9 w9 ⟨rfl, rfl⟩)
        go_ret2
        exact ⟨⟨_, rfl, World.ownsRow_nil _ _ _ _⟩, Below.refl _ _⟩
    · rw [lines_other h0 hb e]
      have qb : (b == 10) = false := by simpa using hb
      rw [qb] at HC
      have HCC := Lib.hid HC
      generalize (⟨(Lib.trimSuffix s.data.toList (⟨#[10]⟩ : ByteArray).data.toList).toArray⟩ : ByteArray) = t at *
      clear e es ec HC hm
      by_cases hl : s.size ≤ 40000
      · have hl' : ¬ (40000 : Int) < s.size := by omega
        go_enter Tryd.func19, Tryd.ntmps19
        go_wp2_with (go_at_call 45; refine HCC.out.mono ?_; rintro e9 w9 ⟨rfl, rfl⟩)
        go_ret2
        exact ⟨⟨_, rfl, World.ownsRow_nil _ _ _ _⟩, Below.refl _ _⟩
      · have hl' : (40000 : Int) < s.size := by omega
        go_enter Tryd.func19, Tryd.ntmps19
        go_wp2_with (go_at_call 45; refine HCC.out.mono ?_; rintro e9 w9 ⟨rfl, rfl⟩)
        go_ret2
        exact ⟨⟨_, rfl, World.ownsRow_nil _ _ _ _⟩, Below.refl _ _⟩
end Go.Proofs.YtffkdidgfeknkaaDoor
