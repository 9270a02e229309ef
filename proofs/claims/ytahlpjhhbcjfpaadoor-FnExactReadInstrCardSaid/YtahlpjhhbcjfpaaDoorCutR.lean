/-
  The model's cutting of a text, and WordsOf of both. Conditions: texts of at most 2^20 bytes; internal/bytealg.MaxLen holds an int.
-/
import Derived.Test.YtahlpjhhbcjfpaaDoorCutLaws
import Derived.Test.YtahlpjhhbcjfpaaDoorBlk
namespace Go.Proofs.YtahlpjhhbcjfpaaDoor
open Go.RowKit
theorem infoStr : (Tryd.prog.info? 9).map (fun i => (i.zero, i.size, i.bytes)) = some (some (.string ByteArray.empty), 1, 16) := by kernel_rfl

/-- The parts from place f on. -/
def restS (c : UInt8) (s : ByteArray) (f : Nat) : List ByteArray := (cutL c (s.data.toList.drop f)).map fun l => ⟨l.toArray⟩
/-- No mark from f to k. -/
def free (c : UInt8) (s : ByteArray) (f k : Nat) : Prop := ∀ j, f ≤ j → j < k → s.data.toList[j]? ≠ some c
theorem free_not {c : UInt8} {s : ByteArray} {f k : Nat} (h : free c s f k) : c ∉ (s.data.toList.drop f).take (k - f) := by
  intro hm
  obtain ⟨i, hi⟩ := List.getElem?_of_mem hm
  rw [List.getElem?_take] at hi
  split at hi
  · rw [List.getElem?_drop] at hi
    exact h (f + i) (by omega) (by omega) hi
  · cases hi
theorem extract_list (s : ByteArray) (f k : Nat) : (⟨((s.data.toList.drop f).take (k - f)).toArray⟩ : ByteArray) = s.extract f k := by
  apply ByteArray.ext
  have h := Lib.extract_data s f k
  apply Array.ext'
  rw [h]
theorem rest_hit {c : UInt8} {s : ByteArray} {f k : Nat} (h : free c s f k) (hf : f ≤ k) (hk : k < s.size) (hc : s.data.toList[k]? = some c) : restS c s f = s.extract f k :: restS c s (k + 1) := by
  have e : s.data.toList.drop f = (s.data.toList.drop f).take (k - f) ++ c :: s.data.toList.drop (k + 1) := by
    have h1 : s.data.toList.drop k = c :: s.data.toList.drop (k + 1) := by
      rw [List.drop_eq_getElem_cons (by simpa using hk)]
      congr 1
      rw [List.getElem?_eq_getElem (by simpa using hk)] at hc
      exact Option.some.inj hc
    conv => lhs; rw [← List.take_append_drop (k - f) (s.data.toList.drop f)]
    rw [List.drop_drop, show f + (k - f) = k by omega, h1]
  unfold restS
  rw [e, cut_hit c _ _ (free_not h), List.map_cons, extract_list]
theorem rest_end {c : UInt8} {s : ByteArray} {f : Nat} (h : free c s f s.size) : restS c s f = [s.extract f s.size] := by
  have e : s.data.toList.drop f = (s.data.toList.drop f).take (s.size - f) := by
    rw [List.take_of_length_le]
    rw [List.length_drop, Array.length_toList]
    exact Nat.le_refl _
  unfold restS
  rw [e, cut_end c _ (free_not h), List.map_cons, List.map_nil, extract_list]

theorem at_lt {s : ByteArray} {k : Nat} (h : k < s.size) : s.data.toList[k]? = some s[k] := by
  rw [List.getElem?_eq_getElem (by simpa using h)]; rfl

theorem part_step {base : Nat} {v' : Value} {w1 : World} {ps : List ByteArray} {x : ByteArray} (h : w1.ownsRow base 9 1 v' (ps.length + 1) (ps.map Value.string ++ [Value.string x])) :
    w1.ownsRow base 9 1 v' (ps ++ [x]).length ((ps ++ [x]).map Value.string) := by
  simpa using h
set_option maxRecDepth 100000 in
set_option maxHeartbeats 1000000 in
theorem l01Cut_c (s : ByteArray) (c : UInt8) (w : World) (hs : s.size ≤ 1048576) :
    Calls Tryd.prog 104 #[.string s, .int .u8 (c.toNat : Int)] w fun e w' => ∃ v, e = .returned v ∧ w'.ownsRow w.heap.size 9 1 v (cutS c s).length ((cutS c s).map Value.string) ∧ Below w.heap.size w w' := by
  obtain ⟨i0, hi, hz0, hz1, hz2⟩ := info_parts infoStr
  go_enter Tryd.func104, Tryd.ntmps104
  go_wp2
  go_loopw [5, 6, 7] (fun v fr i wr => ∃ (k f : Nat) (ps : List ByteArray), k ≤ s.size ∧ f ≤ k ∧ i = .int .i64 k ∧ fr = .int .i64 f ∧ ps.length ≤ k ∧ Hid (cutS c s = ps ++ restS c s f) ∧ Hid (free c s f k) ∧ wr.ownsRow w.heap.size 9 1 v ps.length (ps.map Value.string) ∧ Below w.heap.size w wr) (fun _ _ i _ => s.size - (intOf i).toNat)
  case atStart => exact ⟨0, 0, [], Nat.zero_le _, Nat.le_refl _, rfl, rfl, Nat.le_refl _, rfl, fun j _ h => absurd h (Nat.not_lt_zero _), World.ownsRow_made w #[] 0 (Nat.le_refl _) (by decide) rfl, (Below.refl _ _).alloc (Nat.le_refl _) _⟩
  case round =>
    obtain ⟨k, f, ps, hk, hf, rfl, rfl, hps, he, hfree, hown, hbel⟩ := hrel
    have hsz := hbel.size
    by_cases hlt : k < s.size
    · by_cases hq : s[k].toNat = c.toNat
      · have q1 : ((s[k].toNat : Int) == (c.toNat : Int)) = true := by simp [hq]
        go_wp2_with (at_builtin; refine wpList_append_own _ rfl _ _ 112 rfl w.heap.size 9 i0 (.string ByteArray.empty) 1 16 Tryd.underlying112 hi hz0 hz1 hz2 rfl (by decide) _ _ _ rfl (hown.alloc _) ⟨wr.heap.size, 0, none⟩ 1 1 [.string (s.extract f k)] rfl rfl ?c1 ?c2 ?c3 ?c4 ?c5 ?_)
        case c1 =>
          intro j u hj
          match j, hj with
          | 0, hj => simp at hj; subst hj; simp [Addr.add]
        case c2 => intro u hu; simp at hu; subst hu; rfl
        case c3 => unfold maxLen; omega
        case c4 => omega
        case c5 => simp; omega
        intro v1 w1 hown1 hgrow _
        have hown2 := part_step hown1
        have hbel1 : Below w.heap.size w w1 := (hbel.alloc hsz _).grown hgrow (by simp; omega) (fun j hj => (hown.lt j hj).1)
        have HE : Hid (cutS c s = (ps ++ [s.extract f k]) ++ restS c s (k + 1)) := by
          show _ = _
          rw [he.out, rest_hit hfree.out hf hlt (by rw [at_lt hlt, UInt8.toNat_inj.1 hq]), List.append_assoc, List.singleton_append]
        clear hown hown1 hgrow he hfree hbel
        go_wp2
        go_roundw
        case rel => exact ⟨k + 1, k + 1, ps ++ [s.extract f k], by omega, by omega, by go_num, by go_num, by simp; omega, HE, fun j h1 h2 => by omega, hown2, hbel1⟩
        case measure => simp [intOf]; omega
      · have q1 : ((s[k].toNat : Int) == (c.toNat : Int)) = false := by simp; omega
        have HF : Hid (free c s f (k + 1)) := fun j h1 h2 h3 => by
          by_cases hj : j < k
          · exact hfree.out j h1 hj h3
          · obtain rfl : j = k := by omega
            rw [at_lt hlt] at h3
            exact hq (by rw [Option.some.inj h3])
        clear hfree
        go_wp2
        go_roundw
        case rel => exact ⟨k + 1, f, ps, by omega, by omega, by go_num, rfl, by omega, he, HF, hown, hbel⟩
        case measure => simp [intOf]; omega
    · obtain rfl : k = s.size := by omega
      go_wp2_with (at_builtin; refine wpList_append_own _ rfl _ _ 112 rfl w.heap.size 9 i0 (.string ByteArray.empty) 1 16 Tryd.underlying112 hi hz0 hz1 hz2 rfl (by decide) _ _ _ rfl (hown.alloc _) ⟨wr.heap.size, 0, none⟩ 1 1 [.string (s.extract f s.size)] rfl rfl ?d1 ?d2 ?d3 ?d4 ?d5 ?_)
      case d1 =>
        intro j u hj
        match j, hj with
        | 0, hj => simp at hj; subst hj; simp [Addr.add]
      case d2 => intro u hu; simp at hu; subst hu; rfl
      case d3 => unfold maxLen; omega
      case d4 => omega
      case d5 => simp; omega
      intro v1 w1 hown1 hgrow _
      have hown2 := part_step hown1
      have hbel1 : Below w.heap.size w w1 := (hbel.alloc hsz _).grown hgrow (by simp; omega) (fun j hj => (hown.lt j hj).1)
      have HE : cutS c s = ps ++ [s.extract f s.size] := by rw [he.out, rest_end hfree.out]
      have HH := Lib.hid HE
      clear hown hown1 hgrow he hfree hbel HE
      go_wp2
      go_ret
      exact ⟨v1, rfl, by rw [HH.out]; exact hown2, hbel1⟩
end Go.Proofs.YtahlpjhhbcjfpaaDoor
