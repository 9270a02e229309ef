/-
  The program's PutText. Conditions: strings of at most 40000 bytes.
-/
import Derived.Test.YtffkdidgfeknkaaDoorCodes
import Derived.Lib.AppendStr
namespace Go.Proofs.YtffkdidgfeknkaaDoor
open Go.RowKit

theorem own_str {w : World} {base n : Nat} {v : Value} {l : List Nat} {s : ByteArray} (h : w.ownsRow base 5 1 v n (l.map bc ++ Lib.strCells s)) : w.ownsRow base 5 1 v n ((l ++ sb s).map bc) := by
  have e : (l ++ sb s).map bc = l.map bc ++ Lib.strCells s := by
    rw [List.map_append, sb, List.map_map]; rfl
  rw [e]; exact h
set_option maxRecDepth 100000 in
set_option maxHeartbeats 1000000 in
theorem putText_yes (s : ByteArray) (w : World) (h : s.size ≤ 40000) :
    Calls Tryd.prog 10 #[.string s] w fun e w' => e = .returned (.tuple #[.string (bstr (digs (zz s.size)) ++ s), .bool true]) ∧ Below w.heap.size w w' := by
  obtain ⟨i0, hi, hz0, hz1, hz2⟩ := info_parts info8
  go_enter Tryd.func10, Tryd.ntmps10
  go_wp2_with fail
  refine (appendNumber_c w.heap.size (.slice none 0 0) 0 [] (s.size : Int) _ (World.ownsRow_nil _ _ _ _) (Nat.le_refl _) (by omega) (by omega) (by omega)).mono ?_
  rintro e w1 ⟨v1, rfl, hown, hb1⟩
  have hz9 := digs_len9 (m := zz s.size) (by unfold zz; split <;> omega)
  have hsz := hb1.size
  go_wp2_with (at_builtin; refine Lib.wpList_append_own_string _ rfl _ _ 22 9 rfl w.heap.size 5 i0 Tryd.underlying22 Tryd.underlying9 hi hz0 hz1 hz2 _ _ _ rfl hown s rfl ?c1 ?c2 ?c3 ?_)
  case c1 => unfold maxLen; omega
  case c2 => omega
  case c3 => omega
  intro v2 w2 hown2 hgrow _
  have hown3 := own_str hown2
  have hb2 : Below w.heap.size w w2 := hb1.grown hgrow hsz (fun k hk => (hown.lt k hk).1)
  have hcv := run_own_string 22 9 Tryd.underlying22 Tryd.underlying5 Tryd.underlying9 _ hown3
  clear hown hown2 hown3 hgrow
  go_wp2_with fail
  go_ret2
  exact ⟨ret_sb (by rw [bstr_app, bstr_of]), hb2⟩
end Go.Proofs.YtffkdidgfeknkaaDoor
