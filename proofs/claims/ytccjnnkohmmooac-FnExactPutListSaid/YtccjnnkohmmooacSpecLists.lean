/-
  The codes of lists: what the model's PutList gives. Conditions: lists of at most 2^20 numbers.
-/
import Derived.Test.YtccjnnkohmmooacLists
import Derived.Test.YtccjnnkohmmooacGcd
import Derived.Test.YtccjnnkohmmooacPut
namespace Go.Proofs.Ytccjnnkohmmooac
open Go.RowKit

set_option maxRecDepth 100000 in
set_option maxHeartbeats 1000000 in
theorem l01PutList_c (A : Option Addr) (n c B : Nat) (zs : List Int) (w : World) (h : Row w B A (zs.map ic)) (hB : B ≤ w.heap.size) (hz : zs.length = n) (hco : codedB zs = true) :
    Calls Try.prog 19 #[.slice A n c] w fun e w' => e = .returned (.string (bstr (codeL zs))) ∧ Below w.heap.size w w' := by
  have hn := coded_len hco
  have HIN := Lib.hid (coded_in hco)
  have HLEN := Lib.hid (codeT_len hco)
  clear hco
  go_enter Try.func19, Try.ntmps19
  go_wp2_with fail
  refine (l01Put_c (n : Int) _ (by omega) (by omega)).mono ?_
  rintro e w1 ⟨rfl, hb1⟩
  rw [← hz, ← codeT_zero zs, hz]
  go_wp2_with fail
  go_loopw [3, 4] (fun v i wr => ∃ (k : Nat) (s : ByteArray), k ≤ n ∧ i = .int .i64 k ∧ v = .string s ∧ Hid (s = bstr (codeT zs k)) ∧ s.size ≤ 909 ∧ Below w.heap.size w wr) (fun _ i _ => n - (intOf i).toNat)
  case atStart => exact ⟨0, _, Nat.zero_le _, rfl, rfl, rfl, by rw [bstr_size]; exact HLEN.out 0, hb1⟩
  case round =>
    clear hb1
    obtain ⟨k, s, hk, rfl, rfl, hs, hsl, hbel⟩ := hrel
    by_cases hlt : k < n
    · obtain ⟨b, off, x, rfl, hb, hx, hc⟩ := (h.below hbel hB).int_at (k := k) (by omega)
      have hxi : InC x := HIN.out x (List.mem_of_getElem? hx)
      obtain ⟨hx1, hx2⟩ := hxi
      have HX : Hid (s ++ bstr (digs (zz x)) = bstr (codeT zs (k + 1))) := by
        show _ = _
        rw [hs.out, ← bstr_append, codeT_succ hx]
      clear hx
      go_wp2_with fail
      refine (l01Put_c x _ (by omega) (by omega)).mono ?_
      rintro e w2 ⟨rfl, hb2⟩
      have hts : (bstr (digs (zz x))).size ≤ 9 := by rw [bstr_size]; exact digs_len9 (zz_le ⟨hx1, hx2⟩)
      generalize bstr (digs (zz x)) = t at hts HX
      have hst : s.size + t.size ≤ 909 := by
        have h1 := congrArg ByteArray.size HX.out
        rw [bstr_size, ByteArray.size_append] at h1
        have h2 := HLEN.out (k + 1)
        omega
      go_wp2
      go_roundw
      case rel => exact ⟨k + 1, s ++ t, by omega, by go_num, rfl, HX, by rw [ByteArray.size_append]; exact hst, hbel.trans (hb2.mono hbel.size)⟩
      case measure => simp [intOf]; omega
    · have HE : Hid (s = bstr (codeL zs)) := by
        have h := hs.out
        rwa [codeT_end (by omega)] at h
      clear hs
      go_wp2
      go_ret
      exact ⟨ret_str HE.out, hbel⟩

/-- Where the list can't be coded. -/
theorem put_no (A : Option Addr) (n c B : Nat) (zs : List Int) (w : World) (h : Row w B A (zs.map ic)) (hz : zs.length = n) (hn : n ≤ 1048576) (hco : codedB zs = false) :
    Calls Try.prog 10 #[.slice A n c] w (fun e w' => e = .returned (.tuple #[.string ⟨#[]⟩, .bool false]) ∧ w = w') ∧
    Calls Try.prog 11 #[.slice A n c] w (fun e w' => e = .returned (.tuple #[.string ⟨#[]⟩, .bool false]) ∧ w = w') := by
  have HCO := Lib.hid hco
  clear hco
  constructor
  · go_enter Try.func10, Try.ntmps10
    go_wp2_with (go_at_call 16; refine (l01List_c A n c B zs _ h hz hn).mono ?_; rintro e w' ⟨rfl, rfl⟩; rw [HCO.out])
    go_ret2
    exact ⟨rfl, rfl⟩
  · go_enter Try.func11, Try.ntmps11
    go_wp2_with (go_at_call 18; refine (areCoded_c A n c B zs _ h hz hn).mono ?_; rintro e w' ⟨rfl, rfl⟩; rw [HCO.out])
    go_ret2
    exact ⟨rfl, rfl⟩
set_option maxHeartbeats 400000 in
theorem specPutList_c (A : Option Addr) (n c B : Nat) (zs : List Int) (w : World) (h : Row w B A (zs.map ic)) (hB : B ≤ w.heap.size) (hz : zs.length = n) (hco : codedB zs = true) :
    Calls Try.prog 10 #[.slice A n c] w fun e w' => e = .returned (.tuple #[.string (bstr (codeL zs)), .bool true]) ∧ Below w.heap.size w w' := by
  have hn := coded_len hco
  have HCO := Lib.hid hco
  have HP := Lib.hid (l01PutList_c A n c B zs w h hB hz hco)
  clear hco
  go_enter Try.func10, Try.ntmps10
  go_wp2_with fail
  refine (l01List_c A n c B zs _ h hz (by omega)).mono ?_
  rintro e w' ⟨rfl, rfl⟩
  rw [HCO.out]
  go_wp2_with fail
  refine HP.out.mono ?_
  rintro e w1 ⟨rfl, hb1⟩
  go_wp2
  go_ret2
  exact ⟨rfl, hb1⟩
end Go.Proofs.Ytccjnnkohmmooac
