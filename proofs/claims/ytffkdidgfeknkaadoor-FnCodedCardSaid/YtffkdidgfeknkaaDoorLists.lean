/-
  The codes of lists: what the program's PutList and the model's l01PutList give. Conditions: lists that can be coded.
-/
import Derived.Test.YtffkdidgfeknkaaDoorCoded
import Derived.Test.YtffkdidgfeknkaaDoorCodes
namespace Go.Proofs.YtffkdidgfeknkaaDoor
open Go.RowKit

/-- The bytes of a list's code. -/
def codeL (zs : List Int) : List Nat := digs (zz zs.length) ++ zs.flatMap fun z => digs (zz z)
/-- The bytes ahead of the number with the index k. -/
def codeT (zs : List Int) (k : Nat) : List Nat := digs (zz zs.length) ++ (zs.take k).flatMap fun z => digs (zz z)
theorem codeT_zero (zs : List Int) : codeT zs 0 = digs (zz zs.length) := by simp [codeT]
theorem codeT_succ {zs : List Int} {k : Nat} {x : Int} (hx : zs[k]? = some x) : codeT zs (k + 1) = codeT zs k ++ digs (zz x) := by
  simp [codeT, List.take_add_one, hx]
theorem codeT_end {zs : List Int} {k : Nat} (hk : zs.length ≤ k) : codeT zs k = codeL zs := by
  simp [codeT, codeL, List.take_of_length_le hk]
theorem zz_le {z : Int} (h : InC z) : zz z ≤ 4611686018427387904 := by
  obtain ⟨h1, h2⟩ := h
  unfold zz; split <;> omega
theorem flat_len : ∀ {zs : List Int}, (∀ z ∈ zs, InC z) → (zs.flatMap fun z => digs (zz z)).length ≤ 9 * zs.length
  | [], _ => by simp
  | z :: zs, h => by
    have h1 := digs_len9 (zz_le (h z (List.mem_cons_self ..)))
    have h2 := flat_len (zs := zs) (fun y hy => h y (List.mem_cons_of_mem _ hy))
    simp only [List.flatMap_cons, List.length_append, List.length_cons]
    omega
theorem codeT_len {zs : List Int} (h : codedB zs = true) (k : Nat) : (codeT zs k).length ≤ 909 := by
  have hin := coded_in h
  unfold codedB at h
  rw [Bool.and_eq_true] at h
  have hl := of_decide_eq_true h.2
  have h1 := digs_len9 (m := zz zs.length) (by unfold zz; split <;> omega)
  have h2 := flat_len (zs := zs.take k) (fun z hz => hin z (List.mem_of_mem_take hz))
  have h3 : (zs.take k).length ≤ zs.length := by rw [List.length_take]; omega
  unfold codeT
  rw [List.length_append]
  omega
theorem coded_len {zs : List Int} (h : codedB zs = true) : zs.length ≤ 100 := by
  unfold codedB at h
  rw [Bool.and_eq_true] at h
  exact of_decide_eq_true h.2
theorem bstr_append (a b : List Nat) : bstr (a ++ b) = bstr a ++ bstr b := by
  apply ByteArray.ext
  simp [bstr]
theorem ret_str_bool {a b : ByteArray} {t : Bool} (h : a = b) : Ending.returned (.tuple #[.string a, .bool t]) = .returned (.tuple #[.string b, .bool t]) := by rw [h]
theorem ret_str {a b : ByteArray} (h : a = b) : Ending.returned (.string a) = .returned (.string b) := by rw [h]

set_option maxRecDepth 100000 in
set_option maxHeartbeats 1000000 in
theorem implPutList_c (A : Option Addr) (n c B : Nat) (zs : List Int) (w : World) (h : Row w B A (zs.map ic)) (hB : B ≤ w.heap.size) (hz : zs.length = n) (hco : codedB zs = true) :
    Calls Tryd.prog 9 #[.slice A n c] w fun e w' => e = .returned (.tuple #[.string (bstr (codeL zs)), .bool true]) ∧ Below w.heap.size w w' := by
  have hn := coded_len hco
  have HIN := Lib.hid (coded_in hco)
  have HLEN := Lib.hid (codeT_len hco)
  have HCO := Lib.hid hco
  clear hco
  go_enter Tryd.func9, Tryd.ntmps9
  go_wp2_with fail
  refine (areCoded_c A n c B zs _ h hz (by omega)).mono ?_
  rintro e w' ⟨rfl, rfl⟩
  rw [HCO.out]
  go_wp2_with fail
  refine (appendNumber_c w.heap.size (.slice none 0 0) 0 [] (n : Int) _ (World.ownsRow_nil _ _ _ _) (Nat.le_refl _) (by omega) (by omega) (by omega)).mono ?_
  rintro e w1 ⟨v1, rfl, hown, hb1⟩
  rw [Nat.zero_add, List.nil_append, ← hz, ← codeT_zero zs] at hown
  go_wp2_with fail
  go_loopw [4, 6, 15] (fun v _ i wr => ∃ k : Nat, k ≤ n ∧ i = .int .i64 k ∧ wr.ownsRow w.heap.size 5 1 v (codeT zs k).length ((codeT zs k).map bc) ∧ Below w.heap.size w wr) (fun _ _ i _ => n - (intOf i).toNat)
  case atStart => exact ⟨0, Nat.zero_le _, rfl, hown, hb1⟩
  case round =>
    clear hown hb1
    obtain ⟨k, hk, rfl, hown, hbel⟩ := hrel
    by_cases hlt : k < n
    · obtain ⟨b, off, x, rfl, hb, hx, hc⟩ := (h.below hbel hB).int_at (k := k) (by omega)
      have hxi : InC x := HIN.out x (List.mem_of_getElem? hx)
      obtain ⟨hx1, hx2⟩ := hxi
      have HX := Lib.hid (codeT_succ hx)
      have hsz := hbel.size
      have hle := HLEN.out k
      clear hx
      go_wp2_with (go_at_call 35; refine (appendNumber_c w.heap.size _ _ (codeT zs k) x _ hown hsz (by omega) (by omega) (by omega)).mono ?_; rintro e w2 ⟨v2, rfl, hown2, hb2⟩)
      rw [← List.length_append, ← HX.out] at hown2
      go_roundw
      case rel => exact ⟨k + 1, by omega, by go_num, hown2, hbel.trans hb2⟩
      case measure => simp [intOf]; omega
    · rw [codeT_end (by omega)] at hown
      have hcv := run_own_string 22 9 Tryd.underlying22 Tryd.underlying5 Tryd.underlying9 _ hown
      clear hown
      go_wp2
      go_ret2
      exact ⟨rfl, hbel⟩

end Go.Proofs.YtffkdidgfeknkaaDoor
