/-
  Check numbers: the two functions that reckon them give the same. Conditions: none (a string of any length).
-/
import Derived.Test.YtffkdidgfeknkaaDoorBase
namespace Go.Proofs.YtffkdidgfeknkaaDoor
open Go.RowKit

/-- The two numbers behind the bytes of a list. -/
def chk (l : List UInt8) : Nat × Nat := l.foldl (fun p c => ((p.1 + c.toNat) % 65521, (p.2 + (p.1 + c.toNat) % 65521) % 65521)) (1, 0)
def chkV (s : ByteArray) : Nat := (chk s.data.toList).1 + 65521 * (chk s.data.toList).2
theorem chk_succ (s : ByteArray) (k : Nat) (h : k < s.size) :
    chk (s.data.toList.take (k + 1)) = (((chk (s.data.toList.take k)).1 + s[k].toNat) % 65521, ((chk (s.data.toList.take k)).2 + ((chk (s.data.toList.take k)).1 + s[k].toNat) % 65521) % 65521) := by
  have hx : s.data.toList[k]? = some s[k] := by
    rw [List.getElem?_eq_getElem (by simpa using h)]; rfl
  rw [List.take_add_one, hx]
  simp [chk, List.foldl_append]
theorem chk_end (s : ByteArray) (k : Nat) (h : s.size ≤ k) : chk (s.data.toList.take k) = chk s.data.toList := by
  rw [List.take_of_length_le (by simpa using h)]
theorem byte_lt (s : ByteArray) (k : Nat) (h : k < s.size) : (s[k].toNat : Int) < 256 := by have := s[k].toNat_lt; omega
theorem chk_lt : ∀ (s : ByteArray), (chk s.data.toList).1 < 65521 ∧ (chk s.data.toList).2 < 65521 := by
  intro s
  have : ∀ (l : List UInt8) (p : Nat × Nat), p.1 < 65521 → p.2 < 65521 → (l.foldl (fun (p : Nat × Nat) c => ((p.1 + c.toNat) % 65521, (p.2 + (p.1 + c.toNat) % 65521) % 65521)) p).1 < 65521 ∧ (l.foldl (fun (p : Nat × Nat) c => ((p.1 + c.toNat) % 65521, (p.2 + (p.1 + c.toNat) % 65521) % 65521)) p).2 < 65521 := by
    intro l
    induction l with
    | nil => intro p h1 h2; exact ⟨h1, h2⟩
    | cons c l ih => intro p _ _; exact ih _ (Nat.mod_lt _ (by decide)) (Nat.mod_lt _ (by decide))
  exact this _ _ (by decide) (by decide)
theorem ret_int {a b : Int} (h : a = b) : Ending.returned (.int .i64 a) = .returned (.int .i64 b) := by rw [h]

set_option maxHeartbeats 1000000 in
theorem checkOf_c (s : ByteArray) (w : World) (hs : s.size ≤ maxLen) :
    Calls Tryd.prog 20 #[.string s] w fun e w' => e = .returned (.int .i64 (chkV s)) ∧ w = w' := by
  unfold maxLen at hs
  go_enter Tryd.func20, Tryd.ntmps20
  go_wp2
  go_loop [3, 4, 5, 8] (fun x y _ i => ∃ k a b : Nat, k ≤ s.size ∧ i = .int .i64 k ∧ x = .int .i64 a ∧ y = .int .i64 b ∧ Hid (chk (s.data.toList.take k) = (a, b)) ∧ (a : Int) < 65521 ∧ (b : Int) < 65521) (fun _ _ _ i => s.size - (intOf i).toNat)
  case atStart => exact ⟨0, 1, 0, Nat.zero_le _, rfl, rfl, rfl, rfl, by omega, by omega⟩
  case round =>
    obtain ⟨k, a, b, hk, rfl, rfl, rfl, hc, ha, hb⟩ := hrel
    by_cases hlt : k < s.size
    · have hby := byte_lt s k hlt
      have h1 := chk_succ s k hlt
      rw [hc.out] at h1
      have H1 := Lib.hid h1
      clear h1 hc
      go_wp2
      go_round
      case rel => exact ⟨k + 1, (a + s[k].toNat) % 65521, (b + (a + s[k].toNat) % 65521) % 65521, by omega, by go_num, by go_num, by go_num, H1.out, by omega, by omega⟩
      case measure => simp [intOf]; omega
    · rw [chk_end s k (by omega)] at hc
      go_wp2
      go_ret
      exact ⟨ret_int (by unfold chkV; rw [hc.out]; simp), rfl⟩
end Go.Proofs.YtffkdidgfeknkaaDoor
