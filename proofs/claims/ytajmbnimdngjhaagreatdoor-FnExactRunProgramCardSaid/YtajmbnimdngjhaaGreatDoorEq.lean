/-
  Slices of whole numbers: what the law compares. Conditions: at most 2^60 numbers.
-/
import Derived.Test.YtajmbnimdngjhaaGreatDoorBase
import Derived.BigQuiet
import Derived.Deep.QuietTactic
namespace Go.Proofs.YtajmbnimdngjhaaGreatDoor
open Go.RowKit

theorem info64 : (Tryz.prog.info? 2).map (fun i => (i.zero, i.size, i.bytes)) = some (some (.int .i64 0), 1, 8) := by kernel_rfl

theorem take_eq_step {zs zs' : List Int} {k : Nat} {x : Int} (h : zs.take k = zs'.take k) (hx : zs[k]? = some x) (hx' : zs'[k]? = some x) : Hid (zs.take (k + 1) = zs'.take (k + 1)) := by
  show _ = _
  rw [List.take_add_one, List.take_add_one, h, hx, hx']
theorem take_eq_no {zs zs' : List Int} {k : Nat} {x x' : Int} (hx : zs[k]? = some x) (hx' : zs'[k]? = some x') (e : ¬ x = x') : ¬ zs = zs' := by
  intro h; subst h; rw [hx] at hx'; exact e (Option.some.inj hx')
set_option maxRecDepth 100000 in
set_option maxHeartbeats 1000000 in
/-- eqInt64S: whether two lists are equal. -/
theorem eqInt64S_c (A A' : Option Addr) (n n' c c' B : Nat) (zs zs' : List Int) (w : World) (h : Row w B A (zs.map ic)) (h' : Row w B A' (zs'.map ic)) (hz : zs.length = n) (hz' : zs'.length = n')
    (hn : n ≤ 1152921504606846976) :
    Calls Tryz.prog 14 #[.slice A n c, .slice A' n' c'] w fun e w' => e = .returned (.bool (decide (zs = zs'))) ∧ ∃ d, w' = w.drewN d := by
  by_cases hl : n = n'
  · subst hl
    go_enter Tryz.func14, Tryz.ntmps14
    go_wp2
    go_loopw [5] (fun i wr => ∃ k d : Nat, k ≤ n ∧ i = .int .i64 k ∧ wr = w.drewN d ∧ Hid (zs.take k = zs'.take k)) (fun i _ => n - (intOf i).toNat)
    case atStart => exact ⟨0, 0, Nat.zero_le _, rfl, rfl, rfl⟩
    case round =>
      obtain ⟨k, d, hk, rfl, rfl, he⟩ := hrel
      by_cases hlt : k < n
      · obtain ⟨b, off, x, rfl, hb, hx, hc⟩ := h.int_at (k := k) (by omega)
        obtain ⟨b', off', x', rfl, hb', hx', hc'⟩ := h'.int_at (k := k) (by omega)
        by_cases e : x = x'
        · subst e
          have HE := take_eq_step he.out hx hx'
          clear hx hx' he
          go_wp2
          go_quiet (fail)
          go_wp2
          go_roundw
          case rel => exact ⟨k + 1, _, by omega, by go_num, rfl, HE⟩
          case measure => simp [intOf]; omega
        · have q1 : (x == x') = false := by simpa using e
          have q2 : (x != x') = true := by simpa using e
          have HE := take_eq_no hx hx' e
          clear hx hx' he e
          go_wp2
          go_quiet (fail)
          go_wp2
          go_ret
          exact ⟨ret_bool (decide_eq_false HE).symm, by first | exact ⟨_, rfl⟩ | exact ⟨_, World.drewN_drewN _ _ _⟩⟩
      · have HE : Hid (zs = zs') := by
          have h := he.out
          rwa [List.take_of_length_le (by omega), List.take_of_length_le (by omega)] at h
        go_wp2
        go_ret
        exact ⟨ret_bool (decide_eq_true HE.out).symm, _, rfl⟩
  · have q1 : ((n : Int) == (n' : Int)) = false := by simp; omega
    have q2 : ((n : Int) != (n' : Int)) = true := by simp; omega
    have HE : ¬ zs = zs' := fun e => hl (by rw [← hz, ← hz', e])
    have hl' : ¬ (n : Int) = n' := by omega
    go_enter Tryz.func14, Tryz.ntmps14
    go_wp2
    go_ret
    exact ⟨ret_bool (decide_eq_false HE).symm, 0, rfl⟩
end Go.Proofs.YtajmbnimdngjhaaGreatDoor
