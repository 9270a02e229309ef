/-
  Slices of whole numbers: the copy that the law makes, and what it compares. Conditions: at most 2^20 numbers, or two slices of one length.
-/
import Derived.Test.YtidjniaamphhnaaBase
import Derived.BigQuiet
import Derived.Deep.QuietTactic
namespace Go.Proofs.Ytidjniaamphhnaa
open Go.RowKit

theorem info64 : (Try.prog.info? 2).map (fun i => (i.zero, i.size, i.bytes)) = some (some (.int .i64 0), 1, 8) := by kernel_rfl

set_option maxRecDepth 100000 in
set_option maxHeartbeats 1000000 in
/-- toInt64S: a copy in a row of its own. -/
theorem toInt64S_c (A : Option Addr) (n c B : Nat) (zs : List Int) (w : World) (h : Row w B A (zs.map ic)) (hB : B ≤ w.heap.size) (hz : zs.length = n) (hn : n ≤ 1048576) :
    Calls Try.prog 18 #[.slice A n c] w fun e w' => ∃ g, e = .returned (.slice (some ⟨g, 0, none⟩) n n) ∧ w'.ownsRow w.heap.size 2 1 (.slice (some ⟨g, 0, none⟩) n n) n (zs.map ic) ∧ Below w.heap.size w w' := by
  obtain ⟨i0, hi, hz0, hz1, hz2⟩ := info_parts info64
  go_enter Try.func18, Try.ntmps18
  go_wp2_with (at_make; refine wpList_make_full _ rfl _ _ 24 rfl w.heap.size 2 i0 (.int .i64 0) 1 Try.underlying24 hi hz0 hz1 .i64 .i64 _ _ n rfl rfl rfl rfl (by rw [hz2]; omega) (by unfold maxLen; omega) (Nat.le_refl _) ?_; intro w1 hown hgrow)
  rw [copy_start n (zs.map ic)] at hown
  have hb1 := (Below.refl w.heap.size w).grown hgrow (Nat.le_refl _) (fun _ h => by cases h)
  clear hgrow
  go_loopw [4] (fun i wr => ∃ k : Nat, k ≤ n ∧ i = .int .i64 k ∧ wr.ownsRow w.heap.size 2 1 (.slice (some ⟨w.heap.size, 0, none⟩) n n) n ((zs.map ic).take k ++ List.replicate (n - k) (.int .i64 0)) ∧ Below w.heap.size w wr) (fun i _ => n - (intOf i).toNat)
  case atStart => exact ⟨0, Nat.zero_le _, rfl, hown, hb1⟩
  case round =>
    clear hown hb1
    obtain ⟨k, hk, rfl, hown, hbel⟩ := hrel
    by_cases hlt : k < n
    · obtain ⟨b, off, x, rfl, hb, hx, hc⟩ := (h.below hbel hB).int_at (k := k) (by omega)
      have hst := hown.stored k (.int .i64 x)
      rw [copy_step (by simpa using hz) hlt (x := .int .i64 x) (by simp [hx, ic])] at hst
      have hfz := hown.frozenAt k
      have hcl := hown.cellAt k (by omega)
      obtain ⟨u, hu⟩ : ∃ u, ((zs.map ic).take k ++ List.replicate (n - k) (.int .i64 0))[k]? = some u := ⟨_, List.getElem?_eq_getElem (by simp; omega)⟩
      rw [hu] at hcl
      have HX := Lib.hid hx
      have HU := Lib.hid hst
      clear hu hx hst hown
      go_wp2
      go_roundw
      case rel => exact ⟨k + 1, by omega, by go_num, HU.out.1, hbel.setCell (p := ⟨w.heap.size, k, none⟩) (Nat.le_refl _) _⟩
      case measure => simp [intOf]; omega
    · have e : k = n := by omega
      subst e
      go_wp2
      go_ret
      exact ⟨_, rfl, by rw [copy_end (by simpa using hz)] at hown; exact hown, hbel⟩

theorem take_eq_step {zs zs' : List Int} {k : Nat} {x : Int} (h : zs.take k = zs'.take k) (hx : zs[k]? = some x) (hx' : zs'[k]? = some x) : Hid (zs.take (k + 1) = zs'.take (k + 1)) := by
  show _ = _
  rw [List.take_add_one, List.take_add_one, h, hx, hx']
theorem take_eq_no {zs zs' : List Int} {k : Nat} {x x' : Int} (hx : zs[k]? = some x) (hx' : zs'[k]? = some x') (e : ¬ x = x') : ¬ zs = zs' := by
  intro h; subst h; rw [hx] at hx'; exact e (Option.some.inj hx')
set_option maxRecDepth 100000 in
set_option maxHeartbeats 1000000 in
/-- eqInt64S: whether two lists are equal. -/
theorem eqInt64S_c (A A' : Option Addr) (n n' c c' B : Nat) (zs zs' : List Int) (w : World) (h : Row w B A (zs.map ic)) (h' : Row w B A' (zs'.map ic)) (hz : zs.length = n) (hz' : zs'.length = n')
    (hn : n ≤ 1152921504606846976) :
    Calls Try.prog 19 #[.slice A n c, .slice A' n' c'] w fun e w' => e = .returned (.bool (decide (zs = zs'))) ∧ ∃ d, w' = w.drewN d := by
  by_cases hl : n = n'
  · subst hl
    go_enter Try.func19, Try.ntmps19
    go_wp2
    go_loopw [5] (fun i wr => ∃ k d : Nat, k ≤ n ∧ i = .int .i64 k ∧ wr = w.drewN d ∧ Hid (zs.take k = zs'.take k)) (fun i _ => n - (intOf i).toNat)
    case atStart => exact ⟨0, 0, Nat.zero_le _, rfl, rfl, rfl⟩
    case round =>
      obtain ⟨k, d, hk, rfl, rfl, he⟩ := hrel
      by_cases hlt : k < n
      · obtain ⟨b, off, x, rfl, hb, hx, hc⟩ := h.int_at (k := k) (by omega)
        obtain ⟨b', off', x', rfl, hb', hx', hc'⟩ := h'.int_at (k := k) (by omega)
        by_cases e : x = x'
        · subst e
          have HE := take_eq_step he.out hx hx'
          clear hx hx' he
          go_wp2
          go_quiet (fail)
          go_wp2
          go_roundw
          case rel => exact ⟨k + 1, _, by omega, by go_num, rfl, HE⟩
          case measure => simp [intOf]; omega
        · have q1 : (x == x') = false := by simpa using e
          have q2 : (x != x') = true := by simpa using e
          have HE := take_eq_no hx hx' e
          clear hx hx' he e
          go_wp2
          go_quiet (fail)
          go_wp2
          go_ret
          exact ⟨ret_bool (decide_eq_false HE).symm, by first | exact ⟨_, rfl⟩ | exact ⟨_, World.drewN_drewN _ _ _⟩⟩
      · have HE : Hid (zs = zs') := by
          have h := he.out
          rwa [List.take_of_length_le (by omega), List.take_of_length_le (by omega)] at h
        go_wp2
        go_ret
        exact ⟨ret_bool (decide_eq_true HE.out).symm, _, rfl⟩
  · have q1 : ((n : Int) == (n' : Int)) = false := by simp; omega
    have q2 : ((n : Int) != (n' : Int)) = true := by simp; omega
    have HE : ¬ zs = zs' := fun e => hl (by rw [← hz, ← hz', e])
    have hl' : ¬ (n : Int) = n' := by omega
    go_enter Try.func19, Try.ntmps19
    go_wp2
    go_ret
    exact ⟨ret_bool (decide_eq_false HE).symm, 0, rfl⟩
end Go.Proofs.Ytidjniaamphhnaa
