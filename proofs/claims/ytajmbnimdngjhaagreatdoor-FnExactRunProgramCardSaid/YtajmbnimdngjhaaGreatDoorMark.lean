/-
  How the law looks for shared memory: it writes numbers that rise into a result, and looks whether they are still there. Conditions: at most 2^20 numbers.
-/
import Derived.Test.YtajmbnimdngjhaaGreatDoorEq
import Derived.Maps.AppendAt
namespace Go.Proofs.YtajmbnimdngjhaaGreatDoor
open Go.RowKit

/-- n numbers that rise from k on. -/
def rise (k : Int) (n : Nat) : List Int := (List.range n).map fun i => k + (i : Nat)
theorem rise_len (k : Int) (n : Nat) : (rise k n).length = n := by simp [rise]
theorem rise_at {k : Int} {n i : Nat} (h : i < n) : (rise k n)[i]? = some (k + (i : Nat)) := by simp [rise, h]

/-- What the row holds when i cells have been written. -/
def marked (k : Int) (i : Nat) (xs : List Value) : List Value := (rise k i).map ic ++ xs.drop i
theorem marked_zero (k : Int) (xs : List Value) : marked k 0 xs = xs := by simp [marked, rise]
theorem marked_succ {k : Int} {i : Nat} {xs : List Value} (h : i < xs.length) : (marked k i xs).set i (.int .i64 (k + (i : Nat))) = marked k (i + 1) xs := by
  have hl : ((rise k i).map ic).length = i := by rw [List.length_map, rise_len]
  unfold marked
  rw [List.set_append_right _ _ (by omega), hl, Nat.sub_self, List.drop_eq_getElem_cons h, List.set_cons_zero]
  simp [rise, List.range_succ, ic]
theorem marked_end {k : Int} {xs : List Value} : marked k xs.length xs = (rise k xs.length).map ic := by simp [marked]
theorem marked_len {k : Int} {i : Nat} {xs : List Value} (h : i ≤ xs.length) : (marked k i xs).length = xs.length := by
  simp [marked, rise_len]; omega

set_option maxRecDepth 100000 in
set_option maxHeartbeats 1000000 in
theorem mark_c (base : Nat) (A : Option Addr) (n c : Nat) (xs : List Value) (k : Int) (w : World) (h : w.ownsRow base 2 1 (.slice A n c) n xs) (hn : n ≤ 100000000) (hk1 : 0 ≤ k) (hk2 : k ≤ 1000000000) :
    Calls Tryz.prog 18 #[.slice A n c, .int .i64 k] w fun e w' => e = .returned (.int .i64 (k + n)) ∧ w'.ownsRow base 2 1 (.slice A n c) n ((rise k n).map ic) ∧ w.grownBy w' (Value.slice A n c).ownBlock := by
  have hx : xs.length = n := by simpa using h.1
  rcases A with _ | ad
  · have hn0 : n = 0 := by
      rcases h.2 with ⟨_, h0⟩ | ⟨g, cap, cur, h1, _⟩
      · exact h0
      · cases h1
    subst hn0
    have hx0 : xs = [] := List.eq_nil_of_length_eq_zero hx
    subst hx0
    have HO := Lib.hid h
    clear h
    go_enter Tryz.func18, Tryz.ntmps18
    go_wp2_with fail
    go_loop [1, 5] (fun kv i => ∃ j : Nat, j ≤ 0 ∧ i = .int .i64 j ∧ kv = .int .i64 k) (fun _ _ => 0)
    case atStart => exact ⟨0, by omega, rfl, rfl⟩
    case round =>
      obtain ⟨j, hj, rfl, rfl⟩ := hrel
      have hj0 : (j : Int) ≤ 0 := by omega
      go_wp2_with fail
      go_ret
      exact ⟨by go_num, by simpa [rise] using HO.out, World.grownBy.refl _ _⟩
  · obtain ⟨g, rfl⟩ : ∃ g, ad = ⟨g, 0, none⟩ := by
      rcases h.2 with ⟨h1, _⟩ | ⟨g, cap, cur, h1, _⟩
      · cases h1
      · injection h1 with h1; injection h1 with h1; exact ⟨g, h1⟩
    go_enter Tryz.func18, Tryz.ntmps18
    go_wp2_with fail
    go_loopw [1, 5] (fun kv i wr => ∃ j : Nat, j ≤ n ∧ i = .int .i64 j ∧ kv = .int .i64 (k + (j : Nat)) ∧ wr.ownsRow base 2 1 (.slice (some ⟨g, 0, none⟩) n c) n (marked k j xs) ∧ w.grownBy wr (some g)) (fun _ i _ => n - (intOf i).toNat)
    case atStart => exact ⟨0, by omega, rfl, by simp, by rw [marked_zero]; exact h, World.grownBy.refl _ _⟩
    case round =>
      clear h
      obtain ⟨j, hj, rfl, rfl, hown, hg⟩ := hrel
      by_cases hlt : j < n
      · have hst := hown.stored j (.int .i64 (k + (j : Nat)))
        rw [marked_succ (by omega)] at hst
        have hfz := hown.frozenAt j
        have hcl := hown.cellAt j (by omega)
        obtain ⟨u, hu⟩ : ∃ u, (marked k j xs)[j]? = some u := ⟨_, List.getElem?_eq_getElem (by rw [marked_len (by omega)]; omega)⟩
        rw [hu] at hcl
        have HS := Lib.hid hst
        clear hu hst hown
        go_wp2_with fail
        go_roundw
        case rel => exact ⟨j + 1, by omega, by go_num, by go_num, HS.out.1, hg.trans HS.out.2⟩
        case measure => simp [intOf]; omega
      · have e : j = n := by omega
        subst e
        rw [← hx, marked_end, hx] at hown
        go_wp2_with fail
        go_ret
        exact ⟨rfl, hown, hg⟩

set_option maxRecDepth 100000 in
set_option maxHeartbeats 1000000 in
theorem held_c (A : Option Addr) (n c B : Nat) (k : Int) (w : World) (h : Row w B A ((rise k n).map ic)) (hn : n ≤ 100000000) (hk1 : 0 ≤ k) (hk2 : k ≤ 1000000000) :
    Calls Tryz.prog 20 #[.slice A n c, .int .i64 k] w fun e w' => e = .returned (.int .i64 (k + n)) ∧ w = w' := by
  go_enter Tryz.func20, Tryz.ntmps20
  go_wp2_with fail
  go_loop [1, 5] (fun kv i => ∃ j : Nat, j ≤ n ∧ i = .int .i64 j ∧ kv = .int .i64 (k + (j : Nat))) (fun _ i => n - (intOf i).toNat)
  case atStart => exact ⟨0, by omega, rfl, by simp⟩
  case round =>
    obtain ⟨j, hj, rfl, rfl⟩ := hrel
    by_cases hlt : j < n
    · obtain ⟨b, off, x, rfl, hb, hx, hc⟩ := h.int_at (k := j) (by rw [rise_len]; exact hlt)
      rw [rise_at hlt] at hx
      have hxe := Option.some.inj hx
      subst hxe
      clear hx
      go_wp2_with fail
      go_round
      case rel => exact ⟨j + 1, by omega, by go_num, by go_num⟩
      case measure => simp [intOf]; omega
    · have e : j = n := by omega
      subst e
      go_wp2_with fail
      go_ret
      exact ⟨rfl, rfl⟩
end Go.Proofs.YtajmbnimdngjhaaGreatDoor
