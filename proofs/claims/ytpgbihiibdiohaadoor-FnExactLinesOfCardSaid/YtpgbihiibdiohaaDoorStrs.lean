/-
  Slices of strings: what the law compares, writes and looks for. Conditions: at most 2^40 strings.
-/
import Derived.Test.YtpgbihiibdiohaaDoorMarkT
import Derived.Test.YtpgbihiibdiohaaDoorKeep
import Derived.Lib.BufferOwn
import Derived.BigQuiet
import Derived.Deep.QuietTactic
import Derived.Deep.RegionLaw
import Derived.Maps.AppendAt
namespace Go.Proofs.YtpgbihiibdiohaaDoor
open Go.RowKit

theorem Row.str_at {w : World} {B : Nat} {A : Option Addr} {zs : List ByteArray} {k : Nat} (h : Row w B A (zs.map Value.string)) (hk : k < zs.length) :
    ∃ b off x, A = some ⟨b, off, none⟩ ∧ b < B ∧ zs[k]? = some x ∧ w.cell? ⟨b, off + k, none⟩ = some (.string x) := by
  obtain ⟨b, off, e, hb, hc⟩ := h k (by simpa using hk)
  refine ⟨b, off, zs[k], e, hb, List.getElem?_eq_getElem hk, ?_⟩
  rw [hc]; simp [hk]

set_option maxRecDepth 100000 in
set_option maxHeartbeats 1000000 in
/-- eqStringS: two lists that are equal. -/
theorem eqStringS_c (A A' : Option Addr) (n c c' B : Nat) (zs : List ByteArray) (w : World) (h : Row w B A (zs.map Value.string)) (h' : Row w B A' (zs.map Value.string)) (hz : zs.length = n)
    (hn : n ≤ 1099511627776) :
    Calls Tryd.prog 13 #[.slice A n c, .slice A' n c'] w fun e w' => e = .returned (.bool true) ∧ ∃ d, w' = w.drewN d := by
  go_enter Tryd.func13, Tryd.ntmps13
  go_wp2
  go_loopw [5] (fun i wr => ∃ k d : Nat, k ≤ n ∧ i = .int .i64 k ∧ wr = w.drewN d) (fun i _ => n - (intOf i).toNat)
  case atStart => exact ⟨0, 0, Nat.zero_le _, rfl, rfl⟩
  case round =>
    obtain ⟨k, d, hk, rfl, rfl⟩ := hrel
    by_cases hlt : k < n
    · obtain ⟨b, off, x, rfl, hb, hx, hc⟩ := h.str_at (k := k) (by omega)
      obtain ⟨b', off', x', rfl, hb', hx', hc'⟩ := h'.str_at (k := k) (by omega)
      obtain rfl : x = x' := by rw [hx] at hx'; exact Option.some.inj hx'
      have q1 : (x.toList == x.toList) = true := by simp
      clear hx hx'
      go_wp2
      go_quiet (fail)
      go_wp2
      go_roundw
      case rel => exact ⟨k + 1, _, by omega, by go_num, rfl⟩
      case measure => simp [intOf]; omega
    · go_wp2
      go_ret
      exact ⟨rfl, _, rfl⟩

/-- n marks that rise from k on. -/
def riseS (k n : Nat) : List ByteArray := (List.range n).map fun i => markS (k + i)
theorem riseS_len (k n : Nat) : (riseS k n).length = n := by simp [riseS]
theorem riseS_at {k n i : Nat} (h : i < n) : (riseS k n)[i]? = some (markS (k + i)) := by simp [riseS, h]
/-- What the row holds when i cells have been written. -/
def markedS (k i : Nat) (xs : List Value) : List Value := (riseS k i).map Value.string ++ xs.drop i
theorem markedS_zero (k : Nat) (xs : List Value) : markedS k 0 xs = xs := by simp [markedS, riseS]
theorem markedS_succ {k i : Nat} {xs : List Value} (h : i < xs.length) : (markedS k i xs).set i (.string (markS (k + i))) = markedS k (i + 1) xs := by
  have hl : ((riseS k i).map Value.string).length = i := by rw [List.length_map, riseS_len]
  unfold markedS
  rw [List.set_append_right _ _ (by omega), hl, Nat.sub_self, List.drop_eq_getElem_cons h, List.set_cons_zero]
  simp [riseS, List.range_succ]
theorem markedS_end {k : Nat} {xs : List Value} : markedS k xs.length xs = (riseS k xs.length).map Value.string := by simp [markedS]
theorem markedS_len {k i : Nat} {xs : List Value} (h : i ≤ xs.length) : (markedS k i xs).length = xs.length := by
  simp [markedS, riseS_len]; omega

set_option maxRecDepth 100000 in
set_option maxHeartbeats 1000000 in
theorem markS_c (base : Nat) (A : Option Addr) (n c : Nat) (xs : List Value) (k : Nat) (w : World) (h : w.ownsRow base 9 1 (.slice A n c) n xs) (hn : n ≤ 100000000000) (hk1 : 0 < k) (hk2 : k ≤ 100000000000) :
    Calls Tryd.prog 14 #[.slice A n c, .int .i64 (k : Int)] w fun e w' => e = .returned (.int .i64 ((k + n : Nat) : Int)) ∧ w'.ownsRow base 9 1 (.slice A n c) n ((riseS k n).map Value.string) ∧ w.grownBy w' (Value.slice A n c).ownBlock := by
  have hx : xs.length = n := by simpa using h.1
  rcases A with _ | ad
  · have hn0 : n = 0 := by
      rcases h.2 with ⟨_, h0⟩ | ⟨g, cap, cur, h1, _⟩
      · exact h0
      · cases h1
    subst hn0
    have hx0 : xs = [] := List.eq_nil_of_length_eq_zero hx
    subst hx0
    have HO := Lib.hid h
    clear h
    go_enter Tryd.func14, Tryd.ntmps14
    go_wp2_with fail
    go_loop [1, 5] (fun kv i => ∃ j : Nat, j ≤ 0 ∧ i = .int .i64 j ∧ kv = .int .i64 (k : Int)) (fun _ _ => 0)
    case atStart => exact ⟨0, by omega, rfl, rfl⟩
    case round =>
      obtain ⟨j, hj, rfl, rfl⟩ := hrel
      have hj0 : (j : Int) ≤ 0 := by omega
      go_wp2_with fail
      go_ret
      exact ⟨rfl, by simpa [riseS] using HO.out, World.grownBy.refl _ _⟩
  · obtain ⟨g, rfl⟩ : ∃ g, ad = ⟨g, 0, none⟩ := by
      rcases h.2 with ⟨h1, _⟩ | ⟨g, cap, cur, h1, _⟩
      · cases h1
      · injection h1 with h1; injection h1 with h1; exact ⟨g, h1⟩
    go_enter Tryd.func14, Tryd.ntmps14
    go_wp2_with fail
    go_loopw [1, 5] (fun kv i wr => ∃ j : Nat, j ≤ n ∧ i = .int .i64 j ∧ kv = .int .i64 ((k + j : Nat) : Int) ∧ wr.ownsRow base 9 1 (.slice (some ⟨g, 0, none⟩) n c) n (markedS k j xs) ∧ w.grownBy wr (some g)) (fun _ i _ => n - (intOf i).toNat)
    case atStart => exact ⟨0, by omega, rfl, rfl, by rw [markedS_zero]; exact h, World.grownBy.refl _ _⟩
    case round =>
      clear h
      obtain ⟨j, hj, rfl, rfl, hown, hg⟩ := hrel
      by_cases hlt : j < n
      · have HM := Lib.hid (markText_c (k + j) (by omega) (by omega))
        have hml : j < (markedS k j xs).length := by rw [markedS_len (by omega)]; omega
        have HSU := Lib.hid (markedS_succ (k := k) (i := j) (xs := xs) (by omega))
        generalize markedS k j xs = ys at hown hml HSU
        generalize hK : k + j = K at HM HSU
        go_wp2_with (go_at_call 49; refine (HM.out _).mono ?_; rintro e w1 ⟨rfl, hb1⟩; have hown1 := own_below hown hb1; have hfz := hown1.frozenAt j; have hcl := hown1.cellAt j (by omega); rw [List.getElem?_eq_getElem hml] at hcl; have hg1 := Lib.grownBy_below hg hb1; have hst := Lib.hid (hown1.stored j (.string (markS K))); clear hown1 hown)
        go_roundw
        case rel => exact ⟨j + 1, by omega, by go_num, by subst hK; go_num, by rw [HSU.out] at hst; exact hst.out.1, hg1.trans hst.out.2⟩
        case measure => simp [intOf]; omega
      · have e : j = n := by omega
        subst e
        rw [← hx, markedS_end, hx] at hown
        go_wp2_with fail
        go_ret
        exact ⟨rfl, hown, hg⟩

theorem cell_on {w w1 : World} {b o : Nat} {v : Value} (hc : w.cell? ⟨b, o, none⟩ = some v) (h : Below w.drew.heap.size w.drew w1) : w1.cell? ⟨b, o, none⟩ = some v := by
  have h1 : w.drew.cell? ⟨b, o, none⟩ = some v := hc
  exact (h.cell (p := ⟨b, o, none⟩) (cell_lt h1)).trans h1
set_option maxRecDepth 100000 in
set_option maxHeartbeats 1000000 in
theorem heldS_c (A : Option Addr) (n c : Nat) (k : Nat) (w : World) (h : Row w w.heap.size A ((riseS k n).map Value.string)) (hn : n ≤ 100000000000) (hk1 : 0 < k) (hk2 : k ≤ 100000000000) :
    Calls Tryd.prog 15 #[.slice A n c, .int .i64 (k : Int)] w fun e w' => e = .returned (.int .i64 ((k + n : Nat) : Int)) ∧ Below w.heap.size w w' := by
  go_enter Tryd.func15, Tryd.ntmps15
  go_wp2_with fail
  go_loopw [1, 5] (fun kv i wr => ∃ j : Nat, j ≤ n ∧ i = .int .i64 j ∧ kv = .int .i64 ((k + j : Nat) : Int) ∧ Below w.heap.size w wr) (fun _ i _ => n - (intOf i).toNat)
  case atStart => exact ⟨0, by omega, rfl, rfl, Below.refl _ _⟩
  case round =>
    obtain ⟨j, hj, rfl, rfl, hbel⟩ := hrel
    by_cases hlt : j < n
    · obtain ⟨b, off, x, rfl, hb, hx, hc⟩ := (h.below hbel (Nat.le_refl _)).str_at (k := j) (by rw [riseS_len]; exact hlt)
      rw [riseS_at hlt] at hx
      have hxe := Option.some.inj hx
      subst hxe
      clear hx
      have HM := Lib.hid (markText_c (k + j) (by omega) (by omega))
      generalize hK : k + j = K at HM hc
      have q1 : ((markS K).toList == (markS K).toList) = true := by simp
      have hsz := hbel.size
      go_wp2_with fail
      go_region_law (go_simp; go_at_call 49; with_reducible refine (HM.out _).mono ?_; rintro e w1 ⟨rfl, hb1⟩; have hc1 := cell_on hc hb1)
      all_goals
        have hb2 : Below w.heap.size w w1 := hbel.drew.trans (hb1.mono (by simpa using hsz))
        clear hb1
        go_wp2_with fail
        go_roundw
        case rel => exact ⟨j + 1, by omega, by go_num, by subst hK; go_num, hb2⟩
        case measure => simp [intOf]; omega
    · have e : j = n := by omega
      subst e
      go_wp2_with fail
      go_ret
      exact ⟨rfl, hbel⟩
end Go.Proofs.YtpgbihiibdiohaaDoor
