/-
  Slices of whole numbers: the copy that the law makes. Conditions: at most 2^20 numbers.
-/
import Derived.Test.YtajmbnimdngjhaaGreatDoorEq
namespace Go.Proofs.YtajmbnimdngjhaaGreatDoor
open Go.RowKit

set_option maxRecDepth 100000 in
set_option maxHeartbeats 1000000 in
/-- toInt64S: a copy in a row of its own. -/
theorem toInt64S_c (A : Option Addr) (n c B : Nat) (zs : List Int) (w : World) (h : Row w B A (zs.map ic)) (hB : B ≤ w.heap.size) (hz : zs.length = n) (hn : n ≤ 1048576) :
    Calls Tryz.prog 40 #[.slice A n c] w fun e w' => ∃ g, e = .returned (.slice (some ⟨g, 0, none⟩) n n) ∧ w'.ownsRow w.heap.size 2 1 (.slice (some ⟨g, 0, none⟩) n n) n (zs.map ic) ∧ Below w.heap.size w w' := by
  obtain ⟨i0, hi, hz0, hz1, hz2⟩ := info_parts info64
  go_enter Tryz.func40, Tryz.ntmps40
  go_wp2_with (at_make; refine wpList_make_full _ rfl _ _ 26 rfl w.heap.size 2 i0 (.int .i64 0) 1 Tryz.underlying26 hi hz0 hz1 .i64 .i64 _ _ n rfl rfl rfl rfl (by rw [hz2]; omega) (by unfold maxLen; omega) (Nat.le_refl _) ?_; intro w1 hown hgrow)
  rw [copy_start n (zs.map ic)] at hown
  have hb1 := (Below.refl w.heap.size w).grown hgrow (Nat.le_refl _) (fun _ h => by cases h)
  clear hgrow
  go_loopw [4] (fun i wr => ∃ k : Nat, k ≤ n ∧ i = .int .i64 k ∧ wr.ownsRow w.heap.size 2 1 (.slice (some ⟨w.heap.size, 0, none⟩) n n) n ((zs.map ic).take k ++ List.replicate (n - k) (.int .i64 0)) ∧ Below w.heap.size w wr) (fun i _ => n - (intOf i).toNat)
  case atStart => exact ⟨0, Nat.zero_le _, rfl, hown, hb1⟩
  case round =>
    clear hown hb1
    obtain ⟨k, hk, rfl, hown, hbel⟩ := hrel
    by_cases hlt : k < n
    · obtain ⟨b, off, x, rfl, hb, hx, hc⟩ := (h.below hbel hB).int_at (k := k) (by omega)
      have hst := hown.stored k (.int .i64 x)
      rw [copy_step (by simpa using hz) hlt (x := .int .i64 x) (by simp [hx, ic])] at hst
      have hfz := hown.frozenAt k
      have hcl := hown.cellAt k (by omega)
      obtain ⟨u, hu⟩ : ∃ u, ((zs.map ic).take k ++ List.replicate (n - k) (.int .i64 0))[k]? = some u := ⟨_, List.getElem?_eq_getElem (by simp; omega)⟩
      rw [hu] at hcl
      have HX := Lib.hid hx
      have HU := Lib.hid hst
      clear hu hx hst hown
      go_wp2
      go_roundw
      case rel => exact ⟨k + 1, by omega, by go_num, HU.out.1, hbel.setCell (p := ⟨w.heap.size, k, none⟩) (Nat.le_refl _) _⟩
      case measure => simp [intOf]; omega
    · have e : k = n := by omega
      subst e
      go_wp2
      go_ret
      exact ⟨_, rfl, by rw [copy_end (by simpa using hz)] at hown; exact hown, hbel⟩

end Go.Proofs.YtajmbnimdngjhaaGreatDoor
