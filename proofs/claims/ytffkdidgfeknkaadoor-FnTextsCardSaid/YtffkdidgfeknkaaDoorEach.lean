/-
  eachOf with strings.Clone, splitText: the parts of a text, as strings in a row of their own. Conditions: texts of at most 2^20 bytes; internal/bytealg.MaxLen holds an int.
-/
import Derived.Test.YtffkdidgfeknkaaDoorSplit
import Derived.Test.YtffkdidgfeknkaaDoorStrs
import Derived.Test.YtffkdidgfeknkaaDoorClone
import Derived.Test.YtffkdidgfeknkaaDoorCutLaws
namespace Go.Proofs.YtffkdidgfeknkaaDoor
open Go.RowKit

theorem infoStr : (Tryd.prog.info? 9).map (fun i => (i.zero, i.size, i.bytes)) = some (some (.string ByteArray.empty), 1, 16) := by kernel_rfl

set_option maxRecDepth 100000 in
set_option maxHeartbeats 1000000 in
theorem eachOf_c (A : Option Addr) (n c B : Nat) (zs : List ByteArray) (w : World) (h : Row w B A (zs.map Value.string)) (hB : B ≤ w.heap.size) (hz : zs.length = n) (hn : n ≤ 10000000) (hs : ∀ z ∈ zs, z.size ≤ 140737488355328) :
    Calls Tryd.prog 77 #[.slice A n c, .func (Fn.func 40) #[] #[]] w fun e w' => ∃ g, e = .returned (.slice (some ⟨g, 0, none⟩) n n) ∧ w'.ownsRow w.heap.size 9 1 (.slice (some ⟨g, 0, none⟩) n n) n (zs.map Value.string) ∧ Below w.heap.size w w' := by
  obtain ⟨i0, hi, hz0, hz1, hz2⟩ := info_parts infoStr
  go_enter Tryd.func77, Tryd.ntmps77
  go_wp2_with (at_make; refine wpList_make_full _ rfl _ _ 38 rfl w.heap.size 9 i0 (.string ByteArray.empty) 1 Tryd.underlying38 hi hz0 hz1 .i64 .i64 _ _ n rfl rfl rfl rfl (by rw [hz2]; omega) (by unfold maxLen; omega) (Nat.le_refl _) ?_; intro w1 hown hgrow)
  rw [copy_start n (zs.map Value.string)] at hown
  have hb1 := (Below.refl w.heap.size w).grown hgrow (Nat.le_refl _) (fun _ h => by cases h)
  clear hgrow
  go_loopw [13] (fun i wr => ∃ k : Nat, k ≤ n ∧ i = .int .i64 k ∧ wr.ownsRow w.heap.size 9 1 (.slice (some ⟨w.heap.size, 0, none⟩) n n) n ((zs.map Value.string).take k ++ List.replicate (n - k) (.string ByteArray.empty)) ∧ Below w.heap.size w wr) (fun i _ => n - (intOf i).toNat)
  case atStart => exact ⟨0, Nat.zero_le _, rfl, hown, hb1⟩
  case round =>
    clear hown hb1
    obtain ⟨k, hk, rfl, hown, hbel⟩ := hrel
    by_cases hlt : k < n
    · obtain ⟨b, off, x, rfl, hb, hx, hc⟩ := (h.below hbel hB).str_at (k := k) (by omega)
      have HC := Lib.hid (fun W => clone_c x W (hs x (List.mem_of_getElem? hx)))
      have hst0 := Lib.hid (copy_step (n := n) (k := k) (xs := zs.map Value.string) (z := .string ByteArray.empty) (x := .string x) (by simpa using hz) hlt (by simp [hx]))
      have hul : k < ((zs.map Value.string).take k ++ List.replicate (n - k) (Value.string ByteArray.empty)).length := by simp; omega
      have hsz := hbel.size
      generalize (zs.map Value.string).take k ++ List.replicate (n - k) (Value.string ByteArray.empty) = ys at hown hul hst0
      clear hx
      go_wp2_with (go_at_call 40; refine (HC.out _).mono ?_; rintro e w2 ⟨rfl, hb2⟩; have hown1 := own_below hown hb2; have hfz := hown1.frozenAt k; have hcl := hown1.cellAt k (by omega); rw [List.getElem?_eq_getElem hul] at hcl; have hst := Lib.hid (hown1.stored k (.string x)); clear hown1 hown)
      go_roundw
      case rel => exact ⟨k + 1, by omega, by go_num, by rw [hst0.out] at hst; exact hst.out.1, (hbel.trans (hb2.mono hsz)).setCell (p := ⟨w.heap.size, k, none⟩) (Nat.le_refl _) _⟩
      case measure => simp [intOf]; omega
    · have e : k = n := by omega
      subst e
      go_wp2
      go_ret
      exact ⟨_, rfl, by rw [copy_end (by simpa using hz)] at hown; exact hown, hbel⟩

set_option maxRecDepth 100000 in
set_option maxHeartbeats 1000000 in
/-- splitText at a mark of one byte: the parts, in a row of the call's own. -/
theorem splitText_c (s : ByteArray) (c : UInt8) (w : World) (hs : s.size ≤ 1048576) (hm : MaxInt w) :
    Calls Tryd.prog 44 #[.string s, .string ⟨#[c]⟩] w fun e w' => ∃ g, e = .returned (.slice (some ⟨g, 0, none⟩) (cutS c s).length (cutS c s).length) ∧
      w'.ownsRow w.heap.size 9 1 (.slice (some ⟨g, 0, none⟩) (cutS c s).length (cutS c s).length) (cutS c s).length ((cutS c s).map Value.string) ∧ Below w.heap.size w w' := by
  have h0 := split_c s ⟨#[c]⟩ (by omega) (Nat.le_refl 1) w hm
  rw [split_is, count_is] at h0
  have HS := Lib.hid h0
  have hlen := cutS_len c s
  have hpart := cutS_part c s
  generalize cutS c s = zs at HS hlen hpart
  clear h0
  have hrow : Row (w.alloc (.cells (zs.map Value.string).toArray 9)) (w.heap.size + 1) (some ⟨w.heap.size, 0, none⟩) (zs.map Value.string) := fun j hj => by
    refine ⟨w.heap.size, 0, rfl, by omega, ?_⟩
    rw [cell_of_row _ _ _ _ _ _ (heap_alloc_new w _)]
    simp
  have HE := Lib.hid (eachOf_c (some ⟨w.heap.size, 0, none⟩) zs.length zs.length (w.heap.size + 1) zs _ hrow (by simp) rfl (by omega) (fun z hz => by have := hpart z hz; omega))
  clear hrow
  go_enter Tryd.func44, Tryd.ntmps44
  go_wp2_with (first | (go_at_call 78; refine HS.out.mono ?_; rintro e w1 ⟨rfl, rfl⟩) | (go_at_call 77; refine HE.out.mono ?_; rintro e w2 ⟨g, rfl, hown, hb2⟩))
  go_ret
  exact ⟨g, rfl, own_less hown (by simp), ((Below.refl w.heap.size w).alloc (Nat.le_refl _) _).trans (hb2.mono (by simp))⟩
end Go.Proofs.YtffkdidgfeknkaaDoor
