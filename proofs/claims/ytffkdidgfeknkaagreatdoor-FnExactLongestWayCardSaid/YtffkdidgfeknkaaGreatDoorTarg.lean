/-
  The places behind an instruction: the model's and the program's. Conditions: at most 2^20 instructions.
-/
import Derived.Test.YtffkdidgfeknkaaGreatDoorBunB
import Derived.Test.YtffkdidgfeknkaaGreatDoorSyms
import Derived.Test.YtffkdidgfeknkaaGreatDoorBunK
import Derived.Deep.RegionWith
namespace Go.Proofs.YtffkdidgfeknkaaGreatDoor
set_option linter.unusedVariables false
open Go.RowKit

theorem own_one (w : World) (x : Int) : (w.alloc (.cells #[.int .i64 x] 2)).ownsRow w.heap.size 2 1 (.slice (some ⟨w.heap.size, 0, none⟩) 1 1) 1 ([x].map ic) :=
  ⟨rfl, .inr ⟨w.heap.size, 1, #[.int .i64 x], rfl, Nat.le_refl _, heap_alloc_new w _, Nat.le_refl _, by unfold maxLen; omega, rfl, rfl⟩⟩
theorem ownL_one (w : World) (x : Int) : OwnL (w.alloc (.cells #[.int .i64 x] 2)) w.heap.size (w.alloc (.cells #[.int .i64 x] 2)).heap.size (some ⟨w.heap.size, 0, none⟩) 1 1 [x] := OwnL.of_own (own_one w x)
theorem ownL_none (w : World) : OwnL (w.alloc (.cells #[] 2)) w.heap.size (w.alloc (.cells #[] 2)).heap.size (some ⟨w.heap.size, 0, none⟩) 0 0 [] := OwnL.of_own (row_new w)
theorem ownL_nil (w : World) : OwnL w w.heap.size w.heap.size none 0 0 [] := ⟨rfl, World.ownsRow_nil _ _ _ _, (fun j hj => by cases hj), Nat.le_refl _⟩

theorem has_put {D : DataW Unit} (hD : Maps.IsMap D) (x y : Int) (d : DataW Unit) : Maps.has (D.put (.int .i64 x) d) (.int .i64 y) = true ↔ Maps.has D (.int .i64 y) = true ∨ y = x := by
  by_cases hy : y = x
  · subst hy
    rw [Maps.has_put_same (k := .int .i64 y) hD trivial]; simp
  · rw [Maps.has_put_other (fun h => hy (by injection h))]; simp [hy]
theorem has_two (u v y : Int) (d d' : DataW Unit) : y ∈ putR v [u] ↔ Maps.has (((.map [] : DataW Unit).put (.int .i64 u) d).put (.int .i64 v) d') (.int .i64 y) = true := by
  rw [putR_one_mem, has_put (Maps.isMap_empty.put _ _), has_put Maps.isMap_empty]
  have e : Maps.has (.map [] : DataW Unit) (.int .i64 y) = false := by simp [Maps.has_eq]
  rw [e]; simp
theorem has_two' (u v y : Int) (d d' : DataW Unit) : y ∈ putR v [u] ↔ Maps.has (((.map [] : DataW Unit).put (.int .i64 v) d).put (.int .i64 u) d') (.int .i64 y) = true := by
  rw [putR_one_mem, has_put (Maps.isMap_empty.put _ _), has_put Maps.isMap_empty]
  have e : Maps.has (.map [] : DataW Unit) (.int .i64 y) = false := by simp [Maps.has_eq]
  rw [e]; simp [or_comm]

set_option maxRecDepth 100000 in
set_option maxHeartbeats 4000000 in
theorem targetsOf_c (A : Option Addr) (n c B : Nat) (xs : List (Int × Int)) (k : Nat) (x : Int × Int) (w : World) (h : InC w B A n xs) (hB : B ≤ w.heap.size) (hx : xs[k]? = some x) (hk : k ≤ 1000) (hv : instrB x.1 x.2 = true) :
    Calls Tryz.prog 71 #[.slice A n c, .int .i64 k] w fun e w' => ∃ A' c', e = .returned (.slice A' (tgt1 x.1 x.2 k).length c') ∧ OwnL w' w.heap.size w'.heap.size A' (tgt1 x.1 x.2 k).length c' (tgt1 x.1 x.2 k) ∧ Below w.heap.size w w' := by
  have hkn : k < n := by have := (List.getElem?_eq_some_iff.1 hx).1; have := h.1; omega
  obtain ⟨b, off, y, rfl, hb, hy, q0, q1⟩ := h.at_ hkn
  obtain rfl : x = y := by rw [hx] at hy; exact Option.some.inj hy
  obtain ⟨op, a⟩ := x
  have ha : -1000000 ≤ a ∧ a ≤ 1000000 := instrB_arg hv
  show Calls _ _ _ _ fun e w' => ∃ A' c', e = .returned (.slice A' (tgt1 op a k).length c') ∧ OwnL w' w.heap.size w'.heap.size A' (tgt1 op a k).length c' (tgt1 op a k) ∧ Below w.heap.size w w'
  have q0' : w.cell? ⟨b, off + k * 2, none⟩ = some (.int .i64 op) := q0
  have q1' : w.cell? ⟨b, off + k * 2 + 1, none⟩ = some (.int .i64 a) := q1
  have hbl : b < w.heap.size := by omega
  have hb0 := bnew w (.cells #[.int .i64 op, .int .i64 a] 92)
  have hX : BlkIs (w.alloc (.cells #[.int .i64 op, .int .i64 a] 92)) w.heap.size 92 #[.int .i64 op, .int .i64 a] := blk_new _ _ _ _ rfl
  clear q0 q1 hx hy h hv
  by_cases h11 : op = 11
  · subst h11
    rw [tgt1_halt]
    go_enter Tryz.func71, Tryz.ntmps71
    go_wp2_with fail
    go_ret
    exact ⟨none, 0, rfl, (ownL_nil _).less hb0.size, hb0⟩
  · have e11 : (op == 11) = false := by simp [h11]
    by_cases h5 : op = 5
    · subst h5
      rw [tgt1_jump]
      have hsz : (w.alloc (.cells #[.int .i64 5, .int .i64 a] 92)).heap.size = w.heap.size + 1 := by simp
      have hone := (ownL_one (w.alloc (.cells #[.int .i64 5, .int .i64 a] 92)) a).less hb0.size
      rw [hsz] at hone
      go_enter Tryz.func71, Tryz.ntmps71
      go_wp2_with fail
      go_ret
      exact ⟨_, 1, rfl, hone, bon hb0 (bnew _ _)⟩
    · have e5 : (op == 5) = false := by simp [h5]
      by_cases h6 : op = 6
      · subst h6
        rw [tgt1_test]
        have hmm := @run_makeMap Tryz.prog
        have x1 : (w.alloc (.cells #[.int .i64 6, .int .i64 a] 92)).cell? ⟨w.heap.size, 1, none⟩ = some (.int .i64 a) := hX.cell 1
        go_enter Tryz.func71, Tryz.ntmps71
        go_wp2_with fail
        generalize w.alloc (.cells #[.int .i64 6, .int .i64 a] 92) = W at hb0 hX x1 ⊢
        have hown0 : ((W.alloc (.map #[] 0)).drew).ownsMap Tryz.prog 2 (plainElem (H := Unit) Tryz.prog 4) W.heap.size 0 (.map []) := World.ownsMap_made (H := Unit) W Tryz.prog 2 (plainElem Tryz.prog 4)
        have hwr : IntKind.i64.wrap ((k : Int) + 1) = (k : Int) + 1 := IntWalk.i64_in _ (by omega)
        have hkeyK := Maps.keyOf_int_mk (P := Tryz.prog) Tryz.underlying2 (a := (k : Int) + 1) (WalkArith.wf_i64 (n := (k : Int) + 1) (by omega))
        have hkeya := Maps.keyOf_int_mk (P := Tryz.prog) Tryz.underlying2 (a := a) (WalkArith.wf_i64 (n := a) (by omega))
        have hvt := plainElem_bool (P := Tryz.prog) (H := Unit) Tryz.underlying4 true
        obtain ⟨w1, r1, o1, g1⟩ := hown0.update keyedS Tryz.underlying133 (by unfold maxLen; omega) hkeyK hvt
        obtain ⟨w12, r12, o12, g12⟩ := o1.update keyedS Tryz.underlying133 (by unfold maxLen; omega) hkeya hvt
        obtain ⟨w2, r2, o2, g2⟩ := hown0.update keyedS Tryz.underlying133 (by unfold maxLen; omega) hkeya hvt
        obtain ⟨w21, r21, o21, g21⟩ := o2.update keyedS Tryz.underlying133 (by unfold maxLen; omega) hkeyK hvt
        have bm : Below W.heap.size W ((W.alloc (.map #[] 0)).drew) := (bnew W (.map #[] 0)).drew
        have b1 : Below W.heap.size W w1 := bm.trans (only_below g1 (Nat.le_refl _) bm.size)
        have b12 : Below W.heap.size W w12 := b1.trans (only_below g12 (Nat.le_refl _) b1.size)
        have b2 : Below W.heap.size W w2 := bm.trans (only_below g2 (Nat.le_refl _) bm.size)
        have b21 : Below W.heap.size W w21 := b2.trans (only_below g21 (Nat.le_refl _) b2.size)
        have y0 : ((W.alloc (.map #[] 0)).drew).cell? ⟨w.heap.size, 1, none⟩ = some (.int .i64 a) := (bm.cell (p := ⟨w.heap.size, 1, none⟩) hX.lt).trans x1
        have y1 : w1.cell? ⟨w.heap.size, 1, none⟩ = some (.int .i64 a) := (b1.cell (p := ⟨w.heap.size, 1, none⟩) hX.lt).trans x1
        have HIa := Lib.hid (increasing_c _ _ _ (putR a [(k : Int) + 1]) w12 o12 (by omega) (putR_one_rise _ _) (fun y => has_two _ _ y _ _))
        have HIb := Lib.hid (increasing_c _ _ _ (putR a [(k : Int) + 1]) w21 o21 (by omega) (putR_one_rise _ _) (fun y => has_two' _ _ y _ _))
        have B12 := Lib.hid b12
        have B21 := Lib.hid b21
        clear o1 o12 o2 o21 g1 g12 g2 g21 hown0 hkeyK hkeya hvt bm b1 b2 b12 b21
        go_region_with (first
          | (go_at_call 91; refine HIa.out.mono ?_; rintro e w5 ⟨v, rfl, hrow, hb5⟩; obtain ⟨A5, c5, rfl, _⟩ := own_slice hrow; have HB : Hid (Below W.heap.size W w5) := B12.out.trans (hb5.mono B12.out.size); have HR : Hid (w5.ownsRow W.heap.size 2 1 (.slice A5 (putR a [(k : Int) + 1]).length c5) (putR a [(k : Int) + 1]).length ((putR a [(k : Int) + 1]).map ic)) := own_less hrow B12.out.size; clear hrow hb5)
          | (go_at_call 91; refine HIb.out.mono ?_; rintro e w5 ⟨v, rfl, hrow, hb5⟩; obtain ⟨A5, c5, rfl, _⟩ := own_slice hrow; have HB : Hid (Below W.heap.size W w5) := B21.out.trans (hb5.mono B21.out.size); have HR : Hid (w5.ownsRow W.heap.size 2 1 (.slice A5 (putR a [(k : Int) + 1]).length c5) (putR a [(k : Int) + 1]).length ((putR a [(k : Int) + 1]).map ic)) := own_less hrow B21.out.size; clear hrow hb5))
        all_goals
          have HO := Lib.hid (OwnL.of_own HR.out)
          clear HR HIa HIb B12 B21
          go_wp2_with fail
          go_ret
          exact ⟨A5, c5, rfl, HO.out.less hb0.size, bon hb0 HB.out⟩
      · have e6 : (op == 6) = false := by simp [h6]
        rw [tgt1_else h11 h5 h6]
        clear h11 h5 h6
        have hsz : (w.alloc (.cells #[.int .i64 op, .int .i64 a] 92)).heap.size = w.heap.size + 1 := by simp
        have hone := (ownL_one (w.alloc (.cells #[.int .i64 op, .int .i64 a] 92)) ((k : Int) + 1)).less hb0.size
        rw [hsz] at hone
        go_enter Tryz.func71, Tryz.ntmps71
        go_wp2_with fail
        go_ret
        exact ⟨_, 1, rfl, hone, bon hb0 (bnew _ _)⟩
end Go.Proofs.YtffkdidgfeknkaaGreatDoor
