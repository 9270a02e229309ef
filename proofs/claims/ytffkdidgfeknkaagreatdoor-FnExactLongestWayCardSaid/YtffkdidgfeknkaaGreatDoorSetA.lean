/-
  What two sets of places have in common, and whether a set is empty. No conditions but that places lie below 128.
-/
import Derived.Test.YtffkdidgfeknkaaGreatDoorBunE
import Derived.Deep.RegionHeld3
namespace Go.Proofs.YtffkdidgfeknkaaGreatDoor
set_option linter.unusedVariables false
open Go.RowKit

theorem and_valS (L M : Nat) (h : L < 18446744073709551616) (h' : M < 18446744073709551616) : bits BinOp.and IntKind.u64 (L : Int) (M : Int) = ((L &&& M : Nat) : Int) := bits_and_u64_nat _ _ h h'

theorem andS_lo (S T : Nat) : loW (S &&& T) = loW S &&& loW T ∧ hiW (S &&& T) = hiW S &&& hiW T := by
  unfold loW hiW
  refine ⟨?_, ?_⟩
  · apply Nat.eq_of_testBit_eq
    intro i
    rw [Nat.testBit_mod_two_pow, Nat.testBit_and, Nat.testBit_and, Nat.testBit_mod_two_pow, Nat.testBit_mod_two_pow]
    cases decide (i < 64) <;> simp
  · apply Nat.eq_of_testBit_eq
    intro i
    rw [Nat.testBit_div_two_pow, Nat.testBit_and, Nat.testBit_and, Nat.testBit_div_two_pow, Nat.testBit_div_two_pow]
theorem zeroS {S : Nat} (h : S < 2 ^ 128) : (loW S = 0 ∧ hiW S = 0) ↔ S = 0 := by
  unfold loW hiW
  constructor
  · rintro ⟨h1, h2⟩; omega
  · rintro rfl; decide

set_option maxRecDepth 100000 in
set_option maxHeartbeats 2000000 in
theorem and_c (S T : Nat) (w : World) (hS : S < 2 ^ 128) (hT : T < 2 ^ 128) :
    Calls Tryz.prog 45 #[.agg #[.int .u64 (loW S : Nat), .int .u64 (hiW S : Nat)], .agg #[.int .u64 (loW T : Nat), .int .u64 (hiW T : Nat)]] w fun e w' => e = .returned (.agg #[.int .u64 (loW (S &&& T) : Nat), .int .u64 (hiW (S &&& T) : Nat)]) ∧ Below w.heap.size w w' := by
  have hb0 : Below w.heap.size w (((w.alloc (.cells #[.int .u64 (loW S : Nat), .int .u64 (hiW S : Nat)] 68)).alloc (.cells #[.int .u64 (loW T : Nat), .int .u64 (hiW T : Nat)] 68)).alloc (.cells #[.int .u64 0, .int .u64 0] 68)) := bon (bon (bnew _ _) (bnew _ _)) (bnew _ _)
  have hA : BlkIs (((w.alloc (.cells #[.int .u64 (loW S : Nat), .int .u64 (hiW S : Nat)] 68)).alloc (.cells #[.int .u64 (loW T : Nat), .int .u64 (hiW T : Nat)] 68)).alloc (.cells #[.int .u64 0, .int .u64 0] 68)) w.heap.size 68 #[.int .u64 (loW S : Nat), .int .u64 (hiW S : Nat)] := ((blk_new w _ _ _ rfl).next (bnew _ _)).next (bnew _ _)
  have hB : BlkIs (((w.alloc (.cells #[.int .u64 (loW S : Nat), .int .u64 (hiW S : Nat)] 68)).alloc (.cells #[.int .u64 (loW T : Nat), .int .u64 (hiW T : Nat)] 68)).alloc (.cells #[.int .u64 0, .int .u64 0] 68)) (w.heap.size + 1) 68 #[.int .u64 (loW T : Nat), .int .u64 (hiW T : Nat)] := (blk_new (w.alloc (.cells #[.int .u64 (loW S : Nat), .int .u64 (hiW S : Nat)] 68)) _ _ _ (by simp)).next (bnew _ _)
  have hR : BlkIs (((w.alloc (.cells #[.int .u64 (loW S : Nat), .int .u64 (hiW S : Nat)] 68)).alloc (.cells #[.int .u64 (loW T : Nat), .int .u64 (hiW T : Nat)] 68)).alloc (.cells #[.int .u64 0, .int .u64 0] 68)) (w.heap.size + 2) 68 #[.int .u64 0, .int .u64 0] := blk_new _ _ _ _ (by simp)
  have hl := loW_lt S
  have hh := hiW_lt hS
  have hl' := loW_lt T
  have hh' := hiW_lt hT
  have e1 := and_valS (loW S) (loW T) hl hl'
  have e2 := and_valS (hiW S) (hiW T) hh hh'
  obtain ⟨o1, o2⟩ := andS_lo S T
  rw [o1, o2]
  generalize loW S = a at hb0 hA hB hR e1 hl ⊢
  generalize hiW S = b at hb0 hA hB hR e2 hh ⊢
  generalize loW T = c at hb0 hA hB hR e1 hl' ⊢
  generalize hiW T = d at hb0 hA hB hR e2 hh' ⊢
  clear o1 o2 hl hh hl' hh'
  go_enter Tryz.func45, Tryz.ntmps45
  go_wp2_with fail
  generalize ((w.alloc (.cells #[.int .u64 (a : Int), .int .u64 (b : Int)] 68)).alloc (.cells #[.int .u64 (c : Int), .int .u64 (d : Int)] 68)).alloc (.cells #[.int .u64 0, .int .u64 0] 68) = W at hb0 hA hB hR ⊢
  go_loopw [5, 6] (fun _ i wr => ∃ (k : Nat) (x y : Int), i = .int .i64 k ∧ ((k = 0 ∧ x = a ∧ y = b) ∨ (k = 1 ∧ x = ((a &&& c : Nat) : Int) ∧ y = b) ∨ (k = 2 ∧ x = ((a &&& c : Nat) : Int) ∧ y = ((b &&& d : Nat) : Int))) ∧ BlkIs wr w.heap.size 68 #[.int .u64 x, .int .u64 y] ∧ BlkIs wr (w.heap.size + 1) 68 #[.int .u64 (c : Int), .int .u64 (d : Int)] ∧ BlkIs wr (w.heap.size + 2) 68 #[.int .u64 0, .int .u64 0] ∧ Below w.heap.size w wr) (fun _ i _ => 2 - (intOf i).toNat)
  case atStart => exact ⟨0, a, b, rfl, .inl ⟨rfl, rfl, rfl⟩, hA, hB, hR, hb0⟩
  case round =>
    clear hA hB hR hb0
    obtain ⟨k, x, y, rfl, hk, hA, hB, hR, hb⟩ := hrel
    have a0 := hA.cell 0
    have a1 := hA.cell 1
    have b0 := hB.cell 0
    have b1 := hB.cell 1
    simp at a0 a1 b0 b1
    have fa0 := hA.frozen 0
    have fa1 := hA.frozen 1
    rcases hk with ⟨rfl, rfl, rfl⟩ | ⟨rfl, rfl, rfl⟩ | ⟨rfl, rfl, rfl⟩
    · have hA2 := (show BlkIs wr.drew w.heap.size 68 _ from hA).set 0 (.int .u64 ((a &&& c : Nat) : Int))
      simp at hA2
      have hB2 := (show BlkIs wr.drew (w.heap.size + 1) 68 _ from hB).far (show w.heap.size + 1 ≠ w.heap.size by omega) 0 (.int .u64 ((a &&& c : Nat) : Int))
      have hR2 := (show BlkIs wr.drew (w.heap.size + 2) 68 _ from hR).far (show w.heap.size + 2 ≠ w.heap.size by omega) 0 (.int .u64 ((a &&& c : Nat) : Int))
      have hb2 := hb.drew.setCell (p := ⟨w.heap.size, 0, none⟩) (Nat.le_refl _) (.int .u64 ((a &&& c : Nat) : Int))
      clear hA hB hR hb
      have bn := hB2.cell 0
      simp at bn
      go_upto_region 4 with fail
      refine wp_region_held_drew (S := fun w' => w'.cell? ⟨w.heap.size + 1, 0, none⟩ = some (.int .u64 (c : Int))) (by kernel_rfl) b0 ?_
      intro hHeld0
      refine wpAnyH_take (i := 0) (v := ?_) rfl (by kernel_rfl) (by kernel_rfl) (by kernel_rfl) (fun _ _ _ h => h) (Or.inl ⟨by kernel_rfl, ?_⟩) (by assumption) ?_
      rotate_left
      · intro w9 hS9; (try dsimp only at hS9); go_simp; (try with_reducible rfl)
      set_option linter.unusedSimpArgs false in try simp only [Act.put, List.getElem_toArray, List.getElem_cons_succ, List.getElem_cons_zero, List.setIfInBounds_toArray, List.set_cons_zero, List.set_cons_succ]
      refine wpAnyH_take (i := 1) (v := ?_) rfl (by kernel_rfl) (by kernel_rfl) (by kernel_rfl) (fun _ _ _ h => h) (Or.inl ⟨by kernel_rfl, ?_⟩) (by assumption) ?_
      rotate_left
      · intro w9 hS9; (try dsimp only at hS9); go_simp; (try with_reducible rfl)
      set_option linter.unusedSimpArgs false in try simp only [Act.put, List.getElem_toArray, List.getElem_cons_succ, List.getElem_cons_zero, List.setIfInBounds_toArray, List.set_cons_zero, List.set_cons_succ]
      refine wpAnyH_take (i := 3) (v := ?_) rfl (by kernel_rfl) (by kernel_rfl) (by kernel_rfl) (fun _ _ _ h => h) (Or.inl ⟨by kernel_rfl, ?_⟩) (by assumption) ?_
      rotate_left
      · intro w9 hS9; (try dsimp only at hS9); go_simp; (try with_reducible rfl)
      set_option linter.unusedSimpArgs false in try simp only [Act.put, List.getElem_toArray, List.getElem_cons_succ, List.getElem_cons_zero, List.setIfInBounds_toArray, List.set_cons_zero, List.set_cons_succ]
      refine wpAnyH_take (i := 4) (v := ?_) rfl (by kernel_rfl) (by kernel_rfl) (by kernel_rfl) (fun _ _ _ h => h) (Or.inl ⟨by kernel_rfl, ?_⟩) (by assumption) ?_
      rotate_left
      · intro w9 hS9; (try dsimp only at hS9); go_simp; (try with_reducible rfl)
      set_option linter.unusedSimpArgs false in try simp only [Act.put, List.getElem_toArray, List.getElem_cons_succ, List.getElem_cons_zero, List.setIfInBounds_toArray, List.set_cons_zero, List.set_cons_succ]
      refine wpAnyH_take (i := 5) (v := ?_) rfl (by kernel_rfl) (by kernel_rfl) (by kernel_rfl) (fun _ _ _ h => h) (Or.inl ⟨by kernel_rfl, ?_⟩) (by assumption) ?_
      rotate_left
      · intro w9 hS9; (try dsimp only at hS9); go_simp; (try with_reducible rfl)
      set_option linter.unusedSimpArgs false in try simp only [Act.put, List.getElem_toArray, List.getElem_cons_succ, List.getElem_cons_zero, List.setIfInBounds_toArray, List.set_cons_zero, List.set_cons_succ]
      refine wpAnyH_ready (rs := [2]) (by kernel_rfl) (by simp) ?_
      refine AllReadyH.cons rfl (fun K hK => ?_) (AllReadyH.nil)
      go_simp
      refine hK.out _ _ b0 (fun hHeld1 => ?_)
      clear hK K hHeld0
      set_option linter.unusedSimpArgs false in try simp only [Act.put, List.getElem_toArray, List.getElem_cons_succ, List.getElem_cons_zero, List.setIfInBounds_toArray, List.set_cons_zero, List.set_cons_succ]
      refine wpAnyH_take (i := 6) (v := ?_) rfl (by kernel_rfl) (by kernel_rfl) (by kernel_rfl) (fun _ _ _ h => h) (Or.inl ⟨by kernel_rfl, ?_⟩) (by assumption) ?_
      rotate_left
      · intro w9 hS9; (try dsimp only at hS9); go_simp; (try with_reducible rfl)
      set_option linter.unusedSimpArgs false in try simp only [Act.put, List.getElem_toArray, List.getElem_cons_succ, List.getElem_cons_zero, List.setIfInBounds_toArray, List.set_cons_zero, List.set_cons_succ]
      refine wpAnyH_take (i := 7) (v := ?_) rfl (by kernel_rfl) (by kernel_rfl) (by kernel_rfl) (fun _ _ _ h => h) (Or.inl ⟨by kernel_rfl, ?_⟩) (by assumption) ?_
      rotate_left
      · intro w9 hS9; (try dsimp only at hS9); go_simp; (try with_reducible rfl)
      set_option linter.unusedSimpArgs false in try simp only [Act.put, List.getElem_toArray, List.getElem_cons_succ, List.getElem_cons_zero, List.setIfInBounds_toArray, List.set_cons_zero, List.set_cons_succ]
      refine wpAnyH_ready (rs := [8]) (by kernel_rfl) (by simp) ?_
      refine AllReadyH.cons rfl (fun K hK => ?_) (AllReadyH.nil)
      go_simp
      refine hK.out _ _ bn (fun hHeld2 => ?_)
      clear hK K hHeld1
      set_option linter.unusedSimpArgs false in try simp only [Act.put, List.getElem_toArray, List.getElem_cons_succ, List.getElem_cons_zero, List.setIfInBounds_toArray, List.set_cons_zero, List.set_cons_succ]
      refine wpAnyH_done (by kernel_rfl) ?_ _
      go_wp2_with fail
      go_roundw
      case rel => exact ⟨1, _, _, by go_num, .inr (.inl ⟨rfl, rfl, rfl⟩), hA2, hB2, hR2, hb2⟩
      case measure => simp [intOf]
    · have hA2 := (show BlkIs wr.drew w.heap.size 68 _ from hA).set 1 (.int .u64 ((b &&& d : Nat) : Int))
      simp at hA2
      have hB2 := (show BlkIs wr.drew (w.heap.size + 1) 68 _ from hB).far (show w.heap.size + 1 ≠ w.heap.size by omega) 1 (.int .u64 ((b &&& d : Nat) : Int))
      have hR2 := (show BlkIs wr.drew (w.heap.size + 2) 68 _ from hR).far (show w.heap.size + 2 ≠ w.heap.size by omega) 1 (.int .u64 ((b &&& d : Nat) : Int))
      have hb2 := hb.drew.setCell (p := ⟨w.heap.size, 1, none⟩) (Nat.le_refl _) (.int .u64 ((b &&& d : Nat) : Int))
      clear hA hB hR hb
      have bn := hB2.cell 1
      simp at bn
      go_upto_region 4 with fail
      refine wp_region_held_drew (S := fun w' => w'.cell? ⟨w.heap.size + 1, 1, none⟩ = some (.int .u64 (d : Int))) (by kernel_rfl) b1 ?_
      intro hHeld0
      refine wpAnyH_take (i := 0) (v := ?_) rfl (by kernel_rfl) (by kernel_rfl) (by kernel_rfl) (fun _ _ _ h => h) (Or.inl ⟨by kernel_rfl, ?_⟩) (by assumption) ?_
      rotate_left
      · intro w9 hS9; (try dsimp only at hS9); go_simp; (try with_reducible rfl)
      set_option linter.unusedSimpArgs false in try simp only [Act.put, List.getElem_toArray, List.getElem_cons_succ, List.getElem_cons_zero, List.setIfInBounds_toArray, List.set_cons_zero, List.set_cons_succ]
      refine wpAnyH_take (i := 1) (v := ?_) rfl (by kernel_rfl) (by kernel_rfl) (by kernel_rfl) (fun _ _ _ h => h) (Or.inl ⟨by kernel_rfl, ?_⟩) (by assumption) ?_
      rotate_left
      · intro w9 hS9; (try dsimp only at hS9); go_simp; (try with_reducible rfl)
      set_option linter.unusedSimpArgs false in try simp only [Act.put, List.getElem_toArray, List.getElem_cons_succ, List.getElem_cons_zero, List.setIfInBounds_toArray, List.set_cons_zero, List.set_cons_succ]
      refine wpAnyH_take (i := 3) (v := ?_) rfl (by kernel_rfl) (by kernel_rfl) (by kernel_rfl) (fun _ _ _ h => h) (Or.inl ⟨by kernel_rfl, ?_⟩) (by assumption) ?_
      rotate_left
      · intro w9 hS9; (try dsimp only at hS9); go_simp; (try with_reducible rfl)
      set_option linter.unusedSimpArgs false in try simp only [Act.put, List.getElem_toArray, List.getElem_cons_succ, List.getElem_cons_zero, List.setIfInBounds_toArray, List.set_cons_zero, List.set_cons_succ]
      refine wpAnyH_take (i := 4) (v := ?_) rfl (by kernel_rfl) (by kernel_rfl) (by kernel_rfl) (fun _ _ _ h => h) (Or.inl ⟨by kernel_rfl, ?_⟩) (by assumption) ?_
      rotate_left
      · intro w9 hS9; (try dsimp only at hS9); go_simp; (try with_reducible rfl)
      set_option linter.unusedSimpArgs false in try simp only [Act.put, List.getElem_toArray, List.getElem_cons_succ, List.getElem_cons_zero, List.setIfInBounds_toArray, List.set_cons_zero, List.set_cons_succ]
      refine wpAnyH_take (i := 5) (v := ?_) rfl (by kernel_rfl) (by kernel_rfl) (by kernel_rfl) (fun _ _ _ h => h) (Or.inl ⟨by kernel_rfl, ?_⟩) (by assumption) ?_
      rotate_left
      · intro w9 hS9; (try dsimp only at hS9); go_simp; (try with_reducible rfl)
      set_option linter.unusedSimpArgs false in try simp only [Act.put, List.getElem_toArray, List.getElem_cons_succ, List.getElem_cons_zero, List.setIfInBounds_toArray, List.set_cons_zero, List.set_cons_succ]
      refine wpAnyH_ready (rs := [2]) (by kernel_rfl) (by simp) ?_
      refine AllReadyH.cons rfl (fun K hK => ?_) (AllReadyH.nil)
      go_simp
      refine hK.out _ _ b1 (fun hHeld1 => ?_)
      clear hK K hHeld0
      set_option linter.unusedSimpArgs false in try simp only [Act.put, List.getElem_toArray, List.getElem_cons_succ, List.getElem_cons_zero, List.setIfInBounds_toArray, List.set_cons_zero, List.set_cons_succ]
      refine wpAnyH_take (i := 6) (v := ?_) rfl (by kernel_rfl) (by kernel_rfl) (by kernel_rfl) (fun _ _ _ h => h) (Or.inl ⟨by kernel_rfl, ?_⟩) (by assumption) ?_
      rotate_left
      · intro w9 hS9; (try dsimp only at hS9); go_simp; (try with_reducible rfl)
      set_option linter.unusedSimpArgs false in try simp only [Act.put, List.getElem_toArray, List.getElem_cons_succ, List.getElem_cons_zero, List.setIfInBounds_toArray, List.set_cons_zero, List.set_cons_succ]
      refine wpAnyH_take (i := 7) (v := ?_) rfl (by kernel_rfl) (by kernel_rfl) (by kernel_rfl) (fun _ _ _ h => h) (Or.inl ⟨by kernel_rfl, ?_⟩) (by assumption) ?_
      rotate_left
      · intro w9 hS9; (try dsimp only at hS9); go_simp; (try with_reducible rfl)
      set_option linter.unusedSimpArgs false in try simp only [Act.put, List.getElem_toArray, List.getElem_cons_succ, List.getElem_cons_zero, List.setIfInBounds_toArray, List.set_cons_zero, List.set_cons_succ]
      refine wpAnyH_ready (rs := [8]) (by kernel_rfl) (by simp) ?_
      refine AllReadyH.cons rfl (fun K hK => ?_) (AllReadyH.nil)
      go_simp
      refine hK.out _ _ bn (fun hHeld2 => ?_)
      clear hK K hHeld1
      set_option linter.unusedSimpArgs false in try simp only [Act.put, List.getElem_toArray, List.getElem_cons_succ, List.getElem_cons_zero, List.setIfInBounds_toArray, List.set_cons_zero, List.set_cons_succ]
      refine wpAnyH_done (by kernel_rfl) ?_ _
      go_wp2_with fail
      go_roundw
      case rel => exact ⟨2, _, _, by go_num, .inr (.inr ⟨rfl, rfl, rfl⟩), hA2, hB2, hR2, hb2⟩
      case measure => simp [intOf]
    · have y0 := hR.frozen 0
      have y1 := hR.frozen 1
      have z0 := hR.cell 0
      have z1 := hR.cell 1
      simp at z0 z1
      have hR3 := (hR.set 0 (.int .u64 ((a &&& c : Nat) : Int))).set 1 (.int .u64 ((b &&& d : Nat) : Int))
      simp at hR3
      have r0 := hR3.cell 0
      have r1 := hR3.cell 1
      simp at r0 r1
      have hb3 := (hb.setCell (p := ⟨w.heap.size + 2, 0, none⟩) (by show w.heap.size ≤ w.heap.size + 2; omega) (.int .u64 ((a &&& c : Nat) : Int))).setCell (p := ⟨w.heap.size + 2, 1, none⟩) (by show w.heap.size ≤ w.heap.size + 2; omega) (.int .u64 ((b &&& d : Nat) : Int))
      clear hA hB hR hb
      go_wp2_with fail
      refine bodyPost_ret (v := .agg #[.int .u64 ((a &&& c : Nat) : Int), .int .u64 ((b &&& d : Nat) : Int)]) (by simp [results, Tryz.results45, go_sem, r0, r1]) rfl ?_
      exact ⟨rfl, hb3⟩
theorem eqS_runA (w : World) (a b c d : Int) : (Op.equalIn 10000 68 (.agg #[.int .u64 a, .int .u64 b]) (.agg #[.int .u64 c, .int .u64 d])).run Tryz.prog w = .ok (a == c && b == d) w := by
  have u3 := Tryz.underlying66
  have a3 := Tryz.isAgg66
  have z3 := Tryz.sizeOf66
  rw [show (10000 : Nat) = 9999 + 1 from rfl, Op.equalIn]
  simp only [Sem.run_bind, run_underlying Tryz.underlying68, Result.andThen_ok]
  simp only [Std.Legacy.Range.forIn_eq_forIn_range', Std.Legacy.Range.size, Nat.sub_zero, Nat.add_sub_cancel, Nat.div_one, List.range'_succ, List.range'_zero, List.forIn_cons, List.forIn_nil]
  go_simp
  by_cases h1 : a = c <;> by_cases h2 : b = d <;> simp [h1, h2]
set_option maxRecDepth 100000 in
set_option maxHeartbeats 2000000 in
theorem isEmpty_c (S : Nat) (w : World) (hS : S < 2 ^ 128) :
    Calls Tryz.prog 46 #[.agg #[.int .u64 (loW S : Nat), .int .u64 (hiW S : Nat)]] w fun e w' => e = .returned (.bool (decide (S = 0))) ∧ Below w.heap.size w w' := by
  have hb0 := bnew w (.cells #[.int .u64 (loW S : Nat), .int .u64 (hiW S : Nat)] 68)
  have hz := zeroS hS
  have hq := fun (a b : Int) (w : World) => eqS_runA w a b 0 0
  have hd : (((loW S : Nat) : Int) == 0 && ((hiW S : Nat) : Int) == 0) = decide (S = 0) := by
    rw [Bool.eq_iff_iff]
    simp only [Bool.and_eq_true, beq_iff_eq, decide_eq_true_eq]
    rw [← hz]
    omega
  have HD := Lib.hid hd
  clear hz hd
  go_enter Tryz.func46, Tryz.ntmps46
  go_wp2_with fail
  go_ret
  exact ⟨ret_bool HD.out, hb0⟩
end Go.Proofs.YtffkdidgfeknkaaGreatDoor

