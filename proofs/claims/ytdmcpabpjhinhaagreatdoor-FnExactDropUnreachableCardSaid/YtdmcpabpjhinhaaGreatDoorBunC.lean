/-
  Several texts in one: Bits, SetP, ReachP, ReachS, Pass, UnreP, SetI, SetO. Conditions: as each says.
-/
import Derived.Test.YtdmcpabpjhinhaaGreatDoorOwn
import Derived.WalkSmall
import Derived.Laws.Bits64b
import Derived.Deep.RegionHeld3
import Derived.Test.YtdmcpabpjhinhaaGreatDoorBlk
import Derived.Lib.TrailingZeros
import Derived.Test.YtdmcpabpjhinhaaGreatDoorBunB
import Derived.Test.YtdmcpabpjhinhaaGreatDoorBunA
import Derived.Test.YtdmcpabpjhinhaaGreatDoorShiftP
import Derived.Test.YtdmcpabpjhinhaaGreatDoorPoint
import Derived.Test.YtdmcpabpjhinhaaGreatDoorInts

/-! Sets of places as two words: has, with. Conditions: places below 128. -/
namespace Go.Proofs.YtdmcpabpjhinhaaGreatDoor
set_option linter.unusedVariables false
open Go.RowKit

/-- The words of a set of places below 128, which is a number. -/
def loW (S : Nat) : Nat := S % 2 ^ 64
def hiW (S : Nat) : Nat := S / 2 ^ 64
theorem loW_lt (S : Nat) : loW S < 18446744073709551616 := Nat.mod_lt _ (by decide)
theorem hiW_lt {S : Nat} (h : S < 2 ^ 128) : hiW S < 18446744073709551616 := by
  unfold hiW
  exact Nat.div_lt_of_lt_mul (by simpa [← Nat.pow_add] using h)
def putS (S k : Nat) : Nat := S ||| 2 ^ k
theorem putS_lt {S k : Nat} (h : S < 2 ^ 128) (hk : k < 128) : putS S k < 2 ^ 128 :=
  Nat.or_lt_two_pow h (Nat.pow_lt_pow_right (by decide) hk)
theorem putS_bit (S k j : Nat) : (putS S k).testBit j = (S.testBit j || decide (k = j)) := by
  unfold putS
  rw [Nat.testBit_or, Nat.testBit_two_pow]
theorem putS_lo {S k : Nat} (hk : k < 64) : loW (putS S k) = loW S ||| 2 ^ k ∧ hiW (putS S k) = hiW S := by
  constructor
  · apply Nat.eq_of_testBit_eq
    intro j
    simp only [loW, putS, Nat.testBit_mod_two_pow, Nat.testBit_or, Nat.testBit_two_pow]
    by_cases hj : j < 64
    · simp [hj]
    · simp [hj]; omega
  · apply Nat.eq_of_testBit_eq
    intro j
    simp only [hiW, putS, Nat.testBit_div_two_pow, Nat.testBit_or, Nat.testBit_two_pow]
    simp; omega
theorem putS_hi {S k : Nat} (hk : 64 ≤ k) : loW (putS S k) = loW S ∧ hiW (putS S k) = hiW S ||| 2 ^ (k - 64) := by
  constructor
  · apply Nat.eq_of_testBit_eq
    intro j
    simp only [loW, putS, Nat.testBit_mod_two_pow, Nat.testBit_or, Nat.testBit_two_pow]
    by_cases hj : j < 64
    · simp [hj]; omega
    · simp [hj]
  · apply Nat.eq_of_testBit_eq
    intro j
    simp only [hiW, putS, Nat.testBit_div_two_pow, Nat.testBit_or, Nat.testBit_two_pow]
    congr 1
    rw [Bool.eq_iff_iff]; simp; omega
theorem bit_lo {S k : Nat} (hk : k < 64) : S.testBit k = decide (loW S / 2 ^ k % 2 = 1) := by
  have : (loW S).testBit k = S.testBit k := by unfold loW; rw [Nat.testBit_mod_two_pow]; simp only [hk, decide_true, Bool.true_and]
  rw [← this, Nat.testBit_eq_decide_div_mod_eq]
theorem bit_hi {S k : Nat} (hk : 64 ≤ k) : S.testBit k = decide (hiW S / 2 ^ (k - 64) % 2 = 1) := by
  have : (hiW S).testBit (k - 64) = S.testBit k := by
    simp only [hiW, Nat.testBit_div_two_pow]
    rw [show k - 64 + 64 = k by omega]
  rw [← this, Nat.testBit_eq_decide_div_mod_eq]
theorem orS_lo (S T : Nat) : loW (S ||| T) = loW S ||| loW T ∧ hiW (S ||| T) = hiW S ||| hiW T := by
  constructor
  · apply Nat.eq_of_testBit_eq
    intro j
    simp only [loW, Nat.testBit_mod_two_pow, Nat.testBit_or]
    by_cases hj : j < 64 <;> simp [hj]
  · apply Nat.eq_of_testBit_eq
    intro j
    simp only [hiW, Nat.testBit_div_two_pow, Nat.testBit_or]
/-- A set of places as the program has it. -/
def pS (S : Nat) : Value := .agg #[.int .u64 (loW S : Nat), .int .u64 (hiW S : Nat)]

theorem has_val (L n : Nat) (h : L < 18446744073709551616) : (bits BinOp.and IntKind.u64 ((L : Int) / 2 ^ n) 1 == 1) = decide (L / 2 ^ n % 2 = 1) := by
  have e : (L : Int) / 2 ^ n = ((L / 2 ^ n : Nat) : Int) := by simp
  have hl : L / 2 ^ n < 18446744073709551616 := Nat.lt_of_le_of_lt (Nat.div_le_self _ _) h
  rw [e, show (1 : Int) = ((1 : Nat) : Int) from rfl, bits_and_u64_nat _ _ hl (by omega), Nat.and_one_is_mod]
  rw [Bool.eq_iff_iff]; simp; omega
theorem put_val (L n : Nat) (h : L < 18446744073709551616) (hn : n < 64) : bits BinOp.or IntKind.u64 (L : Int) ((2 : Int) ^ n) = ((L ||| 2 ^ n : Nat) : Int) := by
  have hp : 2 ^ n < 18446744073709551616 := Nat.lt_of_lt_of_le (Nat.pow_lt_pow_right (by decide) hn) (by decide)
  rw [show (2 : Int) ^ n = ((2 ^ n : Nat) : Int) by simp, bits_or_u64_nat _ _ h hp]

set_option maxRecDepth 100000 in
set_option maxHeartbeats 2000000 in
theorem has_c (S k : Nat) (w : World) (hS : S < 2 ^ 128) (hk : k < 128) :
    Calls Tryz.prog 53 #[.agg #[.int .u64 (loW S : Nat), .int .u64 (hiW S : Nat)], .int .i64 (k : Int)] w fun e w' => e = .returned (.bool (S.testBit k)) ∧ Below w.heap.size w w' := by
  have hb0 := bnew w (.cells #[.int .u64 (loW S : Nat), .int .u64 (hiW S : Nat)] 98)
  have hl := loW_lt S
  have hh := hiW_lt hS
  by_cases h64 : k < 64
  · have HB := Lib.hid (bit_lo (S := S) h64)
    have e1 : (k : Int) / 64 = 0 := by omega
    have e2 : (k : Int) % 64 = k := by omega
    go_enter Tryz.func53, Tryz.ntmps53
    go_wp2_with fail
    go_ret
    exact ⟨ret_bool (by rw [HB.out]; exact has_val _ _ hl), hb0⟩
  · have HB := Lib.hid (bit_hi (S := S) (by omega : 64 ≤ k))
    have e1 : (k : Int) / 64 = 1 := by omega
    obtain ⟨q, hq⟩ : ∃ q, k = q + 64 := ⟨k - 64, by omega⟩
    have e2 : (k : Int) % 64 = (q : Int) := by omega
    rw [show k - 64 = q by omega] at HB
    clear hq
    go_enter Tryz.func53, Tryz.ntmps53
    go_wp2_with fail
    go_ret
    exact ⟨ret_bool (by rw [HB.out]; exact has_val _ _ hh), hb0⟩

theorem shl_wrap (k : Nat) (hk : k < 64) : IntKind.u64.wrap ((2 : Int) ^ k) = (2 : Int) ^ k := by
  have hp : 2 ^ k < 18446744073709551616 := Nat.lt_of_lt_of_le (Nat.pow_lt_pow_right (by decide) hk) (by decide)
  rw [show (2 : Int) ^ k = ((2 ^ k : Nat) : Int) by simp]
  generalize 2 ^ k = N at hp ⊢
  exact IntWalk.u64_in _ (by omega)

set_option maxRecDepth 100000 in
set_option maxHeartbeats 2000000 in
theorem with_c (S k : Nat) (w : World) (hS : S < 2 ^ 128) (hk : k < 128) :
    Calls Tryz.prog 86 #[.agg #[.int .u64 (loW S : Nat), .int .u64 (hiW S : Nat)], .int .i64 (k : Int)] w fun e w' => e = .returned (.agg #[.int .u64 (loW (putS S k) : Nat), .int .u64 (hiW (putS S k) : Nat)]) ∧ Below w.heap.size w w' := by
  have hb0 : Below w.heap.size w ((w.alloc (.cells #[.int .u64 (loW S : Nat), .int .u64 (hiW S : Nat)] 98)).alloc (.cells #[.int .u64 0, .int .u64 0] 98)) := bon (bnew _ _) (bnew _ _)
  have hl := loW_lt S
  have hh := hiW_lt hS
  by_cases h64 : k < 64
  · have HB := Lib.hid (putS_lo (S := S) h64)
    have e1 : (k : Int).tdiv 64 = 0 := by rw [Int.tdiv_eq_ediv_of_nonneg (by omega)]; omega
    have e2 : (k : Int).tmod 64 = k := by rw [Int.tmod_eq_emod_of_nonneg (by omega)]; omega
    have e3 : IntKind.i64.wrap 0 = 0 := by rfl
    have e4 := shl_wrap k h64
    have e5 := put_val (loW S) k hl h64
    go_enter Tryz.func86, Tryz.ntmps86
    have hB : BlkIs ((w.alloc (.cells #[.int .u64 (loW S : Nat), .int .u64 (hiW S : Nat)] 98)).alloc (.cells #[.int .u64 0, .int .u64 0] 98)).drew w.heap.size 98 #[.int .u64 (loW S : Nat), .int .u64 (hiW S : Nat)] := (blk_new w _ _ _ rfl).next (bnew _ _).drew
    go_wp2_with fail
    refine wp_region_held_drew (S := fun _ => True) (by kernel_rfl) trivial ?_
    intro hHeld0
    refine wpAnyH_take (i := 0) (v := ?_) rfl (by kernel_rfl) (by kernel_rfl) (by kernel_rfl) (fun _ _ _ h => h) (Or.inl ⟨by kernel_rfl, ?_⟩) (by assumption) ?_
    rotate_left
    · intro w9 hS9; (try dsimp only at hS9); go_simp; (try with_reducible rfl)
    set_option linter.unusedSimpArgs false in try simp only [Act.put, List.getElem_toArray, List.getElem_cons_succ, List.getElem_cons_zero, List.setIfInBounds_toArray, List.set_cons_zero, List.set_cons_succ]
    refine wpAnyH_take (i := 1) (v := ?_) rfl (by kernel_rfl) (by kernel_rfl) (by kernel_rfl) (fun _ _ _ h => h) (Or.inl ⟨by kernel_rfl, ?_⟩) (by assumption) ?_
    rotate_left
    · intro w9 hS9; (try dsimp only at hS9); go_simp; (try with_reducible rfl)
    set_option linter.unusedSimpArgs false in try simp only [Act.put, List.getElem_toArray, List.getElem_cons_succ, List.getElem_cons_zero, List.setIfInBounds_toArray, List.set_cons_zero, List.set_cons_succ]
    refine wpAnyH_take (i := 2) (v := ?_) rfl (by kernel_rfl) (by kernel_rfl) (by kernel_rfl) (fun _ _ _ h => h) (Or.inl ⟨by kernel_rfl, ?_⟩) (by assumption) ?_
    rotate_left
    · intro w9 hS9; (try dsimp only at hS9); go_simp; (try with_reducible rfl)
    set_option linter.unusedSimpArgs false in try simp only [Act.put, List.getElem_toArray, List.getElem_cons_succ, List.getElem_cons_zero, List.setIfInBounds_toArray, List.set_cons_zero, List.set_cons_succ]
    refine wpAnyH_take (i := 4) (v := ?_) rfl (by kernel_rfl) (by kernel_rfl) (by kernel_rfl) (fun _ _ _ h => h) (Or.inl ⟨by kernel_rfl, ?_⟩) (by assumption) ?_
    rotate_left
    · intro w9 hS9; (try dsimp only at hS9); go_simp; (try with_reducible rfl)
    set_option linter.unusedSimpArgs false in try simp only [Act.put, List.getElem_toArray, List.getElem_cons_succ, List.getElem_cons_zero, List.setIfInBounds_toArray, List.set_cons_zero, List.set_cons_succ]
    refine wpAnyH_take (i := 5) (v := ?_) rfl (by kernel_rfl) (by kernel_rfl) (by kernel_rfl) (fun _ _ _ h => h) (Or.inl ⟨by kernel_rfl, ?_⟩) (by assumption) ?_
    rotate_left
    · intro w9 hS9; (try dsimp only at hS9); go_simp; (try with_reducible rfl)
    set_option linter.unusedSimpArgs false in try simp only [Act.put, List.getElem_toArray, List.getElem_cons_succ, List.getElem_cons_zero, List.setIfInBounds_toArray, List.set_cons_zero, List.set_cons_succ]
    refine wpAnyH_take (i := 6) (v := ?_) rfl (by kernel_rfl) (by kernel_rfl) (by kernel_rfl) (fun _ _ _ h => h) (Or.inl ⟨by kernel_rfl, ?_⟩) (by assumption) ?_
    rotate_left
    · intro w9 hS9; (try dsimp only at hS9); go_simp; (try with_reducible rfl)
    set_option linter.unusedSimpArgs false in try simp only [Act.put, List.getElem_toArray, List.getElem_cons_succ, List.getElem_cons_zero, List.setIfInBounds_toArray, List.set_cons_zero, List.set_cons_succ]
    refine wpAnyH_ready (rs := [3]) (by kernel_rfl) (by simp) ?_
    refine AllReadyH.cons rfl (fun K hK => ?_) (AllReadyH.nil)
    have z := hB.cell 0
    simp at z
    go_simp
    refine hK.out _ _ trivial (fun hHeld1 => ?_)
    clear hK K hHeld0
    set_option linter.unusedSimpArgs false in try simp only [Act.put, List.getElem_toArray, List.getElem_cons_succ, List.getElem_cons_zero, List.setIfInBounds_toArray, List.set_cons_zero, List.set_cons_succ]
    refine wpAnyH_take (i := 7) (v := ?_) rfl (by kernel_rfl) (by kernel_rfl) (by kernel_rfl) (fun _ _ _ h => h) (Or.inl ⟨by kernel_rfl, ?_⟩) (by assumption) ?_
    rotate_left
    · intro w9 hS9; (try dsimp only at hS9); go_simp; (try with_reducible rfl)
    set_option linter.unusedSimpArgs false in try simp only [Act.put, List.getElem_toArray, List.getElem_cons_succ, List.getElem_cons_zero, List.setIfInBounds_toArray, List.set_cons_zero, List.set_cons_succ]
    refine wpAnyH_take (i := 8) (v := ?_) rfl (by kernel_rfl) (by kernel_rfl) (by kernel_rfl) (fun _ _ _ h => h) (Or.inl ⟨by kernel_rfl, ?_⟩) (by assumption) ?_
    rotate_left
    · intro w9 hS9; (try dsimp only at hS9); go_simp; (try with_reducible rfl)
    set_option linter.unusedSimpArgs false in try simp only [Act.put, List.getElem_toArray, List.getElem_cons_succ, List.getElem_cons_zero, List.setIfInBounds_toArray, List.set_cons_zero, List.set_cons_succ]
    refine wpAnyH_ready (rs := [9]) (by kernel_rfl) (by simp) ?_
    refine AllReadyH.cons rfl (fun K hK => ?_) (AllReadyH.nil)
    have z1 := hB.cell 0
    have f1 := hB.frozen 0
    simp at z1
    go_simp
    refine hK.out _ _ trivial (fun hHeld2 => ?_)
    clear hK K hHeld1
    set_option linter.unusedSimpArgs false in try simp only [Act.put, List.getElem_toArray, List.getElem_cons_succ, List.getElem_cons_zero, List.setIfInBounds_toArray, List.set_cons_zero, List.set_cons_succ]
    refine wpAnyH_done (by kernel_rfl) ?_ _
    go_wp2_with fail
    refine bodyPost_ret (v := .agg #[.int .u64 ((loW S ||| 2 ^ k : Nat) : Int), .int .u64 (hiW S : Nat)]) (by simp [results, Tryz.results86, go_sem]) rfl ?_
    exact ⟨by rw [HB.out.1, HB.out.2], (bon (bnew _ _) (bnew _ _)).drew⟩
  · have HB := Lib.hid (putS_hi (S := S) (by omega : 64 ≤ k))
    obtain ⟨q, hq⟩ : ∃ q, k = q + 64 := ⟨k - 64, by omega⟩
    have e1 : (k : Int).tdiv 64 = 1 := by rw [Int.tdiv_eq_ediv_of_nonneg (by omega)]; omega
    have e2 : (k : Int).tmod 64 = (q : Int) := by rw [Int.tmod_eq_emod_of_nonneg (by omega)]; omega
    have e3 : IntKind.i64.wrap 1 = 1 := by rfl
    have hq64 : q < 64 := by omega
    have e4 := shl_wrap q hq64
    have e5 := put_val (hiW S) q hh hq64
    rw [show k - 64 = q by omega] at HB
    clear hq
    go_enter Tryz.func86, Tryz.ntmps86
    have hB : BlkIs ((w.alloc (.cells #[.int .u64 (loW S : Nat), .int .u64 (hiW S : Nat)] 98)).alloc (.cells #[.int .u64 0, .int .u64 0] 98)).drew w.heap.size 98 #[.int .u64 (loW S : Nat), .int .u64 (hiW S : Nat)] := (blk_new w _ _ _ rfl).next (bnew _ _).drew
    go_wp2_with fail
    refine wp_region_held_drew (S := fun _ => True) (by kernel_rfl) trivial ?_
    intro hHeld0
    refine wpAnyH_take (i := 0) (v := ?_) rfl (by kernel_rfl) (by kernel_rfl) (by kernel_rfl) (fun _ _ _ h => h) (Or.inl ⟨by kernel_rfl, ?_⟩) (by assumption) ?_
    rotate_left
    · intro w9 hS9; (try dsimp only at hS9); go_simp; (try with_reducible rfl)
    set_option linter.unusedSimpArgs false in try simp only [Act.put, List.getElem_toArray, List.getElem_cons_succ, List.getElem_cons_zero, List.setIfInBounds_toArray, List.set_cons_zero, List.set_cons_succ]
    refine wpAnyH_take (i := 1) (v := ?_) rfl (by kernel_rfl) (by kernel_rfl) (by kernel_rfl) (fun _ _ _ h => h) (Or.inl ⟨by kernel_rfl, ?_⟩) (by assumption) ?_
    rotate_left
    · intro w9 hS9; (try dsimp only at hS9); go_simp; (try with_reducible rfl)
    set_option linter.unusedSimpArgs false in try simp only [Act.put, List.getElem_toArray, List.getElem_cons_succ, List.getElem_cons_zero, List.setIfInBounds_toArray, List.set_cons_zero, List.set_cons_succ]
    refine wpAnyH_take (i := 2) (v := ?_) rfl (by kernel_rfl) (by kernel_rfl) (by kernel_rfl) (fun _ _ _ h => h) (Or.inl ⟨by kernel_rfl, ?_⟩) (by assumption) ?_
    rotate_left
    · intro w9 hS9; (try dsimp only at hS9); go_simp; (try with_reducible rfl)
    set_option linter.unusedSimpArgs false in try simp only [Act.put, List.getElem_toArray, List.getElem_cons_succ, List.getElem_cons_zero, List.setIfInBounds_toArray, List.set_cons_zero, List.set_cons_succ]
    refine wpAnyH_take (i := 4) (v := ?_) rfl (by kernel_rfl) (by kernel_rfl) (by kernel_rfl) (fun _ _ _ h => h) (Or.inl ⟨by kernel_rfl, ?_⟩) (by assumption) ?_
    rotate_left
    · intro w9 hS9; (try dsimp only at hS9); go_simp; (try with_reducible rfl)
    set_option linter.unusedSimpArgs false in try simp only [Act.put, List.getElem_toArray, List.getElem_cons_succ, List.getElem_cons_zero, List.setIfInBounds_toArray, List.set_cons_zero, List.set_cons_succ]
    refine wpAnyH_take (i := 5) (v := ?_) rfl (by kernel_rfl) (by kernel_rfl) (by kernel_rfl) (fun _ _ _ h => h) (Or.inl ⟨by kernel_rfl, ?_⟩) (by assumption) ?_
    rotate_left
    · intro w9 hS9; (try dsimp only at hS9); go_simp; (try with_reducible rfl)
    set_option linter.unusedSimpArgs false in try simp only [Act.put, List.getElem_toArray, List.getElem_cons_succ, List.getElem_cons_zero, List.setIfInBounds_toArray, List.set_cons_zero, List.set_cons_succ]
    refine wpAnyH_take (i := 6) (v := ?_) rfl (by kernel_rfl) (by kernel_rfl) (by kernel_rfl) (fun _ _ _ h => h) (Or.inl ⟨by kernel_rfl, ?_⟩) (by assumption) ?_
    rotate_left
    · intro w9 hS9; (try dsimp only at hS9); go_simp; (try with_reducible rfl)
    set_option linter.unusedSimpArgs false in try simp only [Act.put, List.getElem_toArray, List.getElem_cons_succ, List.getElem_cons_zero, List.setIfInBounds_toArray, List.set_cons_zero, List.set_cons_succ]
    refine wpAnyH_ready (rs := [3]) (by kernel_rfl) (by simp) ?_
    refine AllReadyH.cons rfl (fun K hK => ?_) (AllReadyH.nil)
    have z := hB.cell 1
    simp at z
    go_simp
    refine hK.out _ _ trivial (fun hHeld1 => ?_)
    clear hK K hHeld0
    set_option linter.unusedSimpArgs false in try simp only [Act.put, List.getElem_toArray, List.getElem_cons_succ, List.getElem_cons_zero, List.setIfInBounds_toArray, List.set_cons_zero, List.set_cons_succ]
    refine wpAnyH_take (i := 7) (v := ?_) rfl (by kernel_rfl) (by kernel_rfl) (by kernel_rfl) (fun _ _ _ h => h) (Or.inl ⟨by kernel_rfl, ?_⟩) (by assumption) ?_
    rotate_left
    · intro w9 hS9; (try dsimp only at hS9); go_simp; (try with_reducible rfl)
    set_option linter.unusedSimpArgs false in try simp only [Act.put, List.getElem_toArray, List.getElem_cons_succ, List.getElem_cons_zero, List.setIfInBounds_toArray, List.set_cons_zero, List.set_cons_succ]
    refine wpAnyH_take (i := 8) (v := ?_) rfl (by kernel_rfl) (by kernel_rfl) (by kernel_rfl) (fun _ _ _ h => h) (Or.inl ⟨by kernel_rfl, ?_⟩) (by assumption) ?_
    rotate_left
    · intro w9 hS9; (try dsimp only at hS9); go_simp; (try with_reducible rfl)
    set_option linter.unusedSimpArgs false in try simp only [Act.put, List.getElem_toArray, List.getElem_cons_succ, List.getElem_cons_zero, List.setIfInBounds_toArray, List.set_cons_zero, List.set_cons_succ]
    refine wpAnyH_ready (rs := [9]) (by kernel_rfl) (by simp) ?_
    refine AllReadyH.cons rfl (fun K hK => ?_) (AllReadyH.nil)
    have z1 := hB.cell 1
    have f1 := hB.frozen 1
    simp at z1
    go_simp
    refine hK.out _ _ trivial (fun hHeld2 => ?_)
    clear hK K hHeld1
    set_option linter.unusedSimpArgs false in try simp only [Act.put, List.getElem_toArray, List.getElem_cons_succ, List.getElem_cons_zero, List.setIfInBounds_toArray, List.set_cons_zero, List.set_cons_succ]
    refine wpAnyH_done (by kernel_rfl) ?_ _
    go_wp2_with fail
    refine bodyPost_ret (v := .agg #[.int .u64 (loW S : Nat), .int .u64 ((hiW S ||| 2 ^ q : Nat) : Int)]) (by simp [results, Tryz.results86, go_sem]) rfl ?_
    exact ⟨by rw [HB.out.1, HB.out.2], (bon (bnew _ _) (bnew _ _)).drew⟩
end Go.Proofs.YtdmcpabpjhinhaaGreatDoor

/-! The elements of a set of places, in their order: pure. No conditions. -/
namespace Go.Proofs.YtdmcpabpjhinhaaGreatDoor
set_option linter.unusedVariables false

/-- The bits of a word. -/
def bitsW (x : Nat) : List Nat := (List.range 64).filter x.testBit
/-- The elements of a set. -/
def bitsL (S : Nat) : List Nat := bitsW (loW S) ++ (bitsW (hiW S)).map (· + 64)
theorem bitsW_zero : bitsW 0 = [] := by decide
theorem low_bits {x : Nat} (h0 : x ≠ 0) (hx : x < 2 ^ 64) : (∀ j, j < Lib.ctz 64 x → x.testBit j = false) ∧ x.testBit (Lib.ctz 64 x) = true ∧ Lib.ctz 64 x < 64 ∧ ∀ j, (x &&& (x - 1)).testBit j = (x.testBit j && decide (Lib.ctz 64 x < j)) := by
  obtain ⟨m, hm, hk⟩ := Lib.ctzFrom_spec 64 x (by omega) hx
  have e : Lib.ctz 64 x = Lib.ctzFrom 64 x := by simp [Lib.ctz, h0]
  rw [e]
  generalize Lib.ctzFrom 64 x = t at hm hk ⊢
  have hp : 0 < 2 ^ t := Nat.two_pow_pos t
  have b1 : ∀ j, x.testBit j = (decide (t ≤ j) && (2 * m + 1).testBit (j - t)) := fun j => by
    rw [hm, Nat.testBit_two_pow_mul]
  have e2 : x - 1 = 2 ^ t * (2 * m) + (2 ^ t - 1) := by
    rw [hm, Nat.mul_add, Nat.mul_one]; omega
  have b2 : ∀ j, (x - 1).testBit j = if j < t then (2 ^ t - 1).testBit j else (2 * m).testBit (j - t) := fun j => by
    rw [e2, Nat.testBit_two_pow_mul_add _ (by omega)]
  refine ⟨fun j hj => by rw [b1]; simp; omega, by rw [b1]; simp [Nat.testBit_zero], hk, fun j => ?_⟩
  rw [Nat.testBit_and, b1, b2]
  by_cases hj : j < t
  · simp [hj]; omega
  · rw [if_neg hj]
    by_cases hjt : j = t
    · subst hjt; simp [Nat.testBit_zero]
    · have h1 : t ≤ j := by omega
      have h2 : t < j := by omega
      obtain ⟨d, hd⟩ : ∃ d, j - t = d + 1 := ⟨j - t - 1, by omega⟩
      rw [hd, Nat.testBit_succ, Nat.testBit_succ]
      simp only [h1, h2, decide_true, Bool.true_and, Bool.and_true]
      rw [show (2 * m + 1) / 2 = m by omega, show 2 * m / 2 = m by omega, Bool.and_self]
theorem filter_first (p q : Nat → Bool) (n t : Nat) (ht : t < n) (h0 : ∀ j, j < t → p j = false) (h1 : p t = true) (hq : ∀ j, q j = (p j && decide (t < j))) : (List.range n).filter p = t :: (List.range n).filter q := by
  have e : List.range n = List.range t ++ t :: List.range' (t + 1) (n - t - 1) := by
    rw [List.range_eq_range', List.range_eq_range']
    have h2 : n = t + ((n - t - 1) + 1) := by omega
    conv => lhs; rw [h2]
    rw [← List.range'_append_1, Nat.zero_add, List.range'_succ]
  rw [e, List.filter_append, List.filter_append, List.filter_cons, List.filter_cons, if_pos h1]
  have a1 : (List.range t).filter p = [] := List.filter_eq_nil_iff.2 fun j hj => by rw [h0 j (List.mem_range.1 hj)]; decide
  have a2 : (List.range t).filter q = [] := List.filter_eq_nil_iff.2 fun j hj => by rw [hq, h0 j (List.mem_range.1 hj)]; simp
  have a3 : q t = false := by rw [hq]; simp
  rw [a1, a2, if_neg (by rw [a3]; decide), List.nil_append, List.nil_append]
  congr 1
  apply List.filter_congr
  intro j hj
  rw [List.mem_range'_1] at hj
  rw [hq]
  have : t < j := by omega
  simp [this]
theorem bitsW_next {x : Nat} (h0 : x ≠ 0) (hx : x < 2 ^ 64) : bitsW x = Lib.ctz 64 x :: bitsW (x &&& (x - 1)) := by
  obtain ⟨h1, h2, h3, h4⟩ := low_bits h0 hx
  exact filter_first _ _ _ _ h3 h1 h2 h4
theorem mem_bitsW {x : Nat} (hx : x < 2 ^ 64) (k : Nat) : k ∈ bitsW x ↔ x.testBit k = true := by
  unfold bitsW
  rw [List.mem_filter, List.mem_range]
  constructor
  · exact (·.2)
  · intro h
    refine ⟨?_, h⟩
    rcases Nat.lt_or_ge k 64 with hk | hk
    · exact hk
    · rw [Nat.testBit_lt_two_pow (Nat.lt_of_lt_of_le hx (Nat.pow_le_pow_right (by decide) hk))] at h; cases h
theorem mem_bitsL {S : Nat} (hS : S < 2 ^ 128) (k : Nat) : k ∈ bitsL S ↔ S.testBit k = true := by
  have hl := loW_lt S
  have hh := hiW_lt hS
  unfold bitsL
  rw [List.mem_append, List.mem_map]
  constructor
  · rintro (h | ⟨j, h, rfl⟩)
    · have hk : k < 64 := by
        unfold bitsW at h
        exact List.mem_range.1 (List.mem_filter.1 h).1
      rw [mem_bitsW (by omega)] at h
      rwa [loW, Nat.testBit_mod_two_pow, show decide (k < 64) = true by simp [hk], Bool.true_and] at h
    · rw [mem_bitsW (by omega)] at h
      rwa [hiW, Nat.testBit_div_two_pow] at h
  · intro h
    by_cases hk : k < 64
    · left
      rw [mem_bitsW (by omega), loW, Nat.testBit_mod_two_pow, show decide (k < 64) = true by simp [hk], Bool.true_and]; exact h
    · right
      refine ⟨k - 64, ?_, by omega⟩
      rw [mem_bitsW (by omega), hiW, Nat.testBit_div_two_pow, show k - 64 + 64 = k by omega]; exact h
theorem bitsL_len (S : Nat) : (bitsL S).length ≤ 128 := by
  unfold bitsL bitsW
  rw [List.length_append, List.length_map]
  have h1 := List.length_filter_le (loW S).testBit (List.range 64)
  have h2 := List.length_filter_le (hiW S).testBit (List.range 64)
  rw [List.length_range] at h1 h2
  omega
/-- The union of sets. -/
def allS (g : Nat → Nat) (K : List Nat) : Nat := K.foldl (fun R k => R ||| g k) 0
theorem allS_snoc (g : Nat → Nat) (K : List Nat) (k : Nat) : allS g (K ++ [k]) = allS g K ||| g k := by unfold allS; rw [List.foldl_append]; rfl
theorem allS_bit (g : Nat → Nat) (K : List Nat) (j : Nat) : (allS g K).testBit j = true ↔ ∃ k ∈ K, (g k).testBit j = true := by
  have key : ∀ (K : List Nat) (R : Nat), (K.foldl (fun R k => R ||| g k) R).testBit j = true ↔ R.testBit j = true ∨ ∃ k ∈ K, (g k).testBit j = true := by
    intro K
    induction K with
    | nil => intro R; simp
    | cons k K ih =>
      intro R
      rw [List.foldl_cons, ih, Nat.testBit_or, Bool.or_eq_true, or_assoc]
      simp
  unfold allS
  rw [key]; simp
theorem allS_lt {g : Nat → Nat} (hg : ∀ k, g k < 2 ^ 128) (K : List Nat) : allS g K < 2 ^ 128 := by
  have key : ∀ (K : List Nat) (R : Nat), R < 2 ^ 128 → K.foldl (fun R k => R ||| g k) R < 2 ^ 128 := by
    intro K
    induction K with
    | nil => intro R h; exact h
    | cons k K ih => intro R h; exact ih _ (Nat.or_lt_two_pow h (hg k))
  exact key K 0 (by decide)
/-- A set of places, one after another. -/
def putsS (S : Nat) (K : List Int) : Nat := K.foldl (fun R k => putS R k.toNat) S
theorem putsS_snoc (S : Nat) (K : List Int) (k : Int) : putsS S (K ++ [k]) = putS (putsS S K) k.toNat := by unfold putsS; rw [List.foldl_append]; rfl
theorem putsS_lt {S : Nat} (hS : S < 2 ^ 128) : ∀ {K : List Int}, (∀ k ∈ K, k.toNat < 128) → putsS S K < 2 ^ 128 := by
  intro K
  induction K generalizing S with
  | nil => intro _; exact hS
  | cons k K ih => intro h; exact ih (putS_lt hS (h k (List.mem_cons_self ..))) (fun j hj => h j (List.mem_cons_of_mem _ hj))
theorem putsS_bit (S : Nat) (K : List Int) (j : Nat) : (putsS S K).testBit j = true ↔ S.testBit j = true ∨ ∃ k ∈ K, k.toNat = j := by
  unfold putsS
  induction K generalizing S with
  | nil => simp
  | cons k K ih =>
    rw [List.foldl_cons, ih, putS_bit, Bool.or_eq_true, decide_eq_true_iff, or_assoc]
    simp
/-- How many places a set lacks. -/
def lackS (S : Nat) : Nat := ((List.range 128).filter fun k => !S.testBit k).length
theorem lackS_less {S T : Nat} (hT : T < 2 ^ 128) (hsub : ∀ j, S.testBit j = true → T.testBit j = true) (hne : T ≠ S) : lackS T < lackS S := by
  have key : ∀ l : List Nat, (l.filter fun k => !T.testBit k).length ≤ (l.filter fun k => !S.testBit k).length ∧ ((∃ k ∈ l, T.testBit k = true ∧ S.testBit k = false) → (l.filter fun k => !T.testBit k).length < (l.filter fun k => !S.testBit k).length) := by
    intro l
    induction l with
    | nil => exact ⟨Nat.le_refl _, fun ⟨k, hk, _⟩ => absurd hk (by simp)⟩
    | cons k l ih =>
      rw [List.filter_cons, List.filter_cons]
      have hk := hsub k
      cases hs : S.testBit k <;> cases ht : T.testBit k
      · simp only [Bool.not_false, if_true, List.length_cons]
        refine ⟨by omega, ?_⟩
        rintro ⟨j, hj, h1, h2⟩
        rcases List.mem_cons.1 hj with rfl | hj
        · rw [h1] at ht; cases ht
        · have := ih.2 ⟨j, hj, h1, h2⟩; omega
      · simp only [Bool.not_false, Bool.not_true, if_true, Bool.false_eq_true, if_false, List.length_cons]
        exact ⟨by omega, fun _ => by omega⟩
      · rw [hs, ht] at hk; exact absurd (hk rfl) (by decide)
      · simp only [Bool.not_true, Bool.false_eq_true, if_false]
        refine ⟨ih.1, ?_⟩
        rintro ⟨j, hj, h1, h2⟩
        rcases List.mem_cons.1 hj with rfl | hj
        · rw [h2] at hs; cases hs
        · exact ih.2 ⟨j, hj, h1, h2⟩
  refine (key _).2 ?_
  have : ∃ j, T.testBit j ≠ S.testBit j := by
    by_cases h : ∃ j, T.testBit j ≠ S.testBit j
    · exact h
    · exact absurd (Nat.eq_of_testBit_eq fun j => Classical.byContradiction fun h' => h ⟨j, h'⟩) hne
  obtain ⟨j, hj⟩ := this
  cases hs : S.testBit j
  · cases ht : T.testBit j
    · rw [hs, ht] at hj; exact absurd rfl hj
    · refine ⟨j, List.mem_range.2 ?_, ht, hs⟩
      rcases Nat.lt_or_ge j 128 with h | h
      · exact h
      · rw [Nat.testBit_lt_two_pow (Nat.lt_of_lt_of_le hT (Nat.pow_le_pow_right (by decide) h))] at ht; cases ht
  · rw [hs, hsub j hs] at hj; exact absurd rfl hj
end Go.Proofs.YtdmcpabpjhinhaaGreatDoor

/-! What is reached over code: pure. No conditions. -/
namespace Go.Proofs.YtdmcpabpjhinhaaGreatDoor
set_option linter.unusedVariables false

/-- The places behind the instruction k. -/
def tgtN (xs : List (Int × Int)) (k : Nat) : List Int := tgt1 (xs.getD k (0, 0)).1 (xs.getD k (0, 0)).2 k
/-- What is reached from some places on, over code. -/
inductive RchP (xs : List (Int × Int)) (S : Int → Prop) : Int → Prop
  | base {k : Int} : S k → RchP xs S k
  | step {k : Nat} {t : Int} : RchP xs S k → k < xs.length → t ∈ tgtN xs k → RchP xs S t
/-- A list of marks that says what is reached, below the end. -/
def MarksOf (xs : List (Int × Int)) (S : Int → Prop) (ms : List Bool) : Prop := ms.length = xs.length ∧ ∀ k : Nat, ∀ b, ms[k]? = some b → (b = true ↔ RchP xs S k)
theorem MarksOf.uniq {xs : List (Int × Int)} {S : Int → Prop} {a b : List Bool} (h : MarksOf xs S a) (h' : MarksOf xs S b) : a = b := by
  apply List.ext_getElem (by rw [h.1, h'.1])
  intro i hi hj
  have h1 := h.2 i a[i] (List.getElem?_eq_getElem hi)
  have h2 := h'.2 i b[i] (List.getElem?_eq_getElem hj)
  rw [Bool.eq_iff_iff, h1, h2]
/-- The model's search: marks and places still to be looked at. -/
structure Srch (xs : List (Int × Int)) (S : Int → Prop) (ms : List Bool) (work : List Int) : Prop where
  len : ms.length = xs.length
  ok : ∀ t ∈ work, RchP xs S t
  in_ : ∀ k : Nat, ms[k]? = some true → RchP xs S k
  all : ∀ t : Int, S t → t < xs.length → t ∈ work ∨ ms[t.toNat]? = some true
  next : ∀ k : Nat, ms[k]? = some true → ∀ t ∈ tgtN xs k, t < xs.length → t ∈ work ∨ ms[t.toNat]? = some true
theorem tgt1_ge {op a : Int} {k : Nat} {t : Int} (ha : op = 5 ∨ op = 6 → 0 ≤ a) (h : t ∈ tgt1 op a k) : 0 ≤ t := by
  unfold tgt1 at h
  split at h
  · cases h
  · split at h
    · rename_i e; simp at h; subst h; exact ha (.inl e)
    · split at h
      · rename_i e
        rcases (putR_one_mem _ _ _).1 h with rfl | rfl
        · omega
        · exact ha (.inr e)
      · simp at h; omega
theorem Srch.init {xs : List (Int × Int)} {S : Int → Prop} {work : List Int} (h : ∀ t, t ∈ work ↔ S t) : Srch xs S (List.replicate xs.length false) work :=
  ⟨by simp, fun t ht => .base ((h t).1 ht), fun k hk => (by rw [List.getElem?_replicate] at hk; split at hk <;> cases hk), fun t ht _ => .inl ((h t).2 ht), fun k hk => (by rw [List.getElem?_replicate] at hk; split at hk <;> cases hk)⟩
theorem Srch.skip {xs : List (Int × Int)} {S : Int → Prop} {ms : List Bool} {t : Int} {work : List Int} (h : Srch xs S ms (t :: work)) (ht : (xs.length : Int) ≤ t ∨ ms[t.toNat]? = some true) : Srch xs S ms work :=
  ⟨h.len, fun u hu => h.ok u (List.mem_cons_of_mem _ hu), h.in_,
    fun u hu hl => by
      rcases h.all u hu hl with h' | h'
      · rcases List.mem_cons.1 h' with rfl | h'
        · rcases ht with h2 | h2
          · omega
          · exact .inr h2
        · exact .inl h'
      · exact .inr h',
    fun k hk u hu hl => by
      rcases h.next k hk u hu hl with h' | h'
      · rcases List.mem_cons.1 h' with rfl | h'
        · rcases ht with h2 | h2
          · omega
          · exact .inr h2
        · exact .inl h'
      · exact .inr h'⟩
theorem Srch.mark {xs : List (Int × Int)} {S : Int → Prop} {ms : List Bool} {k : Nat} {work : List Int} (h : Srch xs S ms ((k : Int) :: work)) (hk : k < xs.length) : Srch xs S (ms.set k true) (work ++ tgtN xs k) := by
  have hr := h.ok _ (List.mem_cons_self ..)
  have up : ∀ i : Nat, ms[i]? = some true → (ms.set k true)[i]? = some true := fun i hi => by
    rw [List.getElem?_set]; split
    · rename_i e; rw [if_pos (by have := h.len; omega)]
    · exact hi
  have me : (ms.set k true)[((k : Int)).toNat]? = some true := by
    rw [Int.toNat_natCast, List.getElem?_set_self (by have := h.len; omega)]
  refine ⟨by rw [List.length_set]; exact h.len, fun u hu => ?_, fun i hi => ?_, fun u hu hl => ?_, fun i hi u hu hl => ?_⟩
  · rcases List.mem_append.1 hu with hu | hu
    · exact h.ok u (List.mem_cons_of_mem _ hu)
    · exact .step hr hk hu
  · rw [List.getElem?_set] at hi
    split at hi
    · rename_i e; subst e; exact hr
    · exact h.in_ i hi
  · rcases h.all u hu hl with h' | h'
    · rcases List.mem_cons.1 h' with rfl | h'
      · exact .inr me
      · exact .inl (List.mem_append_left _ h')
    · exact .inr (up _ h')
  · rw [List.getElem?_set] at hi
    split at hi
    · rename_i e; subst e; exact .inl (List.mem_append_right _ hu)
    · rcases h.next i hi u hu hl with h' | h'
      · rcases List.mem_cons.1 h' with rfl | h'
        · exact .inr me
        · exact .inl (List.mem_append_left _ h')
      · exact .inr (up _ h')
theorem Srch.done {xs : List (Int × Int)} {S : Int → Prop} {ms : List Bool} (h : Srch xs S ms [])   : MarksOf xs S ms := by
  have key : ∀ t, RchP xs S t → t < xs.length → ms[t.toNat]? = some true := by
    intro t ht
    induction ht with
    | base hs => intro hl; rcases h.all _ hs hl with h' | h'
                 · cases h'
                 · exact h'
    | step hk hkl htt ih =>
      intro hl
      have := ih (by omega)
      rw [Int.toNat_natCast] at this
      rcases h.next _ this _ htt hl with h' | h'
      · cases h'
      · exact h'
  refine ⟨h.len, fun k b hb => ⟨fun e => h.in_ k (by rw [hb, e]), fun hr => ?_⟩⟩
  have hl := (List.getElem?_eq_some_iff.1 hb).1
  have := key k hr (by have := h.len; omega)
  rw [Int.toNat_natCast, hb] at this
  exact Option.some.inj this
/-- How many marks are missing. -/
def missing (ms : List Bool) : Nat := (ms.filter (!·)).length
theorem missing_set {ms : List Bool} {k : Nat} (h : ms[k]? = some false) : missing (ms.set k true) + 1 = missing ms := by
  induction ms generalizing k with
  | nil => simp at h
  | cons m ms ih =>
    cases k with
    | zero => simp at h; subst h; simp [missing]
    | succ k =>
      have := ih (k := k) (by simpa using h)
      unfold missing at this ⊢
      rw [List.set_cons_succ, List.filter_cons, List.filter_cons]
      split
      · simp only [List.length_cons]; omega
      · exact this
theorem RchP_ge {xs : List (Int × Int)} {S : Int → Prop} (hS : ∀ t, S t → 0 ≤ t) (hx : ∀ (k : Nat) (x : Int × Int), xs[k]? = some x → x.1 = 5 ∨ x.1 = 6 → 0 ≤ x.2) : ∀ t, RchP xs S t → 0 ≤ t := by
  intro t ht
  cases ht with
  | base h => exact hS _ h
  | @step k _ hk hkl htt =>
    have hy : xs[k]? = some xs[k] := List.getElem?_eq_getElem hkl
    refine tgt1_ge (fun e => ?_) htt
    rw [List.getD_eq_getElem?_getD, hy] at e ⊢
    exact hx k _ hy e
/-- One list of heights goes on another: what is known stays. -/
def Ext (K K' : List Int) : Prop := K'.length = K.length ∧ ∀ i : Nat, K.getD i 0 ≠ -1 → K'.getD i 0 = K.getD i 0
theorem Ext.refl (K : List Int) : Ext K K := ⟨rfl, fun _ _ => rfl⟩
theorem Ext.trans {K L M : List Int} (h : Ext K L) (g : Ext L M) : Ext K M :=
  ⟨g.1.trans h.1, fun i hi => by have h1 := h.2 i hi; rw [g.2 i (by rw [h1]; exact hi), h1]⟩
theorem getD_of_lt {K : List Int} {i : Nat} (h : i < K.length) (d : Int) : K.getD i d = K[i] := by
  rw [List.getD_eq_getElem?_getD, List.getElem?_eq_getElem h]; rfl
theorem Ext.anti {K L : List Int} (h : Ext K L) (g : Ext L K) : K = L := by
  apply List.ext_getElem h.1.symm
  intro i hi hj
  rw [← getD_of_lt hi 0, ← getD_of_lt hj 0]
  by_cases e : K.getD i 0 = -1
  · by_cases e' : L.getD i 0 = -1
    · rw [e, e']
    · exact g.2 i e'
  · exact (h.2 i e).symm
theorem Ext.set {K : List Int} {t : Nat} {h : Int} (hk : K.getD t 0 = -1 ∨ K.getD t 0 = h) : Ext K (K.set t h) := by
  refine ⟨List.length_set .., fun i hi => ?_⟩
  rw [List.getD_eq_getElem?_getD, List.getD_eq_getElem?_getD, List.getElem?_set]
  split
  · rename_i e; subst e
    rw [List.getD_eq_getElem?_getD] at hi hk
    rcases hk with hk | hk
    · exact absurd hk hi
    · split
      · exact hk.symm
      · rename_i hl; rw [List.getElem?_eq_none (by omega)]
  · rfl
/-- How many heights are missing. -/
def missH (K : List Int) : Nat := (K.filter (· == -1)).length
theorem missH_le : ∀ (K L : List Int), L.length = K.length → (∀ i : Nat, K.getD i 0 ≠ -1 → L.getD i 0 = K.getD i 0) → missH L ≤ missH K ∧ (missH L = missH K → K = L)
  | [], [], _, _ => ⟨Nat.le_refl _, fun _ => rfl⟩
  | a :: K, b :: L, hl, h => by
    have ih := missH_le K L (by simpa using hl) (fun i hi => by have := h (i + 1) (by simpa using hi); simpa using this)
    have h0 := h 0
    simp only [List.getD_cons_zero] at h0
    unfold missH at ih ⊢
    rw [List.filter_cons, List.filter_cons]
    by_cases ea : a = -1
    · subst ea
      by_cases eb : b = -1
      · subst eb
        simp only [beq_self_eq_true, if_true, List.length_cons]
        refine ⟨by omega, fun e => ?_⟩
        rw [ih.2 (by omega)]
      · have : (b == -1) = false := by simp [eb]
        simp only [beq_self_eq_true, if_true, this, List.length_cons]
        refine ⟨by simp; omega, fun e => ?_⟩
        simp at e; omega
    · have hb : b = a := h0 ea
      subst hb
      have : (b == -1) = false := by simp [ea]
      simp only [this, Bool.false_eq_true, if_false]
      exact ⟨ih.1, fun e => by rw [ih.2 e]⟩
theorem Ext.miss {K L : List Int} (h : Ext K L) : missH L ≤ missH K ∧ (missH L = missH K → K = L) := missH_le K L h.1 h.2
/-- The measure of the sweeps: heights, and those before. -/
def leftH (K Bf : List Int) : Nat := if K = Bf then 0 else missH K + 1
theorem leftH_less {K Bf L : List Int} (h : Ext K L) (hne : K ≠ Bf) : leftH L K < leftH K Bf := by
  unfold leftH
  rw [if_neg hne]
  split
  · omega
  · rename_i e
    have := h.miss
    have h2 : missH L ≠ missH K := fun e' => e (this.2 e').symm
    omega
/-- The first heights. -/
def heights0 : List Int := 0 :: List.replicate 80 (-1)
theorem heights0_len : heights0.length = 81 := by simp [heights0]
theorem heights0_ne : heights0 ≠ List.replicate 81 0 := by
  intro h
  have := congrArg (fun l : List Int => l.getD 1 0) h
  simp [heights0] at this
/-- What holds of heights throughout: an invariant for what lies behind an instruction (b x h = the height behind it, if it may be executed). -/
structure GoesOn (xs : List (Int × Int)) (b : Int × Int → Int → Option Int) (I : List Int → Prop) : Prop where
  step : ∀ (k : Nat) (x : Int × Int) (K : List Int), xs[k]? = some x → I K → K.getD k 0 ≠ -1 → ∃ h, 0 ≤ h ∧ h ≤ 1000 ∧ b x (K.getD k 0) = some h ∧ ∀ t ∈ tgt1 x.1 x.2 k, ∀ L, I L → Ext K L → (L.getD t.toNat 0 = -1 ∨ L.getD t.toNat 0 = h) ∧ I (L.set t.toNat h)
/-- Heights that no sweep changes, as far as the first k instructions tell. -/
def ClosedTo (xs : List (Int × Int)) (b : Int × Int → Int → Option Int) (K : List Int) (k : Nat) : Prop :=
  ∀ (j : Nat) (x : Int × Int), j < k → xs[j]? = some x → K.getD j 0 ≠ -1 → ∃ h, b x (K.getD j 0) = some h ∧ ∀ t ∈ tgt1 x.1 x.2 j, K.getD t.toNat 0 = h
/-- Behind k instructions of a sweep that began with heights K: if nothing has changed, they are closed. -/
structure SwpTo (xs : List (Int × Int)) (b : Int × Int → Int → Option Int) (I : List Int → Prop) (K : List Int) (k : Nat) (L : List Int) : Prop where
  len : K.length = 81
  inv : I L
  ext : Ext K L
  same : L = K → ClosedTo xs b K k
theorem SwpTo.nil {xs b I} {K : List Int} (hI : I K) (hl : K.length = 81) : SwpTo xs b I K 0 K := ⟨hl, hI, .refl K, fun _ j x hj => absurd hj (Nat.not_lt_zero j)⟩
theorem SwpTo.skip {xs b I} {K L : List Int} {k : Nat} (h : SwpTo xs b I K k L) (hk : L.getD k 0 = -1) : SwpTo xs b I K (k + 1) L := by
  refine ⟨h.len, h.inv, h.ext, fun e j x hj hx hn => ?_⟩
  by_cases hjk : j = k
  · subst hjk; rw [e] at hk; exact absurd hk hn
  · exact h.same e j x (by omega) hx hn
/-- Behind some targets of an instruction. -/
structure PutTo (I : List Int → Prop) (h : Int) (L : List Int) (ts : List Int) (M : List Int) : Prop where
  inv : I M
  ext : Ext L M
  all : M = L → ∀ t ∈ ts, L.getD t.toNat 0 = h
theorem PutTo.nil {I h} {L : List Int} (hI : I L) : PutTo I h L [] L := ⟨hI, .refl L, fun _ t ht => absurd ht (by simp)⟩
theorem PutTo.more {I h} {L M : List Int} {ts : List Int} {t : Int} (p : PutTo I h L ts M) (ht : t.toNat < M.length) (h1 : M.getD t.toNat 0 = -1 ∨ M.getD t.toNat 0 = h) (h2 : I (M.set t.toNat h)) : PutTo I h L (ts ++ [t]) (M.set t.toNat h) := by
  have e1 : Ext M (M.set t.toNat h) := .set h1
  refine ⟨h2, p.ext.trans e1, fun e u hu => ?_⟩
  have eM : M = L := Ext.anti (e ▸ e1) p.ext
  rcases List.mem_append.1 hu with hu | hu
  · exact p.all eM u hu
  · rw [List.mem_singleton] at hu
    subst hu
    rw [← e, List.getD_eq_getElem?_getD, List.getElem?_set_self ht]
    rfl
theorem SwpTo.done {xs b I} {K L M : List Int} {k : Nat} {x : Int × Int} {h : Int} (s : SwpTo xs b I K k L) (hx : xs[k]? = some x) (hb : b x (L.getD k 0) = some h) (p : PutTo I h L (tgt1 x.1 x.2 k) M) : SwpTo xs b I K (k + 1) M := by
  refine ⟨s.len, p.inv, s.ext.trans p.ext, fun e j y hj hy hn => ?_⟩
  have eL : L = K := Ext.anti (e ▸ p.ext) s.ext
  by_cases hjk : j = k
  · subst hjk
    obtain rfl : x = y := by rw [hx] at hy; exact Option.some.inj hy
    rw [eL] at hb
    exact ⟨h, hb, fun t ht => by rw [← eL]; exact p.all (e.trans eL.symm) t ht⟩
  · exact s.same eL j y (by omega) hy hn
/-- What lies behind the sweeps: an invariant, and that the heights are closed. -/
structure SprTo (xs : List (Int × Int)) (b : Int × Int → Int → Option Int) (I : List Int → Prop) (K : List Int) : Prop where
  len : K.length = 81
  inv : I K
  ext : Ext heights0 K
  closed : ClosedTo xs b K xs.length
/-- .. between two sweeps. -/
structure SprAt (xs : List (Int × Int)) (b : Int × Int → Int → Option Int) (I : List Int → Prop) (K Bf : List Int) : Prop where
  len : K.length = 81
  inv : I K
  ext : Ext heights0 K
  closed : K = Bf → ClosedTo xs b K xs.length
theorem SprAt.init {xs b I} (hI : I heights0) : SprAt xs b I heights0 (List.replicate 81 0) := ⟨heights0_len, hI, .refl _, fun e => absurd e heights0_ne⟩
theorem SprAt.next {xs b I} {K Bf L : List Int} (h : SprAt xs b I K Bf) (s : SwpTo xs b I K xs.length L) : SprAt xs b I L K :=
  ⟨s.ext.1.trans h.len, s.inv, h.ext.trans s.ext, fun e => e ▸ s.same e⟩
theorem SprAt.done {xs b I} {K : List Int} (h : SprAt xs b I K K) : SprTo xs b I K := ⟨h.len, h.inv, h.ext, h.closed rfl⟩

/-- Nothing but what is reached, with heights that do not matter. -/
def Emp (xs : List (Int × Int)) (K : List Int) : Prop := K.length = 81 ∧ ∀ i : Nat, i < 81 → K.getD i 0 = -1 ∨ K.getD i 0 = 0 ∧ RchP xs (fun t => t = 0) i
theorem Emp.init (xs : List (Int × Int)) : Emp xs heights0 := by
  refine ⟨heights0_len, fun i hi => ?_⟩
  cases i with
  | zero => exact .inr ⟨rfl, .base rfl⟩
  | succ i =>
    left
    unfold heights0
    rw [List.getD_cons_succ, List.getD_eq_getElem?_getD, List.getElem?_replicate, if_pos (by omega)]
    rfl
theorem emp_on {xs : List (Int × Int)} (hl : xs.length ≤ 80) (hx : ∀ (k : Nat) (x : Int × Int), xs[k]? = some x → ∀ t ∈ tgt1 x.1 x.2 k, 0 ≤ t ∧ t ≤ 80) : GoesOn xs (fun _ _ => some 0) (Emp xs) := by
  refine ⟨fun k x K hk hI hn => ⟨0, by decide, by decide, rfl, fun t ht L hL hE => ?_⟩⟩
  have hkl : k < xs.length := (List.getElem?_eq_some_iff.1 hk).1
  obtain ⟨t0, t1⟩ := hx k x hk t ht
  have hr : RchP xs (fun t => t = 0) k := by
    rcases hI.2 k (by omega) with h | h
    · exact absurd h hn
    · exact h.2
  have hrt : RchP xs (fun t => t = 0) t := .step hr hkl (by unfold tgtN; rw [List.getD_eq_getElem?_getD, hk]; exact ht)
  refine ⟨(hL.2 t.toNat (by omega)).imp id (·.1), (List.length_set ..).trans hL.1, fun i hi => ?_⟩
  rw [List.getD_eq_getElem?_getD, List.getElem?_set]
  split
  · rename_i e
    rw [if_pos (by have := hL.1; omega)]
    refine .inr ⟨rfl, ?_⟩
    have : (i : Int) = t := by omega
    rw [this]; exact hrt
  · have := hL.2 i hi
    rw [List.getD_eq_getElem?_getD] at this
    exact this
/-- Which instructions heights tell to be reached. -/
def marksH (n : Nat) (K : List Int) : List Bool := (List.range n).map fun k => K.getD k 0 != -1
theorem marksH_of {xs : List (Int × Int)} {K : List Int} (hl : xs.length ≤ 80) (hx : ∀ (k : Nat) (x : Int × Int), xs[k]? = some x → ∀ t ∈ tgt1 x.1 x.2 k, 0 ≤ t ∧ t ≤ 80) (h : SprTo xs (fun _ _ => some 0) (Emp xs) K) : MarksOf xs (fun t => t = 0) (marksH xs.length K) := by
  refine ⟨by simp [marksH], fun k b hb => ?_⟩
  have hk : k < xs.length := by
    have := (List.getElem?_eq_some_iff.1 hb).1
    simpa [marksH] using this
  have eb : b = (K.getD k 0 != -1) := by
    unfold marksH at hb
    rw [List.getElem?_map, List.getElem?_range hk] at hb
    exact (Option.some.inj hb).symm
  subst eb
  have h0 : K.getD 0 0 = 0 := by
    have := h.ext.2 0 (by simp [heights0])
    rw [this]; simp [heights0]
  have key : ∀ t, RchP xs (fun t => t = 0) t → 0 ≤ t ∧ t ≤ 80 ∧ K.getD t.toNat 0 ≠ -1 := by
    intro t ht
    induction ht with
    | base e => subst e; exact ⟨by omega, by omega, by show K.getD 0 0 ≠ -1; rw [h0]; decide⟩
    | @step j t hj hjl htt ih =>
      have hy : xs[j]? = some xs[j] := List.getElem?_eq_getElem hjl
      have htt' : t ∈ tgt1 xs[j].1 xs[j].2 j := by unfold tgtN at htt; rw [List.getD_eq_getElem?_getD, hy] at htt; exact htt
      obtain ⟨t0, t1⟩ := hx j _ hy t htt'
      obtain ⟨h', e, hall⟩ := h.closed j _ hjl hy (by have := ih.2.2; rwa [Int.toNat_natCast] at this)
      refine ⟨t0, t1, ?_⟩
      rw [hall t htt']
      have : h' = 0 := (Option.some.inj e).symm
      rw [this]; decide
  constructor
  · intro e
    rcases h.inv.2 k (by omega) with h' | h'
    · rw [h'] at e; exact absurd e (by decide)
    · exact h'.2
  · intro hr
    have := (key _ hr).2.2
    rw [Int.toNat_natCast] at this
    simp only [bne_iff_ne, ne_eq]
    exact this
theorem tgt_in {xs : List (Int × Int)} (hc : codeB xs = true) : ∀ (k : Nat) (x : Int × Int), xs[k]? = some x → ∀ t ∈ tgt1 x.1 x.2 k, 0 ≤ t ∧ t ≤ 80 := by
  intro k x hx t ht
  have hk : k < xs.length := (List.getElem?_eq_some_iff.1 hx).1
  have h80 := (codeB_parts hc).2.1
  obtain ⟨h0, h1, h2, h3⟩ := instrB_parts (codeB_at hc hx)
  unfold tgt1 at ht
  unfold loB at h2
  unfold hiB at h3
  split at ht
  · cases ht
  · split at ht
    · rename_i e
      rw [e] at h2 h3
      simp at h2 h3 ht
      omega
    · split at ht
      · rename_i e
        rw [e] at h2 h3
        simp at h2 h3
        rcases (putR_one_mem _ _ _).1 ht with rfl | rfl <;> omega
      · simp at ht; omega
theorem tgt_len (op a k : Int) : (tgt1 op a k).length ≤ 2 := by
  unfold tgt1
  split
  · simp
  · split
    · simp
    · split
      · rw [putR_one]; split
        · simp
        · split <;> simp
      · simp
theorem marks_exist (xs : List (Int × Int)) (S : Int → Prop) : ∃ ms, MarksOf xs S ms := by
  refine ⟨(List.range xs.length).map fun (k : Nat) => @decide (RchP xs S k) (Classical.propDecidable _), by simp, fun k b hb => ?_⟩
  rw [List.getElem?_map] at hb
  cases hr : (List.range xs.length)[k]? with
  | none => rw [hr] at hb; cases hb
  | some j =>
    rw [hr] at hb
    have hj : j = k := by
      have h1 := (List.getElem?_eq_some_iff.1 hr)
      obtain ⟨h1, h2⟩ := h1
      simp at h2
      exact h2.symm
    subst hj
    obtain rfl := Option.some.inj hb
    exact @decide_eq_true_iff _ (Classical.propDecidable _)
/-- The instructions that marks tell, of the first ones. -/
def lstM (ms : List Bool) (k : Nat) : List Int := ((List.range k).filter fun j => ms.getD j false).map fun (j : Nat) => (j : Int)
theorem lstM_zero (ms : List Bool) : lstM ms 0 = [] := rfl
theorem lstM_yes {ms : List Bool} {k : Nat} (h : ms[k]? = some true) : lstM ms (k + 1) = lstM ms k ++ [(k : Int)] := by
  unfold lstM
  rw [List.range_succ, List.filter_append, List.map_append]
  simp [List.getD_eq_getElem?_getD, h]
theorem lstM_no {ms : List Bool} {k : Nat} (h : ms[k]? = some false) : lstM ms (k + 1) = lstM ms k := by
  unfold lstM
  rw [List.range_succ, List.filter_append, List.map_append]
  simp [List.getD_eq_getElem?_getD, h]
theorem lstM_len (ms : List Bool) (k : Nat) : (lstM ms k).length ≤ k := by
  unfold lstM
  rw [List.length_map]
  have := List.length_filter_le (fun j => ms.getD j false) (List.range k)
  rwa [List.length_range] at this
end Go.Proofs.YtdmcpabpjhinhaaGreatDoor

/-! What is reached over code from its beginning and its points, as sets of places: pure. No conditions. -/
namespace Go.Proofs.YtdmcpabpjhinhaaGreatDoor
set_option linter.unusedVariables false

/-- The places behind an instruction that are within the code and have no point. -/
def gList (xs : List (Int × Int)) (ps : List Int) (k : Nat) : List Int := (tgtN xs k).filter fun t => decide (t < (xs.length : Int)) && !ps.contains t
def gN (xs : List (Int × Int)) (ps : List Int) (k : Nat) : Nat := putsS 0 (gList xs ps k)
theorem gN_lt {xs : List (Int × Int)} (hl : xs.length ≤ 80) (ps : List Int) (k : Nat) : gN xs ps k < 2 ^ 128 := by
  refine putsS_lt (by decide) fun t ht => ?_
  have := (List.mem_filter.1 ht).2
  simp at this
  omega
/-- Where the search begins. -/
def fromP (ps : List Int) : Int → Prop := fun t => t = 0 ∨ t ∈ ps
structure RchS (xs : List (Int × Int)) (ps : List Int) (R : Nat) : Prop where
  lt : R < 2 ^ 128
  zero : R.testBit 0 = true
  pts : ∀ p ∈ ps, R.testBit p.toNat = true
  ok : ∀ j, R.testBit j = true → j < xs.length ∧ RchP xs (fromP ps) j
theorem RchS.init {xs : List (Int × Int)} {ps : List Int} (hn : 0 < xs.length) (hl : xs.length ≤ 80) (hp : ∀ p ∈ ps, 0 ≤ p ∧ p < (xs.length : Int)) : RchS xs ps (putS (putsS 0 ps) 0) := by
  have hlt : putsS 0 ps < 2 ^ 128 := putsS_lt (by decide) fun p h => by have := hp p h; omega
  refine ⟨putS_lt hlt (by decide), by rw [putS_bit]; simp, fun p h => ?_, fun j hj => ?_⟩
  · rw [putS_bit, Bool.or_eq_true]; left; exact (putsS_bit 0 ps _).2 (.inr ⟨p, h, rfl⟩)
  · rw [putS_bit, Bool.or_eq_true, putsS_bit, decide_eq_true_iff] at hj
    rcases hj with (h | ⟨p, h, e⟩) | h
    · rw [Nat.zero_testBit] at h; cases h
    · have := hp p h
      have e' : (j : Int) = p := by omega
      exact ⟨by omega, .base (.inr (by rw [e']; exact h))⟩
    · subst h; exact ⟨hn, .base (.inl rfl)⟩
theorem RchS.next {xs : List (Int × Int)} {ps : List Int} {R : Nat} (hl : xs.length ≤ 80) (ht0 : ∀ k : Nat, k < xs.length → ∀ t ∈ tgtN xs k, 0 ≤ t) (h : RchS xs ps R) : RchS xs ps (R ||| allS (gN xs ps) (bitsL R)) := by
  refine ⟨Nat.or_lt_two_pow h.lt (allS_lt (gN_lt hl ps) _), by rw [Nat.testBit_or, h.zero]; rfl, fun p hp => by rw [Nat.testBit_or, h.pts p hp]; rfl, fun j hj => ?_⟩
  rw [Nat.testBit_or, Bool.or_eq_true, allS_bit] at hj
  rcases hj with hj | ⟨k, hk, hj⟩
  · exact h.ok j hj
  · rw [mem_bitsL h.lt] at hk
    obtain ⟨k1, k2⟩ := h.ok k hk
    rcases (putsS_bit 0 _ j).1 hj with h' | ⟨t, ht, e⟩
    · rw [Nat.zero_testBit] at h'; cases h'
    · obtain ⟨m1, m2⟩ := List.mem_filter.1 ht
      simp at m2
      have := ht0 k k1 t m1
      have e' : (j : Int) = t := by omega
      exact ⟨by omega, by rw [e']; exact .step k2 k1 m1⟩
theorem RchS.done {xs : List (Int × Int)} {ps : List Int} {R : Nat} (hl : xs.length ≤ 80) (ht0 : ∀ k : Nat, k < xs.length → ∀ t ∈ tgtN xs k, 0 ≤ t) (h : RchS xs ps R) (he : R ||| allS (gN xs ps) (bitsL R) = R) (k : Nat) (hk : k < xs.length) : R.testBit k = true ↔ RchP xs (fromP ps) k := by
  refine ⟨fun h' => (h.ok k h').2, fun hr => ?_⟩
  have key : ∀ t, RchP xs (fromP ps) t → t < xs.length → R.testBit t.toNat = true := by
    intro t ht
    induction ht with
    | base e =>
      intro _
      rcases e with rfl | e
      · exact h.zero
      · exact h.pts _ e
    | @step j t hj hjl htt ih =>
      intro hlt
      have hb := ih (by omega)
      rw [Int.toNat_natCast] at hb
      by_cases hp : t ∈ ps
      · exact h.pts _ hp
      · rw [← he, Nat.testBit_or, Bool.or_eq_true]
        right
        rw [allS_bit]
        refine ⟨j, (mem_bitsL h.lt j).2 hb, (putsS_bit 0 _ _).2 (.inr ⟨t, List.mem_filter.2 ⟨htt, ?_⟩, rfl⟩)⟩
        simp [hp]; exact hlt
  have := key _ hr (by omega)
  rwa [Int.toNat_natCast] at this
end Go.Proofs.YtdmcpabpjhinhaaGreatDoor

/-! Passes over annotated code, as lists: an instruction left out, idle jumps, threaded jumps. No conditions. -/
namespace Go.Proofs.YtdmcpabpjhinhaaGreatDoor
set_option linter.unusedVariables false

/-- An instruction, and a point, behind an instruction k that is left out. -/
def subI (k : Int) (x : Int × Int) : Int × Int := if (x.1 = 5 ∨ x.1 = 6) ∧ k < x.2 then (x.1, x.2 - 1) else x
def subP (k : Int) (p : P2) : P2 := if k < p.a then ⟨p.a - 1, p.s⟩ else p
def leaveC (k : Nat) (xs : List (Int × Int)) : List (Int × Int) := (xs.take k ++ xs.drop (k + 1)).map (subI k)
def leaveP (k : Nat) (ps : List P2) : List P2 := ps.map (subP k)
theorem leaveC_len {k : Nat} {xs : List (Int × Int)} (h : k < xs.length) : (leaveC k xs).length = xs.length - 1 := by
  simp [leaveC]; omega
theorem leaveP_len (k : Nat) (ps : List P2) : (leaveP k ps).length = ps.length := by simp [leaveP]
theorem leaveP_at {k j : Nat} {ps : List P2} {p : P2} (h : ps[j]? = some p) : (leaveP k ps)[j]? = some (subP k p) := by simp [leaveP, h]
theorem subP_s (k : Int) (p : P2) : (subP k p).s = p.s := by unfold subP; split <;> rfl
/-- Whether there is a point at a place. -/
def ptB (ps : List P2) (k : Int) : Bool := ps.any fun p => decide (p.a = k)
theorem ptB_take_no {ps : List P2} {k : Int} {j : Nat} {p : P2} (h : ptB (ps.take j) k = false) (hp : ps[j]? = some p) (hn : p.a ≠ k) : ptB (ps.take (j + 1)) k = false := by
  rw [List.take_add_one, hp]
  unfold ptB at h ⊢
  rw [List.any_append, h]
  simp [hn]
theorem ptB_yes {ps : List P2} {k : Int} {j : Nat} {p : P2} (hp : ps[j]? = some p) (hn : p.a = k) : ptB ps k = true := by
  unfold ptB
  rw [List.any_eq_true]
  exact ⟨p, List.mem_of_getElem? hp, by simp [hn]⟩
theorem ptB_all {ps : List P2} {k : Int} {j : Nat} (h : ptB (ps.take j) k = false) (hj : ps.length ≤ j) : ptB ps k = false := by
  rwa [List.take_of_length_le hj] at h
/-- DropIdleJumps at an instruction, and at all instructions below n, the last one first. -/
def idleB (k : Nat) (xs : List (Int × Int)) (ps : List P2) : Bool := decide (1 < xs.length) && decide (xs[k]? = some (5, (k : Int) + 1)) && !ptB ps k
def idle1 (k : Nat) (s : List (Int × Int) × List P2) : List (Int × Int) × List P2 := if idleB k s.1 s.2 then (leaveC k s.1, leaveP k s.2) else s
def idleN : Nat → List (Int × Int) × List P2 → List (Int × Int) × List P2
  | 0, s => s
  | k + 1, s => idleN k (idle1 k s)
theorem idle1_len {k : Nat} {s : List (Int × Int) × List P2} (h : k < s.1.length) : k ≤ (idle1 k s).1.length ∧ (idle1 k s).1.length ≤ s.1.length ∧ (idle1 k s).2.length = s.2.length := by
  unfold idle1
  split
  · have := leaveC_len h; exact ⟨by simp only; omega, by simp only; omega, leaveP_len _ _⟩
  · exact ⟨by omega, by omega, rfl⟩

/-! ThreadJumps. -/
/-- Whether an instruction of an operation is at a place, and no point. -/
def openB (op : Int) (xs : List (Int × Int)) (ps : List P2) (k : Int) : Bool := decide (0 ≤ k) && (match xs[k.toNat]? with | some x => decide (x.1 = op) | none => false) && !ptB ps k
def nextJ (xs : List (Int × Int)) (k : Int) : Int := match xs[k.toNat]? with | some x => x.2 | none => k
/-- Over i jumps, as long as there is one. -/
def overJ (xs : List (Int × Int)) (k : Int) : Nat → Int
  | 0 => k
  | i + 1 => nextJ xs (overJ xs k i)
def allJ (xs : List (Int × Int)) (ps : List P2) (k : Int) (i : Nat) : Prop := ∀ j, j < i → openB 5 xs ps (overJ xs k j) = true
/-- The end of the jumps from a place on. -/
def FinalJ (xs : List (Int × Int)) (ps : List P2) (k e : Int) : Prop :=
  (∃ i, allJ xs ps k i ∧ openB 5 xs ps (overJ xs k i) = false ∧ e = overJ xs k i) ∨ ((∀ i, allJ xs ps k i) ∧ e = k)
theorem openB_lt {op : Int} {xs : List (Int × Int)} {ps : List P2} {k : Int} (h : openB op xs ps k = true) : 0 ≤ k ∧ k < xs.length := by
  unfold openB at h
  simp only [Bool.and_eq_true, decide_eq_true_eq] at h
  obtain ⟨⟨h0, h1⟩, _⟩ := h
  split at h1
  · rename_i x hx
    have := (List.getElem?_eq_some_iff.1 hx).1
    omega
  · cases h1
theorem allJ_succ {xs : List (Int × Int)} {ps : List P2} {k : Int} {i : Nat} (h : allJ xs ps k i) (ho : openB 5 xs ps (overJ xs k i) = true) : allJ xs ps k (i + 1) := fun j hj => by
  by_cases e : j = i
  · subst e; exact ho
  · exact h j (by omega)
theorem FinalJ.uniq {xs : List (Int × Int)} {ps : List P2} {k e e' : Int} (h : FinalJ xs ps k e) (h' : FinalJ xs ps k e') : e = e' := by
  rcases h with ⟨i, a, b, rfl⟩ | ⟨a, rfl⟩ <;> rcases h' with ⟨j, c, d, rfl⟩ | ⟨c, rfl⟩
  · have : i = j := by
      rcases Nat.lt_trichotomy i j with h | h | h
      · have := c i h; rw [b] at this; cases this
      · exact h
      · have := a j h; rw [d] at this; cases this
    rw [this]
  · have := c (i + 1) i (by omega); rw [b] at this; cases this
  · have := a (j + 1) j (by omega); rw [d] at this; cases this
  · rfl
/-- A way that comes to a place again goes on for ever. -/
theorem overJ_add (xs : List (Int × Int)) (k : Int) (i j : Nat) : overJ xs (overJ xs k i) j = overJ xs k (i + j) := by
  induction j with
  | zero => rfl
  | succ j ih => show nextJ xs _ = nextJ xs _; rw [ih]; rfl
theorem loop_ever {xs : List (Int × Int)} {ps : List P2} {k : Int} {i j : Nat} (h : allJ xs ps k j) (hij : i < j) (he : overJ xs k i = overJ xs k j) : ∀ n, allJ xs ps k n := by
  have key : ∀ n, openB 5 xs ps (overJ xs k n) = true := by
    intro n
    induction n using Nat.strongRecOn with
    | ind n ih =>
      by_cases hn : n < j
      · exact h n hn
      · have e : overJ xs k n = overJ xs k (i + (n - j)) := by
          rw [← overJ_add xs k i, he, overJ_add, show j + (n - j) = n by omega]
        rw [e]
        exact ih _ (by omega)
  exact fun n j _ => key j
/-- Many numbers below n: two of them are one. -/
theorem pigeon : ∀ (n : Nat) (f : Nat → Int), (∀ i, i ≤ n → 0 ≤ f i ∧ f i < n) → ∃ i j, i < j ∧ j ≤ n ∧ f i = f j := by
  intro n
  induction n with
  | zero => intro f h; have := h 0 (Nat.le_refl _); omega
  | succ n ih =>
    intro f h
    by_cases hx : ∃ i, i ≤ n ∧ f i = f (n + 1)
    · obtain ⟨i, hi, e⟩ := hx
      exact ⟨i, n + 1, by omega, Nat.le_refl _, e⟩
    · have hne : ∀ i, i ≤ n → f i ≠ f (n + 1) := fun i hi e => hx ⟨i, hi, e⟩
      have hl := h (n + 1) (Nat.le_refl _)
      obtain ⟨i, j, h1, h2, h3⟩ := ih (fun i => if f i < f (n + 1) then f i else f i - 1) (fun i hi => by
        have h0 := h i (by omega)
        have h1 := hne i hi
        show 0 ≤ (if f i < f (n + 1) then f i else f i - 1) ∧ (if f i < f (n + 1) then f i else f i - 1) < (n : Int)
        split <;> omega)
      refine ⟨i, j, h1, by omega, ?_⟩
      have hi := hne i (by omega)
      have hj := hne j (by omega)
      split at h3 <;> split at h3 <;> omega
theorem ever_of {xs : List (Int × Int)} {ps : List P2} {k : Int} (h : allJ xs ps k (xs.length + 1)) : ∀ n, allJ xs ps k n := by
  obtain ⟨i, j, h1, h2, h3⟩ := pigeon xs.length (overJ xs k) (fun i hi => openB_lt (h i (by omega)))
  exact loop_ever (fun m hm => h m (by omega)) h1 h3
theorem FinalJ.stop {xs : List (Int × Int)} {ps : List P2} {k : Int} {i : Nat} (h : allJ xs ps k i) (hn : openB 5 xs ps (overJ xs k i) = false) : FinalJ xs ps k (overJ xs k i) := .inl ⟨i, h, hn, rfl⟩
theorem FinalJ.long {xs : List (Int × Int)} {ps : List P2} {k : Int} (h : allJ xs ps k (xs.length + 1)) : FinalJ xs ps k k := .inr ⟨ever_of h, rfl⟩
theorem FinalJ.loop {xs : List (Int × Int)} {ps : List P2} {k : Int} {i j : Nat} (h : allJ xs ps k j) (hij : i < j) (he : overJ xs k i = overJ xs k j) : FinalJ xs ps k k := .inr ⟨loop_ever h hij he, rfl⟩
/-- The same, by so many jumps. -/
def finG (xs : List (Int × Int)) (ps : List P2) (k : Int) : Nat → Int → Int
  | 0, _ => k
  | f + 1, now => if openB 5 xs ps now then finG xs ps k f (nextJ xs now) else now
def finJ (xs : List (Int × Int)) (ps : List P2) (k : Int) : Int := finG xs ps k (xs.length + 1) k
theorem finG_is {xs : List (Int × Int)} {ps : List P2} {k : Int} : ∀ (f i : Nat), f + i = xs.length + 1 → allJ xs ps k i → FinalJ xs ps k (finG xs ps k f (overJ xs k i)) := by
  intro f
  induction f with
  | zero => intro i h ha; exact FinalJ.long (by rw [show xs.length + 1 = i by omega]; exact ha)
  | succ f ih =>
    intro i h ha
    unfold finG
    by_cases ho : openB 5 xs ps (overJ xs k i) = true
    · rw [if_pos ho]
      exact ih (i + 1) (by omega) (allJ_succ ha ho)
    · rw [if_neg ho]
      exact FinalJ.stop ha (by simpa using ho)
theorem finJ_is (xs : List (Int × Int)) (ps : List P2) (k : Int) : FinalJ xs ps k (finJ xs ps k) := finG_is (i := 0) _ rfl (fun j hj => by omega)
theorem finJ_eq {xs : List (Int × Int)} {ps : List P2} {k e : Int} (h : FinalJ xs ps k e) : finJ xs ps k = e := (finJ_is xs ps k).uniq h
/-- An instruction, and all of them, behind ThreadJumps. -/
def thr1 (xs : List (Int × Int)) (ps : List P2) (x : Int × Int) : Int × Int :=
  if x.1 = 5 then (if openB 11 xs ps (finJ xs ps x.2) then (11, 0) else (5, finJ xs ps x.2)) else if x.1 = 6 then (6, finJ xs ps x.2) else x
def thrL (xs : List (Int × Int)) (ps : List P2) : List (Int × Int) := xs.map (thr1 xs ps)

/-! Bounds of the numbers. -/
def BndC (xs : List (Int × Int)) : Prop := ∀ x ∈ xs, -1000000 ≤ x.2 ∧ x.2 ≤ 1000000
def BndP (ps : List P2) : Prop := ∀ p ∈ ps, 0 ≤ p.a ∧ p.a ≤ 1000000
theorem BndC.leave {k : Nat} {xs : List (Int × Int)} (h : BndC xs) : BndC (leaveC k xs) := by
  intro x hx
  obtain ⟨y, hy, rfl⟩ := List.mem_map.1 hx
  have hy' : y ∈ xs := by
    rcases List.mem_append.1 hy with hy | hy
    · exact List.mem_of_mem_take hy
    · exact List.mem_of_mem_drop hy
  have := h y hy'
  unfold subI
  split
  · rename_i hc; have := hc.2; simp only; omega
  · exact this
theorem BndP.leave {k : Nat} {ps : List P2} (h : BndP ps) : BndP (leaveP k ps) := by
  intro p hp
  obtain ⟨q, hq, rfl⟩ := List.mem_map.1 hp
  have := h q hq
  unfold subP
  split
  · simp only; omega
  · exact this
/-- Points of which the first i have been changed. -/
def mixF (f : P2 → P2) (i : Nat) (ps : List P2) : List P2 := (ps.take i).map f ++ ps.drop i
theorem mixF_zero (f : P2 → P2) (ps : List P2) : mixF f 0 ps = ps := rfl
theorem mixF_all {f : P2 → P2} {i : Nat} {ps : List P2} (h : ps.length ≤ i) : mixF f i ps = ps.map f := by
  unfold mixF; rw [List.take_of_length_le h, List.drop_of_length_le h, List.append_nil]
theorem mixF_len (f : P2 → P2) (i : Nat) (ps : List P2) : (mixF f i ps).length = ps.length := by
  unfold mixF; rw [List.length_append, List.length_map, List.length_take, List.length_drop]; omega
theorem mixF_at {f : P2 → P2} {i : Nat} {ps : List P2} {p : P2} (h : ps[i]? = some p) : (mixF f i ps)[i]? = some p := by
  have hl := (List.getElem?_eq_some_iff.1 h).1
  unfold mixF
  rw [List.getElem?_append_right (by simp; omega), List.length_map, List.length_take, Nat.min_eq_left (by omega), Nat.sub_self, List.getElem?_drop, Nat.add_zero]
  exact h
theorem mixF_set {f : P2 → P2} {i : Nat} {ps : List P2} {p : P2} (h : ps[i]? = some p) : (mixF f i ps).set i (f p) = mixF f (i + 1) ps := by
  have hl := (List.getElem?_eq_some_iff.1 h).1
  have hln : ((ps.take i).map f).length = i := by simp; omega
  unfold mixF
  rw [List.set_append_right _ _ (by omega), hln, Nat.sub_self, drop_at h, List.set_cons_zero, List.take_add_one, h]
  simp
theorem mixF_same {f : P2 → P2} {i : Nat} {ps : List P2} {p : P2} (h : ps[i]? = some p) (hf : f p = p) : mixF f (i + 1) ps = mixF f i ps := by
  unfold mixF
  rw [drop_at h, List.take_add_one, h]
  simp [hf]
theorem annB_bnd {t0 t1 : List (Int × List Int)} {xs : List (Int × Int)} {ps : List P2} (h : annB t0 t1 xs ps = true) : BndC xs ∧ BndP ps := by
  obtain ⟨hc, _, _, hp⟩ := annB_parts h
  refine ⟨fun x hx => instrB_arg ((codeB_parts hc).2.2 x hx), ?_⟩
  have key : ∀ {ps : List P2} {l : Int}, 0 ≤ l → ptsF (xs.length : Int) l ps = true → BndP ps := by
    intro ps
    induction ps with
    | nil => intro l _ _ p hp; cases hp
    | cons q ps ih =>
      intro l hl h p hp
      unfold ptsF at h
      simp only [Bool.and_eq_true, decide_eq_true_eq] at h
      have hx := (codeB_parts hc).2.1
      rcases List.mem_cons.1 hp with rfl | hp
      · omega
      · exact ih (by omega) h.2 p hp
  unfold ptsB at hp
  simp only [Bool.and_eq_true, decide_eq_true_eq] at hp
  exact key (Int.le_refl 0) hp.2
end Go.Proofs.YtdmcpabpjhinhaaGreatDoor

/-! Code without what cannot be reached: pure. No conditions. -/
namespace Go.Proofs.YtdmcpabpjhinhaaGreatDoor
set_option linter.unusedVariables false

/-- The places of points. -/
def atsP (ps : List P2) : List Int := ps.map fun p => p.a
theorem annB_ats {t0 t1 : List (Int × List Int)} {xs : List (Int × Int)} {ps : List P2} (h : annB t0 t1 xs ps = true) : ∀ p ∈ atsP ps, 0 ≤ p ∧ p < (xs.length : Int) := by
  obtain ⟨hc, _, _, hp⟩ := annB_parts h
  have key : ∀ {ps : List P2} {l : Int}, 0 ≤ l → ptsF (xs.length : Int) l ps = true → ∀ p ∈ atsP ps, 0 ≤ p ∧ p < (xs.length : Int) := by
    intro ps
    induction ps with
    | nil => intro l _ _ p hp; cases hp
    | cons q ps ih =>
      intro l hl h p hp
      unfold ptsF at h
      simp only [Bool.and_eq_true, decide_eq_true_eq] at h
      rcases List.mem_cons.1 hp with e | hp
      · have e' : p = q.a := e
        omega
      · exact ih (by omega) h.2 p hp
  unfold ptsB at hp
  simp only [Bool.and_eq_true, decide_eq_true_eq] at hp
  exact key (Int.le_refl 0) hp.2
theorem ptB_ats {ps : List P2} {k : Int} : ptB ps k = true ↔ k ∈ atsP ps := by
  unfold ptB atsP
  rw [List.any_eq_true, List.mem_map]
  constructor
  · rintro ⟨p, hp, h⟩; exact ⟨p, hp, by simpa using h⟩
  · rintro ⟨p, hp, h⟩; exact ⟨p, hp, by simpa using h⟩
theorem ptB_leave {ps : List P2} {j k : Nat} (h : k < j) : ptB (leaveP j ps) k = ptB ps k := by
  unfold ptB leaveP
  rw [List.any_map]
  congr 1
  funext p
  show decide ((subP j p).a = k) = decide (p.a = k)
  unfold subP
  split
  · rw [Bool.eq_iff_iff, decide_eq_true_iff, decide_eq_true_iff]
    show p.a - 1 = (k : Int) ↔ p.a = k
    omega
  · rfl
/-- An instruction that marks do not tell is left out; all of them below n, the last one first. -/
def dro1 (ms : List Bool) (k : Nat) (s : List (Int × Int) × List P2) : List (Int × Int) × List P2 := if ms.getD k true = true then s else (leaveC k s.1, leaveP k s.2)
def droN (ms : List Bool) : Nat → List (Int × Int) × List P2 → List (Int × Int) × List P2
  | 0, s => s
  | k + 1, s => droN ms k (dro1 ms k s)
theorem dro1_yes {ms : List Bool} {k : Nat} {s : List (Int × Int) × List P2} (h : ms[k]? = some true) : dro1 ms k s = s := by
  unfold dro1; rw [List.getD_eq_getElem?_getD, h]; exact if_pos rfl
theorem dro1_no {ms : List Bool} {k : Nat} {s : List (Int × Int) × List P2} (h : ms[k]? = some false) : dro1 ms k s = (leaveC k s.1, leaveP k s.2) := by
  unfold dro1; rw [List.getD_eq_getElem?_getD, h]; exact if_neg (by decide)
theorem totP2_leaveU (k : Nat) (ps : List P2) : totP2 (leaveP k ps) = totP2 ps := by
  unfold totP2 leaveP
  rw [List.map_map]
  congr 1
  apply List.map_congr_left
  intro p _
  show P2.tot (subP k p) = P2.tot p
  unfold P2.tot
  rw [subP_s]
theorem droN_small (ms : List Bool) : ∀ (i : Nat) (s : List (Int × Int) × List P2), (droN ms i s).1.length ≤ s.1.length ∧ (droN ms i s).2.length = s.2.length ∧ totP2 (droN ms i s).2 = totP2 s.2
  | 0, s => ⟨Nat.le_refl _, rfl, rfl⟩
  | i + 1, s => by
    have h := droN_small ms i (dro1 ms i s)
    have h1 : (dro1 ms i s).1.length ≤ s.1.length ∧ (dro1 ms i s).2.length = s.2.length ∧ totP2 (dro1 ms i s).2 = totP2 s.2 := by
      unfold dro1
      split
      · exact ⟨Nat.le_refl _, rfl, rfl⟩
      · refine ⟨?_, leaveP_len _ _, totP2_leaveU _ _⟩
        show (leaveC i s.1).length ≤ _
        unfold leaveC
        rw [List.length_map, List.length_append, List.length_take, List.length_drop]
        omega
    show (droN ms i (dro1 ms i s)).1.length ≤ _ ∧ (droN ms i (dro1 ms i s)).2.length = _ ∧ totP2 (droN ms i (dro1 ms i s)).2 = _
    omega
end Go.Proofs.YtdmcpabpjhinhaaGreatDoor

/-! Sets of places in the program: of points, of a list, two together. Conditions: places below 128. -/
namespace Go.Proofs.YtdmcpabpjhinhaaGreatDoor
set_option linter.unusedVariables false
open Go.RowKit

theorem pointAt1_c (a : Int) (A : Option Addr) (n c : Nat) (w : World) : Calls Tryz.prog 122 #[.agg #[.int .i64 a, .slice A n c]] w fun e w' => e = .returned (.int .i64 a) ∧ Below w.heap.size w w' := by
  go_enter Tryz.func122, Tryz.ntmps122
  go_wp2_with fail
  go_ret
  exact ⟨rfl, bnew _ _⟩

set_option maxRecDepth 100000 in
set_option maxHeartbeats 1000000 in
theorem eachAt_c (A : Option Addr) (n c B : Nat) (ps : List P2) (w : World) (h : InP2 w B A n ps) (hB : B ≤ w.heap.size) (hn : n ≤ 1048576) :
    Calls Tryz.prog 121 #[.slice A n c, .func (.func 122) #[] #[]] w fun e w' => ∃ g, e = .returned (.slice (some ⟨g, 0, none⟩) n n) ∧ OwnL w' w.heap.size w'.heap.size (some ⟨g, 0, none⟩) n n (atsP ps) ∧ Below w.heap.size w w' := by
  obtain ⟨i0, hi, hz0, hz1, hz2⟩ := info_parts info64
  have hz : (atsP ps).length = n := by unfold atsP; rw [List.length_map]; exact h.1
  go_enter Tryz.func121, Tryz.ntmps121
  go_wp2_with (at_make; refine wpList_make_full _ rfl _ _ 74 rfl w.heap.size 2 i0 (.int .i64 0) 1 Tryz.underlying74 hi hz0 hz1 .i64 .i64 _ _ n rfl rfl rfl rfl (by rw [hz2]; omega) (by unfold maxLen; omega) (Nat.le_refl _) ?_; intro w1 hown hgrow)
  rw [copy_start n ((atsP ps).map ic)] at hown
  have hb1 := (Below.refl w.heap.size w).grown hgrow (Nat.le_refl _) (fun _ h => by cases h)
  have hlt1 : w.heap.size < w1.heap.size := (hown.lt w.heap.size rfl).2
  clear hgrow
  go_loopw [6, 7, 13] (fun _ _ i wr => ∃ k : Nat, k ≤ n ∧ i = .int .i64 k ∧ wr.ownsRow w.heap.size 2 1 (.slice (some ⟨w.heap.size, 0, none⟩) n n) n (((atsP ps).map ic).take k ++ List.replicate (n - k) (.int .i64 0)) ∧ w.heap.size < wr.heap.size ∧ Below w.heap.size w wr) (fun _ _ i _ => n - (intOf i).toNat)
  case atStart => exact ⟨0, Nat.zero_le _, rfl, hown, hlt1, hb1⟩
  case round =>
    clear hown hb1 hlt1
    obtain ⟨k, hk, rfl, hown, hlt1, hbel⟩ := hrel
    by_cases hlt : k < n
    · have hkn : (k : Int) < (n : Int) := by omega
      obtain ⟨b, off, x, rfl, hb, hx, D0, m0, d0, q0, q1, kf⟩ := (h.next hbel hB).at_ hlt
      clear kf
      have hb2 := bnew wr (.cells #[.int .i64 x.a, .slice D0 m0 d0] 83)
      have hX : BlkIs (wr.alloc (.cells #[.int .i64 x.a, .slice D0 m0 d0] 83)) wr.heap.size 83 #[.int .i64 x.a, .slice D0 m0 d0] := blk_new _ _ _ _ rfl
      have x0 : (wr.alloc (.cells #[.int .i64 x.a, .slice D0 m0 d0] 83)).cell? ⟨wr.heap.size, 0, none⟩ = some (.int .i64 x.a) := hX.cell 0
      have x1 : (wr.alloc (.cells #[.int .i64 x.a, .slice D0 m0 d0] 83)).cell? ⟨wr.heap.size, 1, none⟩ = some (.slice D0 m0 d0) := hX.cell 1
      have hxa : ((atsP ps).map ic)[k]? = some (.int .i64 x.a) := by unfold atsP; rw [List.getElem?_map, List.getElem?_map, hx]; rfl
      have HXA := Lib.hid hxa
      clear hx hxa hX
      go_wp2_with fail
      refine (pointAt1_c x.a D0 m0 d0 _).mono ?_
      rintro e w2 ⟨rfl, hb3⟩
      have hb23 := bon hb2 hb3
      have hown2 := own_below hown hb23
      have hst := hown2.stored k (.int .i64 x.a)
      rw [copy_step (by simpa using hz) hlt HXA.out] at hst
      have hfz := hown2.frozenAt k
      have hcl := hown2.cellAt k (by omega)
      obtain ⟨u, hu⟩ : ∃ u, (((atsP ps).map ic).take k ++ List.replicate (n - k) (.int .i64 0))[k]? = some u := ⟨_, List.getElem?_eq_getElem (by simp; omega)⟩
      rw [hu] at hcl
      have HU := Lib.hid hst
      have hs2 := hb23.size
      have hb4 := (hbel.trans (hb23.mono (by omega))).setCell (p := ⟨w.heap.size, k, none⟩) (Nat.le_refl _) (.int .i64 x.a)
      clear hu hst hown hown2 q0 q1
      go_wp2_with fail
      go_roundw
      case rel => exact ⟨k + 1, by omega, by go_num, HU.out.1, by simp; omega, hb4⟩
      case measure => simp [intOf]; omega
    · have e : k = n := by omega
      subst e
      rw [copy_end (by simpa using hz)] at hown
      have hO := OwnL.of_own (zs := atsP ps) hown
      go_wp2_with fail
      go_ret
      exact ⟨_, rfl, hO, hbel⟩

set_option maxRecDepth 100000 in
set_option maxHeartbeats 1000000 in
theorem placesOf_c (A : Option Addr) (n c B : Nat) (zs : List Int) (w : World) (h : InL w B A n zs) (hB : B ≤ w.heap.size) (hn : n ≤ 1048576) (hz : ∀ z ∈ zs, 0 ≤ z ∧ z < 128) :
    Calls Tryz.prog 120 #[.slice A n c] w fun e w' => e = .returned (.agg #[.int .u64 (loW (putsS 0 zs) : Nat), .int .u64 (hiW (putsS 0 zs) : Nat)]) ∧ Below w.heap.size w w' := by
  have hlen := Lib.hid h.1
  have HZ := Lib.hid hz
  have hb0 : Below w.heap.size w ((w.alloc (.cells #[.int .u64 0, .int .u64 0] 98)).alloc (.cells #[.int .u64 0, .int .u64 0] 98)) := bon (bnew _ _) (bnew _ _)
  have hR : BlkIs ((w.alloc (.cells #[.int .u64 0, .int .u64 0] 98)).alloc (.cells #[.int .u64 0, .int .u64 0] 98)) w.heap.size 98 #[.int .u64 0, .int .u64 0] := (blk_new w _ _ _ rfl).next (bnew _ _)
  have hS : BlkIs ((w.alloc (.cells #[.int .u64 0, .int .u64 0] 98)).alloc (.cells #[.int .u64 0, .int .u64 0] 98)) (w.heap.size + 1) 98 #[.int .u64 (loW (putsS 0 (zs.take 0)) : Nat), .int .u64 (hiW (putsS 0 (zs.take 0)) : Nat)] := by
    rw [show ((loW (putsS 0 (zs.take 0)) : Nat) : Int) = 0 by rw [List.take_zero]; rfl, show ((hiW (putsS 0 (zs.take 0)) : Nat) : Int) = 0 by rw [List.take_zero]; rfl]
    exact blk_new _ _ _ _ (by simp)
  clear hz
  go_enter Tryz.func120, Tryz.ntmps120
  go_wp2_with fail
  generalize (w.alloc (.cells #[.int .u64 0, .int .u64 0] 98)).alloc (.cells #[.int .u64 0, .int .u64 0] 98) = W at hb0 hR hS ⊢
  go_loopw [5, 8] (fun _ i wr => ∃ k : Nat, k ≤ n ∧ i = .int .i64 k ∧ BlkIs wr w.heap.size 98 #[.int .u64 0, .int .u64 0] ∧ BlkIs wr (w.heap.size + 1) 98 #[.int .u64 (loW (putsS 0 (zs.take k)) : Nat), .int .u64 (hiW (putsS 0 (zs.take k)) : Nat)] ∧ Below w.heap.size w wr) (fun _ i _ => n - (intOf i).toNat)
  case atStart => exact ⟨0, Nat.zero_le _, rfl, hR, hS, hb0⟩
  case round =>
    clear hR hS hb0
    obtain ⟨k, hk, rfl, hR, hS, hbel⟩ := hrel
    have s0 := hS.cell 0
    have s1 := hS.cell 1
    simp at s0 s1
    by_cases hlt : k < n
    · have hkn : (k : Int) < (n : Int) := by omega
      obtain ⟨b, off, x, rfl, hb, hx, hc⟩ := (h.next hbel hB).2.int_at (k := k) (by rw [hlen.out]; exact hlt)
      obtain ⟨x0, x1⟩ := HZ.out x (List.mem_of_getElem? hx)
      obtain ⟨y, rfl⟩ : ∃ y : Nat, x = (y : Int) := ⟨x.toNat, by omega⟩
      have hlt2 : putsS 0 (zs.take k) < 2 ^ 128 := putsS_lt (by decide) (fun z hz' => by have := HZ.out z (List.mem_of_mem_take hz'); omega)
      have hST : putsS 0 (zs.take (k + 1)) = putS (putsS 0 (zs.take k)) y := by
        rw [List.take_add_one, hx]
        show putsS 0 (zs.take k ++ [(y : Int)]) = _
        rw [putsS_snoc, Int.toNat_natCast]
      have HST := Lib.hid hST
      have HW := Lib.hid (with_c (putsS 0 (zs.take k)) y wr hlt2 (by omega))
      clear hx hST
      generalize putsS 0 (zs.take k) = S at hS s0 s1 hlt2 HST HW ⊢
      go_wp2_with fail
      refine HW.out.mono ?_
      rintro e w2 ⟨rfl, hb2⟩
      have hS2 := hS.next hb2
      have hR2 := hR.next hb2
      have y0 := hS2.cell 0
      have y1 := hS2.cell 1
      simp at y0 y1
      have z0 := hS2.frozen 0
      have z1 := hS2.frozen 1
      have hS3 := (hS2.set 0 (.int .u64 (loW (putS S y) : Nat))).set 1 (.int .u64 (hiW (putS S y) : Nat))
      simp at hS3
      have hR3 := (hR2.far (show w.heap.size ≠ w.heap.size + 1 by omega) 0 (.int .u64 (loW (putS S y) : Nat))).far (show w.heap.size ≠ w.heap.size + 1 by omega) 1 (.int .u64 (hiW (putS S y) : Nat))
      have hb3 := ((bon hbel hb2).setCell (p := ⟨w.heap.size + 1, 0, none⟩) (Nat.le_succ _) (.int .u64 (loW (putS S y) : Nat))).setCell (p := ⟨w.heap.size + 1, 1, none⟩) (Nat.le_succ _) (.int .u64 (hiW (putS S y) : Nat))
      clear hS hS2 hR2 HW hR s0 s1
      go_wp2_with fail
      go_roundw
      case rel => exact ⟨k + 1, by omega, by go_num, hR3, by rw [HST.out]; exact hS3, hb3⟩
      case measure => simp [intOf]; omega
    · obtain rfl : k = n := by omega
      rw [List.take_of_length_le (Nat.le_of_eq hlen.out)] at hS s0 s1
      have y0 := hR.cell 0
      have y1 := hR.cell 1
      simp at y0 y1
      have z0 := hR.frozen 0
      have z1 := hR.frozen 1
      have hR3 := (hR.set 0 (.int .u64 (loW (putsS 0 zs) : Nat))).set 1 (.int .u64 (hiW (putsS 0 zs) : Nat))
      simp at hR3
      have r0 := hR3.cell 0
      have r1 := hR3.cell 1
      simp at r0 r1
      have hb3 := (hbel.setCell (p := ⟨w.heap.size, 0, none⟩) (Nat.le_refl _) (.int .u64 (loW (putsS 0 zs) : Nat))).setCell (p := ⟨w.heap.size, 1, none⟩) (Nat.le_refl _) (.int .u64 (hiW (putsS 0 zs) : Nat))
      go_wp2_with fail
      refine bodyPost_ret (v := .agg #[.int .u64 (loW (putsS 0 zs) : Nat), .int .u64 (hiW (putsS 0 zs) : Nat)]) (by simp [results, Tryz.results120, go_sem, r0, r1]) rfl ?_
      exact ⟨rfl, hb3⟩
end Go.Proofs.YtdmcpabpjhinhaaGreatDoor

/-! Two sets of places together. No conditions but that places lie below 128. -/
namespace Go.Proofs.YtdmcpabpjhinhaaGreatDoor
set_option linter.unusedVariables false
open Go.RowKit

theorem or_val (L M : Nat) (h : L < 18446744073709551616) (h' : M < 18446744073709551616) : bits BinOp.or IntKind.u64 (L : Int) (M : Int) = ((L ||| M : Nat) : Int) := bits_or_u64_nat _ _ h h'

set_option maxRecDepth 100000 in
set_option maxHeartbeats 2000000 in
theorem or_c (S T : Nat) (w : World) (hS : S < 2 ^ 128) (hT : T < 2 ^ 128) :
    Calls Tryz.prog 88 #[.agg #[.int .u64 (loW S : Nat), .int .u64 (hiW S : Nat)], .agg #[.int .u64 (loW T : Nat), .int .u64 (hiW T : Nat)]] w fun e w' => e = .returned (.agg #[.int .u64 (loW (S ||| T) : Nat), .int .u64 (hiW (S ||| T) : Nat)]) ∧ Below w.heap.size w w' := by
  have hb0 : Below w.heap.size w (((w.alloc (.cells #[.int .u64 (loW S : Nat), .int .u64 (hiW S : Nat)] 98)).alloc (.cells #[.int .u64 (loW T : Nat), .int .u64 (hiW T : Nat)] 98)).alloc (.cells #[.int .u64 0, .int .u64 0] 98)) := bon (bon (bnew _ _) (bnew _ _)) (bnew _ _)
  have hA : BlkIs (((w.alloc (.cells #[.int .u64 (loW S : Nat), .int .u64 (hiW S : Nat)] 98)).alloc (.cells #[.int .u64 (loW T : Nat), .int .u64 (hiW T : Nat)] 98)).alloc (.cells #[.int .u64 0, .int .u64 0] 98)) w.heap.size 98 #[.int .u64 (loW S : Nat), .int .u64 (hiW S : Nat)] := ((blk_new w _ _ _ rfl).next (bnew _ _)).next (bnew _ _)
  have hB : BlkIs (((w.alloc (.cells #[.int .u64 (loW S : Nat), .int .u64 (hiW S : Nat)] 98)).alloc (.cells #[.int .u64 (loW T : Nat), .int .u64 (hiW T : Nat)] 98)).alloc (.cells #[.int .u64 0, .int .u64 0] 98)) (w.heap.size + 1) 98 #[.int .u64 (loW T : Nat), .int .u64 (hiW T : Nat)] := (blk_new (w.alloc (.cells #[.int .u64 (loW S : Nat), .int .u64 (hiW S : Nat)] 98)) _ _ _ (by simp)).next (bnew _ _)
  have hR : BlkIs (((w.alloc (.cells #[.int .u64 (loW S : Nat), .int .u64 (hiW S : Nat)] 98)).alloc (.cells #[.int .u64 (loW T : Nat), .int .u64 (hiW T : Nat)] 98)).alloc (.cells #[.int .u64 0, .int .u64 0] 98)) (w.heap.size + 2) 98 #[.int .u64 0, .int .u64 0] := blk_new _ _ _ _ (by simp)
  have hl := loW_lt S
  have hh := hiW_lt hS
  have hl' := loW_lt T
  have hh' := hiW_lt hT
  have e1 := or_val (loW S) (loW T) hl hl'
  have e2 := or_val (hiW S) (hiW T) hh hh'
  obtain ⟨o1, o2⟩ := orS_lo S T
  rw [o1, o2]
  generalize loW S = a at hb0 hA hB hR e1 hl ⊢
  generalize hiW S = b at hb0 hA hB hR e2 hh ⊢
  generalize loW T = c at hb0 hA hB hR e1 hl' ⊢
  generalize hiW T = d at hb0 hA hB hR e2 hh' ⊢
  clear o1 o2 hl hh hl' hh'
  go_enter Tryz.func88, Tryz.ntmps88
  go_wp2_with fail
  generalize ((w.alloc (.cells #[.int .u64 (a : Int), .int .u64 (b : Int)] 98)).alloc (.cells #[.int .u64 (c : Int), .int .u64 (d : Int)] 98)).alloc (.cells #[.int .u64 0, .int .u64 0] 98) = W at hb0 hA hB hR ⊢
  go_loopw [5, 6] (fun _ i wr => ∃ (k : Nat) (x y : Int), i = .int .i64 k ∧ ((k = 0 ∧ x = a ∧ y = b) ∨ (k = 1 ∧ x = ((a ||| c : Nat) : Int) ∧ y = b) ∨ (k = 2 ∧ x = ((a ||| c : Nat) : Int) ∧ y = ((b ||| d : Nat) : Int))) ∧ BlkIs wr w.heap.size 98 #[.int .u64 x, .int .u64 y] ∧ BlkIs wr (w.heap.size + 1) 98 #[.int .u64 (c : Int), .int .u64 (d : Int)] ∧ BlkIs wr (w.heap.size + 2) 98 #[.int .u64 0, .int .u64 0] ∧ Below w.heap.size w wr) (fun _ i _ => 2 - (intOf i).toNat)
  case atStart => exact ⟨0, a, b, rfl, .inl ⟨rfl, rfl, rfl⟩, hA, hB, hR, hb0⟩
  case round =>
    clear hA hB hR hb0
    obtain ⟨k, x, y, rfl, hk, hA, hB, hR, hb⟩ := hrel
    have a0 := hA.cell 0
    have a1 := hA.cell 1
    have b0 := hB.cell 0
    have b1 := hB.cell 1
    simp at a0 a1 b0 b1
    have fa0 := hA.frozen 0
    have fa1 := hA.frozen 1
    rcases hk with ⟨rfl, rfl, rfl⟩ | ⟨rfl, rfl, rfl⟩ | ⟨rfl, rfl, rfl⟩
    · have hA2 := (show BlkIs wr.drew w.heap.size 98 _ from hA).set 0 (.int .u64 ((a ||| c : Nat) : Int))
      simp at hA2
      have hB2 := (show BlkIs wr.drew (w.heap.size + 1) 98 _ from hB).far (show w.heap.size + 1 ≠ w.heap.size by omega) 0 (.int .u64 ((a ||| c : Nat) : Int))
      have hR2 := (show BlkIs wr.drew (w.heap.size + 2) 98 _ from hR).far (show w.heap.size + 2 ≠ w.heap.size by omega) 0 (.int .u64 ((a ||| c : Nat) : Int))
      have hb2 := hb.drew.setCell (p := ⟨w.heap.size, 0, none⟩) (Nat.le_refl _) (.int .u64 ((a ||| c : Nat) : Int))
      clear hA hB hR hb
      have bn := hB2.cell 0
      simp at bn
      go_upto_region 4 with fail
      refine wp_region_held_drew (S := fun w' => w'.cell? ⟨w.heap.size + 1, 0, none⟩ = some (.int .u64 (c : Int))) (by kernel_rfl) b0 ?_
      intro hHeld0
      refine wpAnyH_take (i := 0) (v := ?_) rfl (by kernel_rfl) (by kernel_rfl) (by kernel_rfl) (fun _ _ _ h => h) (Or.inl ⟨by kernel_rfl, ?_⟩) (by assumption) ?_
      rotate_left
      · intro w9 hS9; (try dsimp only at hS9); go_simp; (try with_reducible rfl)
      set_option linter.unusedSimpArgs false in try simp only [Act.put, List.getElem_toArray, List.getElem_cons_succ, List.getElem_cons_zero, List.setIfInBounds_toArray, List.set_cons_zero, List.set_cons_succ]
      refine wpAnyH_take (i := 1) (v := ?_) rfl (by kernel_rfl) (by kernel_rfl) (by kernel_rfl) (fun _ _ _ h => h) (Or.inl ⟨by kernel_rfl, ?_⟩) (by assumption) ?_
      rotate_left
      · intro w9 hS9; (try dsimp only at hS9); go_simp; (try with_reducible rfl)
      set_option linter.unusedSimpArgs false in try simp only [Act.put, List.getElem_toArray, List.getElem_cons_succ, List.getElem_cons_zero, List.setIfInBounds_toArray, List.set_cons_zero, List.set_cons_succ]
      refine wpAnyH_take (i := 3) (v := ?_) rfl (by kernel_rfl) (by kernel_rfl) (by kernel_rfl) (fun _ _ _ h => h) (Or.inl ⟨by kernel_rfl, ?_⟩) (by assumption) ?_
      rotate_left
      · intro w9 hS9; (try dsimp only at hS9); go_simp; (try with_reducible rfl)
      set_option linter.unusedSimpArgs false in try simp only [Act.put, List.getElem_toArray, List.getElem_cons_succ, List.getElem_cons_zero, List.setIfInBounds_toArray, List.set_cons_zero, List.set_cons_succ]
      refine wpAnyH_take (i := 4) (v := ?_) rfl (by kernel_rfl) (by kernel_rfl) (by kernel_rfl) (fun _ _ _ h => h) (Or.inl ⟨by kernel_rfl, ?_⟩) (by assumption) ?_
      rotate_left
      · intro w9 hS9; (try dsimp only at hS9); go_simp; (try with_reducible rfl)
      set_option linter.unusedSimpArgs false in try simp only [Act.put, List.getElem_toArray, List.getElem_cons_succ, List.getElem_cons_zero, List.setIfInBounds_toArray, List.set_cons_zero, List.set_cons_succ]
      refine wpAnyH_take (i := 5) (v := ?_) rfl (by kernel_rfl) (by kernel_rfl) (by kernel_rfl) (fun _ _ _ h => h) (Or.inl ⟨by kernel_rfl, ?_⟩) (by assumption) ?_
      rotate_left
      · intro w9 hS9; (try dsimp only at hS9); go_simp; (try with_reducible rfl)
      set_option linter.unusedSimpArgs false in try simp only [Act.put, List.getElem_toArray, List.getElem_cons_succ, List.getElem_cons_zero, List.setIfInBounds_toArray, List.set_cons_zero, List.set_cons_succ]
      refine wpAnyH_ready (rs := [2]) (by kernel_rfl) (by simp) ?_
      refine AllReadyH.cons rfl (fun K hK => ?_) (AllReadyH.nil)
      go_simp
      refine hK.out _ _ b0 (fun hHeld1 => ?_)
      clear hK K hHeld0
      set_option linter.unusedSimpArgs false in try simp only [Act.put, List.getElem_toArray, List.getElem_cons_succ, List.getElem_cons_zero, List.setIfInBounds_toArray, List.set_cons_zero, List.set_cons_succ]
      refine wpAnyH_take (i := 6) (v := ?_) rfl (by kernel_rfl) (by kernel_rfl) (by kernel_rfl) (fun _ _ _ h => h) (Or.inl ⟨by kernel_rfl, ?_⟩) (by assumption) ?_
      rotate_left
      · intro w9 hS9; (try dsimp only at hS9); go_simp; (try with_reducible rfl)
      set_option linter.unusedSimpArgs false in try simp only [Act.put, List.getElem_toArray, List.getElem_cons_succ, List.getElem_cons_zero, List.setIfInBounds_toArray, List.set_cons_zero, List.set_cons_succ]
      refine wpAnyH_take (i := 7) (v := ?_) rfl (by kernel_rfl) (by kernel_rfl) (by kernel_rfl) (fun _ _ _ h => h) (Or.inl ⟨by kernel_rfl, ?_⟩) (by assumption) ?_
      rotate_left
      · intro w9 hS9; (try dsimp only at hS9); go_simp; (try with_reducible rfl)
      set_option linter.unusedSimpArgs false in try simp only [Act.put, List.getElem_toArray, List.getElem_cons_succ, List.getElem_cons_zero, List.setIfInBounds_toArray, List.set_cons_zero, List.set_cons_succ]
      refine wpAnyH_ready (rs := [8]) (by kernel_rfl) (by simp) ?_
      refine AllReadyH.cons rfl (fun K hK => ?_) (AllReadyH.nil)
      go_simp
      refine hK.out _ _ bn (fun hHeld2 => ?_)
      clear hK K hHeld1
      set_option linter.unusedSimpArgs false in try simp only [Act.put, List.getElem_toArray, List.getElem_cons_succ, List.getElem_cons_zero, List.setIfInBounds_toArray, List.set_cons_zero, List.set_cons_succ]
      refine wpAnyH_done (by kernel_rfl) ?_ _
      go_wp2_with fail
      go_roundw
      case rel => exact ⟨1, _, _, by go_num, .inr (.inl ⟨rfl, rfl, rfl⟩), hA2, hB2, hR2, hb2⟩
      case measure => simp [intOf]
    · have hA2 := (show BlkIs wr.drew w.heap.size 98 _ from hA).set 1 (.int .u64 ((b ||| d : Nat) : Int))
      simp at hA2
      have hB2 := (show BlkIs wr.drew (w.heap.size + 1) 98 _ from hB).far (show w.heap.size + 1 ≠ w.heap.size by omega) 1 (.int .u64 ((b ||| d : Nat) : Int))
      have hR2 := (show BlkIs wr.drew (w.heap.size + 2) 98 _ from hR).far (show w.heap.size + 2 ≠ w.heap.size by omega) 1 (.int .u64 ((b ||| d : Nat) : Int))
      have hb2 := hb.drew.setCell (p := ⟨w.heap.size, 1, none⟩) (Nat.le_refl _) (.int .u64 ((b ||| d : Nat) : Int))
      clear hA hB hR hb
      have bn := hB2.cell 1
      simp at bn
      go_upto_region 4 with fail
      refine wp_region_held_drew (S := fun w' => w'.cell? ⟨w.heap.size + 1, 1, none⟩ = some (.int .u64 (d : Int))) (by kernel_rfl) b1 ?_
      intro hHeld0
      refine wpAnyH_take (i := 0) (v := ?_) rfl (by kernel_rfl) (by kernel_rfl) (by kernel_rfl) (fun _ _ _ h => h) (Or.inl ⟨by kernel_rfl, ?_⟩) (by assumption) ?_
      rotate_left
      · intro w9 hS9; (try dsimp only at hS9); go_simp; (try with_reducible rfl)
      set_option linter.unusedSimpArgs false in try simp only [Act.put, List.getElem_toArray, List.getElem_cons_succ, List.getElem_cons_zero, List.setIfInBounds_toArray, List.set_cons_zero, List.set_cons_succ]
      refine wpAnyH_take (i := 1) (v := ?_) rfl (by kernel_rfl) (by kernel_rfl) (by kernel_rfl) (fun _ _ _ h => h) (Or.inl ⟨by kernel_rfl, ?_⟩) (by assumption) ?_
      rotate_left
      · intro w9 hS9; (try dsimp only at hS9); go_simp; (try with_reducible rfl)
      set_option linter.unusedSimpArgs false in try simp only [Act.put, List.getElem_toArray, List.getElem_cons_succ, List.getElem_cons_zero, List.setIfInBounds_toArray, List.set_cons_zero, List.set_cons_succ]
      refine wpAnyH_take (i := 3) (v := ?_) rfl (by kernel_rfl) (by kernel_rfl) (by kernel_rfl) (fun _ _ _ h => h) (Or.inl ⟨by kernel_rfl, ?_⟩) (by assumption) ?_
      rotate_left
      · intro w9 hS9; (try dsimp only at hS9); go_simp; (try with_reducible rfl)
      set_option linter.unusedSimpArgs false in try simp only [Act.put, List.getElem_toArray, List.getElem_cons_succ, List.getElem_cons_zero, List.setIfInBounds_toArray, List.set_cons_zero, List.set_cons_succ]
      refine wpAnyH_take (i := 4) (v := ?_) rfl (by kernel_rfl) (by kernel_rfl) (by kernel_rfl) (fun _ _ _ h => h) (Or.inl ⟨by kernel_rfl, ?_⟩) (by assumption) ?_
      rotate_left
      · intro w9 hS9; (try dsimp only at hS9); go_simp; (try with_reducible rfl)
      set_option linter.unusedSimpArgs false in try simp only [Act.put, List.getElem_toArray, List.getElem_cons_succ, List.getElem_cons_zero, List.setIfInBounds_toArray, List.set_cons_zero, List.set_cons_succ]
      refine wpAnyH_take (i := 5) (v := ?_) rfl (by kernel_rfl) (by kernel_rfl) (by kernel_rfl) (fun _ _ _ h => h) (Or.inl ⟨by kernel_rfl, ?_⟩) (by assumption) ?_
      rotate_left
      · intro w9 hS9; (try dsimp only at hS9); go_simp; (try with_reducible rfl)
      set_option linter.unusedSimpArgs false in try simp only [Act.put, List.getElem_toArray, List.getElem_cons_succ, List.getElem_cons_zero, List.setIfInBounds_toArray, List.set_cons_zero, List.set_cons_succ]
      refine wpAnyH_ready (rs := [2]) (by kernel_rfl) (by simp) ?_
      refine AllReadyH.cons rfl (fun K hK => ?_) (AllReadyH.nil)
      go_simp
      refine hK.out _ _ b1 (fun hHeld1 => ?_)
      clear hK K hHeld0
      set_option linter.unusedSimpArgs false in try simp only [Act.put, List.getElem_toArray, List.getElem_cons_succ, List.getElem_cons_zero, List.setIfInBounds_toArray, List.set_cons_zero, List.set_cons_succ]
      refine wpAnyH_take (i := 6) (v := ?_) rfl (by kernel_rfl) (by kernel_rfl) (by kernel_rfl) (fun _ _ _ h => h) (Or.inl ⟨by kernel_rfl, ?_⟩) (by assumption) ?_
      rotate_left
      · intro w9 hS9; (try dsimp only at hS9); go_simp; (try with_reducible rfl)
      set_option linter.unusedSimpArgs false in try simp only [Act.put, List.getElem_toArray, List.getElem_cons_succ, List.getElem_cons_zero, List.setIfInBounds_toArray, List.set_cons_zero, List.set_cons_succ]
      refine wpAnyH_take (i := 7) (v := ?_) rfl (by kernel_rfl) (by kernel_rfl) (by kernel_rfl) (fun _ _ _ h => h) (Or.inl ⟨by kernel_rfl, ?_⟩) (by assumption) ?_
      rotate_left
      · intro w9 hS9; (try dsimp only at hS9); go_simp; (try with_reducible rfl)
      set_option linter.unusedSimpArgs false in try simp only [Act.put, List.getElem_toArray, List.getElem_cons_succ, List.getElem_cons_zero, List.setIfInBounds_toArray, List.set_cons_zero, List.set_cons_succ]
      refine wpAnyH_ready (rs := [8]) (by kernel_rfl) (by simp) ?_
      refine AllReadyH.cons rfl (fun K hK => ?_) (AllReadyH.nil)
      go_simp
      refine hK.out _ _ bn (fun hHeld2 => ?_)
      clear hK K hHeld1
      set_option linter.unusedSimpArgs false in try simp only [Act.put, List.getElem_toArray, List.getElem_cons_succ, List.getElem_cons_zero, List.setIfInBounds_toArray, List.set_cons_zero, List.set_cons_succ]
      refine wpAnyH_done (by kernel_rfl) ?_ _
      go_wp2_with fail
      go_roundw
      case rel => exact ⟨2, _, _, by go_num, .inr (.inr ⟨rfl, rfl, rfl⟩), hA2, hB2, hR2, hb2⟩
      case measure => simp [intOf]
    · have y0 := hR.frozen 0
      have y1 := hR.frozen 1
      have z0 := hR.cell 0
      have z1 := hR.cell 1
      simp at z0 z1
      have hR3 := (hR.set 0 (.int .u64 ((a ||| c : Nat) : Int))).set 1 (.int .u64 ((b ||| d : Nat) : Int))
      simp at hR3
      have r0 := hR3.cell 0
      have r1 := hR3.cell 1
      simp at r0 r1
      have hb3 := (hb.setCell (p := ⟨w.heap.size + 2, 0, none⟩) (by show w.heap.size ≤ w.heap.size + 2; omega) (.int .u64 ((a ||| c : Nat) : Int))).setCell (p := ⟨w.heap.size + 2, 1, none⟩) (by show w.heap.size ≤ w.heap.size + 2; omega) (.int .u64 ((b ||| d : Nat) : Int))
      clear hA hB hR hb
      go_wp2_with fail
      refine bodyPost_ret (v := .agg #[.int .u64 ((a ||| c : Nat) : Int), .int .u64 ((b ||| d : Nat) : Int)]) (by simp [results, Tryz.results88, go_sem, r0, r1]) rfl ?_
      exact ⟨rfl, hb3⟩
end Go.Proofs.YtdmcpabpjhinhaaGreatDoor
