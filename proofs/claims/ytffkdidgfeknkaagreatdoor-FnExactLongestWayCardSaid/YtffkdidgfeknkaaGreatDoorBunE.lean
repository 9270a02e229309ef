/-
  Several texts in one: Bits, SetP, ReachS, UnreP, OpnP, SetI, SetO. Conditions: as each says.
-/
import Derived.Test.YtffkdidgfeknkaaGreatDoorOwn
import Derived.WalkSmall
import Derived.Laws.Bits64b
import Derived.Deep.RegionHeld3
import Derived.Test.YtffkdidgfeknkaaGreatDoorBlk
import Derived.Lib.TrailingZeros
import Derived.Test.YtffkdidgfeknkaaGreatDoorBunB
import Derived.Test.YtffkdidgfeknkaaGreatDoorBunC
import Derived.Test.YtffkdidgfeknkaaGreatDoorPoint
import Derived.Test.YtffkdidgfeknkaaGreatDoorInts

/-! Sets of places as two words: has, with. Conditions: places below 128. -/
namespace Go.Proofs.YtffkdidgfeknkaaGreatDoor
set_option linter.unusedVariables false
open Go.RowKit

/-- The words of a set of places below 128, which is a number. -/
def loW (S : Nat) : Nat := S % 2 ^ 64
def hiW (S : Nat) : Nat := S / 2 ^ 64
theorem loW_lt (S : Nat) : loW S < 18446744073709551616 := Nat.mod_lt _ (by decide)
theorem hiW_lt {S : Nat} (h : S < 2 ^ 128) : hiW S < 18446744073709551616 := by
  unfold hiW
  exact Nat.div_lt_of_lt_mul (by simpa [← Nat.pow_add] using h)
def putS (S k : Nat) : Nat := S ||| 2 ^ k
theorem putS_lt {S k : Nat} (h : S < 2 ^ 128) (hk : k < 128) : putS S k < 2 ^ 128 :=
  Nat.or_lt_two_pow h (Nat.pow_lt_pow_right (by decide) hk)
theorem putS_bit (S k j : Nat) : (putS S k).testBit j = (S.testBit j || decide (k = j)) := by
  unfold putS
  rw [Nat.testBit_or, Nat.testBit_two_pow]
theorem putS_lo {S k : Nat} (hk : k < 64) : loW (putS S k) = loW S ||| 2 ^ k ∧ hiW (putS S k) = hiW S := by
  constructor
  · apply Nat.eq_of_testBit_eq
    intro j
    simp only [loW, putS, Nat.testBit_mod_two_pow, Nat.testBit_or, Nat.testBit_two_pow]
    by_cases hj : j < 64
    · simp [hj]
    · simp [hj]; omega
  · apply Nat.eq_of_testBit_eq
    intro j
    simp only [hiW, putS, Nat.testBit_div_two_pow, Nat.testBit_or, Nat.testBit_two_pow]
    simp; omega
theorem putS_hi {S k : Nat} (hk : 64 ≤ k) : loW (putS S k) = loW S ∧ hiW (putS S k) = hiW S ||| 2 ^ (k - 64) := by
  constructor
  · apply Nat.eq_of_testBit_eq
    intro j
    simp only [loW, putS, Nat.testBit_mod_two_pow, Nat.testBit_or, Nat.testBit_two_pow]
    by_cases hj : j < 64
    · simp [hj]; omega
    · simp [hj]
  · apply Nat.eq_of_testBit_eq
    intro j
    simp only [hiW, putS, Nat.testBit_div_two_pow, Nat.testBit_or, Nat.testBit_two_pow]
    congr 1
    rw [Bool.eq_iff_iff]; simp; omega
theorem bit_lo {S k : Nat} (hk : k < 64) : S.testBit k = decide (loW S / 2 ^ k % 2 = 1) := by
  have : (loW S).testBit k = S.testBit k := by unfold loW; rw [Nat.testBit_mod_two_pow]; simp only [hk, decide_true, Bool.true_and]
  rw [← this, Nat.testBit_eq_decide_div_mod_eq]
theorem bit_hi {S k : Nat} (hk : 64 ≤ k) : S.testBit k = decide (hiW S / 2 ^ (k - 64) % 2 = 1) := by
  have : (hiW S).testBit (k - 64) = S.testBit k := by
    simp only [hiW, Nat.testBit_div_two_pow]
    rw [show k - 64 + 64 = k by omega]
  rw [← this, Nat.testBit_eq_decide_div_mod_eq]
theorem orS_lo (S T : Nat) : loW (S ||| T) = loW S ||| loW T ∧ hiW (S ||| T) = hiW S ||| hiW T := by
  constructor
  · apply Nat.eq_of_testBit_eq
    intro j
    simp only [loW, Nat.testBit_mod_two_pow, Nat.testBit_or]
    by_cases hj : j < 64 <;> simp [hj]
  · apply Nat.eq_of_testBit_eq
    intro j
    simp only [hiW, Nat.testBit_div_two_pow, Nat.testBit_or]
/-- A set of places as the program has it. -/
def pS (S : Nat) : Value := .agg #[.int .u64 (loW S : Nat), .int .u64 (hiW S : Nat)]

theorem has_val (L n : Nat) (h : L < 18446744073709551616) : (bits BinOp.and IntKind.u64 ((L : Int) / 2 ^ n) 1 == 1) = decide (L / 2 ^ n % 2 = 1) := by
  have e : (L : Int) / 2 ^ n = ((L / 2 ^ n : Nat) : Int) := by simp
  have hl : L / 2 ^ n < 18446744073709551616 := Nat.lt_of_le_of_lt (Nat.div_le_self _ _) h
  rw [e, show (1 : Int) = ((1 : Nat) : Int) from rfl, bits_and_u64_nat _ _ hl (by omega), Nat.and_one_is_mod]
  rw [Bool.eq_iff_iff]; simp; omega
theorem put_val (L n : Nat) (h : L < 18446744073709551616) (hn : n < 64) : bits BinOp.or IntKind.u64 (L : Int) ((2 : Int) ^ n) = ((L ||| 2 ^ n : Nat) : Int) := by
  have hp : 2 ^ n < 18446744073709551616 := Nat.lt_of_lt_of_le (Nat.pow_lt_pow_right (by decide) hn) (by decide)
  rw [show (2 : Int) ^ n = ((2 ^ n : Nat) : Int) by simp, bits_or_u64_nat _ _ h hp]

set_option maxRecDepth 100000 in
set_option maxHeartbeats 2000000 in
theorem has_c (S k : Nat) (w : World) (hS : S < 2 ^ 128) (hk : k < 128) :
    Calls Tryz.prog 75 #[.agg #[.int .u64 (loW S : Nat), .int .u64 (hiW S : Nat)], .int .i64 (k : Int)] w fun e w' => e = .returned (.bool (S.testBit k)) ∧ Below w.heap.size w w' := by
  have hb0 := bnew w (.cells #[.int .u64 (loW S : Nat), .int .u64 (hiW S : Nat)] 68)
  have hl := loW_lt S
  have hh := hiW_lt hS
  by_cases h64 : k < 64
  · have HB := Lib.hid (bit_lo (S := S) h64)
    have e1 : (k : Int) / 64 = 0 := by omega
    have e2 : (k : Int) % 64 = k := by omega
    go_enter Tryz.func75, Tryz.ntmps75
    go_wp2_with fail
    go_ret
    exact ⟨ret_bool (by rw [HB.out]; exact has_val _ _ hl), hb0⟩
  · have HB := Lib.hid (bit_hi (S := S) (by omega : 64 ≤ k))
    have e1 : (k : Int) / 64 = 1 := by omega
    obtain ⟨q, hq⟩ : ∃ q, k = q + 64 := ⟨k - 64, by omega⟩
    have e2 : (k : Int) % 64 = (q : Int) := by omega
    rw [show k - 64 = q by omega] at HB
    clear hq
    go_enter Tryz.func75, Tryz.ntmps75
    go_wp2_with fail
    go_ret
    exact ⟨ret_bool (by rw [HB.out]; exact has_val _ _ hh), hb0⟩

theorem shl_wrap (k : Nat) (hk : k < 64) : IntKind.u64.wrap ((2 : Int) ^ k) = (2 : Int) ^ k := by
  have hp : 2 ^ k < 18446744073709551616 := Nat.lt_of_lt_of_le (Nat.pow_lt_pow_right (by decide) hk) (by decide)
  rw [show (2 : Int) ^ k = ((2 ^ k : Nat) : Int) by simp]
  generalize 2 ^ k = N at hp ⊢
  exact IntWalk.u64_in _ (by omega)

set_option maxRecDepth 100000 in
set_option maxHeartbeats 2000000 in
theorem with_c (S k : Nat) (w : World) (hS : S < 2 ^ 128) (hk : k < 128) :
    Calls Tryz.prog 77 #[.agg #[.int .u64 (loW S : Nat), .int .u64 (hiW S : Nat)], .int .i64 (k : Int)] w fun e w' => e = .returned (.agg #[.int .u64 (loW (putS S k) : Nat), .int .u64 (hiW (putS S k) : Nat)]) ∧ Below w.heap.size w w' := by
  have hb0 : Below w.heap.size w ((w.alloc (.cells #[.int .u64 (loW S : Nat), .int .u64 (hiW S : Nat)] 68)).alloc (.cells #[.int .u64 0, .int .u64 0] 68)) := bon (bnew _ _) (bnew _ _)
  have hl := loW_lt S
  have hh := hiW_lt hS
  by_cases h64 : k < 64
  · have HB := Lib.hid (putS_lo (S := S) h64)
    have e1 : (k : Int).tdiv 64 = 0 := by rw [Int.tdiv_eq_ediv_of_nonneg (by omega)]; omega
    have e2 : (k : Int).tmod 64 = k := by rw [Int.tmod_eq_emod_of_nonneg (by omega)]; omega
    have e3 : IntKind.i64.wrap 0 = 0 := by rfl
    have e4 := shl_wrap k h64
    have e5 := put_val (loW S) k hl h64
    go_enter Tryz.func77, Tryz.ntmps77
    have hB : BlkIs ((w.alloc (.cells #[.int .u64 (loW S : Nat), .int .u64 (hiW S : Nat)] 68)).alloc (.cells #[.int .u64 0, .int .u64 0] 68)).drew w.heap.size 68 #[.int .u64 (loW S : Nat), .int .u64 (hiW S : Nat)] := (blk_new w _ _ _ rfl).next (bnew _ _).drew
    go_wp2_with fail
    refine wp_region_held_drew (S := fun _ => True) (by kernel_rfl) trivial ?_
    intro hHeld0
    refine wpAnyH_take (i := 0) (v := ?_) rfl (by kernel_rfl) (by kernel_rfl) (by kernel_rfl) (fun _ _ _ h => h) (Or.inl ⟨by kernel_rfl, ?_⟩) (by assumption) ?_
    rotate_left
    · intro w9 hS9; (try dsimp only at hS9); go_simp; (try with_reducible rfl)
    set_option linter.unusedSimpArgs false in try simp only [Act.put, List.getElem_toArray, List.getElem_cons_succ, List.getElem_cons_zero, List.setIfInBounds_toArray, List.set_cons_zero, List.set_cons_succ]
    refine wpAnyH_take (i := 1) (v := ?_) rfl (by kernel_rfl) (by kernel_rfl) (by kernel_rfl) (fun _ _ _ h => h) (Or.inl ⟨by kernel_rfl, ?_⟩) (by assumption) ?_
    rotate_left
    · intro w9 hS9; (try dsimp only at hS9); go_simp; (try with_reducible rfl)
    set_option linter.unusedSimpArgs false in try simp only [Act.put, List.getElem_toArray, List.getElem_cons_succ, List.getElem_cons_zero, List.setIfInBounds_toArray, List.set_cons_zero, List.set_cons_succ]
    refine wpAnyH_take (i := 2) (v := ?_) rfl (by kernel_rfl) (by kernel_rfl) (by kernel_rfl) (fun _ _ _ h => h) (Or.inl ⟨by kernel_rfl, ?_⟩) (by assumption) ?_
    rotate_left
    · intro w9 hS9; (try dsimp only at hS9); go_simp; (try with_reducible rfl)
    set_option linter.unusedSimpArgs false in try simp only [Act.put, List.getElem_toArray, List.getElem_cons_succ, List.getElem_cons_zero, List.setIfInBounds_toArray, List.set_cons_zero, List.set_cons_succ]
    refine wpAnyH_take (i := 4) (v := ?_) rfl (by kernel_rfl) (by kernel_rfl) (by kernel_rfl) (fun _ _ _ h => h) (Or.inl ⟨by kernel_rfl, ?_⟩) (by assumption) ?_
    rotate_left
    · intro w9 hS9; (try dsimp only at hS9); go_simp; (try with_reducible rfl)
    set_option linter.unusedSimpArgs false in try simp only [Act.put, List.getElem_toArray, List.getElem_cons_succ, List.getElem_cons_zero, List.setIfInBounds_toArray, List.set_cons_zero, List.set_cons_succ]
    refine wpAnyH_take (i := 5) (v := ?_) rfl (by kernel_rfl) (by kernel_rfl) (by kernel_rfl) (fun _ _ _ h => h) (Or.inl ⟨by kernel_rfl, ?_⟩) (by assumption) ?_
    rotate_left
    · intro w9 hS9; (try dsimp only at hS9); go_simp; (try with_reducible rfl)
    set_option linter.unusedSimpArgs false in try simp only [Act.put, List.getElem_toArray, List.getElem_cons_succ, List.getElem_cons_zero, List.setIfInBounds_toArray, List.set_cons_zero, List.set_cons_succ]
    refine wpAnyH_take (i := 6) (v := ?_) rfl (by kernel_rfl) (by kernel_rfl) (by kernel_rfl) (fun _ _ _ h => h) (Or.inl ⟨by kernel_rfl, ?_⟩) (by assumption) ?_
    rotate_left
    · intro w9 hS9; (try dsimp only at hS9); go_simp; (try with_reducible rfl)
    set_option linter.unusedSimpArgs false in try simp only [Act.put, List.getElem_toArray, List.getElem_cons_succ, List.getElem_cons_zero, List.setIfInBounds_toArray, List.set_cons_zero, List.set_cons_succ]
    refine wpAnyH_ready (rs := [3]) (by kernel_rfl) (by simp) ?_
    refine AllReadyH.cons rfl (fun K hK => ?_) (AllReadyH.nil)
    have z := hB.cell 0
    simp at z
    go_simp
    refine hK.out _ _ trivial (fun hHeld1 => ?_)
    clear hK K hHeld0
    set_option linter.unusedSimpArgs false in try simp only [Act.put, List.getElem_toArray, List.getElem_cons_succ, List.getElem_cons_zero, List.setIfInBounds_toArray, List.set_cons_zero, List.set_cons_succ]
    refine wpAnyH_take (i := 7) (v := ?_) rfl (by kernel_rfl) (by kernel_rfl) (by kernel_rfl) (fun _ _ _ h => h) (Or.inl ⟨by kernel_rfl, ?_⟩) (by assumption) ?_
    rotate_left
    · intro w9 hS9; (try dsimp only at hS9); go_simp; (try with_reducible rfl)
    set_option linter.unusedSimpArgs false in try simp only [Act.put, List.getElem_toArray, List.getElem_cons_succ, List.getElem_cons_zero, List.setIfInBounds_toArray, List.set_cons_zero, List.set_cons_succ]
    refine wpAnyH_take (i := 8) (v := ?_) rfl (by kernel_rfl) (by kernel_rfl) (by kernel_rfl) (fun _ _ _ h => h) (Or.inl ⟨by kernel_rfl, ?_⟩) (by assumption) ?_
    rotate_left
    · intro w9 hS9; (try dsimp only at hS9); go_simp; (try with_reducible rfl)
    set_option linter.unusedSimpArgs false in try simp only [Act.put, List.getElem_toArray, List.getElem_cons_succ, List.getElem_cons_zero, List.setIfInBounds_toArray, List.set_cons_zero, List.set_cons_succ]
    refine wpAnyH_ready (rs := [9]) (by kernel_rfl) (by simp) ?_
    refine AllReadyH.cons rfl (fun K hK => ?_) (AllReadyH.nil)
    have z1 := hB.cell 0
    have f1 := hB.frozen 0
    simp at z1
    go_simp
    refine hK.out _ _ trivial (fun hHeld2 => ?_)
    clear hK K hHeld1
    set_option linter.unusedSimpArgs false in try simp only [Act.put, List.getElem_toArray, List.getElem_cons_succ, List.getElem_cons_zero, List.setIfInBounds_toArray, List.set_cons_zero, List.set_cons_succ]
    refine wpAnyH_done (by kernel_rfl) ?_ _
    go_wp2_with fail
    refine bodyPost_ret (v := .agg #[.int .u64 ((loW S ||| 2 ^ k : Nat) : Int), .int .u64 (hiW S : Nat)]) (by simp [results, Tryz.results77, go_sem]) rfl ?_
    exact ⟨by rw [HB.out.1, HB.out.2], (bon (bnew _ _) (bnew _ _)).drew⟩
  · have HB := Lib.hid (putS_hi (S := S) (by omega : 64 ≤ k))
    obtain ⟨q, hq⟩ : ∃ q, k = q + 64 := ⟨k - 64, by omega⟩
    have e1 : (k : Int).tdiv 64 = 1 := by rw [Int.tdiv_eq_ediv_of_nonneg (by omega)]; omega
    have e2 : (k : Int).tmod 64 = (q : Int) := by rw [Int.tmod_eq_emod_of_nonneg (by omega)]; omega
    have e3 : IntKind.i64.wrap 1 = 1 := by rfl
    have hq64 : q < 64 := by omega
    have e4 := shl_wrap q hq64
    have e5 := put_val (hiW S) q hh hq64
    rw [show k - 64 = q by omega] at HB
    clear hq
    go_enter Tryz.func77, Tryz.ntmps77
    have hB : BlkIs ((w.alloc (.cells #[.int .u64 (loW S : Nat), .int .u64 (hiW S : Nat)] 68)).alloc (.cells #[.int .u64 0, .int .u64 0] 68)).drew w.heap.size 68 #[.int .u64 (loW S : Nat), .int .u64 (hiW S : Nat)] := (blk_new w _ _ _ rfl).next (bnew _ _).drew
    go_wp2_with fail
    refine wp_region_held_drew (S := fun _ => True) (by kernel_rfl) trivial ?_
    intro hHeld0
    refine wpAnyH_take (i := 0) (v := ?_) rfl (by kernel_rfl) (by kernel_rfl) (by kernel_rfl) (fun _ _ _ h => h) (Or.inl ⟨by kernel_rfl, ?_⟩) (by assumption) ?_
    rotate_left
    · intro w9 hS9; (try dsimp only at hS9); go_simp; (try with_reducible rfl)
    set_option linter.unusedSimpArgs false in try simp only [Act.put, List.getElem_toArray, List.getElem_cons_succ, List.getElem_cons_zero, List.setIfInBounds_toArray, List.set_cons_zero, List.set_cons_succ]
    refine wpAnyH_take (i := 1) (v := ?_) rfl (by kernel_rfl) (by kernel_rfl) (by kernel_rfl) (fun _ _ _ h => h) (Or.inl ⟨by kernel_rfl, ?_⟩) (by assumption) ?_
    rotate_left
    · intro w9 hS9; (try dsimp only at hS9); go_simp; (try with_reducible rfl)
    set_option linter.unusedSimpArgs false in try simp only [Act.put, List.getElem_toArray, List.getElem_cons_succ, List.getElem_cons_zero, List.setIfInBounds_toArray, List.set_cons_zero, List.set_cons_succ]
    refine wpAnyH_take (i := 2) (v := ?_) rfl (by kernel_rfl) (by kernel_rfl) (by kernel_rfl) (fun _ _ _ h => h) (Or.inl ⟨by kernel_rfl, ?_⟩) (by assumption) ?_
    rotate_left
    · intro w9 hS9; (try dsimp only at hS9); go_simp; (try with_reducible rfl)
    set_option linter.unusedSimpArgs false in try simp only [Act.put, List.getElem_toArray, List.getElem_cons_succ, List.getElem_cons_zero, List.setIfInBounds_toArray, List.set_cons_zero, List.set_cons_succ]
    refine wpAnyH_take (i := 4) (v := ?_) rfl (by kernel_rfl) (by kernel_rfl) (by kernel_rfl) (fun _ _ _ h => h) (Or.inl ⟨by kernel_rfl, ?_⟩) (by assumption) ?_
    rotate_left
    · intro w9 hS9; (try dsimp only at hS9); go_simp; (try with_reducible rfl)
    set_option linter.unusedSimpArgs false in try simp only [Act.put, List.getElem_toArray, List.getElem_cons_succ, List.getElem_cons_zero, List.setIfInBounds_toArray, List.set_cons_zero, List.set_cons_succ]
    refine wpAnyH_take (i := 5) (v := ?_) rfl (by kernel_rfl) (by kernel_rfl) (by kernel_rfl) (fun _ _ _ h => h) (Or.inl ⟨by kernel_rfl, ?_⟩) (by assumption) ?_
    rotate_left
    · intro w9 hS9; (try dsimp only at hS9); go_simp; (try with_reducible rfl)
    set_option linter.unusedSimpArgs false in try simp only [Act.put, List.getElem_toArray, List.getElem_cons_succ, List.getElem_cons_zero, List.setIfInBounds_toArray, List.set_cons_zero, List.set_cons_succ]
    refine wpAnyH_take (i := 6) (v := ?_) rfl (by kernel_rfl) (by kernel_rfl) (by kernel_rfl) (fun _ _ _ h => h) (Or.inl ⟨by kernel_rfl, ?_⟩) (by assumption) ?_
    rotate_left
    · intro w9 hS9; (try dsimp only at hS9); go_simp; (try with_reducible rfl)
    set_option linter.unusedSimpArgs false in try simp only [Act.put, List.getElem_toArray, List.getElem_cons_succ, List.getElem_cons_zero, List.setIfInBounds_toArray, List.set_cons_zero, List.set_cons_succ]
    refine wpAnyH_ready (rs := [3]) (by kernel_rfl) (by simp) ?_
    refine AllReadyH.cons rfl (fun K hK => ?_) (AllReadyH.nil)
    have z := hB.cell 1
    simp at z
    go_simp
    refine hK.out _ _ trivial (fun hHeld1 => ?_)
    clear hK K hHeld0
    set_option linter.unusedSimpArgs false in try simp only [Act.put, List.getElem_toArray, List.getElem_cons_succ, List.getElem_cons_zero, List.setIfInBounds_toArray, List.set_cons_zero, List.set_cons_succ]
    refine wpAnyH_take (i := 7) (v := ?_) rfl (by kernel_rfl) (by kernel_rfl) (by kernel_rfl) (fun _ _ _ h => h) (Or.inl ⟨by kernel_rfl, ?_⟩) (by assumption) ?_
    rotate_left
    · intro w9 hS9; (try dsimp only at hS9); go_simp; (try with_reducible rfl)
    set_option linter.unusedSimpArgs false in try simp only [Act.put, List.getElem_toArray, List.getElem_cons_succ, List.getElem_cons_zero, List.setIfInBounds_toArray, List.set_cons_zero, List.set_cons_succ]
    refine wpAnyH_take (i := 8) (v := ?_) rfl (by kernel_rfl) (by kernel_rfl) (by kernel_rfl) (fun _ _ _ h => h) (Or.inl ⟨by kernel_rfl, ?_⟩) (by assumption) ?_
    rotate_left
    · intro w9 hS9; (try dsimp only at hS9); go_simp; (try with_reducible rfl)
    set_option linter.unusedSimpArgs false in try simp only [Act.put, List.getElem_toArray, List.getElem_cons_succ, List.getElem_cons_zero, List.setIfInBounds_toArray, List.set_cons_zero, List.set_cons_succ]
    refine wpAnyH_ready (rs := [9]) (by kernel_rfl) (by simp) ?_
    refine AllReadyH.cons rfl (fun K hK => ?_) (AllReadyH.nil)
    have z1 := hB.cell 1
    have f1 := hB.frozen 1
    simp at z1
    go_simp
    refine hK.out _ _ trivial (fun hHeld2 => ?_)
    clear hK K hHeld1
    set_option linter.unusedSimpArgs false in try simp only [Act.put, List.getElem_toArray, List.getElem_cons_succ, List.getElem_cons_zero, List.setIfInBounds_toArray, List.set_cons_zero, List.set_cons_succ]
    refine wpAnyH_done (by kernel_rfl) ?_ _
    go_wp2_with fail
    refine bodyPost_ret (v := .agg #[.int .u64 (loW S : Nat), .int .u64 ((hiW S ||| 2 ^ q : Nat) : Int)]) (by simp [results, Tryz.results77, go_sem]) rfl ?_
    exact ⟨by rw [HB.out.1, HB.out.2], (bon (bnew _ _) (bnew _ _)).drew⟩
end Go.Proofs.YtffkdidgfeknkaaGreatDoor

/-! The elements of a set of places, in their order: pure. No conditions. -/
namespace Go.Proofs.YtffkdidgfeknkaaGreatDoor
set_option linter.unusedVariables false

/-- The bits of a word. -/
def bitsW (x : Nat) : List Nat := (List.range 64).filter x.testBit
/-- The elements of a set. -/
def bitsL (S : Nat) : List Nat := bitsW (loW S) ++ (bitsW (hiW S)).map (· + 64)
theorem bitsW_zero : bitsW 0 = [] := by decide
theorem low_bits {x : Nat} (h0 : x ≠ 0) (hx : x < 2 ^ 64) : (∀ j, j < Lib.ctz 64 x → x.testBit j = false) ∧ x.testBit (Lib.ctz 64 x) = true ∧ Lib.ctz 64 x < 64 ∧ ∀ j, (x &&& (x - 1)).testBit j = (x.testBit j && decide (Lib.ctz 64 x < j)) := by
  obtain ⟨m, hm, hk⟩ := Lib.ctzFrom_spec 64 x (by omega) hx
  have e : Lib.ctz 64 x = Lib.ctzFrom 64 x := by simp [Lib.ctz, h0]
  rw [e]
  generalize Lib.ctzFrom 64 x = t at hm hk ⊢
  have hp : 0 < 2 ^ t := Nat.two_pow_pos t
  have b1 : ∀ j, x.testBit j = (decide (t ≤ j) && (2 * m + 1).testBit (j - t)) := fun j => by
    rw [hm, Nat.testBit_two_pow_mul]
  have e2 : x - 1 = 2 ^ t * (2 * m) + (2 ^ t - 1) := by
    rw [hm, Nat.mul_add, Nat.mul_one]; omega
  have b2 : ∀ j, (x - 1).testBit j = if j < t then (2 ^ t - 1).testBit j else (2 * m).testBit (j - t) := fun j => by
    rw [e2, Nat.testBit_two_pow_mul_add _ (by omega)]
  refine ⟨fun j hj => by rw [b1]; simp; omega, by rw [b1]; simp [Nat.testBit_zero], hk, fun j => ?_⟩
  rw [Nat.testBit_and, b1, b2]
  by_cases hj : j < t
  · simp [hj]; omega
  · rw [if_neg hj]
    by_cases hjt : j = t
    · subst hjt; simp [Nat.testBit_zero]
    · have h1 : t ≤ j := by omega
      have h2 : t < j := by omega
      obtain ⟨d, hd⟩ : ∃ d, j - t = d + 1 := ⟨j - t - 1, by omega⟩
      rw [hd, Nat.testBit_succ, Nat.testBit_succ]
      simp only [h1, h2, decide_true, Bool.true_and, Bool.and_true]
      rw [show (2 * m + 1) / 2 = m by omega, show 2 * m / 2 = m by omega, Bool.and_self]
theorem filter_first (p q : Nat → Bool) (n t : Nat) (ht : t < n) (h0 : ∀ j, j < t → p j = false) (h1 : p t = true) (hq : ∀ j, q j = (p j && decide (t < j))) : (List.range n).filter p = t :: (List.range n).filter q := by
  have e : List.range n = List.range t ++ t :: List.range' (t + 1) (n - t - 1) := by
    rw [List.range_eq_range', List.range_eq_range']
    have h2 : n = t + ((n - t - 1) + 1) := by omega
    conv => lhs; rw [h2]
    rw [← List.range'_append_1, Nat.zero_add, List.range'_succ]
  rw [e, List.filter_append, List.filter_append, List.filter_cons, List.filter_cons, if_pos h1]
  have a1 : (List.range t).filter p = [] := List.filter_eq_nil_iff.2 fun j hj => by rw [h0 j (List.mem_range.1 hj)]; decide
  have a2 : (List.range t).filter q = [] := List.filter_eq_nil_iff.2 fun j hj => by rw [hq, h0 j (List.mem_range.1 hj)]; simp
  have a3 : q t = false := by rw [hq]; simp
  rw [a1, a2, if_neg (by rw [a3]; decide), List.nil_append, List.nil_append]
  congr 1
  apply List.filter_congr
  intro j hj
  rw [List.mem_range'_1] at hj
  rw [hq]
  have : t < j := by omega
  simp [this]
theorem bitsW_next {x : Nat} (h0 : x ≠ 0) (hx : x < 2 ^ 64) : bitsW x = Lib.ctz 64 x :: bitsW (x &&& (x - 1)) := by
  obtain ⟨h1, h2, h3, h4⟩ := low_bits h0 hx
  exact filter_first _ _ _ _ h3 h1 h2 h4
theorem mem_bitsW {x : Nat} (hx : x < 2 ^ 64) (k : Nat) : k ∈ bitsW x ↔ x.testBit k = true := by
  unfold bitsW
  rw [List.mem_filter, List.mem_range]
  constructor
  · exact (·.2)
  · intro h
    refine ⟨?_, h⟩
    rcases Nat.lt_or_ge k 64 with hk | hk
    · exact hk
    · rw [Nat.testBit_lt_two_pow (Nat.lt_of_lt_of_le hx (Nat.pow_le_pow_right (by decide) hk))] at h; cases h
theorem mem_bitsL {S : Nat} (hS : S < 2 ^ 128) (k : Nat) : k ∈ bitsL S ↔ S.testBit k = true := by
  have hl := loW_lt S
  have hh := hiW_lt hS
  unfold bitsL
  rw [List.mem_append, List.mem_map]
  constructor
  · rintro (h | ⟨j, h, rfl⟩)
    · have hk : k < 64 := by
        unfold bitsW at h
        exact List.mem_range.1 (List.mem_filter.1 h).1
      rw [mem_bitsW (by omega)] at h
      rwa [loW, Nat.testBit_mod_two_pow, show decide (k < 64) = true by simp [hk], Bool.true_and] at h
    · rw [mem_bitsW (by omega)] at h
      rwa [hiW, Nat.testBit_div_two_pow] at h
  · intro h
    by_cases hk : k < 64
    · left
      rw [mem_bitsW (by omega), loW, Nat.testBit_mod_two_pow, show decide (k < 64) = true by simp [hk], Bool.true_and]; exact h
    · right
      refine ⟨k - 64, ?_, by omega⟩
      rw [mem_bitsW (by omega), hiW, Nat.testBit_div_two_pow, show k - 64 + 64 = k by omega]; exact h
theorem bitsL_len (S : Nat) : (bitsL S).length ≤ 128 := by
  unfold bitsL bitsW
  rw [List.length_append, List.length_map]
  have h1 := List.length_filter_le (loW S).testBit (List.range 64)
  have h2 := List.length_filter_le (hiW S).testBit (List.range 64)
  rw [List.length_range] at h1 h2
  omega
/-- The union of sets. -/
def allS (g : Nat → Nat) (K : List Nat) : Nat := K.foldl (fun R k => R ||| g k) 0
theorem allS_snoc (g : Nat → Nat) (K : List Nat) (k : Nat) : allS g (K ++ [k]) = allS g K ||| g k := by unfold allS; rw [List.foldl_append]; rfl
theorem allS_bit (g : Nat → Nat) (K : List Nat) (j : Nat) : (allS g K).testBit j = true ↔ ∃ k ∈ K, (g k).testBit j = true := by
  have key : ∀ (K : List Nat) (R : Nat), (K.foldl (fun R k => R ||| g k) R).testBit j = true ↔ R.testBit j = true ∨ ∃ k ∈ K, (g k).testBit j = true := by
    intro K
    induction K with
    | nil => intro R; simp
    | cons k K ih =>
      intro R
      rw [List.foldl_cons, ih, Nat.testBit_or, Bool.or_eq_true, or_assoc]
      simp
  unfold allS
  rw [key]; simp
theorem allS_lt {g : Nat → Nat} (hg : ∀ k, g k < 2 ^ 128) (K : List Nat) : allS g K < 2 ^ 128 := by
  have key : ∀ (K : List Nat) (R : Nat), R < 2 ^ 128 → K.foldl (fun R k => R ||| g k) R < 2 ^ 128 := by
    intro K
    induction K with
    | nil => intro R h; exact h
    | cons k K ih => intro R h; exact ih _ (Nat.or_lt_two_pow h (hg k))
  exact key K 0 (by decide)
/-- A set of places, one after another. -/
def putsS (S : Nat) (K : List Int) : Nat := K.foldl (fun R k => putS R k.toNat) S
theorem putsS_snoc (S : Nat) (K : List Int) (k : Int) : putsS S (K ++ [k]) = putS (putsS S K) k.toNat := by unfold putsS; rw [List.foldl_append]; rfl
theorem putsS_lt {S : Nat} (hS : S < 2 ^ 128) : ∀ {K : List Int}, (∀ k ∈ K, k.toNat < 128) → putsS S K < 2 ^ 128 := by
  intro K
  induction K generalizing S with
  | nil => intro _; exact hS
  | cons k K ih => intro h; exact ih (putS_lt hS (h k (List.mem_cons_self ..))) (fun j hj => h j (List.mem_cons_of_mem _ hj))
theorem putsS_bit (S : Nat) (K : List Int) (j : Nat) : (putsS S K).testBit j = true ↔ S.testBit j = true ∨ ∃ k ∈ K, k.toNat = j := by
  unfold putsS
  induction K generalizing S with
  | nil => simp
  | cons k K ih =>
    rw [List.foldl_cons, ih, putS_bit, Bool.or_eq_true, decide_eq_true_iff, or_assoc]
    simp
/-- How many places a set lacks. -/
def lackS (S : Nat) : Nat := ((List.range 128).filter fun k => !S.testBit k).length
theorem lackS_less {S T : Nat} (hT : T < 2 ^ 128) (hsub : ∀ j, S.testBit j = true → T.testBit j = true) (hne : T ≠ S) : lackS T < lackS S := by
  have key : ∀ l : List Nat, (l.filter fun k => !T.testBit k).length ≤ (l.filter fun k => !S.testBit k).length ∧ ((∃ k ∈ l, T.testBit k = true ∧ S.testBit k = false) → (l.filter fun k => !T.testBit k).length < (l.filter fun k => !S.testBit k).length) := by
    intro l
    induction l with
    | nil => exact ⟨Nat.le_refl _, fun ⟨k, hk, _⟩ => absurd hk (by simp)⟩
    | cons k l ih =>
      rw [List.filter_cons, List.filter_cons]
      have hk := hsub k
      cases hs : S.testBit k <;> cases ht : T.testBit k
      · simp only [Bool.not_false, if_true, List.length_cons]
        refine ⟨by omega, ?_⟩
        rintro ⟨j, hj, h1, h2⟩
        rcases List.mem_cons.1 hj with rfl | hj
        · rw [h1] at ht; cases ht
        · have := ih.2 ⟨j, hj, h1, h2⟩; omega
      · simp only [Bool.not_false, Bool.not_true, if_true, Bool.false_eq_true, if_false, List.length_cons]
        exact ⟨by omega, fun _ => by omega⟩
      · rw [hs, ht] at hk; exact absurd (hk rfl) (by decide)
      · simp only [Bool.not_true, Bool.false_eq_true, if_false]
        refine ⟨ih.1, ?_⟩
        rintro ⟨j, hj, h1, h2⟩
        rcases List.mem_cons.1 hj with rfl | hj
        · rw [h2] at hs; cases hs
        · exact ih.2 ⟨j, hj, h1, h2⟩
  refine (key _).2 ?_
  have : ∃ j, T.testBit j ≠ S.testBit j := by
    by_cases h : ∃ j, T.testBit j ≠ S.testBit j
    · exact h
    · exact absurd (Nat.eq_of_testBit_eq fun j => Classical.byContradiction fun h' => h ⟨j, h'⟩) hne
  obtain ⟨j, hj⟩ := this
  cases hs : S.testBit j
  · cases ht : T.testBit j
    · rw [hs, ht] at hj; exact absurd rfl hj
    · refine ⟨j, List.mem_range.2 ?_, ht, hs⟩
      rcases Nat.lt_or_ge j 128 with h | h
      · exact h
      · rw [Nat.testBit_lt_two_pow (Nat.lt_of_lt_of_le hT (Nat.pow_le_pow_right (by decide) h))] at ht; cases ht
  · rw [hs, hsub j hs] at hj; exact absurd rfl hj
end Go.Proofs.YtffkdidgfeknkaaGreatDoor

/-! What is reached over code from its beginning and its points, as sets of places: pure. No conditions. -/
namespace Go.Proofs.YtffkdidgfeknkaaGreatDoor
set_option linter.unusedVariables false

/-- The places behind an instruction that are within the code and have no point. -/
def gList (xs : List (Int × Int)) (ps : List Int) (k : Nat) : List Int := (tgtN xs k).filter fun t => decide (t < (xs.length : Int)) && !ps.contains t
def gN (xs : List (Int × Int)) (ps : List Int) (k : Nat) : Nat := putsS 0 (gList xs ps k)
theorem gN_lt {xs : List (Int × Int)} (hl : xs.length ≤ 80) (ps : List Int) (k : Nat) : gN xs ps k < 2 ^ 128 := by
  refine putsS_lt (by decide) fun t ht => ?_
  have := (List.mem_filter.1 ht).2
  simp at this
  omega
/-- Where the search begins. -/
def fromP (ps : List Int) : Int → Prop := fun t => t = 0 ∨ t ∈ ps
structure RchS (xs : List (Int × Int)) (ps : List Int) (R : Nat) : Prop where
  lt : R < 2 ^ 128
  zero : R.testBit 0 = true
  pts : ∀ p ∈ ps, R.testBit p.toNat = true
  ok : ∀ j, R.testBit j = true → j < xs.length ∧ RchP xs (fromP ps) j
theorem RchS.init {xs : List (Int × Int)} {ps : List Int} (hn : 0 < xs.length) (hl : xs.length ≤ 80) (hp : ∀ p ∈ ps, 0 ≤ p ∧ p < (xs.length : Int)) : RchS xs ps (putS (putsS 0 ps) 0) := by
  have hlt : putsS 0 ps < 2 ^ 128 := putsS_lt (by decide) fun p h => by have := hp p h; omega
  refine ⟨putS_lt hlt (by decide), by rw [putS_bit]; simp, fun p h => ?_, fun j hj => ?_⟩
  · rw [putS_bit, Bool.or_eq_true]; left; exact (putsS_bit 0 ps _).2 (.inr ⟨p, h, rfl⟩)
  · rw [putS_bit, Bool.or_eq_true, putsS_bit, decide_eq_true_iff] at hj
    rcases hj with (h | ⟨p, h, e⟩) | h
    · rw [Nat.zero_testBit] at h; cases h
    · have := hp p h
      have e' : (j : Int) = p := by omega
      exact ⟨by omega, .base (.inr (by rw [e']; exact h))⟩
    · subst h; exact ⟨hn, .base (.inl rfl)⟩
theorem RchS.next {xs : List (Int × Int)} {ps : List Int} {R : Nat} (hl : xs.length ≤ 80) (ht0 : ∀ k : Nat, k < xs.length → ∀ t ∈ tgtN xs k, 0 ≤ t) (h : RchS xs ps R) : RchS xs ps (R ||| allS (gN xs ps) (bitsL R)) := by
  refine ⟨Nat.or_lt_two_pow h.lt (allS_lt (gN_lt hl ps) _), by rw [Nat.testBit_or, h.zero]; rfl, fun p hp => by rw [Nat.testBit_or, h.pts p hp]; rfl, fun j hj => ?_⟩
  rw [Nat.testBit_or, Bool.or_eq_true, allS_bit] at hj
  rcases hj with hj | ⟨k, hk, hj⟩
  · exact h.ok j hj
  · rw [mem_bitsL h.lt] at hk
    obtain ⟨k1, k2⟩ := h.ok k hk
    rcases (putsS_bit 0 _ j).1 hj with h' | ⟨t, ht, e⟩
    · rw [Nat.zero_testBit] at h'; cases h'
    · obtain ⟨m1, m2⟩ := List.mem_filter.1 ht
      simp at m2
      have := ht0 k k1 t m1
      have e' : (j : Int) = t := by omega
      exact ⟨by omega, by rw [e']; exact .step k2 k1 m1⟩
theorem RchS.done {xs : List (Int × Int)} {ps : List Int} {R : Nat} (hl : xs.length ≤ 80) (ht0 : ∀ k : Nat, k < xs.length → ∀ t ∈ tgtN xs k, 0 ≤ t) (h : RchS xs ps R) (he : R ||| allS (gN xs ps) (bitsL R) = R) (k : Nat) (hk : k < xs.length) : R.testBit k = true ↔ RchP xs (fromP ps) k := by
  refine ⟨fun h' => (h.ok k h').2, fun hr => ?_⟩
  have key : ∀ t, RchP xs (fromP ps) t → t < xs.length → R.testBit t.toNat = true := by
    intro t ht
    induction ht with
    | base e =>
      intro _
      rcases e with rfl | e
      · exact h.zero
      · exact h.pts _ e
    | @step j t hj hjl htt ih =>
      intro hlt
      have hb := ih (by omega)
      rw [Int.toNat_natCast] at hb
      by_cases hp : t ∈ ps
      · exact h.pts _ hp
      · rw [← he, Nat.testBit_or, Bool.or_eq_true]
        right
        rw [allS_bit]
        refine ⟨j, (mem_bitsL h.lt j).2 hb, (putsS_bit 0 _ _).2 (.inr ⟨t, List.mem_filter.2 ⟨htt, ?_⟩, rfl⟩)⟩
        simp [hp]; exact hlt
  have := key _ hr (by omega)
  rwa [Int.toNat_natCast] at this
end Go.Proofs.YtffkdidgfeknkaaGreatDoor

/-! Code without what cannot be reached: pure. No conditions. -/
namespace Go.Proofs.YtffkdidgfeknkaaGreatDoor
set_option linter.unusedVariables false

/-- The places of points. -/
def atsP (ps : List P2) : List Int := ps.map fun p => p.a
theorem annB_ats {t0 t1 : List (Int × List Int)} {xs : List (Int × Int)} {ps : List P2} (h : annB t0 t1 xs ps = true) : ∀ p ∈ atsP ps, 0 ≤ p ∧ p < (xs.length : Int) := by
  obtain ⟨hc, _, _, hp⟩ := annB_parts h
  have key : ∀ {ps : List P2} {l : Int}, 0 ≤ l → ptsF (xs.length : Int) l ps = true → ∀ p ∈ atsP ps, 0 ≤ p ∧ p < (xs.length : Int) := by
    intro ps
    induction ps with
    | nil => intro l _ _ p hp; cases hp
    | cons q ps ih =>
      intro l hl h p hp
      unfold ptsF at h
      simp only [Bool.and_eq_true, decide_eq_true_eq] at h
      rcases List.mem_cons.1 hp with e | hp
      · have e' : p = q.a := e
        omega
      · exact ih (by omega) h.2 p hp
  unfold ptsB at hp
  simp only [Bool.and_eq_true, decide_eq_true_eq] at hp
  exact key (Int.le_refl 0) hp.2
theorem ptB_ats {ps : List P2} {k : Int} : ptB ps k = true ↔ k ∈ atsP ps := by
  unfold ptB atsP
  rw [List.any_eq_true, List.mem_map]
  constructor
  · rintro ⟨p, hp, h⟩; exact ⟨p, hp, by simpa using h⟩
  · rintro ⟨p, hp, h⟩; exact ⟨p, hp, by simpa using h⟩
theorem ptB_leave {ps : List P2} {j k : Nat} (h : k < j) : ptB (leaveP j ps) k = ptB ps k := by
  unfold ptB leaveP
  rw [List.any_map]
  congr 1
  funext p
  show decide ((subP j p).a = k) = decide (p.a = k)
  unfold subP
  split
  · rw [Bool.eq_iff_iff, decide_eq_true_iff, decide_eq_true_iff]
    show p.a - 1 = (k : Int) ↔ p.a = k
    omega
  · rfl
/-- An instruction that marks do not tell is left out; all of them below n, the last one first. -/
def dro1 (ms : List Bool) (k : Nat) (s : List (Int × Int) × List P2) : List (Int × Int) × List P2 := if ms.getD k true = true then s else (leaveC k s.1, leaveP k s.2)
def droN (ms : List Bool) : Nat → List (Int × Int) × List P2 → List (Int × Int) × List P2
  | 0, s => s
  | k + 1, s => droN ms k (dro1 ms k s)
theorem dro1_yes {ms : List Bool} {k : Nat} {s : List (Int × Int) × List P2} (h : ms[k]? = some true) : dro1 ms k s = s := by
  unfold dro1; rw [List.getD_eq_getElem?_getD, h]; exact if_pos rfl
theorem dro1_no {ms : List Bool} {k : Nat} {s : List (Int × Int) × List P2} (h : ms[k]? = some false) : dro1 ms k s = (leaveC k s.1, leaveP k s.2) := by
  unfold dro1; rw [List.getD_eq_getElem?_getD, h]; exact if_neg (by decide)
theorem totP2_leaveU (k : Nat) (ps : List P2) : totP2 (leaveP k ps) = totP2 ps := by
  unfold totP2 leaveP
  rw [List.map_map]
  congr 1
  apply List.map_congr_left
  intro p _
  show P2.tot (subP k p) = P2.tot p
  unfold P2.tot
  rw [subP_s]
theorem droN_small (ms : List Bool) : ∀ (i : Nat) (s : List (Int × Int) × List P2), (droN ms i s).1.length ≤ s.1.length ∧ (droN ms i s).2.length = s.2.length ∧ totP2 (droN ms i s).2 = totP2 s.2
  | 0, s => ⟨Nat.le_refl _, rfl, rfl⟩
  | i + 1, s => by
    have h := droN_small ms i (dro1 ms i s)
    have h1 : (dro1 ms i s).1.length ≤ s.1.length ∧ (dro1 ms i s).2.length = s.2.length ∧ totP2 (dro1 ms i s).2 = totP2 s.2 := by
      unfold dro1
      split
      · exact ⟨Nat.le_refl _, rfl, rfl⟩
      · refine ⟨?_, leaveP_len _ _, totP2_leaveU _ _⟩
        show (leaveC i s.1).length ≤ _
        unfold leaveC
        rw [List.length_map, List.length_append, List.length_take, List.length_drop]
        omega
    show (droN ms i (dro1 ms i s)).1.length ≤ _ ∧ (droN ms i (dro1 ms i s)).2.length = _ ∧ totP2 (droN ms i (dro1 ms i s)).2 = _
    omega
end Go.Proofs.YtffkdidgfeknkaaGreatDoor

/-! Circles in a graph of instructions: the transitive closure as the program computes it, and the search of the model. Pure. No conditions. -/
namespace Go.Proofs.YtffkdidgfeknkaaGreatDoor
set_option linter.unusedVariables false

/-! A graph of sets, closed step by step. -/
/-- The first k of the inner steps with a node in the middle. -/
def wkN (R : Nat → Nat) (m j : Nat) : Nat → Nat := fun k => if k < j ∧ (R k).testBit m = true then R k ||| R m else R k
/-- The first nodes in the middle. -/
def wmN (G : Nat → Nat) (n : Nat) : Nat → Nat → Nat
  | 0 => G
  | m + 1 => wkN (wmN G n m) m n
theorem wkN_zero (R : Nat → Nat) (m : Nat) : wkN R m 0 = R := by funext k; unfold wkN; rw [if_neg (fun h => Nat.not_lt_zero _ h.1)]
theorem wkN_at (R : Nat → Nat) (m j : Nat) : wkN R m j j = R j := by unfold wkN; rw [if_neg (fun h => Nat.lt_irrefl _ h.1)]
theorem wkN_mid (R : Nat → Nat) (m j : Nat) : wkN R m j m = R m := by
  unfold wkN
  split
  · exact Nat.or_self _
  · rfl
theorem wkN_other (R : Nat → Nat) (m j k : Nat) (h : k ≠ j) : wkN R m (j + 1) k = wkN R m j k := by
  unfold wkN
  by_cases hk : k < j ∧ (R k).testBit m = true
  · rw [if_pos hk, if_pos ⟨by omega, hk.2⟩]
  · rw [if_neg hk, if_neg (fun e => hk ⟨by omega, e.2⟩)]
theorem wkN_yes {R : Nat → Nat} {m j : Nat} (h : (R j).testBit m = true) : wkN R m (j + 1) j = R j ||| R m := by unfold wkN; rw [if_pos ⟨Nat.lt_succ_self _, h⟩]
theorem wkN_no {R : Nat → Nat} {m j : Nat} (h : (R j).testBit m = false) : wkN R m (j + 1) = wkN R m j := by
  funext k
  by_cases hk : k = j
  · subst hk
    rw [wkN_at]; unfold wkN; rw [if_neg (fun e => by rw [h] at e; cases e.2)]
  · exact wkN_other R m j k hk
theorem wkN_lt {R : Nat → Nat} (h : ∀ k, R k < 2 ^ 128) (m j : Nat) : ∀ k, wkN R m j k < 2 ^ 128 := fun k => by
  unfold wkN
  split
  · exact Nat.or_lt_two_pow (h k) (h m)
  · exact h k
theorem wmN_lt {G : Nat → Nat} (h : ∀ k, G k < 2 ^ 128) (n : Nat) : ∀ m k, wmN G n m k < 2 ^ 128
  | 0 => h
  | m + 1 => wkN_lt (wmN_lt h n m) m n
/-- Ways over nodes below a bound. -/
inductive Thru (G : Nat → Nat) (m : Nat) : Nat → Nat → Prop
  | e {a b : Nat} : (G a).testBit b = true → Thru G m a b
  | j {a b c : Nat} : c < m → Thru G m a c → Thru G m c b → Thru G m a b
/-- Ways of one edge or more. -/
inductive Tc (G : Nat → Nat) (a : Nat) : Nat → Prop
  | e {b : Nat} : (G a).testBit b = true → Tc G a b
  | s {b c : Nat} : Tc G a c → (G c).testBit b = true → Tc G a b
theorem Tc.trans {G : Nat → Nat} {a b c : Nat} (h : Tc G a b) (g : Tc G b c) : Tc G a c := by
  induction g with
  | e e => exact .s h e
  | s _ e ih => exact .s ih e
theorem Thru.split {G : Nat → Nat} {m a b : Nat} (h : Thru G (m + 1) a b) : Thru G m a b ∨ (Thru G m a m ∧ Thru G m m b) := by
  induction h with
  | e e => exact .inl (.e e)
  | @j a b c hc _ _ ih1 ih2 =>
    by_cases hm : c = m
    · subst hm
      refine .inr ⟨?_, ?_⟩
      · rcases ih1 with h | h
        · exact h
        · exact h.1
      · rcases ih2 with h | h
        · exact h
        · exact h.2
    · have hc' : c < m := by omega
      rcases ih1 with h | h
      · rcases ih2 with g | g
        · exact .inl (.j hc' h g)
        · exact .inr ⟨.j hc' h g.1, g.2⟩
      · rcases ih2 with g | g
        · exact .inr ⟨h.1, .j hc' h.2 g⟩
        · exact .inr ⟨h.1, g.2⟩
theorem wmN_all {G : Nat → Nat} {n : Nat} : ∀ m a b, a < n → m ≤ n → Thru G m a b → (wmN G n m a).testBit b = true
  | 0, a, b, ha, hm, h => by
    have key : ∀ {a b}, Thru G 0 a b → (G a).testBit b = true := fun h => by
      induction h with
      | e e => exact e
      | j hc => exact absurd hc (Nat.not_lt_zero _)
    exact key h
  | m + 1, a, b, ha, hm, h => by
    have ih := wmN_all (G := G) (n := n) m
    show (wkN (wmN G n m) m n a).testBit b = true
    unfold wkN
    rcases h.split with h | h
    · have h1 := ih a b ha (by omega) h
      split
      · rw [Nat.testBit_or, h1]; rfl
      · exact h1
    · have h1 := ih a m ha (by omega) h.1
      have h2 := ih m b (by omega) (by omega) h.2
      rw [if_pos ⟨ha, h1⟩, Nat.testBit_or, h2, Bool.or_true]
theorem wmN_sound {G : Nat → Nat} {n : Nat} : ∀ m a b, (wmN G n m a).testBit b = true → Tc G a b
  | 0, a, b, h => .e h
  | m + 1, a, b, h => by
    have ih := wmN_sound (G := G) (n := n) m
    change (wkN (wmN G n m) m n a).testBit b = true at h
    unfold wkN at h
    split at h
    · rename_i e
      rw [Nat.testBit_or, Bool.or_eq_true] at h
      rcases h with h | h
      · exact ih a b h
      · exact (ih a m e.2).trans (ih m b h)
    · exact ih a b h
theorem Tc.thru {G : Nat → Nat} {n a b : Nat} (hG : ∀ k t, (G k).testBit t = true → t < n) (h : Tc G a b) : Thru G n a b := by
  have key : ∀ {b}, Tc G a b → b < n ∧ Thru G n a b := fun h => by
    induction h with
    | e e => exact ⟨hG _ _ e, .e e⟩
    | s _ e ih => exact ⟨hG _ _ e, .j ih.1 ih.2 (.e e)⟩
  exact (key h).2
theorem wmN_is {G : Nat → Nat} {n a b : Nat} (hG : ∀ k t, (G k).testBit t = true → t < n) (ha : a < n) : (wmN G n n a).testBit b = true ↔ Tc G a b :=
  ⟨wmN_sound n a b, fun h => wmN_all n a b ha (Nat.le_refl _) (h.thru hG)⟩

/-! The places that come back to themselves. -/
/-- What is reached from an instruction by one step or more, each of them from one without a point. -/
inductive CircM (xs : List (Int × Int)) (ps : List P2) (i : Nat) : Int → Prop
  | one {t : Int} : t ∈ tgtN xs i → CircM xs ps i t
  | more {k : Nat} {t : Int} : CircM xs ps i k → k < xs.length → ptB ps k = false → t ∈ tgtN xs k → CircM xs ps i t
def OnC (xs : List (Int × Int)) (ps : List P2) (i : Nat) : Prop := ptB ps i = false ∧ CircM xs ps i i
theorem gN_bit {xs : List (Int × Int)} {ps : List P2} (hx : ∀ (k : Nat), k < xs.length → ∀ t ∈ tgtN xs k, 0 ≤ t) {k t : Nat} (hk : k < xs.length) : (gN xs (atsP ps) k).testBit t = true ↔ (t : Int) ∈ tgtN xs k ∧ t < xs.length ∧ ptB ps t = false := by
  unfold gN gList
  rw [putsS_bit]
  simp only [Nat.zero_testBit, Bool.false_eq_true, false_or, List.mem_filter, Bool.and_eq_true, decide_eq_true_eq, Bool.not_eq_true']
  have hp : ∀ z : Int, (atsP ps).contains z = false ↔ ptB ps z = false := fun z => by
    rw [← Bool.not_eq_true, ← Bool.not_eq_true, ptB_ats]; simp
  constructor
  · rintro ⟨z, ⟨h1, h2, h3⟩, e⟩
    have h0 := hx k hk z h1
    have ez : z = (t : Int) := by omega
    subst ez
    exact ⟨h1, by omega, (hp _).1 h3⟩
  · rintro ⟨h1, h2, h3⟩
    exact ⟨t, ⟨h1, by omega, (hp _).2 h3⟩, by simp⟩
theorem gN_beyond {xs : List (Int × Int)} {ps : List P2} {k t : Nat} (hpos : 0 < xs.length) (h : (gN xs (atsP ps) k).testBit t = true) : t < xs.length ∧ (∃ z : Int, z ∈ tgtN xs k ∧ z.toNat = t) := by
  unfold gN gList at h
  rw [putsS_bit] at h
  simp only [Nat.zero_testBit, Bool.false_eq_true, false_or, List.mem_filter, Bool.and_eq_true, decide_eq_true_eq, Bool.not_eq_true'] at h
  obtain ⟨z, ⟨h1, h2, h3⟩, e⟩ := h
  exact ⟨by omega, z, h1, e⟩
theorem tgtN_ge {xs : List (Int × Int)} (hc : codeB xs = true) : ∀ (k : Nat), k < xs.length → ∀ t ∈ tgtN xs k, 0 ≤ t ∧ t ≤ 80 := fun k hk t ht => by
  have hy : xs[k]? = some xs[k] := List.getElem?_eq_getElem hk
  unfold tgtN at ht
  rw [List.getD_eq_getElem?_getD, hy] at ht
  exact tgt_in hc k _ hy t ht
theorem onC_iff {xs : List (Int × Int)} {ps : List P2} (hc : codeB xs = true) {i : Nat} (hi : i < xs.length) : OnC xs ps i ↔ Tc (gN xs (atsP ps)) i i := by
  have hx := fun k hk t ht => (tgtN_ge hc k hk t ht).1
  constructor
  · rintro ⟨hp, h⟩
    have key : ∀ {t : Int}, CircM xs ps i t → 0 ≤ t ∧ (t < xs.length → ptB ps t = false → Tc (gN xs (atsP ps)) i t.toNat) := fun h => by
      induction h with
      | @one t ht =>
        have h0 := hx i hi t ht
        refine ⟨h0, fun hl hp => .e ((gN_bit hx hi).2 ?_)⟩
        rw [Int.toNat_of_nonneg h0]; exact ⟨ht, by omega, hp⟩
      | @more k t _ hk hpk ht ih =>
        have h0 := hx k hk t ht
        have ih' := ih.2 (by omega) hpk
        rw [Int.toNat_natCast] at ih'
        refine ⟨h0, fun hl hp => .s ih' ((gN_bit hx hk).2 ?_)⟩
        rw [Int.toNat_of_nonneg h0]; exact ⟨ht, by omega, hp⟩
    have := (key h).2 (by omega) hp
    rwa [Int.toNat_natCast] at this
  · intro h
    have key : ∀ {b : Nat}, Tc (gN xs (atsP ps)) i b → b < xs.length ∧ ptB ps b = false ∧ CircM xs ps i b := fun h => by
      induction h with
      | e e =>
        obtain ⟨h1, h2, h3⟩ := (gN_bit hx hi).1 e
        exact ⟨h2, h3, .one h1⟩
      | s _ e ih =>
        obtain ⟨h1, h2, h3⟩ := (gN_bit hx ih.1).1 e
        exact ⟨h2, h3, .more ih.2.2 ih.1 ih.2.1 h1⟩
    exact ⟨(key h).2.1, (key h).2.2⟩
/-- What OpenLoops gives. -/
noncomputable def opnL (xs : List (Int × Int)) (ps : List P2) (k : Nat) : List Int := ((List.range k).filter fun i => @decide (OnC xs ps i) (Classical.propDecidable _)).map fun (i : Nat) => (i : Int)
theorem opnL_zero (xs : List (Int × Int)) (ps : List P2) : opnL xs ps 0 = [] := rfl
theorem opnL_yes {xs : List (Int × Int)} {ps : List P2} {k : Nat} (h : OnC xs ps k) : opnL xs ps (k + 1) = opnL xs ps k ++ [(k : Int)] := by
  unfold opnL
  rw [List.range_succ, List.filter_append, List.map_append]
  have : @decide (OnC xs ps k) (Classical.propDecidable _) = true := by rw [@decide_eq_true_iff]; exact h
  rw [List.filter_cons, if_pos this]; rfl
theorem opnL_no {xs : List (Int × Int)} {ps : List P2} {k : Nat} (h : ¬ OnC xs ps k) : opnL xs ps (k + 1) = opnL xs ps k := by
  unfold opnL
  rw [List.range_succ, List.filter_append, List.map_append]
  have : ¬ (@decide (OnC xs ps k) (Classical.propDecidable _) = true) := by rw [@decide_eq_true_iff]; exact h
  rw [List.filter_cons, if_neg this]; simp
theorem opnL_len (xs : List (Int × Int)) (ps : List P2) (k : Nat) : (opnL xs ps k).length ≤ k := by
  unfold opnL
  rw [List.length_map]
  have := List.length_filter_le (fun i => @decide (OnC xs ps i) (Classical.propDecidable _)) (List.range k)
  rwa [List.length_range] at this
/-- The set of the places that come back, gathered one after another. -/
def cirN (R : Nat → Nat) : Nat → Nat
  | 0 => 0
  | k + 1 => if (R k).testBit k = true then putS (cirN R k) k else cirN R k
theorem cirN_lt (R : Nat → Nat) : ∀ k, k ≤ 128 → cirN R k < 2 ^ 128
  | 0, _ => by show (0 : Nat) < 2 ^ 128; decide
  | k + 1, h => by
    unfold cirN
    split
    · exact putS_lt (cirN_lt R k (by omega)) (by omega)
    · exact cirN_lt R k (by omega)
theorem cirN_bit (R : Nat → Nat) : ∀ k j, (cirN R k).testBit j = true ↔ j < k ∧ (R j).testBit j = true
  | 0, j => by simp [cirN]
  | k + 1, j => by
    have ih := cirN_bit R k j
    unfold cirN
    split
    · rename_i h
      rw [putS_bit, Bool.or_eq_true, ih, decide_eq_true_iff]
      constructor
      · rintro (e | e)
        · exact ⟨by omega, e.2⟩
        · subst e; exact ⟨by omega, h⟩
      · rintro ⟨e1, e2⟩
        by_cases e : k = j
        · exact .inr e
        · exact .inl ⟨by omega, e2⟩
    · rename_i h
      rw [ih]
      constructor
      · rintro ⟨e1, e2⟩; exact ⟨by omega, e2⟩
      · rintro ⟨e1, e2⟩
        by_cases e : k = j
        · subst e; exact absurd e2 h
        · exact ⟨by omega, e2⟩
theorem bitsL_range (S : Nat) : bitsL S = (List.range 128).filter fun k => S.testBit k := by
  unfold bitsL bitsW
  have e : List.range 128 = List.range 64 ++ (List.range 64).map (· + 64) := by decide
  rw [e, List.filter_append, List.filter_map]
  congr 1
  · apply List.filter_congr
    intro k hk
    rw [List.mem_range] at hk
    rw [loW, Nat.testBit_mod_two_pow]; simp [hk]
  · congr 1
    apply List.filter_congr
    intro k hk
    show (hiW S).testBit k = S.testBit (k + 64)
    rw [hiW, Nat.testBit_div_two_pow]
theorem filter_range {n m : Nat} (h : n ≤ m) (p : Nat → Bool) (hp : ∀ k, p k = true → k < n) : (List.range m).filter p = (List.range n).filter p := by
  obtain ⟨d, rfl⟩ : ∃ d, m = n + d := ⟨m - n, by omega⟩
  rw [List.range_add, List.filter_append]
  have : ((List.range d).map (n + ·)).filter p = [] := by
    rw [List.filter_eq_nil_iff]
    intro k hk e
    obtain ⟨j, _, rfl⟩ := List.mem_map.1 hk
    have := hp _ e
    omega
  rw [this, List.append_nil]
/-- The program's set has the model's list. -/
theorem cir_list {xs : List (Int × Int)} {ps : List P2} (hc : codeB xs = true) : (bitsL (cirN (wmN (gN xs (atsP ps)) xs.length xs.length) xs.length)).map (fun (i : Nat) => (i : Int)) = opnL xs ps xs.length := by
  have hl := (codeB_parts hc).2.1
  unfold opnL
  congr 1
  rw [bitsL_range, filter_range (n := xs.length) (by omega) _ (fun k h => ((cirN_bit _ _ _).1 h).1)]
  apply List.filter_congr
  intro k hk
  rw [List.mem_range] at hk
  rw [Bool.eq_iff_iff, cirN_bit, @decide_eq_true_iff, onC_iff hc hk, wmN_is (fun k t h => (gN_beyond (by have := codeB_parts hc; omega) h).1) hk]
  exact ⟨(·.2), fun h => ⟨hk, h⟩⟩

/-! The model's search from one place. -/
structure SrchO (xs : List (Int × Int)) (ps : List P2) (i : Nat) (ms : List Bool) (wk : List Int) (back : Bool) (q : Nat) : Prop where
  len : ms.length = xs.length
  ok : ∀ t ∈ wk, 0 ≤ t ∧ t < xs.length ∧ (t = i ∨ CircM xs ps i t)
  fst : (i : Int) ∈ wk
  seen : ∀ k : Nat, ms[k]? = some true → (k : Int) ∈ wk
  bk : back = true → ptB ps i = false → CircM xs ps i i
  done : ∀ t ∈ wk.take q, ptB ps t = false → ∀ u ∈ tgtN xs t.toNat, (u = i → back = true) ∧ (u < xs.length → ms[u.toNat]? = some true)
/-- .. within the places behind one. -/
structure SrchQ (xs : List (Int × Int)) (ps : List P2) (i : Nat) (ms : List Bool) (wk : List Int) (back : Bool) (q : Nat) (k : Nat) (T : List Int) (j : Nat) : Prop where
  s : SrchO xs ps i ms wk back q
  cur : wk[q]? = some (k : Int)
  free : ptB ps k = false
  mem : ∀ t, t ∈ T ↔ t ∈ tgtN xs k
  part : ∀ u ∈ T.take j, (u = i → back = true) ∧ (u < xs.length → ms[u.toNat]? = some true)
section
variable {xs : List (Int × Int)} {ps : List P2} {i q k j : Nat} {ms : List Bool} {wk T : List Int} {back : Bool} {t : Int}
theorem SrchO.init (hi : i < xs.length) : SrchO xs ps i (List.replicate xs.length false) [(i : Int)] false 0 :=
  ⟨by simp, fun t ht => by obtain rfl := List.mem_singleton.1 ht; exact ⟨by omega, by omega, .inl rfl⟩, List.mem_singleton.2 rfl, fun k hk => (by rw [List.getElem?_replicate] at hk; split at hk <;> cases hk), (fun e => by cases e), fun t ht => by cases ht⟩
theorem take_q {l : List Int} {q : Nat} {x t : Int} (h : l[q]? = some x) (ht : t ∈ l.take (q + 1)) : t ∈ l.take q ∨ t = x := by
  rw [List.take_add_one, h] at ht
  rcases List.mem_append.1 ht with e | e
  · exact .inl e
  · exact .inr (by simpa using e)
/-- A place with a point is passed by. -/
theorem SrchO.skip (s : SrchO xs ps i ms wk back q) (hk : wk[q]? = some (k : Int)) (hp : ptB ps k = true) : SrchO xs ps i ms wk back (q + 1) :=
  ⟨s.len, s.ok, s.fst, s.seen, s.bk, fun t ht hf => by
    rcases take_q hk ht with e | e
    · exact s.done t e hf
    · subst e; rw [hp] at hf; cases hf⟩
theorem SrchO.take (s : SrchO xs ps i ms wk back q) (hk : wk[q]? = some (k : Int)) (hp : ptB ps k = false) (hT : ∀ t, t ∈ T ↔ t ∈ tgtN xs k) : SrchQ xs ps i ms wk back q k T 0 :=
  ⟨s, hk, hp, hT, fun u hu => by cases hu⟩
theorem SrchQ.circ (s : SrchQ xs ps i ms wk back q k T j) (ht : t ∈ T) (hk : k < xs.length) : CircM xs ps i t := by
  have h1 := (s.mem t).1 ht
  obtain ⟨_, _, h⟩ := s.s.ok k (List.mem_of_getElem? s.cur)
  rcases h with e | h
  · have : k = i := by omega
    subst this; exact .one h1
  · exact .more h hk s.free h1
/-- One more target: it is the place itself, or not; it has been seen. -/
theorem SrchQ.pass (s : SrchQ xs ps i ms wk back q k T j) (ht : T[j]? = some t) (hk : k < xs.length) (hs : t < xs.length → ms[t.toNat]? = some true) : SrchQ xs ps i ms wk (back || decide (t = i)) q k T (j + 1) := by
  refine ⟨⟨s.s.len, s.s.ok, s.s.fst, s.s.seen, fun e hp => ?_, fun u hu hf v hv => ?_⟩, s.cur, s.free, s.mem, fun u hu => ?_⟩
  · rw [Bool.or_eq_true] at e
    rcases e with e | e
    · exact s.s.bk e hp
    · have e' := of_decide_eq_true e
      have := s.circ (List.mem_of_getElem? ht) hk
      rw [e'] at this; exact this
  · obtain ⟨h1, h2⟩ := s.s.done u hu hf v hv
    exact ⟨fun e => by rw [h1 e]; rfl, h2⟩
  · rw [List.take_add_one, ht] at hu
    rcases List.mem_append.1 hu with e | e
    · obtain ⟨h1, h2⟩ := s.part u e
      exact ⟨fun e => by rw [h1 e]; rfl, h2⟩
    · have : u = t := by simpa using e
      subst this
      exact ⟨fun e => by rw [decide_eq_true e, Bool.or_true], hs⟩
/-- One more target that has not been seen: it is marked and appended. -/
theorem SrchQ.put (s : SrchQ xs ps i ms wk back q k T j) (ht : T[j]? = some t) (hk : k < xs.length) (h0 : 0 ≤ t) (hl : t < xs.length) : SrchQ xs ps i (ms.set t.toNat true) (wk ++ [t]) (back || decide (t = i)) q k T (j + 1) := by
  have hql : q < wk.length := (List.getElem?_eq_some_iff.1 s.cur).1
  have hlt : t.toNat < ms.length := by rw [s.s.len]; omega
  have up : ∀ m : Nat, ms[m]? = some true → (ms.set t.toNat true)[m]? = some true := fun m hm => by
    rw [List.getElem?_set]
    split
    · first | rfl | rw [if_pos hlt] | (rename_i e; rw [if_pos hlt])
    · exact hm
  have htk : (wk ++ [t]).take q = wk.take q := List.take_append_of_le_length (by omega)
  refine ⟨⟨by rw [List.length_set]; exact s.s.len, fun u hu => ?_, List.mem_append_left _ s.s.fst, fun m hm => ?_, fun e hp => ?_, fun u hu hf v hv => ?_⟩, by rw [List.getElem?_append_left hql]; exact s.cur, s.free, s.mem, fun u hu => ?_⟩
  · rcases List.mem_append.1 hu with e | e
    · exact s.s.ok u e
    · obtain rfl := List.mem_singleton.1 e
      exact ⟨h0, hl, .inr (s.circ (List.mem_of_getElem? ht) hk)⟩
  · rw [List.getElem?_set] at hm
    split at hm
    · rename_i e
      exact List.mem_append_right _ (List.mem_singleton.2 (by omega))
    · exact List.mem_append_left _ (s.s.seen m hm)
  · rw [Bool.or_eq_true] at e
    rcases e with e | e
    · exact s.s.bk e hp
    · have e' := of_decide_eq_true e
      have := s.circ (List.mem_of_getElem? ht) hk
      rw [e'] at this; exact this
  · rw [htk] at hu
    obtain ⟨h1, h2⟩ := s.s.done u hu hf v hv
    exact ⟨fun e => by rw [h1 e]; rfl, fun e => up _ (h2 e)⟩
  · rw [List.take_add_one, ht] at hu
    rcases List.mem_append.1 hu with e | e
    · obtain ⟨h1, h2⟩ := s.part u e
      exact ⟨fun e => by rw [h1 e]; rfl, fun e => up _ (h2 e)⟩
    · have : u = t := by simpa using e
      subst this
      exact ⟨fun e => by rw [decide_eq_true e, Bool.or_true], fun _ => List.getElem?_set_self hlt⟩
theorem SrchQ.all (s : SrchQ xs ps i ms wk back q k T j) (hj : T.length ≤ j) : SrchO xs ps i ms wk back (q + 1) :=
  ⟨s.s.len, s.s.ok, s.s.fst, s.s.seen, s.s.bk, fun t ht hf => by
    rcases take_q s.cur ht with e | e
    · exact s.s.done t e hf
    · subst e
      intro u hu
      rw [Int.toNat_natCast] at hu
      exact s.part u (by rw [List.take_of_length_le hj]; exact (s.mem u).2 hu)⟩
theorem SrchO.fin (s : SrchO xs ps i ms wk back q) (hq : wk.length ≤ q) (hi : i < xs.length) (hp : ptB ps i = false) : back = true ↔ CircM xs ps i i := by
  have hd := s.done
  rw [List.take_of_length_le hq] at hd
  refine ⟨fun e => s.bk e hp, fun h => ?_⟩
  have key : ∀ {t : Int}, CircM xs ps i t → (t = i → back = true) ∧ (t < xs.length → ms[t.toNat]? = some true) := fun h => by
    induction h with
    | @one t ht => exact hd i s.fst hp t (by rw [Int.toNat_natCast]; exact ht)
    | @more k t _ hk hpk ht ih =>
      have h1 := ih.2 (by omega)
      rw [Int.toNat_natCast] at h1
      exact hd k (s.seen k h1) hpk t (by rw [Int.toNat_natCast]; exact ht)
  exact (key h).1 rfl
end
end Go.Proofs.YtffkdidgfeknkaaGreatDoor

/-! Sets of places in the program: of points, of a list, two together. Conditions: places below 128. -/
namespace Go.Proofs.YtffkdidgfeknkaaGreatDoor
set_option linter.unusedVariables false
open Go.RowKit

set_option maxRecDepth 100000 in
set_option maxHeartbeats 1000000 in
theorem placesOf_c (A : Option Addr) (n c B : Nat) (zs : List Int) (w : World) (h : InL w B A n zs) (hB : B ≤ w.heap.size) (hn : n ≤ 1048576) (hz : ∀ z ∈ zs, 0 ≤ z ∧ z < 128) :
    Calls Tryz.prog 44 #[.slice A n c] w fun e w' => e = .returned (.agg #[.int .u64 (loW (putsS 0 zs) : Nat), .int .u64 (hiW (putsS 0 zs) : Nat)]) ∧ Below w.heap.size w w' := by
  have hlen := Lib.hid h.1
  have HZ := Lib.hid hz
  have hb0 : Below w.heap.size w ((w.alloc (.cells #[.int .u64 0, .int .u64 0] 68)).alloc (.cells #[.int .u64 0, .int .u64 0] 68)) := bon (bnew _ _) (bnew _ _)
  have hR : BlkIs ((w.alloc (.cells #[.int .u64 0, .int .u64 0] 68)).alloc (.cells #[.int .u64 0, .int .u64 0] 68)) w.heap.size 68 #[.int .u64 0, .int .u64 0] := (blk_new w _ _ _ rfl).next (bnew _ _)
  have hS : BlkIs ((w.alloc (.cells #[.int .u64 0, .int .u64 0] 68)).alloc (.cells #[.int .u64 0, .int .u64 0] 68)) (w.heap.size + 1) 68 #[.int .u64 (loW (putsS 0 (zs.take 0)) : Nat), .int .u64 (hiW (putsS 0 (zs.take 0)) : Nat)] := by
    rw [show ((loW (putsS 0 (zs.take 0)) : Nat) : Int) = 0 by rw [List.take_zero]; rfl, show ((hiW (putsS 0 (zs.take 0)) : Nat) : Int) = 0 by rw [List.take_zero]; rfl]
    exact blk_new _ _ _ _ (by simp)
  clear hz
  go_enter Tryz.func44, Tryz.ntmps44
  go_wp2_with fail
  generalize (w.alloc (.cells #[.int .u64 0, .int .u64 0] 68)).alloc (.cells #[.int .u64 0, .int .u64 0] 68) = W at hb0 hR hS ⊢
  go_loopw [5, 8] (fun _ i wr => ∃ k : Nat, k ≤ n ∧ i = .int .i64 k ∧ BlkIs wr w.heap.size 68 #[.int .u64 0, .int .u64 0] ∧ BlkIs wr (w.heap.size + 1) 68 #[.int .u64 (loW (putsS 0 (zs.take k)) : Nat), .int .u64 (hiW (putsS 0 (zs.take k)) : Nat)] ∧ Below w.heap.size w wr) (fun _ i _ => n - (intOf i).toNat)
  case atStart => exact ⟨0, Nat.zero_le _, rfl, hR, hS, hb0⟩
  case round =>
    clear hR hS hb0
    obtain ⟨k, hk, rfl, hR, hS, hbel⟩ := hrel
    have s0 := hS.cell 0
    have s1 := hS.cell 1
    simp at s0 s1
    by_cases hlt : k < n
    · have hkn : (k : Int) < (n : Int) := by omega
      obtain ⟨b, off, x, rfl, hb, hx, hc⟩ := (h.next hbel hB).2.int_at (k := k) (by rw [hlen.out]; exact hlt)
      obtain ⟨x0, x1⟩ := HZ.out x (List.mem_of_getElem? hx)
      obtain ⟨y, rfl⟩ : ∃ y : Nat, x = (y : Int) := ⟨x.toNat, by omega⟩
      have hlt2 : putsS 0 (zs.take k) < 2 ^ 128 := putsS_lt (by decide) (fun z hz' => by have := HZ.out z (List.mem_of_mem_take hz'); omega)
      have hST : putsS 0 (zs.take (k + 1)) = putS (putsS 0 (zs.take k)) y := by
        rw [List.take_add_one, hx]
        show putsS 0 (zs.take k ++ [(y : Int)]) = _
        rw [putsS_snoc, Int.toNat_natCast]
      have HST := Lib.hid hST
      have HW := Lib.hid (with_c (putsS 0 (zs.take k)) y wr hlt2 (by omega))
      clear hx hST
      generalize putsS 0 (zs.take k) = S at hS s0 s1 hlt2 HST HW ⊢
      go_wp2_with fail
      refine HW.out.mono ?_
      rintro e w2 ⟨rfl, hb2⟩
      have hS2 := hS.next hb2
      have hR2 := hR.next hb2
      have y0 := hS2.cell 0
      have y1 := hS2.cell 1
      simp at y0 y1
      have z0 := hS2.frozen 0
      have z1 := hS2.frozen 1
      have hS3 := (hS2.set 0 (.int .u64 (loW (putS S y) : Nat))).set 1 (.int .u64 (hiW (putS S y) : Nat))
      simp at hS3
      have hR3 := (hR2.far (show w.heap.size ≠ w.heap.size + 1 by omega) 0 (.int .u64 (loW (putS S y) : Nat))).far (show w.heap.size ≠ w.heap.size + 1 by omega) 1 (.int .u64 (hiW (putS S y) : Nat))
      have hb3 := ((bon hbel hb2).setCell (p := ⟨w.heap.size + 1, 0, none⟩) (Nat.le_succ _) (.int .u64 (loW (putS S y) : Nat))).setCell (p := ⟨w.heap.size + 1, 1, none⟩) (Nat.le_succ _) (.int .u64 (hiW (putS S y) : Nat))
      clear hS hS2 hR2 HW hR s0 s1
      go_wp2_with fail
      go_roundw
      case rel => exact ⟨k + 1, by omega, by go_num, hR3, by rw [HST.out]; exact hS3, hb3⟩
      case measure => simp [intOf]; omega
    · obtain rfl : k = n := by omega
      rw [List.take_of_length_le (Nat.le_of_eq hlen.out)] at hS s0 s1
      have y0 := hR.cell 0
      have y1 := hR.cell 1
      simp at y0 y1
      have z0 := hR.frozen 0
      have z1 := hR.frozen 1
      have hR3 := (hR.set 0 (.int .u64 (loW (putsS 0 zs) : Nat))).set 1 (.int .u64 (hiW (putsS 0 zs) : Nat))
      simp at hR3
      have r0 := hR3.cell 0
      have r1 := hR3.cell 1
      simp at r0 r1
      have hb3 := (hbel.setCell (p := ⟨w.heap.size, 0, none⟩) (Nat.le_refl _) (.int .u64 (loW (putsS 0 zs) : Nat))).setCell (p := ⟨w.heap.size, 1, none⟩) (Nat.le_refl _) (.int .u64 (hiW (putsS 0 zs) : Nat))
      go_wp2_with fail
      refine bodyPost_ret (v := .agg #[.int .u64 (loW (putsS 0 zs) : Nat), .int .u64 (hiW (putsS 0 zs) : Nat)]) (by simp [results, Tryz.results44, go_sem, r0, r1]) rfl ?_
      exact ⟨rfl, hb3⟩
end Go.Proofs.YtffkdidgfeknkaaGreatDoor

/-! Two sets of places together. No conditions but that places lie below 128. -/
namespace Go.Proofs.YtffkdidgfeknkaaGreatDoor
set_option linter.unusedVariables false
open Go.RowKit

theorem or_val (L M : Nat) (h : L < 18446744073709551616) (h' : M < 18446744073709551616) : bits BinOp.or IntKind.u64 (L : Int) (M : Int) = ((L ||| M : Nat) : Int) := bits_or_u64_nat _ _ h h'

set_option maxRecDepth 100000 in
set_option maxHeartbeats 2000000 in
theorem or_c (S T : Nat) (w : World) (hS : S < 2 ^ 128) (hT : T < 2 ^ 128) :
    Calls Tryz.prog 76 #[.agg #[.int .u64 (loW S : Nat), .int .u64 (hiW S : Nat)], .agg #[.int .u64 (loW T : Nat), .int .u64 (hiW T : Nat)]] w fun e w' => e = .returned (.agg #[.int .u64 (loW (S ||| T) : Nat), .int .u64 (hiW (S ||| T) : Nat)]) ∧ Below w.heap.size w w' := by
  have hb0 : Below w.heap.size w (((w.alloc (.cells #[.int .u64 (loW S : Nat), .int .u64 (hiW S : Nat)] 68)).alloc (.cells #[.int .u64 (loW T : Nat), .int .u64 (hiW T : Nat)] 68)).alloc (.cells #[.int .u64 0, .int .u64 0] 68)) := bon (bon (bnew _ _) (bnew _ _)) (bnew _ _)
  have hA : BlkIs (((w.alloc (.cells #[.int .u64 (loW S : Nat), .int .u64 (hiW S : Nat)] 68)).alloc (.cells #[.int .u64 (loW T : Nat), .int .u64 (hiW T : Nat)] 68)).alloc (.cells #[.int .u64 0, .int .u64 0] 68)) w.heap.size 68 #[.int .u64 (loW S : Nat), .int .u64 (hiW S : Nat)] := ((blk_new w _ _ _ rfl).next (bnew _ _)).next (bnew _ _)
  have hB : BlkIs (((w.alloc (.cells #[.int .u64 (loW S : Nat), .int .u64 (hiW S : Nat)] 68)).alloc (.cells #[.int .u64 (loW T : Nat), .int .u64 (hiW T : Nat)] 68)).alloc (.cells #[.int .u64 0, .int .u64 0] 68)) (w.heap.size + 1) 68 #[.int .u64 (loW T : Nat), .int .u64 (hiW T : Nat)] := (blk_new (w.alloc (.cells #[.int .u64 (loW S : Nat), .int .u64 (hiW S : Nat)] 68)) _ _ _ (by simp)).next (bnew _ _)
  have hR : BlkIs (((w.alloc (.cells #[.int .u64 (loW S : Nat), .int .u64 (hiW S : Nat)] 68)).alloc (.cells #[.int .u64 (loW T : Nat), .int .u64 (hiW T : Nat)] 68)).alloc (.cells #[.int .u64 0, .int .u64 0] 68)) (w.heap.size + 2) 68 #[.int .u64 0, .int .u64 0] := blk_new _ _ _ _ (by simp)
  have hl := loW_lt S
  have hh := hiW_lt hS
  have hl' := loW_lt T
  have hh' := hiW_lt hT
  have e1 := or_val (loW S) (loW T) hl hl'
  have e2 := or_val (hiW S) (hiW T) hh hh'
  obtain ⟨o1, o2⟩ := orS_lo S T
  rw [o1, o2]
  generalize loW S = a at hb0 hA hB hR e1 hl ⊢
  generalize hiW S = b at hb0 hA hB hR e2 hh ⊢
  generalize loW T = c at hb0 hA hB hR e1 hl' ⊢
  generalize hiW T = d at hb0 hA hB hR e2 hh' ⊢
  clear o1 o2 hl hh hl' hh'
  go_enter Tryz.func76, Tryz.ntmps76
  go_wp2_with fail
  generalize ((w.alloc (.cells #[.int .u64 (a : Int), .int .u64 (b : Int)] 68)).alloc (.cells #[.int .u64 (c : Int), .int .u64 (d : Int)] 68)).alloc (.cells #[.int .u64 0, .int .u64 0] 68) = W at hb0 hA hB hR ⊢
  go_loopw [5, 6] (fun _ i wr => ∃ (k : Nat) (x y : Int), i = .int .i64 k ∧ ((k = 0 ∧ x = a ∧ y = b) ∨ (k = 1 ∧ x = ((a ||| c : Nat) : Int) ∧ y = b) ∨ (k = 2 ∧ x = ((a ||| c : Nat) : Int) ∧ y = ((b ||| d : Nat) : Int))) ∧ BlkIs wr w.heap.size 68 #[.int .u64 x, .int .u64 y] ∧ BlkIs wr (w.heap.size + 1) 68 #[.int .u64 (c : Int), .int .u64 (d : Int)] ∧ BlkIs wr (w.heap.size + 2) 68 #[.int .u64 0, .int .u64 0] ∧ Below w.heap.size w wr) (fun _ i _ => 2 - (intOf i).toNat)
  case atStart => exact ⟨0, a, b, rfl, .inl ⟨rfl, rfl, rfl⟩, hA, hB, hR, hb0⟩
  case round =>
    clear hA hB hR hb0
    obtain ⟨k, x, y, rfl, hk, hA, hB, hR, hb⟩ := hrel
    have a0 := hA.cell 0
    have a1 := hA.cell 1
    have b0 := hB.cell 0
    have b1 := hB.cell 1
    simp at a0 a1 b0 b1
    have fa0 := hA.frozen 0
    have fa1 := hA.frozen 1
    rcases hk with ⟨rfl, rfl, rfl⟩ | ⟨rfl, rfl, rfl⟩ | ⟨rfl, rfl, rfl⟩
    · have hA2 := (show BlkIs wr.drew w.heap.size 68 _ from hA).set 0 (.int .u64 ((a ||| c : Nat) : Int))
      simp at hA2
      have hB2 := (show BlkIs wr.drew (w.heap.size + 1) 68 _ from hB).far (show w.heap.size + 1 ≠ w.heap.size by omega) 0 (.int .u64 ((a ||| c : Nat) : Int))
      have hR2 := (show BlkIs wr.drew (w.heap.size + 2) 68 _ from hR).far (show w.heap.size + 2 ≠ w.heap.size by omega) 0 (.int .u64 ((a ||| c : Nat) : Int))
      have hb2 := hb.drew.setCell (p := ⟨w.heap.size, 0, none⟩) (Nat.le_refl _) (.int .u64 ((a ||| c : Nat) : Int))
      clear hA hB hR hb
      have bn := hB2.cell 0
      simp at bn
      go_upto_region 4 with fail
      refine wp_region_held_drew (S := fun w' => w'.cell? ⟨w.heap.size + 1, 0, none⟩ = some (.int .u64 (c : Int))) (by kernel_rfl) b0 ?_
      intro hHeld0
      refine wpAnyH_take (i := 0) (v := ?_) rfl (by kernel_rfl) (by kernel_rfl) (by kernel_rfl) (fun _ _ _ h => h) (Or.inl ⟨by kernel_rfl, ?_⟩) (by assumption) ?_
      rotate_left
      · intro w9 hS9; (try dsimp only at hS9); go_simp; (try with_reducible rfl)
      set_option linter.unusedSimpArgs false in try simp only [Act.put, List.getElem_toArray, List.getElem_cons_succ, List.getElem_cons_zero, List.setIfInBounds_toArray, List.set_cons_zero, List.set_cons_succ]
      refine wpAnyH_take (i := 1) (v := ?_) rfl (by kernel_rfl) (by kernel_rfl) (by kernel_rfl) (fun _ _ _ h => h) (Or.inl ⟨by kernel_rfl, ?_⟩) (by assumption) ?_
      rotate_left
      · intro w9 hS9; (try dsimp only at hS9); go_simp; (try with_reducible rfl)
      set_option linter.unusedSimpArgs false in try simp only [Act.put, List.getElem_toArray, List.getElem_cons_succ, List.getElem_cons_zero, List.setIfInBounds_toArray, List.set_cons_zero, List.set_cons_succ]
      refine wpAnyH_take (i := 3) (v := ?_) rfl (by kernel_rfl) (by kernel_rfl) (by kernel_rfl) (fun _ _ _ h => h) (Or.inl ⟨by kernel_rfl, ?_⟩) (by assumption) ?_
      rotate_left
      · intro w9 hS9; (try dsimp only at hS9); go_simp; (try with_reducible rfl)
      set_option linter.unusedSimpArgs false in try simp only [Act.put, List.getElem_toArray, List.getElem_cons_succ, List.getElem_cons_zero, List.setIfInBounds_toArray, List.set_cons_zero, List.set_cons_succ]
      refine wpAnyH_take (i := 4) (v := ?_) rfl (by kernel_rfl) (by kernel_rfl) (by kernel_rfl) (fun _ _ _ h => h) (Or.inl ⟨by kernel_rfl, ?_⟩) (by assumption) ?_
      rotate_left
      · intro w9 hS9; (try dsimp only at hS9); go_simp; (try with_reducible rfl)
      set_option linter.unusedSimpArgs false in try simp only [Act.put, List.getElem_toArray, List.getElem_cons_succ, List.getElem_cons_zero, List.setIfInBounds_toArray, List.set_cons_zero, List.set_cons_succ]
      refine wpAnyH_take (i := 5) (v := ?_) rfl (by kernel_rfl) (by kernel_rfl) (by kernel_rfl) (fun _ _ _ h => h) (Or.inl ⟨by kernel_rfl, ?_⟩) (by assumption) ?_
      rotate_left
      · intro w9 hS9; (try dsimp only at hS9); go_simp; (try with_reducible rfl)
      set_option linter.unusedSimpArgs false in try simp only [Act.put, List.getElem_toArray, List.getElem_cons_succ, List.getElem_cons_zero, List.setIfInBounds_toArray, List.set_cons_zero, List.set_cons_succ]
      refine wpAnyH_ready (rs := [2]) (by kernel_rfl) (by simp) ?_
      refine AllReadyH.cons rfl (fun K hK => ?_) (AllReadyH.nil)
      go_simp
      refine hK.out _ _ b0 (fun hHeld1 => ?_)
      clear hK K hHeld0
      set_option linter.unusedSimpArgs false in try simp only [Act.put, List.getElem_toArray, List.getElem_cons_succ, List.getElem_cons_zero, List.setIfInBounds_toArray, List.set_cons_zero, List.set_cons_succ]
      refine wpAnyH_take (i := 6) (v := ?_) rfl (by kernel_rfl) (by kernel_rfl) (by kernel_rfl) (fun _ _ _ h => h) (Or.inl ⟨by kernel_rfl, ?_⟩) (by assumption) ?_
      rotate_left
      · intro w9 hS9; (try dsimp only at hS9); go_simp; (try with_reducible rfl)
      set_option linter.unusedSimpArgs false in try simp only [Act.put, List.getElem_toArray, List.getElem_cons_succ, List.getElem_cons_zero, List.setIfInBounds_toArray, List.set_cons_zero, List.set_cons_succ]
      refine wpAnyH_take (i := 7) (v := ?_) rfl (by kernel_rfl) (by kernel_rfl) (by kernel_rfl) (fun _ _ _ h => h) (Or.inl ⟨by kernel_rfl, ?_⟩) (by assumption) ?_
      rotate_left
      · intro w9 hS9; (try dsimp only at hS9); go_simp; (try with_reducible rfl)
      set_option linter.unusedSimpArgs false in try simp only [Act.put, List.getElem_toArray, List.getElem_cons_succ, List.getElem_cons_zero, List.setIfInBounds_toArray, List.set_cons_zero, List.set_cons_succ]
      refine wpAnyH_ready (rs := [8]) (by kernel_rfl) (by simp) ?_
      refine AllReadyH.cons rfl (fun K hK => ?_) (AllReadyH.nil)
      go_simp
      refine hK.out _ _ bn (fun hHeld2 => ?_)
      clear hK K hHeld1
      set_option linter.unusedSimpArgs false in try simp only [Act.put, List.getElem_toArray, List.getElem_cons_succ, List.getElem_cons_zero, List.setIfInBounds_toArray, List.set_cons_zero, List.set_cons_succ]
      refine wpAnyH_done (by kernel_rfl) ?_ _
      go_wp2_with fail
      go_roundw
      case rel => exact ⟨1, _, _, by go_num, .inr (.inl ⟨rfl, rfl, rfl⟩), hA2, hB2, hR2, hb2⟩
      case measure => simp [intOf]
    · have hA2 := (show BlkIs wr.drew w.heap.size 68 _ from hA).set 1 (.int .u64 ((b ||| d : Nat) : Int))
      simp at hA2
      have hB2 := (show BlkIs wr.drew (w.heap.size + 1) 68 _ from hB).far (show w.heap.size + 1 ≠ w.heap.size by omega) 1 (.int .u64 ((b ||| d : Nat) : Int))
      have hR2 := (show BlkIs wr.drew (w.heap.size + 2) 68 _ from hR).far (show w.heap.size + 2 ≠ w.heap.size by omega) 1 (.int .u64 ((b ||| d : Nat) : Int))
      have hb2 := hb.drew.setCell (p := ⟨w.heap.size, 1, none⟩) (Nat.le_refl _) (.int .u64 ((b ||| d : Nat) : Int))
      clear hA hB hR hb
      have bn := hB2.cell 1
      simp at bn
      go_upto_region 4 with fail
      refine wp_region_held_drew (S := fun w' => w'.cell? ⟨w.heap.size + 1, 1, none⟩ = some (.int .u64 (d : Int))) (by kernel_rfl) b1 ?_
      intro hHeld0
      refine wpAnyH_take (i := 0) (v := ?_) rfl (by kernel_rfl) (by kernel_rfl) (by kernel_rfl) (fun _ _ _ h => h) (Or.inl ⟨by kernel_rfl, ?_⟩) (by assumption) ?_
      rotate_left
      · intro w9 hS9; (try dsimp only at hS9); go_simp; (try with_reducible rfl)
      set_option linter.unusedSimpArgs false in try simp only [Act.put, List.getElem_toArray, List.getElem_cons_succ, List.getElem_cons_zero, List.setIfInBounds_toArray, List.set_cons_zero, List.set_cons_succ]
      refine wpAnyH_take (i := 1) (v := ?_) rfl (by kernel_rfl) (by kernel_rfl) (by kernel_rfl) (fun _ _ _ h => h) (Or.inl ⟨by kernel_rfl, ?_⟩) (by assumption) ?_
      rotate_left
      · intro w9 hS9; (try dsimp only at hS9); go_simp; (try with_reducible rfl)
      set_option linter.unusedSimpArgs false in try simp only [Act.put, List.getElem_toArray, List.getElem_cons_succ, List.getElem_cons_zero, List.setIfInBounds_toArray, List.set_cons_zero, List.set_cons_succ]
      refine wpAnyH_take (i := 3) (v := ?_) rfl (by kernel_rfl) (by kernel_rfl) (by kernel_rfl) (fun _ _ _ h => h) (Or.inl ⟨by kernel_rfl, ?_⟩) (by assumption) ?_
      rotate_left
      · intro w9 hS9; (try dsimp only at hS9); go_simp; (try with_reducible rfl)
      set_option linter.unusedSimpArgs false in try simp only [Act.put, List.getElem_toArray, List.getElem_cons_succ, List.getElem_cons_zero, List.setIfInBounds_toArray, List.set_cons_zero, List.set_cons_succ]
      refine wpAnyH_take (i := 4) (v := ?_) rfl (by kernel_rfl) (by kernel_rfl) (by kernel_rfl) (fun _ _ _ h => h) (Or.inl ⟨by kernel_rfl, ?_⟩) (by assumption) ?_
      rotate_left
      · intro w9 hS9; (try dsimp only at hS9); go_simp; (try with_reducible rfl)
      set_option linter.unusedSimpArgs false in try simp only [Act.put, List.getElem_toArray, List.getElem_cons_succ, List.getElem_cons_zero, List.setIfInBounds_toArray, List.set_cons_zero, List.set_cons_succ]
      refine wpAnyH_take (i := 5) (v := ?_) rfl (by kernel_rfl) (by kernel_rfl) (by kernel_rfl) (fun _ _ _ h => h) (Or.inl ⟨by kernel_rfl, ?_⟩) (by assumption) ?_
      rotate_left
      · intro w9 hS9; (try dsimp only at hS9); go_simp; (try with_reducible rfl)
      set_option linter.unusedSimpArgs false in try simp only [Act.put, List.getElem_toArray, List.getElem_cons_succ, List.getElem_cons_zero, List.setIfInBounds_toArray, List.set_cons_zero, List.set_cons_succ]
      refine wpAnyH_ready (rs := [2]) (by kernel_rfl) (by simp) ?_
      refine AllReadyH.cons rfl (fun K hK => ?_) (AllReadyH.nil)
      go_simp
      refine hK.out _ _ b1 (fun hHeld1 => ?_)
      clear hK K hHeld0
      set_option linter.unusedSimpArgs false in try simp only [Act.put, List.getElem_toArray, List.getElem_cons_succ, List.getElem_cons_zero, List.setIfInBounds_toArray, List.set_cons_zero, List.set_cons_succ]
      refine wpAnyH_take (i := 6) (v := ?_) rfl (by kernel_rfl) (by kernel_rfl) (by kernel_rfl) (fun _ _ _ h => h) (Or.inl ⟨by kernel_rfl, ?_⟩) (by assumption) ?_
      rotate_left
      · intro w9 hS9; (try dsimp only at hS9); go_simp; (try with_reducible rfl)
      set_option linter.unusedSimpArgs false in try simp only [Act.put, List.getElem_toArray, List.getElem_cons_succ, List.getElem_cons_zero, List.setIfInBounds_toArray, List.set_cons_zero, List.set_cons_succ]
      refine wpAnyH_take (i := 7) (v := ?_) rfl (by kernel_rfl) (by kernel_rfl) (by kernel_rfl) (fun _ _ _ h => h) (Or.inl ⟨by kernel_rfl, ?_⟩) (by assumption) ?_
      rotate_left
      · intro w9 hS9; (try dsimp only at hS9); go_simp; (try with_reducible rfl)
      set_option linter.unusedSimpArgs false in try simp only [Act.put, List.getElem_toArray, List.getElem_cons_succ, List.getElem_cons_zero, List.setIfInBounds_toArray, List.set_cons_zero, List.set_cons_succ]
      refine wpAnyH_ready (rs := [8]) (by kernel_rfl) (by simp) ?_
      refine AllReadyH.cons rfl (fun K hK => ?_) (AllReadyH.nil)
      go_simp
      refine hK.out _ _ bn (fun hHeld2 => ?_)
      clear hK K hHeld1
      set_option linter.unusedSimpArgs false in try simp only [Act.put, List.getElem_toArray, List.getElem_cons_succ, List.getElem_cons_zero, List.setIfInBounds_toArray, List.set_cons_zero, List.set_cons_succ]
      refine wpAnyH_done (by kernel_rfl) ?_ _
      go_wp2_with fail
      go_roundw
      case rel => exact ⟨2, _, _, by go_num, .inr (.inr ⟨rfl, rfl, rfl⟩), hA2, hB2, hR2, hb2⟩
      case measure => simp [intOf]
    · have y0 := hR.frozen 0
      have y1 := hR.frozen 1
      have z0 := hR.cell 0
      have z1 := hR.cell 1
      simp at z0 z1
      have hR3 := (hR.set 0 (.int .u64 ((a ||| c : Nat) : Int))).set 1 (.int .u64 ((b ||| d : Nat) : Int))
      simp at hR3
      have r0 := hR3.cell 0
      have r1 := hR3.cell 1
      simp at r0 r1
      have hb3 := (hb.setCell (p := ⟨w.heap.size + 2, 0, none⟩) (by show w.heap.size ≤ w.heap.size + 2; omega) (.int .u64 ((a ||| c : Nat) : Int))).setCell (p := ⟨w.heap.size + 2, 1, none⟩) (by show w.heap.size ≤ w.heap.size + 2; omega) (.int .u64 ((b ||| d : Nat) : Int))
      clear hA hB hR hb
      go_wp2_with fail
      refine bodyPost_ret (v := .agg #[.int .u64 ((a ||| c : Nat) : Int), .int .u64 ((b ||| d : Nat) : Int)]) (by simp [results, Tryz.results76, go_sem, r0, r1]) rfl ?_
      exact ⟨rfl, hb3⟩
end Go.Proofs.YtffkdidgfeknkaaGreatDoor
