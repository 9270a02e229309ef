/-
  The small functions of the program's run: a number, a step. Conditions: a run as ExM tells it.
-/
import Derived.Test.YtajmbnimdngjhaaGreatDoorExe
import Derived.Test.YtajmbnimdngjhaaGreatDoorEnds
import Derived.Test.YtajmbnimdngjhaaGreatDoorElemI
import Derived.Test.YtajmbnimdngjhaaGreatDoorHold
import Derived.Deep.RegionHeld3
import Derived.Lib.Hide
namespace Go.Proofs.YtajmbnimdngjhaaGreatDoor
set_option linter.unusedVariables false
open Go.RowKit

/-- What a part of a run leaves as it was. -/
structure FarX (w w' : World) (base gx gv gc : Nat) (E E' : Option Addr) : Prop where
  below : Below base w w'
  blk : ∀ k, k < w.heap.size → k ≠ gx → k ≠ gv → k ≠ gc → E ≠ some ⟨k, 0, none⟩ → w'.heap[k]? = w.heap[k]?
  ev : ∀ k, E' = some ⟨k, 0, none⟩ → E = some ⟨k, 0, none⟩ ∨ w.heap.size ≤ k
section
variable {w w1 w2 : World} {base gx gv gc : Nat} {E E1 E2 : Option Addr}
theorem FarX.refl (hs : base ≤ w.heap.size) : FarX w w base gx gv gc E E := ⟨Below.refl _ _, fun _ _ _ _ _ _ => rfl, fun _ h => .inl h⟩
theorem FarX.of_below (hs : base ≤ w.heap.size) (h : Below w.heap.size w w1) : FarX w w1 base gx gv gc E E := ⟨h.mono hs, fun k hk _ _ _ _ => h.block k hk, fun _ h => .inl h⟩
theorem FarX.trans (h : FarX w w1 base gx gv gc E E1) (k : FarX w1 w2 base gx gv gc E1 E2) : FarX w w2 base gx gv gc E E2 := by
  have hs := h.below.size
  refine ⟨h.below.trans k.below, fun j hj h1 h2 h3 h4 => ?_, fun j hj => ?_⟩
  · refine (k.blk j (by omega) h1 h2 h3 (fun e => ?_)).trans (h.blk j hj h1 h2 h3 h4)
    rcases h.ev j e with h5 | h5
    · exact h4 h5
    · omega
  · rcases k.ev j hj with h5 | h5
    · exact h.ev j h5
    · exact .inr (by omega)
theorem FarX.drew (h : FarX w w1 base gx gv gc E E1) : FarX w w1.drew base gx gv gc E E1 := ⟨h.below.drew, h.blk, h.ev⟩
theorem FarX.cell {b i : Nat} {v : Value} (h : FarX w w1 base gx gv gc E E1) (hc : w.cell? ⟨b, i, none⟩ = some v) (hx : b ≠ gx) (hv : b ≠ gv) (hg : b ≠ gc) (he : E ≠ some ⟨b, 0, none⟩) : w1.cell? ⟨b, i, none⟩ = some v :=
  (World.cell?_of_block (a := ⟨b, i, none⟩) (h.blk b (cell_lt hc) hx hv hg he)).trans hc
theorem FarX.set (hs : base ≤ w.heap.size) {b i : Nat} {v : Value} (hb : b = gx ∨ b = gv ∨ b = gc) (hB : base ≤ b) : FarX w (w.setCell ⟨b, i, none⟩ v) base gx gv gc E E :=
  ⟨only_below only_set hB hs, fun k hk h1 h2 h3 _ => Below.heap_setCell w ⟨b, i, none⟩ v k (by show k ≠ b; rcases hb with e | e | e <;> (subst e; assumption)), fun _ h => .inl h⟩
end
section
variable {w : World} {base gx gv cv gc cc : Nat} {E : Option Addr} {ce fuel : Nat} {s : RS}
set_option maxRecDepth 100000 in
set_option maxHeartbeats 1000000 in
theorem number_c (c0 : Int) (D : Option Addr) (m d : Nat) (zs : List Int) (w : World) (h : ExM w base gx gv cv gc cc E ce fuel s) (g : GoodS s) (h3 : InL w w.heap.size D m zs) (hv : tmB (c0, zs) = true) (hl : zs.length ≤ 4) :
    Calls Tryz.prog 210 #[.pointer (some ⟨gx, 0, none⟩), .agg #[.int .i64 c0, .slice D m d]] w fun e w' => e = .returned (.int .i64 (numS s.v (c0, zs))) ∧ Below w.heap.size w w' := by
  have hm := h3.1
  have hb0 := bnew w (.cells #[.int .i64 c0, .slice D m d] 81)
  have p0 : (w.alloc (.cells #[.int .i64 c0, .slice D m d] 81)).cell? ⟨w.heap.size, 0, none⟩ = some (.int .i64 c0) := by simp
  have p1 : (w.alloc (.cells #[.int .i64 c0, .slice D m d] 81)).cell? ⟨w.heap.size, 1, none⟩ = some (.slice D m d) := by simp
  have x0 : (w.alloc (.cells #[.int .i64 c0, .slice D m d] 81)).cell? ⟨gx, 0, none⟩ = some (.slice (some ⟨gv, 0, none⟩) 4 cv) := (h.blk.next hb0).cell 0
  have HN := Lib.hid (numberOfV_c w.heap.size c0 D m d zs (some ⟨gv, 0, none⟩) 4 cv s.v (w.alloc (.cells #[.int .i64 c0, .slice D m d] 81)).drew (InL.drew (h3.next hb0 (Nat.le_refl _))) (InL.drew (h.v.all.next hb0 (Nat.le_refl _))) (by show _ ≤ (w.alloc _).heap.size; simp) hv (by omega) g.big)
  have HV : Hid (evTo (c0, zs) s.v zs.length = numS s.v (c0, zs)) := rfl
  rw [HV.out] at HN
  clear h h3
  go_enter Tryz.func210, Tryz.ntmps210
  go_wp2_with fail
  generalize w.alloc (.cells #[.int .i64 c0, .slice D m d] 81) = W at hb0 p0 p1 x0 HN ⊢
  go_region_held3 (fun w' => w'.cell? ⟨w.heap.size, 0, none⟩ = some (.int .i64 c0) ∧ w'.cell? ⟨w.heap.size, 1, none⟩ = some (.slice D m d) ∧ w'.cell? ⟨gx, 0, none⟩ = some (.slice (some ⟨gv, 0, none⟩) 4 cv))
    (first | go_keep | exact ⟨cell_on p0 hb1, cell_on p1 hb1, cell_on x0 hb1⟩ | fail)
    (first | (go_at_call 211; refine HN.out.mono ?_; rintro e w1 ⟨rfl, hb1⟩) | fail)
  go_wp2_with fail
  go_ret
  exact ⟨rfl, bon hb0 (bstep hb1)⟩
set_option maxRecDepth 100000 in
set_option maxHeartbeats 1000000 in
theorem step_no (w : World) (h : ExM w base gx gv cv gc cc E ce fuel s) (hn : s.n = fuel) :
    Calls Tryz.prog 201 #[.pointer (some ⟨gx, 0, none⟩)] w fun e w' => e = .returned (.bool false) ∧ Below w.heap.size w w' := by
  have x3 : w.cell? ⟨gx, 3, none⟩ = some (.int .i64 (s.n : Int)) := h.blk.cell 3
  have x4 : w.cell? ⟨gx, 4, none⟩ = some (.int .i64 (fuel : Int)) := h.blk.cell 4
  rw [hn] at x3
  clear h hn
  go_enter Tryz.func201, Tryz.ntmps201
  go_wp2_with fail
  go_region
  go_wp2_with fail
  go_ret
  exact ⟨rfl, (Below.refl _ _).drew⟩
set_option maxRecDepth 100000 in
set_option maxHeartbeats 1000000 in
theorem step_yes (w : World) (h : ExM w base gx gv cv gc cc E ce fuel s) (hn : s.n < fuel) (hf : fuel ≤ 2000) :
    Calls Tryz.prog 201 #[.pointer (some ⟨gx, 0, none⟩)] w fun e w' => e = .returned (.bool true) ∧ ExM w' base gx gv cv gc cc E ce fuel s.more ∧ FarX w w' base gx gv gc E E := by
  have x3 : w.cell? ⟨gx, 3, none⟩ = some (.int .i64 (s.n : Int)) := h.blk.cell 3
  have x4 : w.cell? ⟨gx, 4, none⟩ = some (.int .i64 (fuel : Int)) := h.blk.cell 4
  have f3 := h.blk.frozen 3
  have hne : ((s.n : Int) == (fuel : Int)) = false := by simp; omega
  have HM := Lib.hid h.more
  have HF : Hid (FarX w (w.setCell ⟨gx, 3, none⟩ (.int .i64 ((s.n : Int) + 1))) base gx gv gc E E) := FarX.set (Nat.le_trans h.bx (Nat.le_of_lt h.lt.1)) (.inl rfl) h.bx
  clear h
  go_enter Tryz.func201, Tryz.ntmps201
  go_wp2_with fail
  go_region
  go_wp2_with fail
  go_ret
  exact ⟨rfl, HM.out.drew, HF.out.drew⟩
end
set_option maxRecDepth 100000 in
theorem isCell_c (n : Int) (w : World) : Calls Tryz.prog 144 #[.int .i64 n] w fun e w' => e = .returned (.bool (decide (0 ≤ n) && decide (n ≤ 7))) ∧ w = w' := by
  go_enter Tryz.func144, Tryz.ntmps144
  go_wp2_with fail
  refine (isBetween_k n 0 7 w).mono ?_
  rintro e w1 ⟨rfl, rfl⟩
  go_wp2_with fail
  go_ret
  exact ⟨rfl, rfl⟩
set_option maxRecDepth 100000 in
theorem isInt_c (n : Int) (w : World) : Calls Tryz.prog 143 #[.int .i64 n] w fun e w' => e = .returned (.bool (decide (-1000000000 ≤ n) && decide (n ≤ 1000000000))) ∧ w = w' := by
  go_enter Tryz.func143, Tryz.ntmps143
  go_wp2_with fail
  refine (isBetween_k n (-1000000000) 1000000000 w).mono ?_
  rintro e w1 ⟨rfl, rfl⟩
  go_wp2_with fail
  go_ret
  exact ⟨rfl, rfl⟩
end Go.Proofs.YtajmbnimdngjhaaGreatDoor
