/-
  The model's sums of terms. Conditions: valid terms, multipliers of at most 1000000.
-/
import Derived.Test.YtajmbnimdngjhaaGreatDoorSum
import Derived.Test.YtajmbnimdngjhaaGreatDoorValid
import Derived.Test.YtajmbnimdngjhaaGreatDoorOwn
import Derived.WalkSmall
import Derived.Deep.RegionHeld3
import Derived.Deep.DeepCutAuto
import Derived.Maps.AppendAt
import Derived.Test.YtajmbnimdngjhaaGreatDoorEq
import Derived.Test.YtajmbnimdngjhaaGreatDoorAppend
import Derived.Test.YtajmbnimdngjhaaGreatDoorEvTo
import Derived.Test.YtajmbnimdngjhaaGreatDoorOwn64
namespace Go.Proofs.YtajmbnimdngjhaaGreatDoor
open Go.RowKit

theorem ret_int' {k : IntKind} {a b : Int} (h : a = b) : Ending.returned (.int k a) = .returned (.int k b) := by rw [h]
theorem cell_far {w : World} {b o g i : Nat} {v x : Value} (hc : w.cell? ⟨b, o, none⟩ = some v) (hne : b ≠ g) : (w.setCell ⟨g, i, none⟩ x).cell? ⟨b, o, none⟩ = some v :=
  (World.cell?_setCell_other w ⟨g, i, none⟩ ⟨b, o, none⟩ x (fun e => hne (by injection e with e1; exact e1.symm))).trans hc
theorem fro_on {w w1 : World} {b o : Nat} (hf : w.frozen? ⟨b, o, none⟩ = false) (hl : b < w.heap.size) (h : Below w.drew.heap.size w.drew w1) : w1.frozen? ⟨b, o, none⟩ = false := by
  have h1 : w.drew.frozen? ⟨b, o, none⟩ = false := hf
  exact (h.frozen (p := ⟨b, o, none⟩) hl).trans h1
/-- The numbers of a sum of two multiples. -/
def lin (a : Int × List Int) (m : Int) (b : Int × List Int) (n : Int) : Int → Int := fun k => m * tf a k + n * tf b k
theorem lin_nat (a : Int × List Int) (m : Int) (b : Int × List Int) (n : Int) (i : Nat) : lin a m b n (i : Nat) = m * a.2.getD i 0 + n * b.2.getD i 0 := by unfold lin; rw [tf_nat, tf_nat]
theorem lin_const (a : Int × List Int) (m : Int) (b : Int × List Int) (n : Int) : lin a m b n (-1) = m * a.1 + n * b.1 := by unfold lin; rw [tf_const, tf_const]
/-- What a function gives: a term in memory of its own, and whether there is one. -/
def GivesT (R : (Int × List Int) × Bool) (w : World) (e : Ending) (w' : World) : Prop :=
  ∃ A k c, e = .returned (.tuple #[.agg #[.int .i64 R.1.1, .slice A k c], .bool R.2]) ∧ OwnL w' w.heap.size w'.heap.size A k c R.1.2 ∧ Below w.heap.size w w'
theorem tmB_nil (c : Int) (h1 : -1000000 ≤ c) (h2 : c ≤ 1000000) : tmB (c, []) = true := tmB_empty rfl h1 h2

theorem give_end {w w1 w2 : World} {rb : Nat} {A : Option Addr} {k c : Nat} {zs : List Int} {x y : Value} (hb : Below w.heap.size w w1) (h1 : w.heap.size ≤ rb) (h2 : rb < w1.heap.size) (hown : OwnL w2 w1.heap.size w2.heap.size A k c zs) (hb2 : Below w1.heap.size w1 w2) :
    OwnL ((w2.setCell ⟨rb, 0, none⟩ x).setCell ⟨rb, 1, none⟩ y) w.heap.size ((w2.setCell ⟨rb, 0, none⟩ x).setCell ⟨rb, 1, none⟩ y).heap.size A k c zs ∧ Below w.heap.size w ((w2.setCell ⟨rb, 0, none⟩ x).setCell ⟨rb, 1, none⟩ y) := by
  have ho : Out rb (rb + 1) w2 ((w2.setCell ⟨rb, 0, none⟩ x).setCell ⟨rb, 1, none⟩ y) := (Out.of_grown (only_set (g := rb)) (fun j hj => by injection hj; omega)).trans (Out.of_grown (only_set (g := rb)) (fun j hj => by injection hj; omega))
  have hs := ho.size
  exact ⟨((hown.out ho (by omega)).less (by omega)).wide hs (Nat.le_refl _), ((hb.trans (hb2.mono hb.size)).setCell (p := ⟨rb, 0, none⟩) h1 _).setCell (p := ⟨rb, 1, none⟩) h1 _⟩
theorem give_no {w w1 : World} {rb : Nat} {x y : Value} (hb : Below w.heap.size w w1) (h1 : w.heap.size ≤ rb) : Below w.heap.size w ((w1.setCell ⟨rb, 0, none⟩ x).setCell ⟨rb, 1, none⟩ y) := (hb.setCell (p := ⟨rb, 0, none⟩) h1 _).setCell (p := ⟨rb, 1, none⟩) h1 _
end Go.Proofs.YtajmbnimdngjhaaGreatDoor
