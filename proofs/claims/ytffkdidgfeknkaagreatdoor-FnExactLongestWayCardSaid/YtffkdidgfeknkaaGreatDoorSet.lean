/-
  A set of numbers that is kept in a map: what its increasing list is. Conditions: at most 100000 numbers.
-/
import Derived.Shelf.SlIterI.Nil
import Derived.Shelf.SortM.Plain
import Derived.Shelf.SortM.SortNone
import Derived.Ground.GgzProg
import Derived.Ground.SlgmProg
import Derived.Maps.Own
import Derived.Maps.OwnOps
import Derived.Maps.OwnSet
import Derived.Test.YtffkdidgfeknkaaGreatDoorOwn
namespace Go.Proofs.YtffkdidgfeknkaaGreatDoor
open Go.RowKit Go.Maps Go.Sort Go.Shelf

shelf_lay_g SlLaysZI.n7 Ggz 7 at Tryz 98 as Tryz.keysA
shelf_lay_g SlLaysZI.n6 Ggz 6 at Tryz 97 as Tryz.sortedA
shelf_lay_g SlLaysM.n5 Slgm 5 at Tryz 112 as Tryz.sortA

theorem sortsA (m : Nat) : AnyZI.SortsIn Tryz.prog Tryz.sortedA_ren Fence.wide m :=
  ⟨fun blk off cap ss W hH hblk hsz => callsIn_wide.2 (AnyM.slices_Sort_int Tryz.sortA blk off cap ss W hH hblk hsz),
   fun p cap W => callsIn_wide.2 (AnyM.slices_Sort_int_none Tryz.sortA p cap W)⟩
theorem sorted_is {ss L : List Int} (h : ss.Perm L) (hL : L.Pairwise (· < ·)) : ss.mergeSort (fun x y => decide (x ≤ y)) = L := by
  have h1 := mergeSort_of_perm_i h
  refine (show ss.mergeSort leI = L from h1.trans ?_)
  exact List.mergeSort_of_pairwise (hL.imp fun h => by simp only [decide_eq_true_eq]; omega)

set_option maxRecDepth 100000 in
set_option maxHeartbeats 1000000 in
theorem increasing_c (b nn : Nat) (D : DataW Unit) (L : List Int) (w : World) (hown : w.ownsMap Tryz.prog 2 (plainElem Tryz.prog 4) b nn D) (hn : nn ≤ 100000) (hL : L.Pairwise (· < ·)) (hm : ∀ x, x ∈ L ↔ has D (.int .i64 x) = true) :
    Calls Tryz.prog 91 #[.map (some b)] w fun e w' => ∃ v, e = .returned v ∧ w'.ownsRow w.heap.size 2 1 v L.length (L.map ic) ∧ Below w.heap.size w w' := by
  have hmax : Maps.size D ≤ maxLen := by have := hown.size_le; unfold maxLen; omega
  have hbytes : Maps.size D * 8 ≤ 140737488355328 := by have := hown.size_le; omega
  have hperm : L.Perm (intKeys D) := CollectedI.perm (left := fun _ => false) ⟨hL.imp (fun h => by omega), fun x => by rw [hm x]; simp⟩ hown (Maps.int_keyed Tryz.underlying2) Tryz.underlying2 (fun _ => rfl)
  have HP := Lib.hid hperm
  clear hm hperm
  refine (callsIn_wide (n := 6)).1 ?_
  have hbl := hown.lt
  have hseq : SeqGives Fence.wide 2 Tryz.prog 113 #[.pointer (some ⟨w.heap.size, 0, none⟩)] encZ (fun ss => ss.Perm (intKeys D)) (Maps.size D) (w.alloc (.cells #[.map (some b)] 133)) :=
    AnyZI.keys_gives (ρ := Tryz.keysA_ren) { Tryz.keysA with } Fence.wide _ trivial rfl (by omega) w.heap.size b nn D _ (by simp) (by simp) (by
      obtain ⟨es, clock, hb, Ft, hs, hD⟩ := hown
      exact ⟨es, clock, (Below.heap_alloc _ _ b hbl).trans hb, Ft, hs, hD⟩)
  have cK : ∀ mb W, CallsIn Fence.wide 5 Tryz.prog 98 #[.map mb] W fun e w' => e = .returned (.func (.func 113) #[] #[.pointer (some ⟨W.heap.size, 0, none⟩)]) ∧ w' = W.alloc (.cells #[.map mb] 133) := fun mb W => AnyZI.keys_in Tryz.keysA Fence.wide 5 trivial rfl mb W
  have cS := AnyZI.sorted_in Tryz.sortedA Fence.wide 5 trivial trivial trivial trivial rfl (by omega) (sortsA _) (enters_of Tryz.func112 (by kernel_rfl) rfl) 113 #[.pointer (some ⟨w.heap.size, 0, none⟩)] trivial (enters_of Tryz.func113 (by kernel_rfl) rfl) _ _ hmax hbytes _ hseq
  change CallsIn _ _ Tryz.prog 97 _ _ _ at cS
  have hfK : Fence.wide.fn 98 := trivial
  have hfS : Fence.wide.fn 97 := trivial
  have HL := Lib.hid hL
  clear hL hown hbl hseq
  refine callsIn_of_wp Tryz.func91 rfl trivial ?_ rfl
  simp only [Tryz.ntmps91, List.size_toArray, List.length_cons, List.length_nil, Nat.reduceAdd, Nat.reduceSub, Array.replicate_succ, Array.replicate_zero, List.push_toArray, List.append_toArray, List.nil_append, List.cons_append]
  gi_wp2_with (first
    | (gi_at_call 98; refine (cK _ _).mono ?_; rintro e w' ⟨rfl, rfl⟩)
    | (gi_at_call 97; refine cS.mono ?_; rintro e w' ⟨v, ss, rfl, hS, hrow, hnil, hb⟩))
  go_ret
  have hls := sorted_is (hS.trans HP.out.symm) HL.out
  have hll : ss.length = L.length := by rw [← hls, List.length_mergeSort]
  rw [hls, hll] at hrow
  exact ⟨v, rfl, ownsRow_base_a hrow (by simp), ((Below.refl _ w).alloc (Nat.le_refl _) _).trans (hb.mono (by simp))⟩
end Go.Proofs.YtffkdidgfeknkaaGreatDoor
