/-
  The state and the config that a machine stands for. Conditions: a valid config.
-/
import Derived.Test.YtffkdidgfeknkaaDoorMachO
import Derived.Test.YtffkdidgfeknkaaDoorBunC
namespace Go.Proofs.YtffkdidgfeknkaaDoor
set_option linter.unusedVariables false
open Go.RowKit

theorem Rep.inV {w : World} {g : Nat} {L vs zs st : List Int} {p : Int} (r : Rep L vs zs st p) (hM : BlkIs w g 94 (mc L)) (hv : vs.length = 4) : InL w (g + 1) (some ⟨g, 0, none⟩) 4 vs := by
  refine ⟨hv, fun j hj => ?_⟩
  rw [List.length_map, hv] at hj
  refine ⟨g, 0, rfl, by omega, ?_⟩
  rw [hM.cell, Nat.zero_add, List.getElem?_map, some_getD (by omega)]
  exact mc_at ((r.v j hj).trans (some_getD (by omega)))
theorem Rep.inZ {w : World} {g : Nat} {L vs zs st : List Int} {p : Int} (r : Rep L vs zs st p) (hM : BlkIs w g 94 (mc L)) (hz : zs.length = 8) : InL w (g + 1) (some ⟨g, 4, none⟩) 8 zs := by
  refine ⟨hz, fun j hj => ?_⟩
  rw [List.length_map, hz] at hj
  refine ⟨g, 4, rfl, by omega, ?_⟩
  rw [hM.cell, List.getElem?_map, some_getD (by omega)]
  exact mc_at ((r.z j hj).trans (some_getD (by omega)))
theorem Rep.inS {w : World} {g : Nat} {L vs zs st : List Int} {p : Int} (r : Rep L vs zs st p) (hM : BlkIs w g 94 (mc L)) : InL w (g + 1) (some ⟨g, 12, none⟩) st.length st := by
  refine ⟨rfl, fun j hj => ?_⟩
  rw [List.length_map] at hj
  refine ⟨g, 12, rfl, by omega, ?_⟩
  rw [hM.cell, List.getElem?_map, some_getD hj]
  exact mc_at ((r.s j hj).trans (some_getD hj))

theorem load64 {w : World} {g o : Nat} {v : Value} (h : w.cell? ⟨g, o, none⟩ = some v) : (Instr.loadAt 2 (.pointer (some ⟨g, o, none⟩))).run Tryd.prog w = .ok v w := by
  simp [Instr.loadAt, go_sem, h]

set_option maxRecDepth 100000 in
set_option maxHeartbeats 4000000 in
theorem state_c (L vs zs st : List Int) (p : Int) (w : World) (r : Rep L vs zs st p) (hv : vs.length = 4) (hz : zs.length = 8) :
    Calls Tryd.prog 61 #[.agg (mc L)] w fun e w' => ∃ A c A' c' mid, e = .returned (.agg #[.slice A 4 c, .slice A' 8 c']) ∧ OwnL w' w.heap.size mid A 4 c vs ∧ OwnL w' mid w'.heap.size A' 8 c' zs ∧ (w.heap.size ≤ mid ∧ mid ≤ w'.heap.size) ∧ Below w.heap.size w w' := by
  have hb0 : Below w.heap.size w ((w.alloc (.cells (mc L) 94)).alloc (.cells #[.slice none 0 0, .slice none 0 0] 46)) := bon (bnew _ _) (bnew _ _)
  have hM : BlkIs ((w.alloc (.cells (mc L) 94)).alloc (.cells #[.slice none 0 0, .slice none 0 0] 46)) w.heap.size 94 (mc L) := (blk_new _ _ _ _ rfl).next (bnew _ _)
  have hR : BlkIs ((w.alloc (.cells (mc L) 94)).alloc (.cells #[.slice none 0 0, .slice none 0 0] 46)) (w.heap.size + 1) 46 #[.slice none 0 0, .slice none 0 0] := blk_new _ _ _ _ (by simp)
  have hsz : ((w.alloc (.cells (mc L) 94)).alloc (.cells #[.slice none 0 0, .slice none 0 0] 46)).heap.size = w.heap.size + 2 := by simp
  have HR := Lib.hid r
  clear r
  go_enter Tryd.func61, Tryd.ntmps61
  go_wp2_with fail
  generalize (w.alloc (.cells (mc L) 94)).alloc (.cells #[.slice none 0 0, .slice none 0 0] 46) = W at hb0 hM hR hsz ⊢
  have HV := Lib.hid (clone64_c (some ⟨w.heap.size, 0, none⟩) 4 4 (w.heap.size + 1) vs W.drew (HR.out.inV (show BlkIs W.drew _ _ _ from hM) hv) (by show _ ≤ W.heap.size; omega) (by omega))
  refine wp_region_held_drew (S := fun W' => BlkIs W' w.heap.size 94 (mc L)) (by kernel_rfl) hM ?_
  intro hHeld
  refine wpAnyH_take (i := 0) (v := ?_) rfl (by kernel_rfl) (by kernel_rfl) (by kernel_rfl) (fun _ _ _ h => h) (Or.inl ⟨by kernel_rfl, ?_⟩) (by assumption) ?_
  rotate_left
  · intro w9 hS9; (try dsimp only at hS9); go_simp; (try with_reducible rfl)
  set_option linter.unusedSimpArgs false in try simp only [Act.put, List.getElem_toArray, List.getElem_cons_succ, List.getElem_cons_zero, List.setIfInBounds_toArray, List.set_cons_zero, List.set_cons_succ]
  refine wpAnyH_take (i := 1) (v := ?_) rfl (by kernel_rfl) (by kernel_rfl) (by kernel_rfl) (fun _ _ _ h => h) (Or.inl ⟨by kernel_rfl, ?_⟩) (by assumption) ?_
  rotate_left
  · intro w9 hS9; (try dsimp only at hS9); go_simp; (try with_reducible rfl)
  set_option linter.unusedSimpArgs false in try simp only [Act.put, List.getElem_toArray, List.getElem_cons_succ, List.getElem_cons_zero, List.setIfInBounds_toArray, List.set_cons_zero, List.set_cons_succ]
  refine wpAnyH_take (i := 3) (v := ?_) rfl (by kernel_rfl) (by kernel_rfl) (by kernel_rfl) (fun _ _ _ h => h) (Or.inl ⟨by kernel_rfl, ?_⟩) (by assumption) ?_
  rotate_left
  · intro w9 hS9; (try dsimp only at hS9); go_simp; (try with_reducible rfl)
  set_option linter.unusedSimpArgs false in try simp only [Act.put, List.getElem_toArray, List.getElem_cons_succ, List.getElem_cons_zero, List.setIfInBounds_toArray, List.set_cons_zero, List.set_cons_succ]
  refine wpAnyH_take (i := 4) (v := ?_) rfl (by kernel_rfl) (by kernel_rfl) (by kernel_rfl) (fun _ _ _ h => h) (Or.inl ⟨by kernel_rfl, ?_⟩) (by assumption) ?_
  rotate_left
  · intro w9 hS9; (try dsimp only at hS9); go_simp; (try with_reducible rfl)
  set_option linter.unusedSimpArgs false in try simp only [Act.put, List.getElem_toArray, List.getElem_cons_succ, List.getElem_cons_zero, List.setIfInBounds_toArray, List.set_cons_zero, List.set_cons_succ]
  refine wpAnyH_ready (rs := [2]) (by kernel_rfl) (by simp) ?_
  refine AllReadyH.cons rfl (fun K hK => ?_) AllReadyH.nil
  go_simp
  go_wp2_with (go_at_call 54; refine HV.out.mono ?_; rintro e w1 ⟨A, c, rfl, ow1, hb1⟩)
  have hb1' := bstep hb1
  have hM1 := hM.next hb1'
  have hR1 := hR.next hb1'
  have HZ := Lib.hid (clone64_c (some ⟨w.heap.size, 4, none⟩) 8 8 (w.heap.size + 1) zs w1 (HR.out.inZ hM1 hz) (by have := hb1'.size; omega) (by omega))
  refine hK.out _ _ hM1 (fun hHeld2 => ?_)
  clear hK K hHeld
  set_option linter.unusedSimpArgs false in try simp only [Act.put, List.getElem_toArray, List.getElem_cons_succ, List.getElem_cons_zero, List.setIfInBounds_toArray, List.set_cons_zero, List.set_cons_succ]
  refine wpAnyH_ready (rs := [5]) (by kernel_rfl) (by simp) ?_
  refine AllReadyH.cons rfl (fun K hK => ?_) AllReadyH.nil
  go_simp
  go_wp2_with (go_at_call 54; refine HZ.out.mono ?_; rintro e w2 ⟨A', c', rfl, ow2, hb2⟩)
  have hR2 := hR1.next hb2
  have hs1 := hb1'.size
  have hs2 := hb2.size
  have z0 := hR2.cell 0
  have z1 := hR2.cell 1
  have f0 := hR2.frozen 0
  have f1 := hR2.frozen 1
  simp at z0 z1
  refine hK.out _ _ (hM1.next hb2) (fun hHeld3 => ?_)
  clear hK K hHeld2
  set_option linter.unusedSimpArgs false in try simp only [Act.put, List.getElem_toArray, List.getElem_cons_succ, List.getElem_cons_zero, List.setIfInBounds_toArray, List.set_cons_zero, List.set_cons_succ]
  refine wpAnyH_take (i := 6) (v := .agg #[.slice A 4 c, .slice A' 8 c']) rfl (by kernel_rfl) (by kernel_rfl) (by kernel_rfl) (fun _ _ _ h => h) (Or.inl ⟨by kernel_rfl, ?_⟩) (by assumption) ?_
  · intro w9 hS9
    exact exec_build 46 _ rfl _ (by kernel_rfl)
  set_option linter.unusedSimpArgs false in try simp only [Act.put, List.getElem_toArray, List.getElem_cons_succ, List.getElem_cons_zero, List.setIfInBounds_toArray, List.set_cons_zero, List.set_cons_succ]
  have hR4 := (hR2.set 0 (.slice A 4 c)).set 1 (.slice A' 8 c')
  have ho4 : Out (w.heap.size + 1) (w.heap.size + 2) w2 ((w2.setCell ⟨w.heap.size + 1, 0, none⟩ (.slice A 4 c)).setCell ⟨w.heap.size + 1, 1, none⟩ (.slice A' 8 c')) := out_set (out_set (Out.refl _ _ _) (by omega)) (by omega)
  have hM4 := (hM1.next hb2).out ho4 (by omega)
  have k0 : ((w2.setCell ⟨w.heap.size + 1, 0, none⟩ (.slice A 4 c)).setCell ⟨w.heap.size + 1, 1, none⟩ (.slice A' 8 c')).cell? ⟨w.heap.size + 1, 0, none⟩ = some (.slice A 4 c) := by rw [hR4.cell 0]; simp
  have k1 : ((w2.setCell ⟨w.heap.size + 1, 0, none⟩ (.slice A 4 c)).setCell ⟨w.heap.size + 1, 1, none⟩ (.slice A' 8 c')).cell? ⟨w.heap.size + 1, 1, none⟩ = some (.slice A' 8 c') := by rw [hR4.cell 1]; simp
  have hs4 := ho4.size
  have o1 := (ow1.next hb2).out ho4 (by show _ ∨ _; left; show _ ≤ W.heap.size; omega)
  have o2 := (ow2.out ho4 (by left; omega)).wide hs4 (Nat.le_refl _)
  have hbF := (hb0.trans ((hb1'.trans (hb2.mono hs1)).mono (by omega))).trans (ho4.below (by omega) (by omega))
  refine wpAnyH_ready (rs := [7]) (by kernel_rfl) (by simp) ?_
  refine AllReadyH.cons rfl (fun K hK => ?_) AllReadyH.nil
  go_simp
  refine hK.out _ _ hM4 (fun hHeld4 => ?_)
  clear hK K hHeld3 hHeld4
  refine wpAnyH_done (by kernel_rfl) ?_ _
  generalize (w2.setCell ⟨w.heap.size + 1, 0, none⟩ (.slice A 4 c)).setCell ⟨w.heap.size + 1, 1, none⟩ (.slice A' 8 c') = W4 at k0 k1 o1 o2 hbF hs4 ⊢
  have HO1 := Lib.hid (o1.less (lo' := w.heap.size) (by show _ ≤ W.heap.size; omega))
  have HO2 := Lib.hid o2
  clear o1 o2 ow1 ow2 HV HZ HR hM hR hM1 hR1 hR2 hM4 hR4 z0 z1 f0 f1 ho4
  set_option linter.unusedSimpArgs false in try simp only [Act.put, List.getElem_toArray, List.getElem_cons_succ, List.getElem_cons_zero, List.setIfInBounds_toArray, List.set_cons_zero, List.set_cons_succ]
  go_wp2_with fail
  refine bodyPost_ret (v := .agg #[.slice A 4 c, .slice A' 8 c']) (by simp [results, Tryd.results61, go_sem, k0, k1]) rfl ?_
  exact ⟨A, c, A', c', w1.heap.size, rfl, HO1.out, HO2.out, ⟨by omega, by omega⟩, hbF⟩

end Go.Proofs.YtffkdidgfeknkaaDoor

