/-
  Copies of points: the program's copyOfPoint and eachOf. Conditions: at most 1000 points and facts, 100000 coefficients each.
-/
import Derived.Test.YtdmcpabpjhinhaaGreatDoorPointM
import Derived.Test.YtdmcpabpjhinhaaGreatDoorCopyO
namespace Go.Proofs.YtdmcpabpjhinhaaGreatDoor
set_option linter.unusedVariables false
open Go.RowKit

set_option maxRecDepth 100000 in
set_option maxHeartbeats 2000000 in
theorem copyOfPoint_o (x : P2) (A : Option Addr) (n c B : Nat) (w : World) (h : InTS w B A n x.s) (hB : B ≤ w.heap.size) (hn : n ≤ 1000) (he : ∀ t ∈ x.s, t.2.length ≤ 100000) :
    Calls Tryz.prog 84 #[.agg #[.int .i64 x.a, .slice A n c]] w fun e w' => ∃ g, e = .returned (.agg #[.int .i64 x.a, .slice (some ⟨g, 0, none⟩) n n]) ∧ OwnTS w' w.heap.size w'.heap.size (some ⟨g, 0, none⟩) n n x.s ∧ Below w.heap.size w w' := by
  have hb0 : Below w.heap.size w ((w.alloc (.cells #[.int .i64 x.a, .slice A n c] 83)).alloc (.cells #[.int .i64 0, .slice none 0 0] 83)) := bon (bnew _ _) (bnew _ _)
  have hP : BlkIs ((w.alloc (.cells #[.int .i64 x.a, .slice A n c] 83)).alloc (.cells #[.int .i64 0, .slice none 0 0] 83)) w.heap.size 83 #[.int .i64 x.a, .slice A n c] := (blk_new w _ _ _ rfl).next (bnew _ _)
  have hX : BlkIs ((w.alloc (.cells #[.int .i64 x.a, .slice A n c] 83)).alloc (.cells #[.int .i64 0, .slice none 0 0] 83)) (w.heap.size + 1) 83 #[.int .i64 0, .slice none 0 0] := blk_new _ _ _ _ (by simp)
  have hsz : ((w.alloc (.cells #[.int .i64 x.a, .slice A n c] 83)).alloc (.cells #[.int .i64 0, .slice none 0 0] 83)).heap.size = w.heap.size + 2 := by simp
  have HI := Lib.hid (h.next hb0 hB)
  clear h
  go_enter Tryz.func84, Tryz.ntmps84
  go_wp2_with fail
  generalize (w.alloc (.cells #[.int .i64 x.a, .slice A n c] 83)).alloc (.cells #[.int .i64 0, .slice none 0 0] 83) = W at hb0 hP hX hsz HI ⊢
  have hs0 := hb0.size
  have p0 : W.cell? ⟨w.heap.size, 0, none⟩ = some (.int .i64 x.a) := hP.cell 0
  have p1 : W.cell? ⟨w.heap.size, 1, none⟩ = some (.slice A n c) := hP.cell 1
  have HO := Lib.hid (eachCopy_o A n c B x.s W.drew HI.out (by show B ≤ W.heap.size; omega) hn he)
  have HX := Lib.hid (show BlkIs W.drew (w.heap.size + 1) 83 #[.int .i64 0, .slice none 0 0] from hX)
  have hne : w.heap.size ≠ w.heap.size + 1 := by omega
  clear hX hP he
  go_region_held3 (fun w' => w'.cell? ⟨w.heap.size, 0, none⟩ = some (.int .i64 x.a) ∧ w'.cell? ⟨w.heap.size, 1, none⟩ = some (.slice A n c))
    (first | go_keep | exact ⟨cell_on p0 hb1, cell_on p1 hb1⟩ | exact ⟨set_far hne (set_far hne (cell_on p0 hb1)), set_far hne (set_far hne (cell_on p1 hb1))⟩ | fail)
    (first | (go_at_call 80; refine HO.out.mono ?_; rintro e w1 ⟨g, rfl, hown, hb1⟩; have hX1 := HX.out.next hb1; have z0 := hX1.cell 0; have z1 := hX1.cell 1; have f0 := hX1.frozen 0; have f1 := hX1.frozen 1; simp at z0 z1) | fail)
  have hX2 := (hX1.set 0 (.int .i64 x.a)).set 1 (.slice (some ⟨g, 0, none⟩) n n)
  simp at hX2
  have r0 := hX2.cell 0
  have r1 := hX2.cell 1
  simp at r0 r1
  have ho : Out (w.heap.size + 1) (w.heap.size + 2) w1 ((w1.setCell ⟨w.heap.size + 1, 0, none⟩ (.int .i64 x.a)).setCell ⟨w.heap.size + 1, 1, none⟩ (.slice (some ⟨g, 0, none⟩) n n)) := out_set (out_set (Out.refl _ _ _) (by omega)) (by omega)
  have hb01 := bon hb0 (bstep hb1)
  have hlo : w.heap.size + 2 ≤ W.drew.heap.size := by show w.heap.size + 2 ≤ W.heap.size; omega
  have hI := ((hown.out ho (.inl hlo)).less (lo' := w.heap.size) (show w.heap.size ≤ W.heap.size by omega)).wide ho.size (Nat.le_refl _)
  go_wp2_with fail
  refine bodyPost_ret (v := .agg #[.int .i64 x.a, .slice (some ⟨g, 0, none⟩) n n]) (by simp [results, Tryz.results84, go_sem, r0, r1]) rfl ?_
  exact ⟨g, rfl, hI, hb01.trans (ho.below (Nat.le_succ _) hb01.size)⟩

set_option maxRecDepth 100000 in
set_option maxHeartbeats 4000000 in
theorem eachPoint_o (A : Option Addr) (n c B : Nat) (ts : List P2) (w : World) (h : InP2 w B A n ts) (hB : B ≤ w.heap.size) (hn : n ≤ 1000) (he : ∀ x ∈ ts, x.s.length ≤ 1000 ∧ ∀ t ∈ x.s, t.2.length ≤ 100000) :
    Calls Tryz.prog 83 #[.slice A n c, .func (Fn.func 84) #[] #[]] w fun e w' => ∃ g, e = .returned (.slice (some ⟨g, 0, none⟩) n n) ∧ OwnP2 w' w.heap.size w'.heap.size (some ⟨g, 0, none⟩) n n ts ∧ Below w.heap.size w w' := by
  obtain ⟨i0, hi, hz0, hz1, hz2⟩ := info_parts infoPoint
  have HE := Lib.hid he
  clear he
  go_enter Tryz.func83, Tryz.ntmps83
  go_wp2_with (at_make; refine wpList_make_full _ rfl _ _ 30 rfl w.heap.size 83 i0 (.agg #[.int .i64 0, .slice none 0 0]) 2 Tryz.underlying30 hi hz0 hz1 .i64 .i64 _ _ n rfl rfl rfl rfl (by rw [hz2]; omega) (by unfold maxLen; omega) (Nat.le_refl _) ?_; intro w1 hown hgrow)
  have hb1 := (Below.refl w.heap.size w).grown hgrow (Nat.le_refl _) (fun _ h => by cases h)
  have hlt0 : w.heap.size < w1.heap.size := (hown.lt w.heap.size rfl).2
  have hl0 : LaidP2 w1 w.heap.size n 0 ts := ⟨_, fun _ => w.heap.size + 1, hown, Nat.le_refl _, fun i hi => by omega, hlt0, fun j hj => by omega⟩
  clear hgrow hown
  go_loopw [6, 7, 13] (fun _ _ i wr => ∃ k : Nat, k ≤ n ∧ i = .int .i64 k ∧ LaidP2 wr w.heap.size n k ts ∧ w.heap.size < wr.heap.size ∧ Below w.heap.size w wr) (fun _ _ i _ => n - (intOf i).toNat)
  case atStart => exact ⟨0, Nat.zero_le _, rfl, hl0, hlt0, hb1⟩
  case round =>
    clear hl0 hlt0 hb1
    obtain ⟨k, hk, rfl, hl, hlt0, hbel⟩ := hrel
    have hsz := hbel.size
    by_cases hlt : k < n
    · obtain ⟨b, off, t, rfl, hb, ht, A0, n0, c0, q0, q1, k0⟩ := (h.next hbel hB).at_ hlt
      have hee := HE.out t (List.mem_of_getElem? ht)
      have hk1 := k0.1
      have hb2 := bnew wr (.cells #[.int .i64 t.a, .slice A0 n0 c0] 83)
      have HI := Lib.hid (copyOfPoint_o t A0 n0 c0 B _ (k0.next hb2 (by omega)) (Nat.le_trans (by omega) hb2.size) (by omega) hee.2)
      have HT := Lib.hid ht
      clear k0 ht hee
      go_wp2_with fail
      refine HI.out.mono ?_
      rintro e w2 ⟨a0, rfl, o0, hb3⟩
      have hb23 := bon hb2 hb3
      have hsw := hb2.size
      have hs3 := hb3.size
      have HL := Lib.hid (laidP2_step hl HT.out hlt hlt0 hb23 ((o0.less hsw)) (by omega))
      have hs2 := hb23.size
      obtain ⟨xs, _, hox, _⟩ := hl
      have hox2 := own_below hox hb23
      have hxl : xs.length = n * 2 := hox.1
      have c0 := hox2.cellAt (k * 2) (by omega)
      have c1 := hox2.cellAt (k * 2 + 1) (by omega)
      rw [List.getElem?_eq_getElem (by omega)] at c0 c1
      have f0 := hox2.frozenAt (k * 2)
      have f1 := hox2.frozenAt (k * 2 + 1)
      have hb4 := (((hbel.trans (hb23.mono (by omega))).setCell (p := ⟨w.heap.size, k * 2, none⟩) (Nat.le_refl _) (.int .i64 t.a)).setCell (p := ⟨w.heap.size, k * 2 + 1, none⟩) (Nat.le_refl _) (.slice (some ⟨a0, 0, none⟩) n0 n0))
      clear hox hox2 o0 q0 q1
      go_wp2_with fail
      go_roundw
      case rel => exact ⟨k + 1, by omega, by go_num, HL.out, by simp; omega, hb4⟩
      case measure => simp [intOf]; omega
    · have e : k = n := by omega
      subst e
      go_wp2_with fail
      go_ret
      exact ⟨_, rfl, laidP2_own hl h.1 hlt0, hbel⟩
end Go.Proofs.YtdmcpabpjhinhaaGreatDoor
