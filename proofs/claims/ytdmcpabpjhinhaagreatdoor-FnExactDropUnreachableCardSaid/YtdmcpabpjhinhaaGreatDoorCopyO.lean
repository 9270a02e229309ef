/-
  Copies of terms in memory of the call's own, apart from each other. Conditions: at most 1000 terms, 100000 coefficients a term.
-/
import Derived.Test.YtdmcpabpjhinhaaGreatDoorRowT
import Derived.Test.YtdmcpabpjhinhaaGreatDoorTermsC
namespace Go.Proofs.YtdmcpabpjhinhaaGreatDoor
set_option linter.unusedVariables false
open Go.RowKit

theorem ownTS_nil (w : World) (lo : Nat) : OwnTS w lo w.heap.size none 0 0 [] :=
  ⟨rfl, Nat.le_refl _, [], fun _ => undef, World.ownsRow_nil _ _ _ _, fun k hk => (by cases hk), fun j t hj => (by simp at hj), fun i j hi => (by omega), fun i hi => (by omega)⟩
theorem laid_stepG {wr w1 : World} {B n k : Nat} {ts : List (Int × List Int)} {t : Int × List Int} {A1 : Option Addr} {n' c' : Nat} (h : Laid wr B n k ts) (ht : ts[k]? = some t) (hk : k < n) (hB : B < wr.heap.size)
    (hb : Below wr.heap.size wr w1) (hown : OwnL w1 wr.heap.size w1.heap.size A1 n' c' t.2) :
    Laid ((w1.setCell ⟨B, k * 2, none⟩ (.int .i64 t.1)).setCell ⟨B, k * 2 + 1, none⟩ (.slice A1 n' c')) B n (k + 1) ts := by
  obtain ⟨xs, e, h1, h2, h3, h4⟩ := h
  have h1' := own_below h1 hb
  have s1 := (h1'.stored (k * 2) (.int .i64 t.1)).1
  have s2 := (s1.stored (k * 2 + 1) (.slice A1 n' c')).1
  have hxl : xs.length = n * 2 := h1.1
  have ho : Out B (B + 1) w1 ((w1.setCell ⟨B, k * 2, none⟩ (.int .i64 t.1)).setCell ⟨B, k * 2 + 1, none⟩ (.slice A1 n' c')) :=
    (Out.of_grown (only_set (g := B)) (fun j hj => by injection hj; omega)).trans (Out.of_grown (only_set (g := B)) (fun j hj => by injection hj; omega))
  have hos := ho.size
  have hbs := hb.size
  have hg1 : ∀ q, (Value.slice A1 n' c').ownBlock = some q → q < w1.heap.size := hown.2.2.1
  have hg2 : ∀ q, (Value.slice A1 n' c').ownBlock = some q → wr.heap.size ≤ q := fun q hq => (hown.2.1.lt q hq).1
  refine ⟨_, fun j => if j = k then .slice A1 n' c' else e j, s2, fun j hj u hu => ?_, fun i j hij hj q hq => ?_, fun i hi q hq => ?_⟩
  · by_cases e1 : j = k
    · subst e1
      rw [ht] at hu
      obtain rfl := Option.some.inj hu
      refine ⟨?_, ?_, ?_⟩
      · rw [List.getElem?_set_ne (by omega), List.getElem?_set_self (by omega)]
      · rw [List.getElem?_set_self (by rw [List.length_set]; omega)]; simp
      · exact ⟨A1, n', c', by simp, ((hown.out ho (by omega)).less (by omega)).wide hos (Nat.le_refl _)⟩
    · obtain ⟨a, b, A', m', c', d, f⟩ := h2 j (by omega) u hu
      refine ⟨?_, ?_, A', m', c', ?_, ?_⟩
      · rw [List.getElem?_set_ne (by omega), List.getElem?_set_ne (by omega)]; exact a
      · rw [List.getElem?_set_ne (by omega), List.getElem?_set_ne (by omega)]; simp only [e1, if_false]; exact b
      · simp only [e1, if_false]; exact d
      · exact ((f.next hb).out ho (by omega)).wide (by omega) (Nat.le_refl _)
  · by_cases e1 : j = k
    · have hi : i ≠ k := by omega
      simp only [hi, if_false] at hq
      have := h4 i (by omega) q hq
      simp only [e1, if_true]
      intro hq'
      have := hg2 q hq'
      omega
    · have hi : i ≠ k := by omega
      simp only [hi, if_false] at hq
      simp only [e1, if_false]
      exact h3 i j hij (by omega) q hq
  · by_cases e1 : i = k
    · simp only [e1, if_true] at hq
      have := hg1 q hq
      have := hg2 q hq
      omega
    · simp only [e1, if_false] at hq
      have := h4 i (by omega) q hq
      omega

set_option maxRecDepth 100000 in
set_option maxHeartbeats 2000000 in
theorem copyOf_o (c0 : Int) (A : Option Addr) (n c B : Nat) (zs : List Int) (w : World) (h : InL w B A n zs) (hB : B ≤ w.heap.size) (hn : n ≤ 100000) :
    Calls Tryz.prog 81 #[.agg #[.int .i64 c0, .slice A n c]] w fun e w' => ∃ A' c', e = .returned (.agg #[.int .i64 c0, .slice A' n c']) ∧ OwnL w' w.heap.size w'.heap.size A' n c' zs ∧ Below w.heap.size w w' := by
  have hb0 : Below w.heap.size w ((w.alloc (.cells #[.int .i64 c0, .slice A n c] 88)).alloc (.cells #[.int .i64 0, .slice none 0 0] 88)) := bon (bnew _ _) (bnew _ _)
  have hP : BlkIs ((w.alloc (.cells #[.int .i64 c0, .slice A n c] 88)).alloc (.cells #[.int .i64 0, .slice none 0 0] 88)) w.heap.size 88 #[.int .i64 c0, .slice A n c] := (blk_new w _ _ _ rfl).next (bnew _ _)
  have hX : BlkIs ((w.alloc (.cells #[.int .i64 c0, .slice A n c] 88)).alloc (.cells #[.int .i64 0, .slice none 0 0] 88)) (w.heap.size + 1) 88 #[.int .i64 0, .slice none 0 0] := blk_new _ _ _ _ (by simp)
  have hsz : ((w.alloc (.cells #[.int .i64 c0, .slice A n c] 88)).alloc (.cells #[.int .i64 0, .slice none 0 0] 88)).heap.size = w.heap.size + 2 := by simp
  have HI := Lib.hid (h.next hb0 hB)
  clear h
  go_enter Tryz.func81, Tryz.ntmps81
  go_wp2_with fail
  generalize (w.alloc (.cells #[.int .i64 c0, .slice A n c] 88)).alloc (.cells #[.int .i64 0, .slice none 0 0] 88) = W at hb0 hP hX hsz HI ⊢
  have hs0 := hb0.size
  have p0 : W.cell? ⟨w.heap.size, 0, none⟩ = some (.int .i64 c0) := hP.cell 0
  have p1 : W.cell? ⟨w.heap.size, 1, none⟩ = some (.slice A n c) := hP.cell 1
  have HO := Lib.hid (clone64_c A n c B zs W.drew HI.out (by show B ≤ W.heap.size; omega) hn)
  have HX := Lib.hid (show BlkIs W.drew (w.heap.size + 1) 88 #[.int .i64 0, .slice none 0 0] from hX)
  have hne : w.heap.size ≠ w.heap.size + 1 := by omega
  clear hX hP
  go_region_held3 (fun w' => w'.cell? ⟨w.heap.size, 0, none⟩ = some (.int .i64 c0) ∧ w'.cell? ⟨w.heap.size, 1, none⟩ = some (.slice A n c))
    (first | go_keep | exact ⟨cell_on p0 hb1, cell_on p1 hb1⟩ | exact ⟨set_far hne (set_far hne (cell_on p0 hb1)), set_far hne (set_far hne (cell_on p1 hb1))⟩ | fail)
    (first | (go_at_call 119; refine HO.out.mono ?_; rintro e w1 ⟨A', c', rfl, hown, hb1⟩; have hX1 := HX.out.next hb1; have z0 := hX1.cell 0; have z1 := hX1.cell 1; have f0 := hX1.frozen 0; have f1 := hX1.frozen 1; simp at z0 z1) | fail)
  have hX2 := (hX1.set 0 (.int .i64 c0)).set 1 (.slice A' n c')
  simp at hX2
  have r0 := hX2.cell 0
  have r1 := hX2.cell 1
  simp at r0 r1
  have ho : Out (w.heap.size + 1) (w.heap.size + 2) w1 ((w1.setCell ⟨w.heap.size + 1, 0, none⟩ (.int .i64 c0)).setCell ⟨w.heap.size + 1, 1, none⟩ (.slice A' n c')) := out_set (out_set (Out.refl _ _ _) (by omega)) (by omega)
  have hb01 := bon hb0 (bstep hb1)
  have hlo : w.heap.size + 2 ≤ W.drew.heap.size := by show w.heap.size + 2 ≤ W.heap.size; omega
  have hI := ((hown.out ho (.inl hlo)).less (lo' := w.heap.size) (show w.heap.size ≤ W.heap.size by omega)).wide ho.size (Nat.le_refl _)
  go_wp2_with fail
  refine bodyPost_ret (v := .agg #[.int .i64 c0, .slice A' n c']) (by simp [results, Tryz.results81, go_sem, r0, r1]) rfl ?_
  exact ⟨A', c', rfl, hI, hb01.trans (ho.below (Nat.le_succ _) hb01.size)⟩

set_option maxRecDepth 100000 in
set_option maxHeartbeats 2000000 in
theorem eachCopy_o (A : Option Addr) (n c B : Nat) (ts : List (Int × List Int)) (w : World) (h : InTS w B A n ts) (hB : B ≤ w.heap.size) (hn : n ≤ 1000) (he : ∀ t ∈ ts, t.2.length ≤ 100000) :
    Calls Tryz.prog 80 #[.slice A n c, .func (Fn.func 81) #[] #[]] w fun e w' => ∃ g, e = .returned (.slice (some ⟨g, 0, none⟩) n n) ∧ OwnTS w' w.heap.size w'.heap.size (some ⟨g, 0, none⟩) n n ts ∧ Below w.heap.size w w' := by
  obtain ⟨i0, hi, hz0, hz1, hz2⟩ := info_parts infoTerm2
  have hlen := Lib.hid h.1
  have HE := Lib.hid he
  clear he
  go_enter Tryz.func80, Tryz.ntmps80
  go_wp2_with (at_make; refine wpList_make_full _ rfl _ _ 28 rfl w.heap.size 88 i0 (.agg #[.int .i64 0, .slice none 0 0]) 2 Tryz.underlying28 hi hz0 hz1 .i64 .i64 _ _ n rfl rfl rfl rfl (by rw [hz2]; omega) (by unfold maxLen; omega) (Nat.le_refl _) ?_; intro w1 hown hgrow)
  have hb1 := (Below.refl w.heap.size w).grown hgrow (Nat.le_refl _) (fun _ h => by cases h)
  have hlt0 : w.heap.size < w1.heap.size := (hown.lt w.heap.size rfl).2
  have hl0 : Laid w1 w.heap.size n 0 ts := ⟨_, fun _ => undef, hown, fun j hj => by omega, fun i j _ hj => by omega, fun i hi => by omega⟩
  clear hgrow hown
  go_loopw [6, 7, 13] (fun _ _ i wr => ∃ k : Nat, k ≤ n ∧ i = .int .i64 k ∧ Laid wr w.heap.size n k ts ∧ w.heap.size < wr.heap.size ∧ Below w.heap.size w wr) (fun _ _ i _ => n - (intOf i).toNat)
  case atStart => exact ⟨0, Nat.zero_le _, rfl, hl0, hlt0, hb1⟩
  case round =>
    clear hl0 hlt0 hb1
    obtain ⟨k, hk, rfl, hl, hlt0, hbel⟩ := hrel
    have hsz := hbel.size
    by_cases hlt : k < n
    · obtain ⟨b, off, A', n', c', t, rfl, hb, ht, hc0, hc1, hin⟩ := (h.next hbel hB).at_ hlt
      have hb2 := bnew wr (.cells #[.int .i64 t.1, .slice A' n' c'] 88)
      have HC := Lib.hid (copyOf_o t.1 A' n' c' B t.2 _ (hin.next hb2 (by omega)) (Nat.le_trans (by omega) hb2.size) (by have := HE.out t (List.mem_of_getElem? ht); have := hin.1; omega))
      have HT := Lib.hid ht
      clear ht hin
      go_wp2_with fail
      refine HC.out.mono ?_
      rintro e w2 ⟨A1, c1, rfl, hIL, hb3⟩
      have hb23 := bon hb2 hb3
      have HL := Lib.hid (laid_stepG (c' := c1) hl HT.out hlt hlt0 hb23 (hIL.less (by simp)))
      obtain ⟨xs, _, hox, _⟩ := hl
      have hox2 := own_below hox hb23
      have hxl : xs.length = n * 2 := hox.1
      have q0 := hox2.cellAt (k * 2) (by omega)
      have q1 := hox2.cellAt (k * 2 + 1) (by omega)
      rw [List.getElem?_eq_getElem (by omega)] at q0 q1
      have f0 := hox2.frozenAt (k * 2)
      have f1 := hox2.frozenAt (k * 2 + 1)
      have hb4 := ((hbel.trans (hb23.mono hsz)).setCell (p := ⟨w.heap.size, k * 2, none⟩) (Nat.le_refl _) (.int .i64 t.1)).setCell (p := ⟨w.heap.size, k * 2 + 1, none⟩) (Nat.le_refl _) (.slice A1 n' c1)
      clear hox hox2 HC hIL
      go_wp2_with fail
      go_roundw
      case rel => exact ⟨k + 1, by omega, by go_num, HL.out, by simp; have := hb23.size; omega, hb4⟩
      case measure => simp [intOf]; omega
    · have e : k = n := by omega
      subst e
      go_wp2_with fail
      go_ret
      exact ⟨_, rfl, laid_end hl h.1 hlt0, hbel⟩
end Go.Proofs.YtdmcpabpjhinhaaGreatDoor
