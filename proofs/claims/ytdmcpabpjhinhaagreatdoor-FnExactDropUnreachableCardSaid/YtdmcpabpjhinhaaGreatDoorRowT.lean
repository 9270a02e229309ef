/-
  Lists of terms that a call copies: the model's l02Own and l02OwnAll, the program's copyOf and eachOf. Conditions: at most 100000 terms and coefficients.
-/
import Derived.Test.YtdmcpabpjhinhaaGreatDoorTermsC
import Derived.Test.YtdmcpabpjhinhaaGreatDoorBlk
import Derived.Test.YtdmcpabpjhinhaaGreatDoorMakeS
import Derived.Test.YtdmcpabpjhinhaaGreatDoorOwn64
import Derived.Deep.RegionHeld3
import Derived.Lib.SliceRun
namespace Go.Proofs.YtdmcpabpjhinhaaGreatDoor
open Go.RowKit
set_option linter.unusedVariables false

/-- Numbers that a slice leads to, in a block of whole numbers. -/
def IntL (w : World) (A : Option Addr) (n : Nat) (zs : List Int) : Prop :=
  zs.length = n ∧ ∀ j, j < n → ∃ b off x cs, A = some ⟨b, off, none⟩ ∧ w.heap[b]? = some (.cells cs 2 (0, 0)) ∧ zs[j]? = some x ∧ w.cell? ⟨b, off + j, none⟩ = some (.int .i64 x)
section
variable {w w' : World} {A : Option Addr} {n : Nat} {zs : List Int}
theorem blk_lt {b : Nat} {o : Obj} (h : w.heap[b]? = some o) : b < w.heap.size := by
  rcases Nat.lt_or_ge b w.heap.size with hlt | hge
  · exact hlt
  · rw [Array.getElem?_eq_none hge] at h; cases h
theorem IntL.inn (h : IntL w A n zs) : InL w w.heap.size A n zs := by
  refine ⟨h.1, fun j hj => ?_⟩
  rw [List.length_map, h.1] at hj
  obtain ⟨b, off, x, cs, e, hb, hx, hc⟩ := h.2 j hj
  exact ⟨b, off, e, blk_lt hb, by rw [hc, List.getElem?_map, hx]; rfl⟩
theorem IntL.kept {r : Option Nat} (h : IntL w A n zs) (hg : w.grownBy w' r) (hr : ∀ k cs, r = some k → w.heap[k]? ≠ some (.cells cs 2 (0, 0))) : IntL w' A n zs := by
  refine ⟨h.1, fun j hj => ?_⟩
  obtain ⟨b, off, x, cs, e, hb, hx, hc⟩ := h.2 j hj
  have hblk := hg.block b (blk_lt hb) (fun e => hr b cs e.symm hb)
  exact ⟨b, off, x, cs, e, hblk.trans hb, hx, (World.cell?_of_block (a := ⟨b, off + j, none⟩) hblk).trans hc⟩
theorem grown_of {r : Option Nat} (h : Below w.heap.size w w') : w.grownBy w' r := ⟨h.os, h.tape, h.output, h.size, fun i hi _ => h.block i hi⟩
theorem IntL.next (h : IntL w A n zs) (hb : Below w.heap.size w w') : IntL w' A n zs := h.kept (r := none) (grown_of hb) (fun k cs e => by cases e)
theorem IntL.of_own {lo hi c : Nat} (h : OwnL w lo hi A n c zs) : IntL w A n zs := by
  refine ⟨h.1, fun j hj => ?_⟩
  rcases h.2.1.2 with ⟨_, h2⟩ | ⟨g, cap, cur, h1, h2, h3, h4⟩
  · omega
  · have hA : A = some ⟨g, 0, none⟩ := by injection h1
    subst hA
    obtain ⟨x, hx⟩ : ∃ x, zs[j]? = some x := ⟨_, List.getElem?_eq_getElem (by have := h.1; omega)⟩
    refine ⟨g, 0, x, cur, rfl, h3, hx, ?_⟩
    rw [Nat.zero_add, h.2.1.cellAt j (by have := h.2.1.1; omega), List.getElem?_map, hx]; rfl
end
theorem own_noInts {w : World} {base n : Nat} {v : Value} {xs : List Value} (h : w.ownsRow base 88 2 v n xs) : ∀ k cs, v.ownBlock = some k → w.heap[k]? ≠ some (.cells cs 2 (0, 0)) := by
  intro k cs e hk
  rcases h.2 with ⟨rfl, _⟩ | ⟨g, cap, cur, rfl, _, h3, _⟩
  · cases e
  · have e' : some g = some k := e
    obtain rfl := Option.some.inj e'
    rw [h3] at hk
    injection hk with hk
    injection hk with _ h2 _
    revert h2
    decide

/-- Terms in a row of the call's own. -/
def FRow (w : World) (base : Nat) (v : Value) (n : Nat) (ts : List (Int × List Int)) : Prop :=
  ts.length = n ∧ ∃ xs, w.ownsRow base 88 2 v n xs ∧ ∀ j t, ts[j]? = some t → xs[j * 2]? = some (.int .i64 t.1) ∧ ∃ A' n' c', xs[j * 2 + 1]? = some (.slice A' n' c') ∧ IntL w A' n' t.2
section
variable {w w' : World} {base g : Nat} {v : Value} {n : Nat} {ts : List (Int × List Int)}
theorem FRow.next (h : FRow w base v n ts) (hb : Below w.heap.size w w') : FRow w' base v n ts := by
  obtain ⟨h1, xs, h3, h4⟩ := h
  refine ⟨h1, xs, own_below h3 hb, fun j t hj => ?_⟩
  obtain ⟨a, A', n', c', b, c⟩ := h4 j t hj
  exact ⟨a, A', n', c', b, c.next hb⟩
theorem FRow.inn (h : FRow w base v n ts) : ∃ A c, v = .slice A n c ∧ InTS w w.heap.size A n ts := by
  obtain ⟨h1, xs, h3, h4⟩ := h
  have h3' := h3
  rcases h3.2 with ⟨rfl, hn⟩ | ⟨b, cap, cur, rfl, k2, k3, k4⟩
  · have : ts = [] := List.eq_nil_of_length_eq_zero (by omega)
    subst this
    subst hn
    exact ⟨none, 0, rfl, rfl, TRow.nil⟩
  · refine ⟨some ⟨b, 0, none⟩, cap, rfl, h1, fun j t hj => ?_⟩
    have hjl : j < ts.length := (List.getElem?_eq_some_iff.1 hj).1
    have hxl := h3.1
    obtain ⟨a, A', n', c', bb, c⟩ := h4 j t hj
    refine ⟨b, 0, A', n', c', rfl, (h3.lt b rfl).2, ?_, ?_, c.1, c.inn.2⟩
    · rw [Nat.zero_add, h3.cellAt (j * 2) (by omega), a]
    · rw [Nat.zero_add, h3.cellAt (j * 2 + 1) (by omega), bb]
/-- Behind an append. -/
theorem FRow.push {t : Int × List Int} {A : Option Addr} {k c : Nat} {v' : Value} {xs : List Value} (hl : ts.length = n) (hi : IntL w A k t.2) (hx : w.ownsRow base 88 2 v n xs)
    (hxs : ∀ j t, ts[j]? = some t → xs[j * 2]? = some (.int .i64 t.1) ∧ ∃ A' n' c', xs[j * 2 + 1]? = some (.slice A' n' c') ∧ IntL w A' n' t.2)
    (hr : w'.ownsRow base 88 2 v' (n + 1) (xs ++ [.int .i64 t.1, .slice A k c])) (hg : w.grownBy w' v.ownBlock) : FRow w' base v' (n + 1) (ts ++ [t]) := by
  have hno := own_noInts hx
  have hxl := hx.1
  refine ⟨by simp [hl], _, hr, fun j u hj => ?_⟩
  by_cases hjn : j < ts.length
  · rw [List.getElem?_append_left hjn] at hj
    obtain ⟨a, A', n', c', b, c⟩ := hxs j u hj
    exact ⟨by rw [List.getElem?_append_left (by omega)]; exact a, A', n', c', by rw [List.getElem?_append_left (by omega)]; exact b, c.kept hg hno⟩
  · have hjl := (List.getElem?_eq_some_iff.1 hj).1
    have hje : j = ts.length := by simp at hjl; omega
    subst hje
    rw [List.getElem?_append_right (Nat.le_refl _), Nat.sub_self] at hj
    obtain rfl : t = u := by simpa using hj
    refine ⟨?_, A, k, c, ?_, hi.kept hg hno⟩
    · rw [List.getElem?_append_right (by omega), show ts.length * 2 - xs.length = 0 by omega]; rfl
    · rw [List.getElem?_append_right (by omega), show ts.length * 2 + 1 - xs.length = 1 by omega]; rfl
end
theorem infoTerm2 : (Tryz.prog.info? 88).map (fun i => (i.zero, i.size, i.bytes)) = some (some (.agg #[.int .i64 0, .slice none 0 0]), 2, 32) := by kernel_rfl

theorem set_far {w : World} {b o g i : Nat} {u v : Value} (hne : b ≠ g) (hc : w.cell? ⟨b, o, none⟩ = some v) : (w.setCell ⟨g, i, none⟩ u).cell? ⟨b, o, none⟩ = some v :=
  (World.cell?_of_block (a := ⟨b, o, none⟩) (Below.heap_setCell w ⟨g, i, none⟩ u b hne)).trans hc
set_option maxRecDepth 100000 in
set_option maxHeartbeats 2000000 in
theorem l02Own_c (b o : Nat) (c0 : Int) (A : Option Addr) (n c B : Nat) (zs : List Int) (w : World) (hc0 : w.cell? ⟨b, o, none⟩ = some (.int .i64 c0)) (hc1 : w.cell? ⟨b, o + 1, none⟩ = some (.slice A n c)) (h : InL w B A n zs) (hB : B ≤ w.heap.size) (hn : n ≤ 100000) :
    Calls Tryz.prog 117 #[.pointer (some ⟨b, o, none⟩)] w fun e w' => ∃ A' c', e = .returned (.agg #[.int .i64 c0, .slice A' n c']) ∧ IntL w' A' n zs ∧ Below w.heap.size w w' := by
  have hb0 := bnew w (.cells #[.int .i64 0, .slice none 0 0] 88)
  have p0 := cell_next hc0 hb0
  have p1 := cell_next hc1 hb0
  have hX : BlkIs (w.alloc (.cells #[.int .i64 0, .slice none 0 0] 88)) w.heap.size 88 #[.int .i64 0, .slice none 0 0] := blk_new _ _ _ _ rfl
  have hsz : (w.alloc (.cells #[.int .i64 0, .slice none 0 0] 88)).heap.size = w.heap.size + 1 := by simp
  have HI := Lib.hid (h.next hb0 hB)
  have hne : b ≠ w.heap.size := by have := cell_lt hc0; omega
  clear hc0 hc1 h
  go_enter Tryz.func117, Tryz.ntmps117
  go_wp2_with fail
  generalize w.alloc (.cells #[.int .i64 0, .slice none 0 0] 88) = W at hb0 p0 p1 hX hsz HI ⊢
  have hs0 := hb0.size
  have HO := Lib.hid (l00Own_c A n c B zs W.drew HI.out (by show B ≤ W.heap.size; omega) hn)
  have HX := Lib.hid (show BlkIs W.drew w.heap.size 88 #[.int .i64 0, .slice none 0 0] from hX)
  clear hX
  go_region_held3 (fun w' => w'.cell? ⟨b, o, none⟩ = some (.int .i64 c0) ∧ w'.cell? ⟨b, o + 1, none⟩ = some (.slice A n c))
    (first | go_keep | exact ⟨cell_on p0 hb1, cell_on p1 hb1⟩ | exact ⟨set_far hne (set_far hne (cell_on p0 hb1)), set_far hne (set_far hne (cell_on p1 hb1))⟩ | fail)
    (first | (go_at_call 140; refine HO.out.mono ?_; rintro e w1 ⟨A', c', rfl, hown, hb1⟩; have hX1 := HX.out.next hb1; have z0 := hX1.cell 0; have z1 := hX1.cell 1; have f0 := hX1.frozen 0; have f1 := hX1.frozen 1; simp at z0 z1) | fail)
  have hX2 := (hX1.set 0 (.int .i64 c0)).set 1 (.slice A' n c')
  simp at hX2
  have r0 := hX2.cell 0
  have r1 := hX2.cell 1
  simp at r0 r1
  have ho : Out w.heap.size (w.heap.size + 1) w1 ((w1.setCell ⟨w.heap.size, 0, none⟩ (.int .i64 c0)).setCell ⟨w.heap.size, 1, none⟩ (.slice A' n c')) := out_set (out_set (Out.refl _ _ _) (by omega)) (by omega)
  have hb01 := bon hb0 (bstep hb1)
  have hlo : w.heap.size + 1 ≤ W.drew.heap.size := by show w.heap.size + 1 ≤ W.heap.size; omega
  have hI := IntL.of_own (hown.out ho (.inl hlo))
  go_wp2_with fail
  refine bodyPost_ret (v := .agg #[.int .i64 c0, .slice A' n c']) (by simp [results, Tryz.results117, go_sem, r0, r1]) rfl ?_
  exact ⟨A', c', rfl, hI, hb01.trans (ho.below (Nat.le_refl _) hb01.size)⟩

theorem cell_two_at (w : World) (x y : Value) (t : TypeId) (g : Nat) (hg : g = w.heap.size) : ∀ j u, [x, y][j]? = some u → (w.alloc (.cells #[x, y] t)).cell? ((⟨g, 0, none⟩ : Addr).add j) = some u := by
  subst hg
  intro j u hj
  match j, hj with
  | 0, hj => simp at hj; subst hj; simp [Addr.add]
  | 1, hj => simp at hj; subst hj; simp [Addr.add]

set_option maxRecDepth 100000 in
set_option maxHeartbeats 2000000 in
theorem l02OwnAll_c (A : Option Addr) (n c B : Nat) (ts : List (Int × List Int)) (w : World) (h : InTS w B A n ts) (hB : B ≤ w.heap.size) (hn : n ≤ 1000) (he : ∀ t ∈ ts, t.2.length ≤ 100000) :
    Calls Tryz.prog 75 #[.slice A n c] w fun e w' => ∃ v, e = .returned v ∧ FRow w' w.heap.size v n ts ∧ Below w.heap.size w w' := by
  obtain ⟨i0, hi, hz0, hz1, hz2⟩ := info_parts infoTerm2
  have hlen := Lib.hid h.1
  have HE := Lib.hid he
  clear he
  go_enter Tryz.func75, Tryz.ntmps75
  go_wp2
  go_loopw [3, 4] (fun v i wr => ∃ k : Nat, k ≤ n ∧ i = .int .i64 k ∧ FRow wr w.heap.size v k (ts.take k) ∧ Below w.heap.size w wr) (fun _ i _ => n - (intOf i).toNat)
  case atStart => exact ⟨0, Nat.zero_le _, rfl, ⟨rfl, [], World.ownsRow_made w #[] 0 (Nat.le_refl _) (by decide) rfl, fun j t hj => by simp at hj⟩, (Below.refl _ _).alloc (Nat.le_refl _) _⟩
  case round =>
    obtain ⟨k, hk, rfl, hf, hbel⟩ := hrel
    have hsz := hbel.size
    by_cases hlt : k < n
    · obtain ⟨b, off, A', n', c', t, rfl, hb, ht, hc0, hc1, hin⟩ := (h.next hbel hB).at_ hlt
      have ht' : ts.take (k + 1) = ts.take k ++ [t] := by rw [List.take_add_one, ht]; rfl
      have HT := Lib.hid ht'
      have HC := Lib.hid (l02Own_c b (off + k * 2) t.1 A' n' c' B t.2 wr hc0 hc1 hin (by omega) (by have := HE.out t (List.mem_of_getElem? ht); have := hin.1; omega))
      have HF := Lib.hid hf
      clear hf ht' ht hin
      go_wp2_with fail
      refine HC.out.mono ?_
      rintro e w1 ⟨A1, c1, rfl, hIL, hb1⟩
      have hs1 := hb1.size
      have hb2 := bnew w1 (.cells #[.int .i64 t.1, .slice A1 n' c1] 88)
      have hbel2 := bon hbel hb1
      obtain ⟨fl, xs, fr, fx⟩ := (HF.out.next hb1).next hb2
      have hIL2 := hIL.next hb2
      have FX := Lib.hid fx
      have FIL := Lib.hid hIL2
      clear fx hIL2 hIL HC HF
      go_wp2_with (at_builtin; refine wpList_append_own _ rfl _ _ 28 rfl w.heap.size 88 i0 (.agg #[.int .i64 0, .slice none 0 0]) 2 32 Tryz.underlying28 hi hz0 hz1 hz2 rfl (by decide) _ _ _ rfl fr ⟨w1.heap.size, 0, none⟩ 1 1 [.int .i64 t.1, .slice A1 n' c1] rfl rfl (cell_two_at _ _ _ _ _ rfl) (fun u hu => by simp at hu; rcases hu with rfl | rfl <;> rfl) (by unfold maxLen; omega) (by omega) (by simp; omega) ?_; intro v' w3 hown3 hgrow3 _)
      have hF3 := FRow.push fl FIL.out fr FX.out hown3 hgrow3
      have hb3 : Below w.heap.size w w3 := (bon hbel2 hb2).grown hgrow3 (by simp; omega) (fun j hj => (fr.lt j hj).1)
      rw [← HT.out] at hF3
      clear hown3 hgrow3 fr FX FIL
      go_wp2_with fail
      go_roundw
      case rel => exact ⟨k + 1, by omega, by go_num, hF3, hb3⟩
      case measure => simp [intOf]; omega
    · have e : k = n := by omega
      subst e
      rw [List.take_of_length_le (by have := hlen.out; omega)] at hf
      go_wp2_with fail
      go_ret
      exact ⟨_, rfl, hf, hbel⟩

set_option maxRecDepth 100000 in
set_option maxHeartbeats 2000000 in
theorem copyOf_c (c0 : Int) (A : Option Addr) (n c B : Nat) (zs : List Int) (w : World) (h : InL w B A n zs) (hB : B ≤ w.heap.size) (hn : n ≤ 100000) :
    Calls Tryz.prog 81 #[.agg #[.int .i64 c0, .slice A n c]] w fun e w' => ∃ A' c', e = .returned (.agg #[.int .i64 c0, .slice A' n c']) ∧ IntL w' A' n zs ∧ Below w.heap.size w w' := by
  have hb0 : Below w.heap.size w ((w.alloc (.cells #[.int .i64 c0, .slice A n c] 88)).alloc (.cells #[.int .i64 0, .slice none 0 0] 88)) := bon (bnew _ _) (bnew _ _)
  have hP : BlkIs ((w.alloc (.cells #[.int .i64 c0, .slice A n c] 88)).alloc (.cells #[.int .i64 0, .slice none 0 0] 88)) w.heap.size 88 #[.int .i64 c0, .slice A n c] := (blk_new w _ _ _ rfl).next (bnew _ _)
  have hX : BlkIs ((w.alloc (.cells #[.int .i64 c0, .slice A n c] 88)).alloc (.cells #[.int .i64 0, .slice none 0 0] 88)) (w.heap.size + 1) 88 #[.int .i64 0, .slice none 0 0] := blk_new _ _ _ _ (by simp)
  have hsz : ((w.alloc (.cells #[.int .i64 c0, .slice A n c] 88)).alloc (.cells #[.int .i64 0, .slice none 0 0] 88)).heap.size = w.heap.size + 2 := by simp
  have HI := Lib.hid (h.next hb0 hB)
  clear h
  go_enter Tryz.func81, Tryz.ntmps81
  go_wp2_with fail
  generalize (w.alloc (.cells #[.int .i64 c0, .slice A n c] 88)).alloc (.cells #[.int .i64 0, .slice none 0 0] 88) = W at hb0 hP hX hsz HI ⊢
  have hs0 := hb0.size
  have p0 : W.cell? ⟨w.heap.size, 0, none⟩ = some (.int .i64 c0) := hP.cell 0
  have p1 : W.cell? ⟨w.heap.size, 1, none⟩ = some (.slice A n c) := hP.cell 1
  have HO := Lib.hid (clone64_c A n c B zs W.drew HI.out (by show B ≤ W.heap.size; omega) hn)
  have HX := Lib.hid (show BlkIs W.drew (w.heap.size + 1) 88 #[.int .i64 0, .slice none 0 0] from hX)
  have hne : w.heap.size ≠ w.heap.size + 1 := by omega
  clear hX hP
  go_region_held3 (fun w' => w'.cell? ⟨w.heap.size, 0, none⟩ = some (.int .i64 c0) ∧ w'.cell? ⟨w.heap.size, 1, none⟩ = some (.slice A n c))
    (first | go_keep | exact ⟨cell_on p0 hb1, cell_on p1 hb1⟩ | exact ⟨set_far hne (set_far hne (cell_on p0 hb1)), set_far hne (set_far hne (cell_on p1 hb1))⟩ | fail)
    (first | (go_at_call 119; refine HO.out.mono ?_; rintro e w1 ⟨A', c', rfl, hown, hb1⟩; have hX1 := HX.out.next hb1; have z0 := hX1.cell 0; have z1 := hX1.cell 1; have f0 := hX1.frozen 0; have f1 := hX1.frozen 1; simp at z0 z1) | fail)
  have hX2 := (hX1.set 0 (.int .i64 c0)).set 1 (.slice A' n c')
  simp at hX2
  have r0 := hX2.cell 0
  have r1 := hX2.cell 1
  simp at r0 r1
  have ho : Out (w.heap.size + 1) (w.heap.size + 2) w1 ((w1.setCell ⟨w.heap.size + 1, 0, none⟩ (.int .i64 c0)).setCell ⟨w.heap.size + 1, 1, none⟩ (.slice A' n c')) := out_set (out_set (Out.refl _ _ _) (by omega)) (by omega)
  have hb01 := bon hb0 (bstep hb1)
  have hlo : w.heap.size + 2 ≤ W.drew.heap.size := by show w.heap.size + 2 ≤ W.heap.size; omega
  have hI := IntL.of_own (hown.out ho (.inl hlo))
  go_wp2_with fail
  refine bodyPost_ret (v := .agg #[.int .i64 c0, .slice A' n c']) (by simp [results, Tryz.results81, go_sem, r0, r1]) rfl ?_
  exact ⟨A', c', rfl, hI, hb01.trans (ho.below (Nat.le_succ _) hb01.size)⟩

/-- What the copy holds when k terms have been laid. -/
def LaidI (wr : World) (B n k : Nat) (ts : List (Int × List Int)) : Prop :=
  ∃ xs, wr.ownsRow B 88 2 (.slice (some ⟨B, 0, none⟩) n n) n xs ∧ ∀ j, j < k → ∀ t, ts[j]? = some t → xs[j * 2]? = some (.int .i64 t.1) ∧ ∃ A' n' c', xs[j * 2 + 1]? = some (.slice A' n' c') ∧ IntL wr A' n' t.2
theorem laidI_end {wr : World} {B n : Nat} {ts : List (Int × List Int)} (h : LaidI wr B n n ts) (hl : ts.length = n) : FRow wr B (.slice (some ⟨B, 0, none⟩) n n) n ts := by
  obtain ⟨xs, h1, h2⟩ := h
  exact ⟨hl, xs, h1, fun j t hj => h2 j (by have := (List.getElem?_eq_some_iff.1 hj).1; omega) t hj⟩
theorem laidI_step {wr w1 : World} {B n k : Nat} {ts : List (Int × List Int)} {t : Int × List Int} {A : Option Addr} {n' c' : Nat} (h : LaidI wr B n k ts) (ht : ts[k]? = some t) (hk : k < n) (hb : Below wr.heap.size wr w1) (hi : IntL w1 A n' t.2) :
    LaidI ((w1.setCell ⟨B, k * 2, none⟩ (.int .i64 t.1)).setCell ⟨B, k * 2 + 1, none⟩ (.slice A n' c')) B n (k + 1) ts := by
  obtain ⟨xs, h1, h2⟩ := h
  have h1' := own_below h1 hb
  have s0 := h1'.stored (k * 2) (.int .i64 t.1)
  have s1 := s0.1.stored (k * 2 + 1) (.slice A n' c')
  have n0 := own_noInts h1'
  have n1 := own_noInts s0.1
  have hxl : xs.length = n * 2 := h1.1
  refine ⟨_, s1.1, fun j hj u hu => ?_⟩
  by_cases e1 : j = k
  · subst e1
    rw [ht] at hu
    obtain rfl := Option.some.inj hu
    refine ⟨?_, A, n', c', ?_, (hi.kept s0.2 n0).kept s1.2 n1⟩
    · rw [List.getElem?_set_ne (by omega), List.getElem?_set_self (by omega)]
    · rw [List.getElem?_set_self (by rw [List.length_set]; omega)]
  · obtain ⟨a, A', m', d', b, i⟩ := h2 j (by omega) u hu
    refine ⟨?_, A', m', d', ?_, ((i.next hb).kept s0.2 n0).kept s1.2 n1⟩
    · rw [List.getElem?_set_ne (by omega), List.getElem?_set_ne (by omega)]; exact a
    · rw [List.getElem?_set_ne (by omega), List.getElem?_set_ne (by omega)]; exact b

set_option maxRecDepth 100000 in
set_option maxHeartbeats 2000000 in
theorem eachCopy_c (A : Option Addr) (n c B : Nat) (ts : List (Int × List Int)) (w : World) (h : InTS w B A n ts) (hB : B ≤ w.heap.size) (hn : n ≤ 1000) (he : ∀ t ∈ ts, t.2.length ≤ 100000) :
    Calls Tryz.prog 80 #[.slice A n c, .func (Fn.func 81) #[] #[]] w fun e w' => ∃ v, e = .returned v ∧ FRow w' w.heap.size v n ts ∧ Below w.heap.size w w' := by
  obtain ⟨i0, hi, hz0, hz1, hz2⟩ := info_parts infoTerm2
  have hlen := Lib.hid h.1
  have HE := Lib.hid he
  clear he
  go_enter Tryz.func80, Tryz.ntmps80
  go_wp2_with (at_make; refine wpList_make_full _ rfl _ _ 28 rfl w.heap.size 88 i0 (.agg #[.int .i64 0, .slice none 0 0]) 2 Tryz.underlying28 hi hz0 hz1 .i64 .i64 _ _ n rfl rfl rfl rfl (by rw [hz2]; omega) (by unfold maxLen; omega) (Nat.le_refl _) ?_; intro w1 hown hgrow)
  have hb1 := (Below.refl w.heap.size w).grown hgrow (Nat.le_refl _) (fun _ h => by cases h)
  have hl0 : LaidI w1 w.heap.size n 0 ts := ⟨_, hown, fun j hj => by omega⟩
  clear hgrow hown
  go_loopw [6, 7, 13] (fun _ _ i wr => ∃ k : Nat, k ≤ n ∧ i = .int .i64 k ∧ LaidI wr w.heap.size n k ts ∧ Below w.heap.size w wr) (fun _ _ i _ => n - (intOf i).toNat)
  case atStart => exact ⟨0, Nat.zero_le _, rfl, hl0, hb1⟩
  case round =>
    clear hl0 hb1
    obtain ⟨k, hk, rfl, hl, hbel⟩ := hrel
    have hsz := hbel.size
    by_cases hlt : k < n
    · obtain ⟨b, off, A', n', c', t, rfl, hb, ht, hc0, hc1, hin⟩ := (h.next hbel hB).at_ hlt
      have hb2 := bnew wr (.cells #[.int .i64 t.1, .slice A' n' c'] 88)
      have HC := Lib.hid (copyOf_c t.1 A' n' c' B t.2 _ (hin.next hb2 (by omega)) (Nat.le_trans (by omega) hb2.size) (by have := HE.out t (List.mem_of_getElem? ht); have := hin.1; omega))
      have HT := Lib.hid ht
      clear ht hin
      go_wp2_with fail
      refine HC.out.mono ?_
      rintro e w2 ⟨A1, c1, rfl, hIL, hb3⟩
      have hb23 := bon hb2 hb3
      have HL := Lib.hid (laidI_step (c' := c1) hl HT.out hlt hb23 hIL)
      obtain ⟨xs, hox, _⟩ := hl
      have hox2 := own_below hox hb23
      have hxl : xs.length = n * 2 := hox.1
      have q0 := hox2.cellAt (k * 2) (by omega)
      have q1 := hox2.cellAt (k * 2 + 1) (by omega)
      rw [List.getElem?_eq_getElem (by omega)] at q0 q1
      have f0 := hox2.frozenAt (k * 2)
      have f1 := hox2.frozenAt (k * 2 + 1)
      have hb4 := ((hbel.trans (hb23.mono hsz)).setCell (p := ⟨w.heap.size, k * 2, none⟩) (Nat.le_refl _) (.int .i64 t.1)).setCell (p := ⟨w.heap.size, k * 2 + 1, none⟩) (Nat.le_refl _) (.slice A1 n' c1)
      clear hox hox2 HC hIL
      go_wp2_with fail
      go_roundw
      case rel => exact ⟨k + 1, by omega, by go_num, HL.out, hb4⟩
      case measure => simp [intOf]; omega
    · have e : k = n := by omega
      subst e
      go_wp2_with fail
      go_ret
      exact ⟨_, rfl, laidI_end hl h.1, hbel⟩
end Go.Proofs.YtdmcpabpjhinhaaGreatDoor
