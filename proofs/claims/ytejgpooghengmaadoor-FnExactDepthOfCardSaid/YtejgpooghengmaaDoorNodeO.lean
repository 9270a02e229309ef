/-
  Copies of nodes: the model's l05Own and l05OwnAll, the program's copyOfNode and eachOf; a part of a list of nodes. Conditions: at most 1000 nodes, 100000 coefficients and multipliers each.
-/
import Derived.Test.YtejgpooghengmaaDoorRowT
import Derived.Test.YtejgpooghengmaaDoorCopyO
import Derived.Test.YtejgpooghengmaaDoorNodeM
import Derived.Deep.AppendLies
namespace Go.Proofs.YtejgpooghengmaaDoor
set_option linter.unusedVariables false
open Go.RowKit

theorem fits_of {xs : List N5} (h : totN5 xs ≤ 1048576) : ∀ x ∈ xs, x.fits := fun x hx => by
  have := totN5_mem hx
  unfold N5.tot at this
  unfold N5.fits maxLen
  omega
theorem InN5.part {w : World} {B n b off k e : Nat} {xs : List N5} (h : InN5 w B (some ⟨b, off, none⟩) n xs) (hk : k ≤ e) (he : e ≤ n) : InN5 w B (some ⟨b, off + k * 5, none⟩) (e - k) ((xs.drop k).take (e - k)) := by
  refine ⟨by rw [List.length_take, List.length_drop, h.1]; omega, fun j x hj => ?_⟩
  have hjl := (List.getElem?_eq_some_iff.1 hj).1
  rw [List.length_take] at hjl
  rw [List.getElem?_take_of_lt (by omega), List.getElem?_drop] at hj
  obtain ⟨b', off', e1, hlt, hs⟩ := h.2 (k + j) x hj
  injection e1 with e1
  injection e1 with e1 e2 _
  subst e1
  subst e2
  refine ⟨_, _, rfl, hlt, ?_⟩
  rw [show off + k * 5 + j * 5 = off + (k + j) * 5 by omega]
  exact hs

theorem own_noIntsM {w : World} {base n : Nat} {v : Value} {xs : List Value} (h : w.ownsRow base 76 5 v n xs) : ∀ k cs, v.ownBlock = some k → w.heap[k]? ≠ some (.cells cs 2 (0, 0)) := by
  intro k cs e hk
  rcases h.2 with ⟨rfl, _⟩ | ⟨g, cap, cur, rfl, _, h3, _⟩
  · cases e
  · have e' : some g = some k := e
    obtain rfl := Option.some.inj e'
    rw [h3] at hk
    injection hk with hk
    injection hk with _ h2 _
    revert h2
    decide
/-- Five cells in a row that tell a node. -/
def Cells5 (w : World) (xs : List Value) (j : Nat) (x : N5) : Prop := xs[j * 5]? = some (.int .i64 x.k) ∧ xs[j * 5 + 1]? = some (.int .i64 x.f) ∧ xs[j * 5 + 2]? = some (.int .i64 x.t.1) ∧
  ∃ A0 c0 A1 c1, xs[j * 5 + 3]? = some (.slice A0 x.t.2.length c0) ∧ xs[j * 5 + 4]? = some (.slice A1 x.m.length c1) ∧ IntL w A0 x.t.2.length x.t.2 ∧ IntL w A1 x.m.length x.m
/-- Nodes in a row of the call's own. -/
def NRow (w : World) (base : Nat) (v : Value) (n : Nat) (ts : List N5) : Prop := ts.length = n ∧ ∃ xs, w.ownsRow base 76 5 v n xs ∧ ∀ j x, ts[j]? = some x → Cells5 w xs j x
section
variable {w w' : World} {base n : Nat} {v : Value} {ts : List N5}
theorem Cells5.kept {xs : List Value} {j : Nat} {x : N5} {r : Option Nat} (h : Cells5 w xs j x) (hg : w.grownBy w' r) (hr : ∀ k cs, r = some k → w.heap[k]? ≠ some (.cells cs 2 (0, 0))) : Cells5 w' xs j x := by
  obtain ⟨a0, a1, a2, A0, c0, A1, c1, a3, a4, i0, i1⟩ := h
  exact ⟨a0, a1, a2, A0, c0, A1, c1, a3, a4, i0.kept hg hr, i1.kept hg hr⟩
theorem NRow.next (h : NRow w base v n ts) (hb : Below w.heap.size w w') : NRow w' base v n ts := by
  obtain ⟨h1, xs, h3, h4⟩ := h
  exact ⟨h1, xs, own_below h3 hb, fun j x hj => (h4 j x hj).kept (r := none) (grown_of hb) (fun k cs e => by cases e)⟩
theorem NRow.inn (h : NRow w base v n ts) : ∃ A c, v = .slice A n c ∧ InN5 w w.heap.size A n ts := by
  obtain ⟨h1, xs, h3, h4⟩ := h
  have h3' := h3
  rcases h3.2 with ⟨rfl, hn⟩ | ⟨b, cap, cur, rfl, k2, k3, k4⟩
  · have : ts = [] := List.eq_nil_of_length_eq_zero (by omega)
    subst this
    subst hn
    exact ⟨none, 0, rfl, rfl, fun j x hj => by simp at hj⟩
  · refine ⟨some ⟨b, 0, none⟩, cap, rfl, h1, fun j t hj => ?_⟩
    have hjl : j < ts.length := (List.getElem?_eq_some_iff.1 hj).1
    have hxl := h3.1
    obtain ⟨a0, a1, a2, A0, c0, A1, c1, a3, a4, i0, i1⟩ := h4 j t hj
    refine ⟨b, 0, rfl, (h3.lt b rfl).2, A0, _, c0, A1, _, c1, ?_, ?_, ?_, ?_, ?_, i0.inn, i1.inn⟩
    · rw [Nat.zero_add, h3.cellAt (j * 5) (by omega), a0]
    · rw [Nat.zero_add, h3.cellAt (j * 5 + 1) (by omega), a1]
    · rw [Nat.zero_add, h3.cellAt (j * 5 + 2) (by omega), a2]
    · rw [Nat.zero_add, h3.cellAt (j * 5 + 3) (by omega), a3]
    · rw [Nat.zero_add, h3.cellAt (j * 5 + 4) (by omega), a4]
/-- Behind an append. -/
theorem NRow.push {t : N5} {A0 : Option Addr} {c0 : Nat} {A1 : Option Addr} {c1 : Nat} {v' : Value} {xs : List Value} (hl : ts.length = n) (i0 : IntL w A0 t.t.2.length t.t.2) (i1 : IntL w A1 t.m.length t.m) (hx : w.ownsRow base 76 5 v n xs)
    (hxs : ∀ j x, ts[j]? = some x → Cells5 w xs j x)
    (hr : w'.ownsRow base 76 5 v' (n + 1) (xs ++ [.int .i64 t.k, .int .i64 t.f, .int .i64 t.t.1, .slice A0 t.t.2.length c0, .slice A1 t.m.length c1])) (hg : w.grownBy w' v.ownBlock) : NRow w' base v' (n + 1) (ts ++ [t]) := by
  have hno := own_noIntsM hx
  have hxl := hx.1
  refine ⟨by simp [hl], _, hr, fun j u hj => ?_⟩
  by_cases hjn : j < ts.length
  · rw [List.getElem?_append_left hjn] at hj
    obtain ⟨a0, a1, a2, A0, c0, A1, c1, a3, a4, j0, j1⟩ := (hxs j u hj).kept hg hno
    refine ⟨?_, ?_, ?_, A0, c0, A1, c1, ?_, ?_, j0, j1⟩ <;> rw [List.getElem?_append_left (by omega)] <;> assumption
  · have hjl := (List.getElem?_eq_some_iff.1 hj).1
    have hje : j = ts.length := by simp at hjl; omega
    subst hje
    rw [List.getElem?_append_right (Nat.le_refl _), Nat.sub_self] at hj
    obtain rfl : t = u := by simpa using hj
    refine ⟨?_, ?_, ?_, A0, c0, A1, c1, ?_, ?_, i0.kept hg hno, i1.kept hg hno⟩
    · rw [List.getElem?_append_right (by omega), show ts.length * 5 - xs.length = 0 by omega]; rfl
    · rw [List.getElem?_append_right (by omega), show ts.length * 5 + 1 - xs.length = 1 by omega]; rfl
    · rw [List.getElem?_append_right (by omega), show ts.length * 5 + 2 - xs.length = 2 by omega]; rfl
    · rw [List.getElem?_append_right (by omega), show ts.length * 5 + 3 - xs.length = 3 by omega]; rfl
    · rw [List.getElem?_append_right (by omega), show ts.length * 5 + 4 - xs.length = 4 by omega]; rfl
end

theorem IntL.set5 {w : World} {A : Option Addr} {n g : Nat} {zs : List Int} {cs : Array Value} (h : IntL w A n zs) (hb : BlkIs w g 76 cs) (o : Nat) (v : Value) : IntL (w.setCell ⟨g, o, none⟩ v) A n zs :=
  h.kept (r := some g) only_set (fun k cs' e hk => by
    injection e with e
    subst e
    have hb' : w.heap[g]? = some (.cells cs 76 (0, 0)) := hb
    rw [hb'] at hk
    injection hk with hk
    injection hk with _ h2 _
    revert h2
    decide)

set_option maxRecDepth 100000 in
set_option maxHeartbeats 4000000 in
theorem l05Own_c (x : N5) (b o B : Nat) (w : World) (h : N5At w B b o x) (hb : b < w.heap.size) (hB : B ≤ w.heap.size) (h0 : x.t.2.length ≤ 100000) (h1 : x.m.length ≤ 100000) :
    Calls Tryd.prog 82 #[.pointer (some ⟨b, o, none⟩)] w fun e w' => ∃ A0 c0 A1 c1, e = .returned (.agg #[.int .i64 x.k, .int .i64 x.f, .int .i64 x.t.1, .slice A0 x.t.2.length c0, .slice A1 x.m.length c1]) ∧ IntL w' A0 x.t.2.length x.t.2 ∧ IntL w' A1 x.m.length x.m ∧ Below w.heap.size w w' := by
  have hb0 := bnew w (.cells #[.int .i64 0, .int .i64 0, .int .i64 0, .slice none 0 0, .slice none 0 0] 76)
  have hX : BlkIs (w.alloc (.cells #[.int .i64 0, .int .i64 0, .int .i64 0, .slice none 0 0, .slice none 0 0] 76)) w.heap.size 76 #[.int .i64 0, .int .i64 0, .int .i64 0, .slice none 0 0, .slice none 0 0] := blk_new _ _ _ _ rfl
  have hsz : (w.alloc (.cells #[.int .i64 0, .int .i64 0, .int .i64 0, .slice none 0 0, .slice none 0 0] 76)).heap.size = w.heap.size + 1 := by simp
  obtain ⟨A0, n0, c0, A1, n1, c1, q0, q1, q2, q3, q4, k0, k1⟩ := h
  obtain rfl := k0.1
  obtain rfl := k1.1
  replace q0 := cell_next q0 hb0
  replace q1 := cell_next q1 hb0
  replace q2 := cell_next q2 hb0
  replace q3 := cell_next q3 hb0
  replace q4 := cell_next q4 hb0
  have H0 := Lib.hid (k0.next hb0 hB)
  have H1 := Lib.hid (k1.next hb0 hB)
  have hne : b ≠ w.heap.size := by omega
  clear k0 k1
  go_enter Tryd.func82, Tryd.ntmps82
  go_wp2_with fail
  generalize w.alloc (.cells #[.int .i64 0, .int .i64 0, .int .i64 0, .slice none 0 0, .slice none 0 0] 76) = W at hb0 q0 q1 q2 q3 q4 hX hsz H0 H1 ⊢
  have hs0 := hb0.size
  have HT : Hid (∀ (x' : World), Below W.drew.heap.size W.drew x' → Calls Tryd.prog 89 #[.pointer (some ⟨b, o + 2, none⟩)] x' fun e w' => ∃ A' c', e = .returned (.agg #[.int .i64 x.t.1, .slice A' x.t.2.length c']) ∧ IntL w' A' x.t.2.length x.t.2 ∧ Below x'.heap.size x' w') := fun x' hx => l02Own_c b (o + 2) x.t.1 A0 _ c0 B x.t.2 x' (cell_on q2 hx) (cell_on q3 hx) (H0.out.next (bstep hx) (by omega)) (Nat.le_trans (by omega) (bstep hx).size) h0
  have HM : Hid (∀ (x' : World), Below W.drew.heap.size W.drew x' → Calls Tryd.prog 99 #[.slice A1 x.m.length c1] x' fun e w' => ∃ A' c', e = .returned (.slice A' x.m.length c') ∧ OwnL w' x'.heap.size w'.heap.size A' x.m.length c' x.m ∧ Below x'.heap.size x' w') := fun x' hx => l00Own_c A1 _ c1 B x.m x' (H1.out.next (bstep hx) (by omega)) (Nat.le_trans (by omega) (bstep hx).size) h1
  have HX := Lib.hid (show BlkIs W.drew w.heap.size 76 #[.int .i64 0, .int .i64 0, .int .i64 0, .slice none 0 0, .slice none 0 0] from hX)
  clear hX
  have f0 := HX.out.frozen 0
  go_region_held3 (fun w' => w'.cell? ⟨b, o, none⟩ = some (.int .i64 x.k) ∧ w'.cell? ⟨b, o + 1, none⟩ = some (.int .i64 x.f) ∧ w'.cell? ⟨b, o + 4, none⟩ = some (.slice A1 x.m.length c1))
    (first | go_keep | exact ⟨cell_on q0 hba, cell_on q1 hba, cell_on q4 hba⟩ | exact ⟨cell_on q0 (bon hba hbb), cell_on q1 (bon hba hbb), cell_on q4 (bon hba hbb)⟩ | exact ⟨set_far hne (set_far hne (set_far hne (set_far hne (set_far hne (cell_on q0 (bon hba hbb)))))), set_far hne (set_far hne (set_far hne (set_far hne (set_far hne (cell_on q1 (bon hba hbb)))))), set_far hne (set_far hne (set_far hne (set_far hne (set_far hne (cell_on q4 (bon hba hbb))))))⟩ | fail "keep")
    (first
      | (go_at_call 89; refine (HT.out _ (by first | exact Below.refl _ _ | exact hba | fail)).mono ?_; rintro e w1 ⟨A', c', rfl, hi0, hbb⟩; have HX2 := HX.out.next (bon hba hbb); have z0 := HX2.cell 0; have z1 := HX2.cell 1; have z2 := HX2.cell 2; have z3 := HX2.cell 3; have z4 := HX2.cell 4; have g0 := HX2.frozen 0; have g1 := HX2.frozen 1; have g2 := HX2.frozen 2; have g3 := HX2.frozen 3; have g4 := HX2.frozen 4; simp at z0 z1 z2 z3 z4)
      | (go_at_call 89; refine (HT.out _ (Below.refl _ _)).mono ?_; rintro e w1 ⟨A', c', rfl, hi0, hba⟩)
      | (go_at_call 99; refine (HM.out _ hba).mono ?_; rintro e w2 ⟨A'', c'', rfl, hi1, hbb⟩; have HX2 := HX.out.next (bon hba hbb); have z0 := HX2.cell 0; have z1 := HX2.cell 1; have z2 := HX2.cell 2; have z3 := HX2.cell 3; have z4 := HX2.cell 4; have g0 := HX2.frozen 0; have g1 := HX2.frozen 1; have g2 := HX2.frozen 2; have g3 := HX2.frozen 3; have g4 := HX2.frozen 4; simp at z0 z1 z2 z3 z4)
      | (go_at_call 99; refine (HM.out _ (Below.refl _ _)).mono ?_; rintro e w2 ⟨A'', c'', rfl, hi1, hba⟩)
      | fail "call")
  all_goals
    have hX5 := ((((HX2.set 0 (.int .i64 x.k)).set 1 (.int .i64 x.f)).set 2 (.int .i64 x.t.1)).set 3 (.slice A' x.t.2.length c')).set 4 (.slice A'' x.m.length c'')
    simp at hX5
    have r0 := hX5.cell 0
    have r1 := hX5.cell 1
    have r2 := hX5.cell 2
    have r3 := hX5.cell 3
    have r4 := hX5.cell 4
    simp at r0 r1 r2 r3 r4
    have hI0 : IntL w2 A' x.t.2.length x.t.2 := by first | exact hi0.next hbb | exact hi0
    have hI1 : IntL w2 A'' x.m.length x.m := by first | exact IntL.of_own hi1 | exact (IntL.of_own hi1).next hbb
    have hbn := bon hb0 (bstep (bon hba hbb))
    have k0 := ((((hI0.set5 HX2 0 (.int .i64 x.k)).set5 (HX2.set 0 (.int .i64 x.k)) 1 (.int .i64 x.f)).set5 ((HX2.set 0 (.int .i64 x.k)).set 1 (.int .i64 x.f)) 2 (.int .i64 x.t.1)).set5 (((HX2.set 0 (.int .i64 x.k)).set 1 (.int .i64 x.f)).set 2 (.int .i64 x.t.1)) 3 (.slice A' x.t.2.length c')).set5 ((((HX2.set 0 (.int .i64 x.k)).set 1 (.int .i64 x.f)).set 2 (.int .i64 x.t.1)).set 3 (.slice A' x.t.2.length c')) 4 (.slice A'' x.m.length c'')
    have k1 := ((((hI1.set5 HX2 0 (.int .i64 x.k)).set5 (HX2.set 0 (.int .i64 x.k)) 1 (.int .i64 x.f)).set5 ((HX2.set 0 (.int .i64 x.k)).set 1 (.int .i64 x.f)) 2 (.int .i64 x.t.1)).set5 (((HX2.set 0 (.int .i64 x.k)).set 1 (.int .i64 x.f)).set 2 (.int .i64 x.t.1)) 3 (.slice A' x.t.2.length c')).set5 ((((HX2.set 0 (.int .i64 x.k)).set 1 (.int .i64 x.f)).set 2 (.int .i64 x.t.1)).set 3 (.slice A' x.t.2.length c')) 4 (.slice A'' x.m.length c'')
    have hb5 := ((((hbn.setCell (p := ⟨w.heap.size, 0, none⟩) (Nat.le_refl _) (.int .i64 x.k)).setCell (p := ⟨w.heap.size, 1, none⟩) (Nat.le_refl _) (.int .i64 x.f)).setCell (p := ⟨w.heap.size, 2, none⟩) (Nat.le_refl _) (.int .i64 x.t.1)).setCell (p := ⟨w.heap.size, 3, none⟩) (Nat.le_refl _) (.slice A' x.t.2.length c')).setCell (p := ⟨w.heap.size, 4, none⟩) (Nat.le_refl _) (.slice A'' x.m.length c'')
    clear HX2 hi0 hi1 hI0 hI1
    go_wp2_with fail
    refine bodyPost_ret (v := .agg #[.int .i64 x.k, .int .i64 x.f, .int .i64 x.t.1, .slice A' x.t.2.length c', .slice A'' x.m.length c'']) (by simp [results, Tryd.results82, go_sem, r0, r1, r2, r3, r4]) rfl ?_
    exact ⟨A', c', A'', c'', rfl, k0, k1, hb5⟩

set_option maxRecDepth 100000 in
set_option maxHeartbeats 4000000 in
theorem l05OwnAll_c (A : Option Addr) (n c B : Nat) (ts : List N5) (w : World) (h : InN5 w B A n ts) (hB : B ≤ w.heap.size) (hn : n ≤ 1000) (he : ∀ x ∈ ts, x.t.2.length ≤ 100000 ∧ x.m.length ≤ 100000) :
    Calls Tryd.prog 51 #[.slice A n c] w fun e w' => ∃ v, e = .returned v ∧ NRow w' w.heap.size v n ts ∧ Below w.heap.size w w' := by
  obtain ⟨i0, hi, hz0, hz1, hz2⟩ := info_parts infoNode
  have hlen := Lib.hid h.1
  have HE := Lib.hid he
  clear he
  go_enter Tryd.func51, Tryd.ntmps51
  go_wp2
  go_loopw [3, 4] (fun v i wr => ∃ k : Nat, k ≤ n ∧ i = .int .i64 k ∧ NRow wr w.heap.size v k (ts.take k) ∧ Below w.heap.size w wr) (fun _ i _ => n - (intOf i).toNat)
  case atStart => exact ⟨0, Nat.zero_le _, rfl, ⟨rfl, [], World.ownsRow_made w #[] 0 (Nat.le_refl _) (by decide) rfl, fun j t hj => by simp at hj⟩, (Below.refl _ _).alloc (Nat.le_refl _) _⟩
  case round =>
    obtain ⟨k, hk, rfl, hf, hbel⟩ := hrel
    have hsz := hbel.size
    by_cases hlt : k < n
    · obtain ⟨b, off, t, rfl, hb, ht, hat⟩ := (h.next hbel hB).at_ hlt
      have ht' : ts.take (k + 1) = ts.take k ++ [t] := by rw [List.take_add_one, ht]; rfl
      have HT := Lib.hid ht'
      have hee := HE.out t (List.mem_of_getElem? ht)
      have HC := Lib.hid (l05Own_c t b (off + k * 5) B wr hat (by omega) (by omega) hee.1 hee.2)
      have HF := Lib.hid hf
      clear hf ht' ht hat hee
      go_wp2_with fail
      refine HC.out.mono ?_
      rintro e w1 ⟨A0, c0, A1, c1, rfl, i0', i1', hb1⟩
      have hs1 := hb1.size
      have hb2 := bnew w1 (.cells #[.int .i64 t.k, .int .i64 t.f, .int .i64 t.t.1, .slice A0 t.t.2.length c0, .slice A1 t.m.length c1] 76)
      have hbel2 := bon hbel hb1
      obtain ⟨fl, xs, fr, fx⟩ := (HF.out.next hb1).next hb2
      have FX := Lib.hid fx
      have FI0 := Lib.hid (i0'.next hb2)
      have FI1 := Lib.hid (i1'.next hb2)
      clear fx i0' i1' HC HF
      go_wp2_with (at_builtin; refine wpList_append_own _ rfl _ _ 25 rfl w.heap.size 76 i0 (.agg #[.int .i64 0, .int .i64 0, .int .i64 0, .slice none 0 0, .slice none 0 0]) 5 72 Tryd.underlying25 hi hz0 hz1 hz2 rfl (by decide) _ _ _ rfl fr ⟨w1.heap.size, 0, none⟩ 1 1 [.int .i64 t.k, .int .i64 t.f, .int .i64 t.t.1, .slice A0 t.t.2.length c0, .slice A1 t.m.length c1] rfl rfl (World.news_of_block (cs := #[.int .i64 t.k, .int .i64 t.f, .int .i64 t.t.1, .slice A0 t.t.2.length c0, .slice A1 t.m.length c1]) (heap_alloc_new w1 _)) (fun u hu => by simp at hu; rcases hu with rfl | rfl | rfl | rfl | rfl <;> rfl) (by unfold maxLen; omega) (by omega) (by simp; omega) ?_; intro v' w3 hown3 hgrow3 _)
      have hF3 := NRow.push fl FI0.out FI1.out fr FX.out hown3 hgrow3
      have hb3 : Below w.heap.size w w3 := (bon hbel2 hb2).grown hgrow3 (by simp; omega) (fun j hj => (fr.lt j hj).1)
      rw [← HT.out] at hF3
      clear hown3 hgrow3 fr FX FI0 FI1
      go_wp2_with fail
      go_roundw
      case rel => exact ⟨k + 1, by omega, by go_num, hF3, hb3⟩
      case measure => simp [intOf]; omega
    · have e : k = n := by omega
      subst e
      rw [List.take_of_length_le (by have := hlen.out; omega)] at hf
      go_wp2_with fail
      go_ret
      exact ⟨_, rfl, hf, hbel⟩

set_option maxRecDepth 100000 in
set_option maxHeartbeats 4000000 in
theorem copyOfNode_o (x : N5) (A0 : Option Addr) (n0 c0 : Nat) (A1 : Option Addr) (n1 c1 : Nat) (B : Nat) (w : World) (h0 : InL w B A0 n0 x.t.2) (h1 : InL w B A1 n1 x.m) (hB : B ≤ w.heap.size) (hn0 : n0 ≤ 100000) (hn1 : n1 ≤ 100000) :
    Calls Tryd.prog 55 #[.agg #[.int .i64 x.k, .int .i64 x.f, .int .i64 x.t.1, .slice A0 n0 c0, .slice A1 n1 c1]] w fun e w' => ∃ a0 d0 a1 d1 m1, e = .returned (.agg #[.int .i64 x.k, .int .i64 x.f, .int .i64 x.t.1, .slice a0 n0 d0, .slice a1 n1 d1]) ∧
      OwnL w' w.heap.size m1 a0 n0 d0 x.t.2 ∧ OwnL w' m1 w'.heap.size a1 n1 d1 x.m ∧ (w.heap.size ≤ m1 ∧ m1 ≤ w'.heap.size) ∧ Below w.heap.size w w' := by
  have hb0 : Below w.heap.size w ((w.alloc (.cells #[.int .i64 x.k, .int .i64 x.f, .int .i64 x.t.1, .slice A0 n0 c0, .slice A1 n1 c1] 76)).alloc (.cells #[.int .i64 0, .int .i64 0, .int .i64 0, .slice none 0 0, .slice none 0 0] 76)) := bon (bnew _ _) (bnew _ _)
  have hsz : ((w.alloc (.cells #[.int .i64 x.k, .int .i64 x.f, .int .i64 x.t.1, .slice A0 n0 c0, .slice A1 n1 c1] 76)).alloc (.cells #[.int .i64 0, .int .i64 0, .int .i64 0, .slice none 0 0, .slice none 0 0] 76)).heap.size = w.heap.size + 2 := by simp
  have hP : BlkIs ((w.alloc (.cells #[.int .i64 x.k, .int .i64 x.f, .int .i64 x.t.1, .slice A0 n0 c0, .slice A1 n1 c1] 76)).alloc (.cells #[.int .i64 0, .int .i64 0, .int .i64 0, .slice none 0 0, .slice none 0 0] 76)) w.heap.size 76 #[.int .i64 x.k, .int .i64 x.f, .int .i64 x.t.1, .slice A0 n0 c0, .slice A1 n1 c1] := (blk_new w _ _ _ rfl).next (bnew _ _)
  have hR : BlkIs ((w.alloc (.cells #[.int .i64 x.k, .int .i64 x.f, .int .i64 x.t.1, .slice A0 n0 c0, .slice A1 n1 c1] 76)).alloc (.cells #[.int .i64 0, .int .i64 0, .int .i64 0, .slice none 0 0, .slice none 0 0] 76)) (w.heap.size + 1) 76 #[.int .i64 0, .int .i64 0, .int .i64 0, .slice none 0 0, .slice none 0 0] := blk_new _ _ _ _ (by simp)
  have H0 := Lib.hid (h0.next hb0 hB)
  have H1 := Lib.hid (h1.next hb0 hB)
  clear h0 h1
  go_enter Tryd.func55, Tryd.ntmps55
  go_wp2_with fail
  generalize ((w.alloc (.cells #[.int .i64 x.k, .int .i64 x.f, .int .i64 x.t.1, .slice A0 n0 c0, .slice A1 n1 c1] 76)).alloc (.cells #[.int .i64 0, .int .i64 0, .int .i64 0, .slice none 0 0, .slice none 0 0] 76)) = W0 at hb0 hsz H0 H1 hP hR ⊢
  have hsB := hb0.size
  have p2 : W0.cell? ⟨w.heap.size, 2, none⟩ = some (.int .i64 x.t.1) := hP.cell 2
  have p3 : W0.cell? ⟨w.heap.size, 3, none⟩ = some (.slice A0 n0 c0) := hP.cell 3
  go_wp2_with fail
  refine (copyOf_o x.t.1 A0 n0 c0 B x.t.2 W0 H0.out (by omega) hn0).mono ?_
  rintro e v0 ⟨a0, d0, rfl, ho0, hv0⟩
  have hs0 := hv0.size
  replace hP := hP.next hv0
  replace hR := hR.next hv0
  replace hb0 := bon hb0 hv0
  replace H1 := Lib.hid (H1.out.next hv0 (by omega))
  have o2 := hP.cell 2
  have f2 := hP.frozen 2
  have o3 := hP.cell 3
  have f3 := hP.frozen 3
  simp at o2 o3
  have hst : Out w.heap.size (w.heap.size + 2) v0 ((v0.setCell ⟨w.heap.size, 2, none⟩ (.int .i64 x.t.1)).setCell ⟨w.heap.size, 3, none⟩ (.slice a0 n0 d0)) := out_set (out_set (Out.refl _ _ _) (by omega)) (by omega)
  have hP2 := (hP.set 2 (.int .i64 x.t.1)).set 3 (.slice a0 n0 d0)
  have hR2 := (hR.far (g' := w.heap.size) (by omega) 2 (.int .i64 x.t.1)).far (g' := w.heap.size) (by omega) 3 (.slice a0 n0 d0)
  simp at hP2
  replace H1 := Lib.hid (H1.out.next (hst.below (Nat.le_refl _) (by omega)) hB)
  replace ho0 := ho0.out hst (by omega)
  replace hb0 := hb0.trans (hst.below (Nat.le_refl _) (by omega))
  have hso0 := hst.size
  have p4 := hP2.cell 4
  simp at p4
  clear hP hR p2 p3
  go_wp2_with (fail)
  generalize ((v0.setCell ⟨w.heap.size, 2, none⟩ (.int .i64 x.t.1)).setCell ⟨w.heap.size, 3, none⟩ (.slice a0 n0 d0)) = W1 at hst hP2 hR2 hb0 hso0 H1 ho0 p4 ⊢
  clear hst o2 o3 f2 f3
  refine (clone64_c A1 n1 c1 B x.m W1 H1.out (by omega) hn1).mono ?_
  rintro e v1 ⟨a1, d1, rfl, ho1, hv1⟩
  have hs1 := hv1.size
  replace hP2 := hP2.next hv1
  replace hR2 := hR2.next hv1
  replace hb0 := bon hb0 hv1
  replace ho0 := ho0.next hv1
  have q0 := hP2.cell 0
  have q1 := hP2.cell 1
  have q2 := hP2.cell 2
  have q3 := hP2.cell 3
  have q4 := hP2.cell 4
  have k4 := hP2.frozen 4
  have r0 := hR2.cell 0
  have u0 := hR2.frozen 0
  have r1 := hR2.cell 1
  have u1 := hR2.frozen 1
  have r2 := hR2.cell 2
  have u2 := hR2.frozen 2
  have r3 := hR2.cell 3
  have u3 := hR2.frozen 3
  have r4 := hR2.cell 4
  have u4 := hR2.frozen 4
  simp at q0 q1 q2 q3 q4 r0 r1 r2 r3 r4
  clear hP2 hR2
  go_wp2_with fail
  refine bodyPost_ret (v := .agg #[.int .i64 x.k, .int .i64 x.f, .int .i64 x.t.1, .slice a0 n0 d0, .slice a1 n1 d1]) (by simp [results, Tryd.results55, go_sem, r0, r1, r2, r3, r4]) rfl ?_
  have ho : Out w.heap.size (w.heap.size + 2) v1 ((((((v1.setCell ⟨w.heap.size, 4, none⟩ (.slice a1 n1 d1)).setCell ⟨w.heap.size + 1, 0, none⟩ (.int .i64 x.k)).setCell ⟨w.heap.size + 1, 1, none⟩ (.int .i64 x.f)).setCell ⟨w.heap.size + 1, 2, none⟩ (.int .i64 x.t.1)).setCell ⟨w.heap.size + 1, 3, none⟩ (.slice a0 n0 d0)).setCell ⟨w.heap.size + 1, 4, none⟩ (.slice a1 n1 d1)) := out_set (out_set (out_set (out_set (out_set (out_set (Out.refl _ _ _) (by omega)) (by omega)) (by omega)) (by omega)) (by omega)) (by omega)
  have hso := ho.size
  refine ⟨a0, d0, a1, d1, W1.heap.size, rfl, ?_, ?_, ⟨by omega, by omega⟩, hb0.trans (ho.below (Nat.le_refl _) (by omega))⟩
  · exact ((ho0.out ho (by omega)).less (by omega)).wide (by omega) (by omega)
  · exact ((ho1.out ho (by omega)).less (by omega)).wide (by omega) (Nat.le_refl _)

set_option maxRecDepth 100000 in
set_option maxHeartbeats 4000000 in
theorem eachNode_o (A : Option Addr) (n c B : Nat) (ts : List N5) (w : World) (h : InN5 w B A n ts) (hB : B ≤ w.heap.size) (hn : n ≤ 1000) (he : ∀ x ∈ ts, x.t.2.length ≤ 100000 ∧ x.m.length ≤ 100000) :
    Calls Tryd.prog 54 #[.slice A n c, .func (Fn.func 55) #[] #[]] w fun e w' => ∃ g, e = .returned (.slice (some ⟨g, 0, none⟩) n n) ∧ OwnN5 w' w.heap.size w'.heap.size (some ⟨g, 0, none⟩) n n ts ∧ Below w.heap.size w w' := by
  obtain ⟨i0, hi, hz0, hz1, hz2⟩ := info_parts infoNode
  have HE := Lib.hid he
  clear he
  go_enter Tryd.func54, Tryd.ntmps54
  go_wp2_with (at_make; refine wpList_make_full _ rfl _ _ 25 rfl w.heap.size 76 i0 (.agg #[.int .i64 0, .int .i64 0, .int .i64 0, .slice none 0 0, .slice none 0 0]) 5 Tryd.underlying25 hi hz0 hz1 .i64 .i64 _ _ n rfl rfl rfl rfl (by rw [hz2]; omega) (by unfold maxLen; omega) (Nat.le_refl _) ?_; intro w1 hown hgrow)
  have hb1 := (Below.refl w.heap.size w).grown hgrow (Nat.le_refl _) (fun _ h => by cases h)
  have hlt0 : w.heap.size < w1.heap.size := (hown.lt w.heap.size rfl).2
  have hl0 : LaidN5 w1 w.heap.size n 0 ts := ⟨_, fun _ => w.heap.size + 1, hown, Nat.le_refl _, fun i hi => by omega, hlt0, fun j hj => by omega⟩
  clear hgrow hown
  go_loopw [6, 7, 13] (fun _ _ i wr => ∃ k : Nat, k ≤ n ∧ i = .int .i64 k ∧ LaidN5 wr w.heap.size n k ts ∧ w.heap.size < wr.heap.size ∧ Below w.heap.size w wr) (fun _ _ i _ => n - (intOf i).toNat)
  case atStart => exact ⟨0, Nat.zero_le _, rfl, hl0, hlt0, hb1⟩
  case round =>
    clear hl0 hlt0 hb1
    obtain ⟨k, hk, rfl, hl, hlt0, hbel⟩ := hrel
    have hsz := hbel.size
    by_cases hlt : k < n
    · obtain ⟨b, off, t, rfl, hb, ht, A0, n0, c0, A1, n1, c1, q0, q1, q2, q3, q4, k0, k1⟩ := (h.next hbel hB).at_ hlt
      have hee := HE.out t (List.mem_of_getElem? ht)
      rw [k0.1, k1.1] at hee
      have hb2 := bnew wr (.cells #[.int .i64 t.k, .int .i64 t.f, .int .i64 t.t.1, .slice A0 n0 c0, .slice A1 n1 c1] 76)
      have HI := Lib.hid (copyOfNode_o t A0 n0 c0 A1 n1 c1 B _ (k0.next hb2 (by omega)) (k1.next hb2 (by omega)) (Nat.le_trans (by omega) hb2.size) hee.1 hee.2)
      have HT := Lib.hid ht
      clear k0 k1 ht hee
      go_wp2_with fail
      refine HI.out.mono ?_
      rintro e w2 ⟨a0, d0, a1, d1, m1, rfl, o0, o1, hmm, hb3⟩
      have hb23 := bon hb2 hb3
      have hsw := hb2.size
      have HL := Lib.hid (laidN5_step hl HT.out hlt hlt0 hb23 (o0.less hsw) o1 ⟨by omega, hmm.2⟩)
      have hs2 := hb23.size
      obtain ⟨xs, _, hox, _⟩ := hl
      have hox2 := own_below hox hb23
      have hxl : xs.length = n * 5 := hox.1
      have c0 := hox2.cellAt (k * 5) (by omega)
      have c1 := hox2.cellAt (k * 5 + 1) (by omega)
      have c2 := hox2.cellAt (k * 5 + 2) (by omega)
      have c3 := hox2.cellAt (k * 5 + 3) (by omega)
      have c4 := hox2.cellAt (k * 5 + 4) (by omega)
      rw [List.getElem?_eq_getElem (by omega)] at c0 c1 c2 c3 c4
      have f0 := hox2.frozenAt (k * 5)
      have f1 := hox2.frozenAt (k * 5 + 1)
      have f2 := hox2.frozenAt (k * 5 + 2)
      have f3 := hox2.frozenAt (k * 5 + 3)
      have f4 := hox2.frozenAt (k * 5 + 4)
      have hb4 := ((((((hbel.trans (hb23.mono (by omega))).setCell (p := ⟨w.heap.size, k * 5, none⟩) (Nat.le_refl _) (.int .i64 t.k)).setCell (p := ⟨w.heap.size, k * 5 + 1, none⟩) (Nat.le_refl _) (.int .i64 t.f)).setCell (p := ⟨w.heap.size, k * 5 + 2, none⟩) (Nat.le_refl _) (.int .i64 t.t.1)).setCell (p := ⟨w.heap.size, k * 5 + 3, none⟩) (Nat.le_refl _) (.slice a0 n0 d0)).setCell (p := ⟨w.heap.size, k * 5 + 4, none⟩) (Nat.le_refl _) (.slice a1 n1 d1))
      clear hox hox2 o0 o1 q0 q1 q2 q3 q4
      go_wp2_with fail
      go_roundw
      case rel => exact ⟨k + 1, by omega, by go_num, HL.out, by simp; omega, hb4⟩
      case measure => simp [intOf]; omega
    · have e : k = n := by omega
      subst e
      go_wp2_with fail
      go_ret
      exact ⟨_, rfl, laidN5_own hl h.1 hlt0, hbel⟩
end Go.Proofs.YtejgpooghengmaaDoor
