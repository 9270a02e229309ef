/-
  The program's sums of terms: summands in a row, coefficients in a map. Conditions: valid terms.
-/
import Derived.Test.YtejgpooghengmaaDoorSum
import Derived.Test.YtejgpooghengmaaDoorValid
import Derived.Test.YtejgpooghengmaaDoorOwn
import Derived.Maps.Own
import Derived.Maps.OwnOps
import Derived.Maps.RangeWalk
import Derived.Maps.OwnSet
import Derived.WalkSmall
import Derived.Outline
import Derived.Deep.RegionHeld3
import Derived.Deep.DeepCutAuto
import Derived.Deep.OwnRows
import Derived.WalkLawsBesides
import Derived.Test.YtejgpooghengmaaDoorEq
import Derived.Test.YtejgpooghengmaaDoorBlk
namespace Go.Proofs.YtejgpooghengmaaDoor
open Go.RowKit

/-- The cells of pairs of numbers. -/
def flatP (l : List (Int × Int)) : List Value := l.flatMap fun p => [.int .i64 p.1, .int .i64 p.2]
theorem flatP_snoc (l : List (Int × Int)) (p : Int × Int) : flatP (l ++ [p]) = flatP l ++ [.int .i64 p.1, .int .i64 p.2] := by simp [flatP]
theorem flatP_at : ∀ {l : List (Int × Int)} {j : Nat} {p : Int × Int}, l[j]? = some p → (flatP l)[j * 2]? = some (.int .i64 p.1) ∧ (flatP l)[j * 2 + 1]? = some (.int .i64 p.2)
  | [], j, p, h => by simp at h
  | q :: l, 0, p, h => by
    obtain rfl : q = p := by simpa using h
    exact ⟨rfl, rfl⟩
  | q :: l, j + 1, p, h => by
    have := flatP_at (l := l) (j := j) (p := p) (by simpa using h)
    have e : flatP (q :: l) = .int .i64 q.1 :: .int .i64 q.2 :: flatP l := rfl
    rw [e, show (j + 1) * 2 = j * 2 + 1 + 1 by omega]
    simpa using this
theorem infoSumm : (Tryd.prog.info? 157).map (fun i => (i.zero, i.size, i.bytes)) = some (some (.agg #[.int .i64 0, .int .i64 0]), 2, 16) := by kernel_rfl

set_option maxRecDepth 100000 in
set_option maxHeartbeats 1000000 in
theorem summandsOf_c (c0 : Int) (A : Option Addr) (n c B : Nat) (zs : List Int) (w : World) (h : InL w B A n zs) (hB : B ≤ w.heap.size) (hn : n ≤ 10) :
    Calls Tryd.prog 110 #[.agg #[.int .i64 c0, .slice A n c]] w fun e w' => ∃ v, e = .returned v ∧
      w'.ownsRow w.heap.size 157 2 v (summ (c0, zs)).length (flatP (summ (c0, zs))) ∧ Below w.heap.size w w' := by
  obtain ⟨i0, hi, hz0, hz1, hz2⟩ := info_parts infoSumm
  have hz := Lib.hid h.1
  have hlen := Lib.hid (fun k => sumTo_len (c0, zs) k)
  have hb0 : Below w.heap.size w (w.alloc (.cells #[.int .i64 c0, .slice A n c] 45)) := bnew _ _
  have hk0 : (w.alloc (.cells #[.int .i64 c0, .slice A n c] 45)).cell? ⟨w.heap.size, 0, none⟩ = some (.int .i64 c0) := by simp
  have hlt : w.heap.size < (w.alloc (.cells #[.int .i64 c0, .slice A n c] 45)).heap.size := by simp
  have hr := h.2.below hb0 hB
  go_enter Tryd.func110, Tryd.ntmps110
  go_wp2_with fail
  generalize w.alloc (.cells #[.int .i64 c0, .slice A n c] 45) = W at hb0 hk0 hlt hr ⊢
  go_loopw [3, 4, 5, 9] (fun v _ _ i wr => ∃ k : Nat, k ≤ n ∧ i = .int .i64 k ∧ wr.ownsRow W.heap.size 157 2 v (sumTo (c0, zs) k).length (flatP (sumTo (c0, zs) k)) ∧ Below W.heap.size W wr) (fun _ _ _ i _ => n - (intOf i).toNat)
  case atStart => exact ⟨0, Nat.zero_le _, rfl, World.ownsRow_nil _ _ _ _, Below.refl _ _⟩
  case round =>
    obtain ⟨k, hk, rfl, hown, hbel⟩ := hrel
    have hl1 := hlen.out k
    have hsz := hbel.size
    by_cases hlt2 : k < n
    · obtain ⟨b, off, x, rfl, hb, hx, hc⟩ := (hr.below hbel (by omega)).int_at (k := k) (by have := hz.out; omega)
      have hg : zs.getD k 0 = x := by rw [List.getD_eq_getElem?_getD, hx]; rfl
      by_cases h0 : x = 0
      · subst h0
        have HS : Hid (sumTo (c0, zs) (k + 1) = sumTo (c0, zs) k) := by show _ = _; rw [sumTo, if_pos hg, List.append_nil]
        clear hg hx
        go_wp2
        go_roundw
        case rel => exact ⟨k + 1, by omega, by go_num, by rw [HS.out]; exact hown, hbel⟩
        case measure => simp [intOf]; omega
      · have q1 : (x == 0) = false := by simpa using h0
        have q2 : (x != 0) = true := by simpa using h0
        have HS : Hid (sumTo (c0, zs) (k + 1) = sumTo (c0, zs) k ++ [((k : Int), x)]) := by show _ = _; rw [sumTo, if_neg (by rw [hg]; exact h0), hg]
        clear hg hx
        go_wp2_with (at_builtin; refine wpList_append_own _ rfl _ _ 155 rfl W.heap.size 157 i0 (.agg #[.int .i64 0, .int .i64 0]) 2 16 Tryd.underlying155 hi hz0 hz1 hz2 rfl (by decide) _ _ _ rfl (hown.alloc _) ⟨wr.heap.size, 0, none⟩ 1 1 [.int .i64 (k : Int), .int .i64 x] rfl rfl (cell_two_new _ _ _ _) (fun u hu => by simp at hu; rcases hu with rfl | rfl <;> rfl) (by unfold maxLen; omega) (by omega) (by simp; omega) ?_; intro v1 w1 hown1 hgrow1 _)
        have hb1 : Below W.heap.size W w1 := (hbel.alloc hsz _).grown hgrow1 (by simp; omega) (fun j hj => (hown.lt j hj).1)
        go_roundw
        case rel => exact ⟨k + 1, by omega, by go_num, by rw [HS.out, flatP_snoc, List.length_append]; exact hown1, hb1⟩
        case measure => simp [intOf]; omega
    · have e : k = n := by omega
      subst e
      have hc0 := cell_next hk0 hbel
      by_cases h0 : c0 = 0
      · subst h0
        have HS : Hid (summ (0, zs) = sumTo (0, zs) k) := by show _ = _; unfold summ; rw [if_pos rfl, List.append_nil, hz.out]
        go_wp2
        go_ret
        exact ⟨_, rfl, by rw [HS.out]; exact own_less hown (by omega), hb0.trans (hbel.mono (by omega))⟩
      · have q1 : (c0 == 0) = false := by simpa using h0
        have q2 : (c0 != 0) = true := by simpa using h0
        have HS : Hid (summ (c0, zs) = sumTo (c0, zs) k ++ [(-1, c0)]) := by show _ = _; unfold summ; rw [if_neg h0, hz.out]
        go_wp2_with (at_builtin; refine wpList_append_own _ rfl _ _ 155 rfl W.heap.size 157 i0 (.agg #[.int .i64 0, .int .i64 0]) 2 16 Tryd.underlying155 hi hz0 hz1 hz2 rfl (by decide) _ _ _ rfl (hown.alloc _) ⟨wr.heap.size, 0, none⟩ 1 1 [.int .i64 (-1), .int .i64 c0] rfl rfl (cell_two_new _ _ _ _) (fun u hu => by simp at hu; rcases hu with rfl | rfl <;> rfl) (by unfold maxLen; omega) (by omega) (by simp; omega) ?_; intro v1 w1 hown1 hgrow1 _)
        have hb1 : Below W.heap.size W w1 := (hbel.alloc hsz _).grown hgrow1 (by simp; omega) (fun j hj => (hown.lt j hj).1)
        go_ret
        exact ⟨_, rfl, by rw [HS.out, flatP_snoc, List.length_append]; exact own_less hown1 (by omega), hb0.trans (hb1.mono (by omega))⟩

/-! The map of coefficients. -/
/-- Block b is a map of at most n symbols from -1 to 9 that gives f. -/
def MapF (w : World) (b n : Nat) (f : Int → Int) : Prop :=
  ∃ D : DataW Unit, w.ownsMap Tryd.prog 2 (plainElem Tryd.prog 2) b n D ∧ (∀ k, D.atKey (.int .i64 k) (.lit (.int .i64 0)) = .lit (.int .i64 (f k))) ∧ ∀ k, Maps.has D (.int .i64 k) = true → -1 ≤ k ∧ k ≤ 9
theorem keyed64 : Maps.Keyed Tryd.prog 2 := Maps.int_keyed Tryd.underlying2
theorem zero64 (w : World) : (zeroValue 2).run Tryd.prog w = .ok (.int .i64 0) w := by kernel_rfl
theorem mapF_made (w : World) : MapF (w.alloc (.map #[] 0)) w.heap.size 0 (fun _ => 0) :=
  ⟨.map [], World.ownsMap_made _ _ _ _, fun k => rfl, fun k h => by cases h⟩
theorem mapF_put {w : World} {D : DataW Unit} {b n n' : Nat} {f : Int → Int} {k v : Int} (h1 : ∀ k, D.atKey (.int .i64 k) (.lit (.int .i64 0)) = .lit (.int .i64 (f k))) (h2 : ∀ k, Maps.has D (.int .i64 k) = true → -1 ≤ k ∧ k ≤ 9)
    (hD : Maps.IsMap D) (hk : -1 ≤ k ∧ k ≤ 9) (h3 : w.ownsMap Tryd.prog 2 (plainElem Tryd.prog 2) b n' (D.put (.int .i64 k) (.lit (.int .i64 v)))) (hn : n' ≤ n) : MapF w b n (fun j => if j = k then v else f j) := by
  refine ⟨_, h3.mono hn, fun j => ?_, fun j hj => ?_⟩
  · by_cases e : j = k
    · subst e
      show _ = DataW.lit (.int .i64 (if j = j then v else f j))
      rw [Maps.atKey_put_same (k := .int .i64 j) hD trivial, if_pos rfl]
    · show _ = DataW.lit (.int .i64 (if j = k then v else f j))
      rw [Maps.atKey_put_other (fun h => e (by injection h)), if_neg e]; exact h1 j
  · by_cases e : j = k
    · subst e; exact hk
    · rw [Maps.has_put_other (fun h => e (by injection h))] at hj; exact h2 j hj
theorem MapF.next {w w' : World} {b n : Nat} {f : Int → Int} (h : MapF w b n f) {B : Nat} (hb : Below B w w') (hB : b < B) : MapF w' b n f := by
  obtain ⟨D, h1, h2⟩ := h
  refine ⟨D, ?_, h2⟩
  obtain ⟨es, clock, h3, h4⟩ := h1
  exact ⟨es, clock, (hb.block b hB).trans h3, h4⟩
theorem MapF.lt {w : World} {b n : Nat} {f : Int → Int} (h : MapF w b n f) : b < w.heap.size := by obtain ⟨D, h1, _⟩ := h; exact h1.lt
theorem MapF.mono {w : World} {b n n' : Nat} {f : Int → Int} (h : MapF w b n f) (hn : n ≤ n') : MapF w b n' f := by obtain ⟨D, h1, h2⟩ := h; exact ⟨D, h1.mono hn, h2⟩

set_option maxRecDepth 100000 in
set_option maxHeartbeats 1000000 in
theorem add_c (b n : Nat) (f : Int → Int) (k v : Int) (w : World) (h : MapF w b n f) (hk : -1 ≤ k ∧ k ≤ 9) (hn : n ≤ 100000) (f1 : -4000000000000000000 ≤ f k) (f2 : f k ≤ 4000000000000000000) (v1 : -4000000000000000000 ≤ v) (v2 : v ≤ 4000000000000000000) :
    Calls Tryd.prog 121 #[.map (some b), .agg #[.int .i64 k, .int .i64 v]] w fun e w' => e = .returned (.tuple #[]) ∧ MapF w' b (n + 1) (upd f k v) ∧ w.grownBy w' (some b) := by
  obtain ⟨D, h1, h2, h3⟩ := h
  have hlt := h1.lt
  have hw : (Lit.int .i64 k).wf = true := WalkArith.wf_i64 (by omega)
  have hD := h1.isMap
  have H2 := Lib.hid h2
  have H3 := Lib.hid h3
  have hkey := Maps.keyOf_int_mk (P := Tryd.prog) Tryd.underlying2 hw
  have h1' := h1.alloc (.cells #[.int .i64 k, .int .i64 v] 157)
  have hvf : IntKind.i64.wrap (f k + v) = f k + v := IntWalk.i64_in _ (by omega)
  have HF : Hid (upd f k v = fun j => if j = k then f k + v else f j) := by
    show _ = _
    funext j
    unfold upd
    by_cases e : j = k
    · rw [if_pos e, if_pos e, e]
    · rw [if_neg e, if_neg e]
  clear h2 h3
  go_enter Tryd.func121, Tryd.ntmps121
  go_wp2_with (first
    | (at_lookup; refine wpList_lookup_own_int _ rfl _ _ 163 rfl 2 2 .i64 keyed64 Tryd.underlying163 Tryd.underlying2 (zero64 _) b n D rfl h1' _ _ rfl hkey ?_; intro c hat hwc; obtain rfl : f k = c := by (have := (H2.out k).symm.trans hat; simpa using this))
    | (at_mapUpdate; refine wpList_mapUpdate_own _ rfl _ _ _ 163 rfl 2 2 keyed64 Tryd.underlying163 _ b n D rfl h1' (by unfold maxLen; omega) _ _ _ rfl rfl hkey _ [] (plainElem_int Tryd.underlying2 (WalkArith.wf_i64 (n := f k + v) (by omega))) ?_; intro w1 hown1 hgrow1)
    | go_in)
  go_end0
  refine ⟨rfl, ?_, only_trans ((World.grownBy_alloc _ _ _)) hgrow1⟩
  rw [HF.out]
  exact mapF_put H2.out H3.out hD hk hown1 (Nat.le_refl _)

/-- Pairs of numbers lie side by side where a slice's value leads, in blocks from lo on. -/
def PRow (w : World) (lo : Nat) (A : Option Addr) (l : List (Int × Int)) : Prop :=
  ∀ j p, l[j]? = some p → ∃ b, A = some ⟨b, 0, none⟩ ∧ lo ≤ b ∧ b < w.heap.size ∧ w.cell? ⟨b, j * 2, none⟩ = some (.int .i64 p.1) ∧ w.cell? ⟨b, j * 2 + 1, none⟩ = some (.int .i64 p.2)
theorem prow_of_own {w : World} {lo : Nat} {v : Value} {l : List (Int × Int)} (h : w.ownsRow lo 157 2 v l.length (flatP l)) : ∃ A c, v = .slice A l.length c ∧ PRow w lo A l := by
  rcases h.2 with ⟨rfl, h2⟩ | ⟨g, cap, cur, rfl, h2, h3, h4⟩
  · have : l = [] := List.eq_nil_of_length_eq_zero h2
    subst this
    exact ⟨none, 0, rfl, fun j p hj => by simp at hj⟩
  · refine ⟨some ⟨g, 0, none⟩, cap, rfl, fun j p hj => ?_⟩
    have hjl : j < l.length := (List.getElem?_eq_some_iff.1 hj).1
    obtain ⟨e1, e2⟩ := flatP_at hj
    exact ⟨g, rfl, h2, (h.lt g rfl).2, by rw [h.cellAt (j * 2) (by omega), e1], by rw [h.cellAt (j * 2 + 1) (by omega), e2]⟩
theorem PRow.grown {w w' : World} {lo b : Nat} {A : Option Addr} {l : List (Int × Int)} (h : PRow w lo A l) (hg : w.grownBy w' (some b)) (hb : b < lo) : PRow w' lo A l := fun j p hj => by
  obtain ⟨g, e, h1, h2, h3, h4⟩ := h j p hj
  have hne : some g ≠ some b := fun e => by injection e; omega
  exact ⟨g, e, h1, Nat.lt_of_lt_of_le h2 hg.size, (World.cell?_of_block (a := ⟨g, _, none⟩) (hg.block g h2 hne)).trans h3, (World.cell?_of_block (a := ⟨g, _, none⟩) (hg.block g h2 hne)).trans h4⟩

set_option maxRecDepth 100000 in
set_option maxHeartbeats 1000000 in
theorem addTimes_c (b n : Nat) (f : Int → Int) (c0 : Int) (A : Option Addr) (m c B : Nat) (zs : List Int) (k M : Int) (w : World) (h : MapF w b n f) (ht : InL w B A m zs) (hB : B ≤ w.heap.size) (hv : tmB (c0, zs) = true)
    (k1 : -1000000 ≤ k) (k2 : k ≤ 1000000) (hn : n ≤ 10000) (hM0 : 0 ≤ M) (hM : M ≤ 1000000000000000000) (hf : ∀ j, -M ≤ f j ∧ f j ≤ M) :
    Calls Tryd.prog 114 #[.map (some b), .agg #[.int .i64 c0, .slice A m c], .int .i64 k] w fun e w' => e = .returned (.tuple #[]) ∧ MapF w' b (n + 11) (addT f k (c0, zs)) ∧ w.grownBy w' (some b) := by
  have hbl := h.lt
  have hm10 : m ≤ 10 := by have := (tmB_parts hv).1; have := ht.1; simp at *; omega
  have hsl : (summ (c0, zs)).length ≤ 11 := by have := summ_len (c0, zs); have := ht.1; simp at *; omega
  have HOK := Lib.hid (fun p hp => summ_ok (t := (c0, zs)) hv (p := p) hp)
  have HFIN := Lib.hid (addS_summ k f (c0, zs))
  have HF := Lib.hid hf
  have hb0 : Below w.heap.size w (w.alloc (.cells #[.int .i64 c0, .slice A m c] 45)) := bnew _ _
  have hg0 : w.grownBy (w.alloc (.cells #[.int .i64 c0, .slice A m c] 45)) (some b) := World.grownBy_alloc _ _ _
  have hs0 := hb0.size
  have HC := Lib.hid (summandsOf_c c0 A m c B zs _ (ht.next hb0 hB) (by omega) hm10)
  have hmp := h.next hb0 hbl
  clear hf hv
  go_enter Tryd.func114, Tryd.ntmps114
  go_wp2_with fail
  generalize w.alloc (.cells #[.int .i64 c0, .slice A m c] 45) = W at hb0 hg0 hs0 HC hmp ⊢
  refine HC.out.mono ?_
  rintro e w1 ⟨v, rfl, hown, hb1⟩
  obtain ⟨A1, c1, rfl, hpr⟩ := prow_of_own hown
  have hmp1 := hmp.next hb1 (by omega)
  have hg1 : w.grownBy w1 (some b) := only_trans hg0 ⟨hb1.os, hb1.tape, hb1.output, hb1.size, fun i hi _ => hb1.block i hi⟩
  clear hown HC
  generalize summ (c0, zs) = l at HOK HFIN hpr hsl ⊢
  go_wp2_with fail
  go_loopw [7, 11] (fun _ i wr => ∃ j : Nat, j ≤ l.length ∧ i = .int .i64 j ∧ MapF wr b (n + j) (addS k f (l.take j)) ∧ PRow wr W.heap.size A1 l ∧ w.grownBy wr (some b) ∧ Hid (∀ q, -(M + (j : Int) * 1000000000000) ≤ addS k f (l.take j) q ∧ addS k f (l.take j) q ≤ M + (j : Int) * 1000000000000)) (fun _ i _ => l.length - (intOf i).toNat)
  case atStart => exact ⟨0, Nat.zero_le _, rfl, hmp1, hpr, hg1, fun q => by have := HF.out q; simp [addS]; omega⟩
  case round =>
    clear hmp1 hpr hg1
    obtain ⟨j, hj, rfl, hmp, hpr, hg, hbd⟩ := hrel
    by_cases hlt : j < l.length
    · obtain ⟨p, hp⟩ : ∃ p, l[j]? = some p := ⟨_, List.getElem?_eq_getElem hlt⟩
      obtain ⟨g, rfl, hp1, hp2, hp3, hp4⟩ := hpr j p hp
      have hok := HOK.out p (List.mem_of_getElem? hp)
      obtain ⟨s, x⟩ := p
      obtain ⟨o1, o2, o3, o4⟩ := hok
      have hpx := prod_le k1 k2 o3 o4
      simp only at o1 o2 o3 o4 hpx hp3 hp4
      have hbs := hbd.out s
      have HT : Hid (addS k f (l.take (j + 1)) = upd (addS k f (l.take j)) s (k * x)) := by
        show _ = _
        rw [List.take_add_one, hp]
        exact addS_snoc k f _ (s, x)
      have HB : Hid (∀ q, -(M + ((j + 1 : Nat) : Int) * 1000000000000) ≤ addS k f (l.take (j + 1)) q ∧ addS k f (l.take (j + 1)) q ≤ M + ((j + 1 : Nat) : Int) * 1000000000000) := fun q => by
        rw [HT.out]
        have := upd_bound (g := addS k f (l.take j)) (M := M + (j : Int) * 1000000000000) (j := s) hbd.out hpx.1 hpx.2 q
        omega
      have HADD := Lib.hid (fun (o : Obj) => add_c b (n + j) (addS k f (l.take j)) s (k * x) (wr.alloc o) (hmp.next (bnew _ _) hmp.lt) ⟨o1, o2⟩ (by omega) (by omega) (by omega) (by omega) (by omega))
      have hwr : IntKind.i64.wrap (k * x) = k * x := IntWalk.i64_in _ (by omega)
      have hlt1 := hmp.lt
      clear hp hbd hmp
      go_wp2_with fail
      refine (HADD.out _).mono ?_
      rintro e w2 ⟨rfl, hmp2, hg2⟩
      have hg3 : wr.grownBy w2 (some b) := only_trans (World.grownBy_alloc _ _ _) hg2
      go_wp2_with fail
      go_roundw
      case rel => exact ⟨j + 1, by omega, by go_num, by rw [HT.out]; exact hmp2, hpr.grown hg3 (by omega), only_trans hg hg3, HB⟩
      case measure => simp [intOf]; omega
    · have e : l.take j = l := List.take_of_length_le (by omega)
      rw [e] at hmp
      have hmp' := hmp.mono (n' := n + 11) (by omega)
      rw [HFIN.out] at hmp'
      clear hmp hbd e
      go_wp2_with fail
      go_end0
      exact ⟨rfl, hmp', hg⟩

/-- In a world the map of block b gives v at the symbol k. -/
theorem look_of {w : World} {b n : Nat} {f : Int → Int} (h : MapF w b n f) (k : Int) (hk : -1 ≤ k ∧ k ≤ 9) : (Instr.lookup 163 (.map (some b)) (.int .i64 k) false).run Tryd.prog w = .ok (.int .i64 (f k)) w := by
  obtain ⟨D, h1, h2, h3⟩ := h
  obtain ⟨c, hrun, hat, _⟩ := h1.lookup_int keyed64 Tryd.underlying163 Tryd.underlying2 (zero64 w) (Maps.keyOf_int_mk Tryd.underlying2 (a := k) (WalkArith.wf_i64 (by omega)))
  obtain rfl : f k = c := by have := (h2 k).symm.trans hat; simpa using this
  exact hrun
theorem MapF.alloc {w : World} {b n : Nat} {f : Int → Int} (h : MapF w b n f) (o : Obj) : MapF (w.alloc o) b n f := h.next (bnew w o) h.lt
theorem MapF.drew {w : World} {b n : Nat} {f : Int → Int} (h : MapF w b n f) : MapF w.drew b n f := h

/-- What the loop over the map keeps of the count. -/
def CntOk (f : Int → Int) (left : Lit → Bool) (c : Int) : Prop := 0 ≤ c ∧ c ≤ 10 ∧ (∀ k, f k ≠ 0 → left (.int .i64 k) = false → k + 1 ≤ c) ∧ (c = 0 ∨ f (c - 1) ≠ 0)
theorem cntOk_start {D : DataW Unit} {f : Int → Int} (h : ∀ k, D.atKey (.int .i64 k) (.lit (.int .i64 0)) = .lit (.int .i64 (f k))) : CntOk f (Maps.has D) 0 := by
  refine ⟨by omega, by omega, fun k hk hl => ?_, .inl rfl⟩
  have := Maps.atKey_of_not_has hl (.lit (.int .i64 0))
  rw [h k] at this
  exact absurd (by simpa using this) hk
theorem same_int {k x : Int} (h : (Lit.int .i64 k).sameKey (.int .i64 x) = true) : k = x := by
  by_cases e : k = x
  · exact e
  · rw [Maps.sameKey_ne (fun h' => e (by injection h'))] at h; cases h
theorem cntOk_zero {f : Int → Int} {left : Lit → Bool} {c x : Int} (h : CntOk f left c) (h0 : f x = 0) : CntOk f (fun z => left z && !z.sameKey (.int .i64 x)) c := by
  obtain ⟨h1, h2, h3, h4⟩ := h
  refine ⟨h1, h2, fun k hk hl => ?_, h4⟩
  cases hlk : left (.int .i64 k) with
  | false => exact h3 k hk hlk
  | true =>
    have hs : (Lit.int .i64 k).sameKey (.int .i64 x) = true := by simpa [hlk] using hl
    rw [same_int hs] at hk
    exact absurd h0 hk
theorem cntOk_more {f : Int → Int} {left : Lit → Bool} {c x : Int} (h : CntOk f left c) (h0 : f x ≠ 0) (hx : -1 ≤ x ∧ x ≤ 9) (hle : c ≤ x + 1) : CntOk f (fun z => left z && !z.sameKey (.int .i64 x)) (x + 1) := by
  obtain ⟨h1, h2, h3, h4⟩ := h
  refine ⟨by omega, by omega, fun k hk hl => ?_, .inr (by rwa [show x + 1 - 1 = x by omega])⟩
  cases hlk : left (.int .i64 k) with
  | false => have := h3 k hk hlk; omega
  | true =>
    have hs : (Lit.int .i64 k).sameKey (.int .i64 x) = true := by simpa [hlk] using hl
    rw [same_int hs]; omega
theorem cntOk_stay {f : Int → Int} {left : Lit → Bool} {c x : Int} (h : CntOk f left c) (hle : x + 1 ≤ c) : CntOk f (fun z => left z && !z.sameKey (.int .i64 x)) c := by
  obtain ⟨h1, h2, h3, h4⟩ := h
  refine ⟨h1, h2, fun k hk hl => ?_, h4⟩
  cases hlk : left (.int .i64 k) with
  | false => exact h3 k hk hlk
  | true =>
    have hs : (Lit.int .i64 k).sameKey (.int .i64 x) = true := by simpa [hlk] using hl
    rw [same_int hs]; omega
theorem cntOk_end {f : Int → Int} {left : Lit → Bool} {c : Int} (h : CntOk f left c) (hl : ∀ kl, left kl = false) : ∃ n : Nat, c = n ∧ n ≤ 10 ∧ n = trimN (ten f) := by
  obtain ⟨h1, h2, h3, h4⟩ := h
  obtain ⟨n, rfl⟩ := Int.eq_ofNat_of_zero_le h1
  refine ⟨n, rfl, by omega, ten_trim (by omega) (fun k hk hk' => ?_) (h4.imp (fun h => by omega) id)⟩
  by_cases e : f (k : Nat) = 0
  · exact e
  · have := h3 (k : Nat) e (hl _); omega

/-- Where the new term lies. -/
def TermNew (wr wx : World) (gb gs m : Nat) (c : Int) : Prop :=
  Below wr.heap.size wr wx ∧ wx.cell? ⟨gb, 0, none⟩ = some (.int .i64 c) ∧ wx.cell? ⟨gb, 1, none⟩ = some (.slice (some ⟨gs, 0, none⟩) m m) ∧
    wx.ownsRow wr.heap.size 2 1 (.slice (some ⟨gs, 0, none⟩) m m) m (List.replicate m (.int .i64 0)) ∧ gb ≠ gs ∧ wr.heap.size ≤ gb ∧ gb < wx.heap.size
theorem own_zeros {w : World} {g m lo : Nat} (h : w.heap[g]? = some (.cells (madeCells #[.int .i64 0] m) 2 (0, 0))) (hlo : lo ≤ g) (hm : m ≤ 10) : w.ownsRow lo 2 1 (.slice (some ⟨g, 0, none⟩) m m) m (List.replicate m (.int .i64 0)) := by
  have hl : (madeCells #[.int .i64 0] m).toList = List.replicate m (.int .i64 0) := toList_madeCells_one _ _
  refine ⟨by simp, .inr ⟨g, m, _, rfl, hlo, h, Nat.le_refl _, by unfold maxLen; omega, ?_, ?_⟩⟩
  · rw [← Array.length_toList, hl]; simp
  · rw [hl]; simp
theorem blk_after {y v : World} {cs : Array Value} {t : TypeId} (hb : Below (y.alloc (.cells cs t)).drew.heap.size (y.alloc (.cells cs t)).drew v) :
    BlkIs v y.heap.size t cs ∧ y.heap.size ≤ y.heap.size :=
  ⟨(blk_new y t cs _ rfl).next (bstep hb), Nat.le_refl _⟩
theorem termNewB (wr : World) (m : Nat) (c : Int) (hm : m ≤ 10) :
    TermNew wr ((wr.alloc (.cells #[.int .i64 c, .slice (some ⟨wr.heap.size + 1, 0, none⟩) m m] 45)).alloc (.cells (madeCells #[.int .i64 0] m) 2)) wr.heap.size (wr.heap.size + 1) m c := by
  refine ⟨bon (bnew _ _) (bnew _ _), by simp, by simp, own_zeros ?_ (by omega) hm, by omega, by omega, by simp <;> omega⟩
  have := heap_alloc_new (wr.alloc (.cells #[.int .i64 c, .slice (some ⟨wr.heap.size + 1, 0, none⟩) m m] 45)) (.cells (madeCells #[.int .i64 0] m) 2)
  rw [World.size_alloc] at this
  exact this
theorem termNewA (wr : World) (m : Nat) (c : Int) (hm : m ≤ 10) :
    TermNew wr ((wr.alloc (.cells (madeCells #[.int .i64 0] m) 2)).alloc (.cells #[.int .i64 c, .slice (some ⟨wr.heap.size, 0, none⟩) m m] 45)) (wr.heap.size + 1) wr.heap.size m c := by
  refine ⟨bon (bnew _ _) (bnew _ _), by simp, by simp, own_zeros ?_ (by omega) hm, by omega, by omega, by simp⟩
  have h1 := heap_alloc_new wr (.cells (madeCells #[.int .i64 0] m) 2)
  have h2 := Below.heap_alloc (wr.alloc (.cells (madeCells #[.int .i64 0] m) 2)) (.cells #[.int .i64 c, .slice (some ⟨wr.heap.size, 0, none⟩) m m] 45) wr.heap.size (by simp)
  exact h2.trans h1
theorem TermNew.from {W wr wx : World} {gb gs m : Nat} {c : Int} (hb : Below W.heap.size W wr) (h : TermNew wr wx gb gs m c) : TermNew W wx gb gs m c :=
  ⟨bon hb h.1, h.2.1, h.2.2.1, own_less h.2.2.2.1 hb.size, h.2.2.2.2.1, Nat.le_trans hb.size h.2.2.2.2.2.1, h.2.2.2.2.2.2⟩
theorem MapF.set {w : World} {b n g i : Nat} {f : Int → Int} {v : Value} (h : MapF w b n f) (hg : b < g) : MapF (w.setCell ⟨g, i, none⟩ v) b n f :=
  h.next (B := b + 1) (only_below only_set (by omega) (by have := h.lt; omega)) (by omega)
theorem termNew3 {W w1 : World} {gb m : Nat} {c : Int} (hm : m ≤ 10) (hb : Below W.heap.size W w1) (bk : BlkIs w1 gb 45 #[.int .i64 0, .slice none 0 0]) (hg : W.heap.size ≤ gb) :
    TermNew W (((w1.setCell ⟨gb, 0, none⟩ (.int .i64 c)).setCell ⟨gb, 1, none⟩ (.slice (some ⟨w1.heap.size, 0, none⟩) m m)).alloc (.cells (madeCells #[.int .i64 0] m) 2)) gb w1.heap.size m c := by
  have hl := bk.lt
  have hB := (bk.set 0 (.int .i64 c)).set 1 (.slice (some ⟨w1.heap.size, 0, none⟩) m m)
  have hz : ((w1.setCell ⟨gb, 0, none⟩ (.int .i64 c)).setCell ⟨gb, 1, none⟩ (.slice (some ⟨w1.heap.size, 0, none⟩) m m)).heap.size = w1.heap.size := by simp
  have hn := heap_alloc_new ((w1.setCell ⟨gb, 0, none⟩ (.int .i64 c)).setCell ⟨gb, 1, none⟩ (.slice (some ⟨w1.heap.size, 0, none⟩) m m)) (.cells (madeCells #[.int .i64 0] m) 2)
  rw [hz] at hn
  have hbn := bnew ((w1.setCell ⟨gb, 0, none⟩ (.int .i64 c)).setCell ⟨gb, 1, none⟩ (.slice (some ⟨w1.heap.size, 0, none⟩) m m)) (.cells (madeCells #[.int .i64 0] m) 2)
  have hB2 := hB.next hbn
  have h0 := hB2.cell 0
  have h1 := hB2.cell 1
  simp at h0 h1
  have hb2 : Below W.heap.size W ((w1.setCell ⟨gb, 0, none⟩ (.int .i64 c)).setCell ⟨gb, 1, none⟩ (.slice (some ⟨w1.heap.size, 0, none⟩) m m)) := (hb.setCell (p := ⟨gb, 0, none⟩) hg _).setCell (p := ⟨gb, 1, none⟩) hg _
  exact ⟨bon hb2 hbn, h0, h1, own_zeros hn hb.size hm, by omega, hg, hB2.lt⟩

set_option maxRecDepth 100000 in
set_option maxHeartbeats 2000000 in
theorem width_c (b n : Nat) (f : Int → Int) (w : World) (h : MapF w b n f) :
    Calls Tryd.prog 122 #[.map (some b)] w fun e w' => e = .returned (.int .i64 ((trimN (ten f) : Nat) : Int)) ∧ Below w.heap.size w w' := by
  obtain ⟨D, h1, h2, h3⟩ := h
  have hbl := h1.lt
  have H2 := Lib.hid h2
  have H3 := Lib.hid h3
  clear h2 h3
  go_enter Tryd.func122, Tryd.ntmps122
  go_wp2_with (first
    | (at_range; refine wpList_range_own _ rfl _ 163 rfl 2 2 keyed64 Tryd.underlying163 _ b n D rfl h1 ?_; intro w0 hrg0 hg0 hsz0)
    | go_in)
  go_frame
  have hbW0 : Below w.heap.size w w0 := ⟨hg0.os, hg0.tape, hg0.output, hg0.size, fun i hi => hg0.block i hi (by simp)⟩
  go_loopw [3, 4, 5] (fun cv _ _ wr => ∃ (left : Lit → Bool) (cnt : Nat) (c : Int), cv = .int .i64 c ∧ wr.ranges Tryd.prog 2 (plainElem Tryd.prog 2) b w.heap.size n D left cnt ∧ Hid (CntOk f left c) ∧ 0 ≤ c ∧ c ≤ 10 ∧ Below w.heap.size w wr)
    (fun _ _ _ wr => wr.rangeLeft b w.heap.size)
  case atStart => exact ⟨_, _, 0, rfl, hrg0, cntOk_start H2.out, by omega, by omega, hbW0⟩
  case round =>
    clear hrg0 hg0 hsz0 hbW0
    obtain ⟨left, cnt, c, rfl, hrg, hcn, hc0, hc1, hbel⟩ := hrel
    have hsz := hbel.size
    go_wp2_with (first
      | (at_next; refine wpList_next_ranges_ii _ rfl _ rfl 2 2 .i64 .i64 keyed64 Tryd.underlying2 Tryd.underlying2 b w.heap.size n _ _ _ rfl hrg ?_ ?_)
      | go_in)
    · intro _ hl0
      obtain ⟨m, rfl, hm1, hm2⟩ := cntOk_end hcn.out hl0
      clear hrg hl0
      have HM := Lib.hid hm2
      clear hm2
      go_wp2_with fail
      go_ret
      exact ⟨by rw [← HM.out]; rfl, hbel⟩
    · intro x y w1 cnt1 hwx hwy hlx hat hrg1 hlt hg1 hs1 hen
      have hfx : f x = y := by have := (H2.out x).symm.trans (hat _); simpa using this
      have hx9 : -1 ≤ x ∧ x ≤ 9 := H3.out x (Maps.has_true_of_atKey hat)
      have hb1 : Below w.heap.size w w1 := hbel.grown hg1 hsz (fun j hj => by cases hj; exact Nat.le_refl _)
      have hwr : IntKind.i64.wrap (x + 1) = x + 1 := IntWalk.i64_in _ (by omega)
      obtain ⟨hx1, hx2⟩ := hx9
      clear hs1 hat
      by_cases hy : y = 0
      · have HC := Lib.hid (cntOk_zero (x := x) hcn.out (by rw [hfx, hy]))
        subst hy
        clear hfx
        go_wp2_with fail
        go_roundw
        case rel => exact ⟨_, cnt1, c, rfl, hrg1, HC, hc0, hc1, hb1⟩
        case measure => rw [hrg1.left_eq, hrg.left_eq]; exact hlt
      · have q1 : (y == 0) = false := by simpa using hy
        have q2 : (y != 0) = true := by simpa using hy
        by_cases hle : c ≤ x + 1
        · have HC := Lib.hid (cntOk_more (x := x) hcn.out (by rw [hfx]; exact hy) ⟨hx1, hx2⟩ hle)
          clear hfx
          go_wp2_with fail
          go_roundw
          case rel => exact ⟨_, cnt1, x + 1, by go_num, hrg1, HC, by omega, by omega, hb1⟩
          case measure => rw [hrg1.left_eq, hrg.left_eq]; exact hlt
        · have HC := Lib.hid (cntOk_stay (x := x) hcn.out (by omega))
          clear hfx
          go_wp2_with fail
          go_roundw
          case rel => exact ⟨_, cnt1, c, by go_num, hrg1, HC, hc0, hc1, hb1⟩
          case measure => rw [hrg1.left_eq, hrg.left_eq]; exact hlt

set_option maxRecDepth 100000 in
set_option maxHeartbeats 2000000 in
theorem term_c (b n : Nat) (f : Int → Int) (w : World) (h : MapF w b n f) :
    Calls Tryd.prog 115 #[.map (some b)] w fun e w' => ∃ A m c, e = .returned (.tuple #[.agg #[.int .i64 (mkL (f (-1)) (ten f)).1.1, .slice A m c], .bool (mkL (f (-1)) (ten f)).2]) ∧
      OwnL w' w.heap.size w'.heap.size A m c (mkL (f (-1)) (ten f)).1.2 ∧ Below w.heap.size w w' := by
  have hbl := h.lt
  have hb0 : Below w.heap.size w (w.alloc (.cells #[.int .i64 0, .slice none 0 0] 45)) := bnew _ _
  have hs0 : w.heap.size < (w.alloc (.cells #[.int .i64 0, .slice none 0 0] 45)).heap.size := by simp
  have hk0 : (w.alloc (.cells #[.int .i64 0, .slice none 0 0] 45)).cell? ⟨w.heap.size, 0, none⟩ = some (.int .i64 0) := by simp
  have hk1 : (w.alloc (.cells #[.int .i64 0, .slice none 0 0] 45)).cell? ⟨w.heap.size, 1, none⟩ = some (.slice none 0 0) := by simp
  have hf0 : ∀ i, (w.alloc (.cells #[.int .i64 0, .slice none 0 0] 45)).frozen? ⟨w.heap.size, i, none⟩ = false := fun i => by simp
  have HMP := Lib.hid (h.next hb0 hbl)
  obtain ⟨m, hm2⟩ : ∃ m, m = trimN (ten f) := ⟨_, rfl⟩
  have hm1 : m ≤ 10 := by have h1 := (trimN_is (ten f)).1; rw [ten_len] at h1; omega
  have HM2 := Lib.hid hm2
  clear h hm2
  go_enter Tryd.func115, Tryd.ntmps115
  go_wp2_with fail
  generalize w.alloc (.cells #[.int .i64 0, .slice none 0 0] 45) = W at hb0 hs0 hk0 hk1 hf0 HMP ⊢
  have HW := Lib.hid (fun (x : World) (hx : MapF x b n f) => (show Calls Tryd.prog 122 #[.map (some b)] x fun e w' => e = .returned (.int .i64 (m : Int)) ∧ Below x.heap.size x w' from by have := width_c b n f x hx; rw [← HM2.out] at this; exact this))
  have hmk := run_make_row' (P := Tryd.prog) 36 2 (.int .i64 0) 8 Tryd.underlying36 info64 rfl .i64 .i64 m (by omega) (by omega)
  have hlk := look_of HMP.out (-1) (by omega)
  go_cut [4] (fun s4 wx => ∃ gb gs : Nat, s4 = .pointer (some ⟨gb, 0, none⟩) ∧ TermNew W wx gb gs m (f (-1)))
  case first =>
    go_region_held3 (fun w' => (Instr.lookup 163 (.map (some b)) (.int .i64 (-1)) false).run Tryd.prog w' = .ok (.int .i64 (f (-1))) w')
      (first | assumption | exact look_of HMP.out (-1) (by omega) | exact look_of HMP.out.drew (-1) (by omega) | exact look_of (HMP.out.drew.alloc _) (-1) (by omega) | exact look_of HX.out (-1) (by omega) | exact look_of (HX.out.alloc _) (-1) (by omega) | exact look_of ((HX.out.alloc _).alloc _) (-1) (by omega) | exact look_of (((HX.out.set HMP.out.lt).set HMP.out.lt).alloc _) (-1) (by omega) | fail)
      (first | (go_at_call 122; refine (HW.out _ (by first | exact HMP.out.drew | exact HMP.out.drew.alloc _ | exact (HMP.out.alloc _).drew | fail)).mono ?_; rintro e w1 ⟨rfl, hb1⟩; (first | (have HX := Lib.hid (HMP.out.drew.next hb1 HMP.out.lt); have hbW := bstep hb1) | (have bk := blk_after hb1; have HX := Lib.hid (((HMP.out.alloc _).drew).next hb1 ((HMP.out.alloc _).lt)); have hbW := bon (bnew _ _) (bstep hb1); have z0 := bk.1.cell 0; have z1 := bk.1.cell 1; have f0 := bk.1.frozen 0; have f1 := bk.1.frozen 1; simp at z0 z1; have hbn := bnew w1 (.cells (madeCells #[.int .i64 0] m) 2); have y0 := cell_next z0 hbn; have y1 := cell_next z1 hbn; have g0 := (hbn.frozen (p := ⟨W.heap.size, 0, none⟩) bk.1.lt).trans f0; have g1 := (hbn.frozen (p := ⟨W.heap.size, 1, none⟩) bk.1.lt).trans f1; have bkl := bk.1.lt) | fail)) | fail)
    all_goals (go_wp2_with fail; go_meet; first | exact ⟨_, _, rfl, (termNewA w1 m _ hm1).from hbW⟩ | exact ⟨_, _, rfl, (termNewB w1 m _ hm1).from hbW⟩ | exact ⟨_, _, rfl, termNew3 hm1 hbW bk.1 (Nat.le_refl _)⟩ | fail)
  case rest =>
    obtain ⟨gb, gs, rfl, hb2, q0, q1, hown, hne, hgb1, hgb2⟩ := hcut
    have hmp2 : MapF wc b n f := HMP.out.next hb2 (by omega)
    have hb3 := hb0
    have hf1 := hb2.size
    have r0 := cell_next hk0 hb2
    have r1 := cell_next hk1 hb2
    have hfz : ∀ i, wc.frozen? ⟨w.heap.size, i, none⟩ = false := fun i => (hb2.frozen (p := ⟨w.heap.size, i, none⟩) hs0).trans (hf0 i)
    have hgslo : W.heap.size ≤ gs := (hown.lt gs rfl).1
    have hrow0 : wc.ownsRow W.heap.size 2 1 (.slice (some ⟨gs, 0, none⟩) m m) m ((((ten f).take m).map ic).take 0 ++ List.replicate (m - 0) (.int .i64 0)) := by simpa using hown
    have hVl : (((ten f).take m).map ic).length = m := by rw [List.length_map, List.length_take, ten_len]; omega
    have HVL := Lib.hid hVl
    clear hown hlk hmk hk0 hk1
    go_wp2_with fail
    go_loopw [5, 15] (fun _ i wr => ∃ k : Nat, k ≤ m ∧ i = .int .i64 k ∧ wr.ownsRow W.heap.size 2 1 (.slice (some ⟨gs, 0, none⟩) m m) m ((((ten f).take m).map ic).take k ++ List.replicate (m - k) (.int .i64 0)) ∧ wr.cell? ⟨gb, 0, none⟩ = some (.int .i64 (f (-1))) ∧ wr.cell? ⟨gb, 1, none⟩ = some (.slice (some ⟨gs, 0, none⟩) m m) ∧ MapF wr b n f ∧ wc.grownBy wr (some gs)) (fun _ i _ => m - (intOf i).toNat)
    case atStart => exact ⟨0, Nat.zero_le _, rfl, hrow0, q0, q1, hmp2, World.grownBy.refl _ _⟩
    case round =>
      clear hrow0 q0 q1 hmp2 hVl
      obtain ⟨k, hk, rfl, hrow, q0, q1, hmp, hgr⟩ := hrel
      by_cases hlt : k < m
      · have hlk := look_of hmp (k : Int) (by omega)
        have hVk : (((ten f).take m).map ic)[k]? = some (.int .i64 (f (k : Nat))) := by
          rw [List.getElem?_map, List.getElem?_take, if_pos hlt, ten_at f (by omega)]; rfl
        have hst := hrow.stored k (.int .i64 (f (k : Nat)))
        rw [copy_step HVL.out hlt hVk] at hst
        have hfk := hrow.frozenAt k
        have hcl := hrow.cellAt k (by omega)
        obtain ⟨u, hu⟩ : ∃ u, ((((ten f).take m).map ic).take k ++ List.replicate (m - k) (.int .i64 0))[k]? = some u := ⟨_, List.getElem?_eq_getElem (by simp [ten_len]; omega)⟩
        rw [hu] at hcl
        have HS := Lib.hid hst
        have hgn : wr.grownBy (wr.setCell ⟨gs, k, none⟩ (.int .i64 (f (k : Nat)))) (some gs) := only_set
        have hmp' : MapF (wr.setCell ⟨gs, k, none⟩ (.int .i64 (f (k : Nat)))) b n f := hmp.next (B := b + 1) (only_below hgn (by omega) (by have := hmp.lt; omega)) (by omega)
        have hq0' : (wr.setCell ⟨gs, k, none⟩ (.int .i64 (f (k : Nat)))).cell? ⟨gb, 0, none⟩ = some (.int .i64 (f (-1))) := (World.cell?_of_block (a := ⟨gb, 0, none⟩) (hgn.block gb (cell_lt q0) (fun e => by injection e; omega))).trans q0
        have hq1' : (wr.setCell ⟨gs, k, none⟩ (.int .i64 (f (k : Nat)))).cell? ⟨gb, 1, none⟩ = some (.slice (some ⟨gs, 0, none⟩) m m) := (World.cell?_of_block (a := ⟨gb, 1, none⟩) (hgn.block gb (cell_lt q0) (fun e => by injection e; omega))).trans q1
        have HQ := Lib.hid (And.intro hq0' hq1')
        have HM := Lib.hid hmp'
        clear hu hst hrow hVk hq0' hq1' hmp'
        go_wp2_with fail
        go_roundw
        case rel => exact ⟨k + 1, by omega, by go_num, HS.out.1, HQ.out.1, HQ.out.2, HM.out, only_trans hgr HS.out.2⟩
        case measure => simp [intOf]; omega
      · have e : k = m := by omega
        subst e
        rw [Nat.sub_self, List.replicate_zero, List.append_nil, List.take_of_length_le (by have := HVL.out; omega)] at hrow
        have hown2 : OwnL wr W.heap.size wr.heap.size (some ⟨gs, 0, none⟩) k k ((ten f).take k) := OwnL.of_own hrow
        have hb4 : Below W.heap.size wc wr := only_below hgr hgslo (by omega)
        have hb5 := hb3.trans ((hb2.trans hb4).mono hb3.size)
        have hgz := hgr.size
        have r0' := (hb4.cell (p := ⟨w.heap.size, 0, none⟩) (by show w.heap.size < _; omega)).trans r0
        have r1' := (hb4.cell (p := ⟨w.heap.size, 1, none⟩) (by show w.heap.size < _; omega)).trans r1
        have hfz' : ∀ i, wr.frozen? ⟨w.heap.size, i, none⟩ = false := fun i => (hb4.frozen (p := ⟨w.heap.size, i, none⟩) (by show w.heap.size < _; omega)).trans (hfz i)
        clear hrow r0 r1 hfz
        go_wp2_with fail
        refine (implValid_c (f (-1)) _ k k wr.heap.size ((ten f).take k) wr hown2.inn.2 (Nat.le_refl _) hown2.1 (by omega)).mono ?_
        rintro e w3 ⟨rfl, hb6⟩
        have r0 := cell_next r0' hb6
        have r1 := cell_next r1' hb6
        have p0 := cell_next q0 hb6
        have p1 := cell_next q1 hb6
        have hfy : ∀ i, w3.frozen? ⟨w.heap.size, i, none⟩ = false := fun i => (hb6.frozen (p := ⟨w.heap.size, i, none⟩) (by show w.heap.size < _; omega)).trans (hfz' i)
        have hf30 := hfy 0
        have hf31 := hfy 1
        have hb7 := hb5.trans (hb6.mono hb5.size)
        have hown3 := hown2.next hb6
        have hnb : gb ≠ w.heap.size := by omega
        clear r0' r1' q0 q1 hfz' hfy hown2
        cases hv : tmB (f (-1), (ten f).take k) with
        | true =>
          have HV := Lib.hid (mkL_yes (c := f (-1)) (zs := ten f) (by rw [← HM2.out]; exact hv))
          clear hv
          go_wp2_with fail
          refine bodyPost_ret (v := .tuple #[.agg #[.int .i64 (f (-1)), .slice (some ⟨gs, 0, none⟩) k k], .bool true]) (by simp [results, Tryd.results115, go_sem, r0, r1]) rfl ?_
          have ho : Out w.heap.size (w.heap.size + 1) w3 ((w3.setCell ⟨w.heap.size, 0, none⟩ (.int .i64 (f (-1)))).setCell ⟨w.heap.size, 1, none⟩ (.slice (some ⟨gs, 0, none⟩) k k)) :=
            (Out.of_grown (only_set (g := w.heap.size)) (fun j hj => by injection hj; omega)).trans (Out.of_grown (only_set (g := w.heap.size)) (fun j hj => by injection hj; omega))
          have hs6 := hb6.size
          have hs7 := ho.size
          rw [HV.out, ← HM2.out]
          exact ⟨_, _, _, rfl, ((hown3.out ho (by omega)).less (by omega)).wide (by omega) (Nat.le_refl _), (hb7.setCell (p := ⟨w.heap.size, 0, none⟩) (Nat.le_refl _) _).setCell (p := ⟨w.heap.size, 1, none⟩) (Nat.le_refl _) _⟩
        | false =>
          have HV := Lib.hid (mkL_no (c := f (-1)) (zs := ten f) (by rw [← HM2.out]; exact hv))
          clear hv
          go_wp2_with fail
          refine bodyPost_ret (v := .tuple #[.agg #[.int .i64 0, .slice none 0 0], .bool false]) (by simp [results, Tryd.results115, go_sem, r0, r1]) rfl ?_
          rw [HV.out]
          exact ⟨none, 0, 0, rfl, ⟨rfl, World.ownsRow_nil _ _ _ _, (fun j hj => by cases hj), Nat.le_refl _⟩, (hb7.setCell (p := ⟨w.heap.size, 0, none⟩) (Nat.le_refl _) _).setCell (p := ⟨w.heap.size, 1, none⟩) (Nat.le_refl _) _⟩
end Go.Proofs.YtejgpooghengmaaDoor
