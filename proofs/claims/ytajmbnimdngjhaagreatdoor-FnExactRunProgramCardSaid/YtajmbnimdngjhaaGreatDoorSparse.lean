/-
  The program's sums of terms: summands in a row, coefficients in a map. Conditions: valid terms.
-/
import Derived.Test.YtajmbnimdngjhaaGreatDoorSum
import Derived.Test.YtajmbnimdngjhaaGreatDoorValid
import Derived.Test.YtajmbnimdngjhaaGreatDoorOwn
import Derived.Maps.Own
import Derived.Maps.OwnOps
import Derived.Maps.RangeWalk
import Derived.Maps.OwnSet
import Derived.WalkSmall
import Derived.Outline
import Derived.Deep.RegionHeld3
import Derived.Deep.DeepCutAuto
import Derived.Deep.OwnRows
import Derived.WalkLawsBesides
import Derived.Test.YtajmbnimdngjhaaGreatDoorEq
import Derived.Test.YtajmbnimdngjhaaGreatDoorBlk
namespace Go.Proofs.YtajmbnimdngjhaaGreatDoor
open Go.RowKit

/-- The cells of pairs of numbers. -/
def flatP (l : List (Int × Int)) : List Value := l.flatMap fun p => [.int .i64 p.1, .int .i64 p.2]
theorem flatP_snoc (l : List (Int × Int)) (p : Int × Int) : flatP (l ++ [p]) = flatP l ++ [.int .i64 p.1, .int .i64 p.2] := by simp [flatP]
theorem flatP_at : ∀ {l : List (Int × Int)} {j : Nat} {p : Int × Int}, l[j]? = some p → (flatP l)[j * 2]? = some (.int .i64 p.1) ∧ (flatP l)[j * 2 + 1]? = some (.int .i64 p.2)
  | [], j, p, h => by simp at h
  | q :: l, 0, p, h => by
    obtain rfl : q = p := by simpa using h
    exact ⟨rfl, rfl⟩
  | q :: l, j + 1, p, h => by
    have := flatP_at (l := l) (j := j) (p := p) (by simpa using h)
    have e : flatP (q :: l) = .int .i64 q.1 :: .int .i64 q.2 :: flatP l := rfl
    rw [e, show (j + 1) * 2 = j * 2 + 1 + 1 by omega]
    simpa using this
theorem infoSumm : (Tryz.prog.info? 215).map (fun i => (i.zero, i.size, i.bytes)) = some (some (.agg #[.int .i64 0, .int .i64 0]), 2, 16) := by kernel_rfl

set_option maxRecDepth 100000 in
set_option maxHeartbeats 1000000 in
theorem summandsOf_c (c0 : Int) (A : Option Addr) (n c B : Nat) (zs : List Int) (w : World) (h : InL w B A n zs) (hB : B ≤ w.heap.size) (hn : n ≤ 10) :
    Calls Tryz.prog 162 #[.agg #[.int .i64 c0, .slice A n c]] w fun e w' => ∃ v, e = .returned v ∧
      w'.ownsRow w.heap.size 215 2 v (summ (c0, zs)).length (flatP (summ (c0, zs))) ∧ Below w.heap.size w w' := by
  obtain ⟨i0, hi, hz0, hz1, hz2⟩ := info_parts infoSumm
  have hz := Lib.hid h.1
  have hlen := Lib.hid (fun k => sumTo_len (c0, zs) k)
  have hb0 : Below w.heap.size w (w.alloc (.cells #[.int .i64 c0, .slice A n c] 81)) := bnew _ _
  have hk0 : (w.alloc (.cells #[.int .i64 c0, .slice A n c] 81)).cell? ⟨w.heap.size, 0, none⟩ = some (.int .i64 c0) := by simp
  have hlt : w.heap.size < (w.alloc (.cells #[.int .i64 c0, .slice A n c] 81)).heap.size := by simp
  have hr := h.2.below hb0 hB
  go_enter Tryz.func162, Tryz.ntmps162
  go_wp2_with fail
  generalize w.alloc (.cells #[.int .i64 c0, .slice A n c] 81) = W at hb0 hk0 hlt hr ⊢
  go_loopw [3, 4, 5, 9] (fun v _ _ i wr => ∃ k : Nat, k ≤ n ∧ i = .int .i64 k ∧ wr.ownsRow W.heap.size 215 2 v (sumTo (c0, zs) k).length (flatP (sumTo (c0, zs) k)) ∧ Below W.heap.size W wr) (fun _ _ _ i _ => n - (intOf i).toNat)
  case atStart => exact ⟨0, Nat.zero_le _, rfl, World.ownsRow_nil _ _ _ _, Below.refl _ _⟩
  case round =>
    obtain ⟨k, hk, rfl, hown, hbel⟩ := hrel
    have hl1 := hlen.out k
    have hsz := hbel.size
    by_cases hlt2 : k < n
    · obtain ⟨b, off, x, rfl, hb, hx, hc⟩ := (hr.below hbel (by omega)).int_at (k := k) (by have := hz.out; omega)
      have hg : zs.getD k 0 = x := by rw [List.getD_eq_getElem?_getD, hx]; rfl
      by_cases h0 : x = 0
      · subst h0
        have HS : Hid (sumTo (c0, zs) (k + 1) = sumTo (c0, zs) k) := by show _ = _; rw [sumTo, if_pos hg, List.append_nil]
        clear hg hx
        go_wp2
        go_roundw
        case rel => exact ⟨k + 1, by omega, by go_num, by rw [HS.out]; exact hown, hbel⟩
        case measure => simp [intOf]; omega
      · have q1 : (x == 0) = false := by simpa using h0
        have q2 : (x != 0) = true := by simpa using h0
        have HS : Hid (sumTo (c0, zs) (k + 1) = sumTo (c0, zs) k ++ [((k : Int), x)]) := by show _ = _; rw [sumTo, if_neg (by rw [hg]; exact h0), hg]
        clear hg hx
        go_wp2_with (at_builtin; refine wpList_append_own _ rfl _ _ 213 rfl W.heap.size 215 i0 (.agg #[.int .i64 0, .int .i64 0]) 2 16 Tryz.underlying213 hi hz0 hz1 hz2 rfl (by decide) _ _ _ rfl (hown.alloc _) ⟨wr.heap.size, 0, none⟩ 1 1 [.int .i64 (k : Int), .int .i64 x] rfl rfl (cell_two_new _ _ _ _) (fun u hu => by simp at hu; rcases hu with rfl | rfl <;> rfl) (by unfold maxLen; omega) (by omega) (by simp; omega) ?_; intro v1 w1 hown1 hgrow1 _)
        have hb1 : Below W.heap.size W w1 := (hbel.alloc hsz _).grown hgrow1 (by simp; omega) (fun j hj => (hown.lt j hj).1)
        go_roundw
        case rel => exact ⟨k + 1, by omega, by go_num, by rw [HS.out, flatP_snoc, List.length_append]; exact hown1, hb1⟩
        case measure => simp [intOf]; omega
    · have e : k = n := by omega
      subst e
      have hc0 := cell_next hk0 hbel
      by_cases h0 : c0 = 0
      · subst h0
        have HS : Hid (summ (0, zs) = sumTo (0, zs) k) := by show _ = _; unfold summ; rw [if_pos rfl, List.append_nil, hz.out]
        go_wp2
        go_ret
        exact ⟨_, rfl, by rw [HS.out]; exact own_less hown (by omega), hb0.trans (hbel.mono (by omega))⟩
      · have q1 : (c0 == 0) = false := by simpa using h0
        have q2 : (c0 != 0) = true := by simpa using h0
        have HS : Hid (summ (c0, zs) = sumTo (c0, zs) k ++ [(-1, c0)]) := by show _ = _; unfold summ; rw [if_neg h0, hz.out]
        go_wp2_with (at_builtin; refine wpList_append_own _ rfl _ _ 213 rfl W.heap.size 215 i0 (.agg #[.int .i64 0, .int .i64 0]) 2 16 Tryz.underlying213 hi hz0 hz1 hz2 rfl (by decide) _ _ _ rfl (hown.alloc _) ⟨wr.heap.size, 0, none⟩ 1 1 [.int .i64 (-1), .int .i64 c0] rfl rfl (cell_two_new _ _ _ _) (fun u hu => by simp at hu; rcases hu with rfl | rfl <;> rfl) (by unfold maxLen; omega) (by omega) (by simp; omega) ?_; intro v1 w1 hown1 hgrow1 _)
        have hb1 : Below W.heap.size W w1 := (hbel.alloc hsz _).grown hgrow1 (by simp; omega) (fun j hj => (hown.lt j hj).1)
        go_ret
        exact ⟨_, rfl, by rw [HS.out, flatP_snoc, List.length_append]; exact own_less hown1 (by omega), hb0.trans (hb1.mono (by omega))⟩

/-! The map of coefficients. -/
/-- Block b is a map of at most n symbols from -1 to 9 that gives f. -/
def MapF (w : World) (b n : Nat) (f : Int → Int) : Prop :=
  ∃ D : DataW Unit, w.ownsMap Tryz.prog 2 (plainElem Tryz.prog 2) b n D ∧ (∀ k, D.atKey (.int .i64 k) (.lit (.int .i64 0)) = .lit (.int .i64 (f k))) ∧ ∀ k, Maps.has D (.int .i64 k) = true → -1 ≤ k ∧ k ≤ 9
theorem keyed64 : Maps.Keyed Tryz.prog 2 := Maps.int_keyed Tryz.underlying2
theorem zero64 (w : World) : (zeroValue 2).run Tryz.prog w = .ok (.int .i64 0) w := by kernel_rfl
theorem mapF_made (w : World) : MapF (w.alloc (.map #[] 0)) w.heap.size 0 (fun _ => 0) :=
  ⟨.map [], World.ownsMap_made _ _ _ _, fun k => rfl, fun k h => by cases h⟩
theorem mapF_put {w : World} {D : DataW Unit} {b n n' : Nat} {f : Int → Int} {k v : Int} (h1 : ∀ k, D.atKey (.int .i64 k) (.lit (.int .i64 0)) = .lit (.int .i64 (f k))) (h2 : ∀ k, Maps.has D (.int .i64 k) = true → -1 ≤ k ∧ k ≤ 9)
    (hD : Maps.IsMap D) (hk : -1 ≤ k ∧ k ≤ 9) (h3 : w.ownsMap Tryz.prog 2 (plainElem Tryz.prog 2) b n' (D.put (.int .i64 k) (.lit (.int .i64 v)))) (hn : n' ≤ n) : MapF w b n (fun j => if j = k then v else f j) := by
  refine ⟨_, h3.mono hn, fun j => ?_, fun j hj => ?_⟩
  · by_cases e : j = k
    · subst e
      show _ = DataW.lit (.int .i64 (if j = j then v else f j))
      rw [Maps.atKey_put_same (k := .int .i64 j) hD trivial, if_pos rfl]
    · show _ = DataW.lit (.int .i64 (if j = k then v else f j))
      rw [Maps.atKey_put_other (fun h => e (by injection h)), if_neg e]; exact h1 j
  · by_cases e : j = k
    · subst e; exact hk
    · rw [Maps.has_put_other (fun h => e (by injection h))] at hj; exact h2 j hj
theorem MapF.next {w w' : World} {b n : Nat} {f : Int → Int} (h : MapF w b n f) {B : Nat} (hb : Below B w w') (hB : b < B) : MapF w' b n f := by
  obtain ⟨D, h1, h2⟩ := h
  refine ⟨D, ?_, h2⟩
  obtain ⟨es, clock, h3, h4⟩ := h1
  exact ⟨es, clock, (hb.block b hB).trans h3, h4⟩
theorem MapF.lt {w : World} {b n : Nat} {f : Int → Int} (h : MapF w b n f) : b < w.heap.size := by obtain ⟨D, h1, _⟩ := h; exact h1.lt
theorem MapF.mono {w : World} {b n n' : Nat} {f : Int → Int} (h : MapF w b n f) (hn : n ≤ n') : MapF w b n' f := by obtain ⟨D, h1, h2⟩ := h; exact ⟨D, h1.mono hn, h2⟩

/-- Pairs of numbers lie side by side where a slice's value leads, in blocks from lo on. -/
def PRow (w : World) (lo : Nat) (A : Option Addr) (l : List (Int × Int)) : Prop :=
  ∀ j p, l[j]? = some p → ∃ b, A = some ⟨b, 0, none⟩ ∧ lo ≤ b ∧ b < w.heap.size ∧ w.cell? ⟨b, j * 2, none⟩ = some (.int .i64 p.1) ∧ w.cell? ⟨b, j * 2 + 1, none⟩ = some (.int .i64 p.2)
theorem prow_of_own {w : World} {lo : Nat} {v : Value} {l : List (Int × Int)} (h : w.ownsRow lo 215 2 v l.length (flatP l)) : ∃ A c, v = .slice A l.length c ∧ PRow w lo A l := by
  rcases h.2 with ⟨rfl, h2⟩ | ⟨g, cap, cur, rfl, h2, h3, h4⟩
  · have : l = [] := List.eq_nil_of_length_eq_zero h2
    subst this
    exact ⟨none, 0, rfl, fun j p hj => by simp at hj⟩
  · refine ⟨some ⟨g, 0, none⟩, cap, rfl, fun j p hj => ?_⟩
    have hjl : j < l.length := (List.getElem?_eq_some_iff.1 hj).1
    obtain ⟨e1, e2⟩ := flatP_at hj
    exact ⟨g, rfl, h2, (h.lt g rfl).2, by rw [h.cellAt (j * 2) (by omega), e1], by rw [h.cellAt (j * 2 + 1) (by omega), e2]⟩
theorem PRow.grown {w w' : World} {lo b : Nat} {A : Option Addr} {l : List (Int × Int)} (h : PRow w lo A l) (hg : w.grownBy w' (some b)) (hb : b < lo) : PRow w' lo A l := fun j p hj => by
  obtain ⟨g, e, h1, h2, h3, h4⟩ := h j p hj
  have hne : some g ≠ some b := fun e => by injection e; omega
  exact ⟨g, e, h1, Nat.lt_of_lt_of_le h2 hg.size, (World.cell?_of_block (a := ⟨g, _, none⟩) (hg.block g h2 hne)).trans h3, (World.cell?_of_block (a := ⟨g, _, none⟩) (hg.block g h2 hne)).trans h4⟩

theorem MapF.alloc {w : World} {b n : Nat} {f : Int → Int} (h : MapF w b n f) (o : Obj) : MapF (w.alloc o) b n f := h.next (bnew w o) h.lt
theorem MapF.drew {w : World} {b n : Nat} {f : Int → Int} (h : MapF w b n f) : MapF w.drew b n f := h

/-- What the loop over the map keeps of the count. -/
def CntOk (f : Int → Int) (left : Lit → Bool) (c : Int) : Prop := 0 ≤ c ∧ c ≤ 10 ∧ (∀ k, f k ≠ 0 → left (.int .i64 k) = false → k + 1 ≤ c) ∧ (c = 0 ∨ f (c - 1) ≠ 0)
theorem cntOk_start {D : DataW Unit} {f : Int → Int} (h : ∀ k, D.atKey (.int .i64 k) (.lit (.int .i64 0)) = .lit (.int .i64 (f k))) : CntOk f (Maps.has D) 0 := by
  refine ⟨by omega, by omega, fun k hk hl => ?_, .inl rfl⟩
  have := Maps.atKey_of_not_has hl (.lit (.int .i64 0))
  rw [h k] at this
  exact absurd (by simpa using this) hk
theorem same_int {k x : Int} (h : (Lit.int .i64 k).sameKey (.int .i64 x) = true) : k = x := by
  by_cases e : k = x
  · exact e
  · rw [Maps.sameKey_ne (fun h' => e (by injection h'))] at h; cases h
theorem cntOk_zero {f : Int → Int} {left : Lit → Bool} {c x : Int} (h : CntOk f left c) (h0 : f x = 0) : CntOk f (fun z => left z && !z.sameKey (.int .i64 x)) c := by
  obtain ⟨h1, h2, h3, h4⟩ := h
  refine ⟨h1, h2, fun k hk hl => ?_, h4⟩
  cases hlk : left (.int .i64 k) with
  | false => exact h3 k hk hlk
  | true =>
    have hs : (Lit.int .i64 k).sameKey (.int .i64 x) = true := by simpa [hlk] using hl
    rw [same_int hs] at hk
    exact absurd h0 hk
theorem cntOk_more {f : Int → Int} {left : Lit → Bool} {c x : Int} (h : CntOk f left c) (h0 : f x ≠ 0) (hx : -1 ≤ x ∧ x ≤ 9) (hle : c ≤ x + 1) : CntOk f (fun z => left z && !z.sameKey (.int .i64 x)) (x + 1) := by
  obtain ⟨h1, h2, h3, h4⟩ := h
  refine ⟨by omega, by omega, fun k hk hl => ?_, .inr (by rwa [show x + 1 - 1 = x by omega])⟩
  cases hlk : left (.int .i64 k) with
  | false => have := h3 k hk hlk; omega
  | true =>
    have hs : (Lit.int .i64 k).sameKey (.int .i64 x) = true := by simpa [hlk] using hl
    rw [same_int hs]; omega
theorem cntOk_stay {f : Int → Int} {left : Lit → Bool} {c x : Int} (h : CntOk f left c) (hle : x + 1 ≤ c) : CntOk f (fun z => left z && !z.sameKey (.int .i64 x)) c := by
  obtain ⟨h1, h2, h3, h4⟩ := h
  refine ⟨h1, h2, fun k hk hl => ?_, h4⟩
  cases hlk : left (.int .i64 k) with
  | false => exact h3 k hk hlk
  | true =>
    have hs : (Lit.int .i64 k).sameKey (.int .i64 x) = true := by simpa [hlk] using hl
    rw [same_int hs]; omega
theorem cntOk_end {f : Int → Int} {left : Lit → Bool} {c : Int} (h : CntOk f left c) (hl : ∀ kl, left kl = false) : ∃ n : Nat, c = n ∧ n ≤ 10 ∧ n = trimN (ten f) := by
  obtain ⟨h1, h2, h3, h4⟩ := h
  obtain ⟨n, rfl⟩ := Int.eq_ofNat_of_zero_le h1
  refine ⟨n, rfl, by omega, ten_trim (by omega) (fun k hk hk' => ?_) (h4.imp (fun h => by omega) id)⟩
  by_cases e : f (k : Nat) = 0
  · exact e
  · have := h3 (k : Nat) e (hl _); omega

/-- Where the new term lies. -/
def TermNew (wr wx : World) (gb gs m : Nat) (c : Int) : Prop :=
  Below wr.heap.size wr wx ∧ wx.cell? ⟨gb, 0, none⟩ = some (.int .i64 c) ∧ wx.cell? ⟨gb, 1, none⟩ = some (.slice (some ⟨gs, 0, none⟩) m m) ∧
    wx.ownsRow wr.heap.size 2 1 (.slice (some ⟨gs, 0, none⟩) m m) m (List.replicate m (.int .i64 0)) ∧ gb ≠ gs ∧ wr.heap.size ≤ gb ∧ gb < wx.heap.size
theorem own_zeros {w : World} {g m lo : Nat} (h : w.heap[g]? = some (.cells (madeCells #[.int .i64 0] m) 2 (0, 0))) (hlo : lo ≤ g) (hm : m ≤ 10) : w.ownsRow lo 2 1 (.slice (some ⟨g, 0, none⟩) m m) m (List.replicate m (.int .i64 0)) := by
  have hl : (madeCells #[.int .i64 0] m).toList = List.replicate m (.int .i64 0) := toList_madeCells_one _ _
  refine ⟨by simp, .inr ⟨g, m, _, rfl, hlo, h, Nat.le_refl _, by unfold maxLen; omega, ?_, ?_⟩⟩
  · rw [← Array.length_toList, hl]; simp
  · rw [hl]; simp
theorem blk_after {y v : World} {cs : Array Value} {t : TypeId} (hb : Below (y.alloc (.cells cs t)).drew.heap.size (y.alloc (.cells cs t)).drew v) :
    BlkIs v y.heap.size t cs ∧ y.heap.size ≤ y.heap.size :=
  ⟨(blk_new y t cs _ rfl).next (bstep hb), Nat.le_refl _⟩
theorem termNewB (wr : World) (m : Nat) (c : Int) (hm : m ≤ 10) :
    TermNew wr ((wr.alloc (.cells #[.int .i64 c, .slice (some ⟨wr.heap.size + 1, 0, none⟩) m m] 81)).alloc (.cells (madeCells #[.int .i64 0] m) 2)) wr.heap.size (wr.heap.size + 1) m c := by
  refine ⟨bon (bnew _ _) (bnew _ _), by simp, by simp, own_zeros ?_ (by omega) hm, by omega, by omega, by simp <;> omega⟩
  have := heap_alloc_new (wr.alloc (.cells #[.int .i64 c, .slice (some ⟨wr.heap.size + 1, 0, none⟩) m m] 81)) (.cells (madeCells #[.int .i64 0] m) 2)
  rw [World.size_alloc] at this
  exact this
theorem termNewA (wr : World) (m : Nat) (c : Int) (hm : m ≤ 10) :
    TermNew wr ((wr.alloc (.cells (madeCells #[.int .i64 0] m) 2)).alloc (.cells #[.int .i64 c, .slice (some ⟨wr.heap.size, 0, none⟩) m m] 81)) (wr.heap.size + 1) wr.heap.size m c := by
  refine ⟨bon (bnew _ _) (bnew _ _), by simp, by simp, own_zeros ?_ (by omega) hm, by omega, by omega, by simp⟩
  have h1 := heap_alloc_new wr (.cells (madeCells #[.int .i64 0] m) 2)
  have h2 := Below.heap_alloc (wr.alloc (.cells (madeCells #[.int .i64 0] m) 2)) (.cells #[.int .i64 c, .slice (some ⟨wr.heap.size, 0, none⟩) m m] 81) wr.heap.size (by simp)
  exact h2.trans h1
theorem TermNew.from {W wr wx : World} {gb gs m : Nat} {c : Int} (hb : Below W.heap.size W wr) (h : TermNew wr wx gb gs m c) : TermNew W wx gb gs m c :=
  ⟨bon hb h.1, h.2.1, h.2.2.1, own_less h.2.2.2.1 hb.size, h.2.2.2.2.1, Nat.le_trans hb.size h.2.2.2.2.2.1, h.2.2.2.2.2.2⟩
theorem MapF.set {w : World} {b n g i : Nat} {f : Int → Int} {v : Value} (h : MapF w b n f) (hg : b < g) : MapF (w.setCell ⟨g, i, none⟩ v) b n f :=
  h.next (B := b + 1) (only_below only_set (by omega) (by have := h.lt; omega)) (by omega)
theorem termNew3 {W w1 : World} {gb m : Nat} {c : Int} (hm : m ≤ 10) (hb : Below W.heap.size W w1) (bk : BlkIs w1 gb 81 #[.int .i64 0, .slice none 0 0]) (hg : W.heap.size ≤ gb) :
    TermNew W (((w1.setCell ⟨gb, 0, none⟩ (.int .i64 c)).setCell ⟨gb, 1, none⟩ (.slice (some ⟨w1.heap.size, 0, none⟩) m m)).alloc (.cells (madeCells #[.int .i64 0] m) 2)) gb w1.heap.size m c := by
  have hl := bk.lt
  have hB := (bk.set 0 (.int .i64 c)).set 1 (.slice (some ⟨w1.heap.size, 0, none⟩) m m)
  have hz : ((w1.setCell ⟨gb, 0, none⟩ (.int .i64 c)).setCell ⟨gb, 1, none⟩ (.slice (some ⟨w1.heap.size, 0, none⟩) m m)).heap.size = w1.heap.size := by simp
  have hn := heap_alloc_new ((w1.setCell ⟨gb, 0, none⟩ (.int .i64 c)).setCell ⟨gb, 1, none⟩ (.slice (some ⟨w1.heap.size, 0, none⟩) m m)) (.cells (madeCells #[.int .i64 0] m) 2)
  rw [hz] at hn
  have hbn := bnew ((w1.setCell ⟨gb, 0, none⟩ (.int .i64 c)).setCell ⟨gb, 1, none⟩ (.slice (some ⟨w1.heap.size, 0, none⟩) m m)) (.cells (madeCells #[.int .i64 0] m) 2)
  have hB2 := hB.next hbn
  have h0 := hB2.cell 0
  have h1 := hB2.cell 1
  simp at h0 h1
  have hb2 : Below W.heap.size W ((w1.setCell ⟨gb, 0, none⟩ (.int .i64 c)).setCell ⟨gb, 1, none⟩ (.slice (some ⟨w1.heap.size, 0, none⟩) m m)) := (hb.setCell (p := ⟨gb, 0, none⟩) hg _).setCell (p := ⟨gb, 1, none⟩) hg _
  exact ⟨bon hb2 hbn, h0, h1, own_zeros hn hb.size hm, by omega, hg, hB2.lt⟩

end Go.Proofs.YtajmbnimdngjhaaGreatDoor
