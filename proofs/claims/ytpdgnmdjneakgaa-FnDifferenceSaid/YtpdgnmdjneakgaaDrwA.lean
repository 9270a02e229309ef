/-
  Several texts in one: DrwW, DrwO, DrwD, DrwT, DrwB. Conditions: as each says.
-/
import Derived.Test.YtpdgnmdjneakgaaMinC
import Derived.Test.YtpdgnmdjneakgaaSrc
import Derived.Test.YtpdgnmdjneakgaaDiffA
import Derived.Deep.RegionHeld3
import Derived.Test.YtpdgnmdjneakgaaPolV
import Derived.Test.YtpdgnmdjneakgaaMinS
import Derived.Test.YtpdgnmdjneakgaaDifA

/-! What the model's drawing of a policy holds in memory, beside its source of choices. No conditions. -/
namespace Go.Proofs.Ytpdgnmdjneakgaa
set_option linter.unusedVariables false
open Go.RowKit

theorem grow_on {wc W W' : World} {g : Nat} (h : wc.grownBy W (some g)) (hb : Below wc.heap.size W W') : wc.grownBy W' (some g) :=
  ⟨hb.os.trans h.os, hb.tape.trans h.tape, hb.output.trans h.output, Nat.le_trans h.size hb.size, fun i hi hne => (hb.block i hi).trans (h.block i hi hne)⟩
/-- The rows of numbers, the policy's row, the block that leads to it; all but the source g is as it was. -/
structure DrwW (wc : World) (g bO : Nat) (ps : List (Value × List Int)) (v : Value) (m : Nat) (vs : List Value) (W : World) : Prop where
  rows : RowsO W wc.heap.size ps
  out : W.ownsRow wc.heap.size 29 1 v m vs
  box : BlkIs W bO 26 #[v]
  grow : wc.grownBy W (some g)
  lo : wc.heap.size ≤ bO
  gl : g < wc.heap.size
section
variable {wc W W' Wa : World} {g bO m n : Nat} {ps rs : List (Value × List Int)} {v : Value} {vs : List Value} {A : Option Addr} {c g' c' : Nat} {zs : List Int} {z : Int}
theorem DrwW.keep (h : DrwW wc g bO ps v m vs W) (hb : Below W.heap.size W W') : DrwW wc g bO ps v m vs W' := ⟨h.rows.keep hb, own_below h.out hb, h.box.next hb, grow_on h.grow (hb.mono h.grow.size), h.lo, h.gl⟩
theorem DrwW.by_g (h : DrwW wc g bO ps v m vs W) (hg : W.grownBy W' (some g)) : DrwW wc g bO ps v m vs W' := by
  have hl := h.gl
  refine ⟨h.rows.other hg (fun i p hp k hk e => ?_), h.out.kept hg ?_, h.box.by_grown hg (fun e => ?_), only_trans h.grow hg, h.lo, h.gl⟩
  · obtain rfl : g = k := Option.some.inj e
    have := ((h.rows.own i p hp).lt g hk).1; omega
  · cases e : v.ownBlock with
    | none => exact .inl rfl
    | some k => exact .inr (fun e' => by obtain rfl : k = g := Option.some.inj e'; have := (h.out.lt k e).1; omega)
  · obtain rfl : g = bO := Option.some.inj e
    have := h.lo; omega
theorem DrwW.app {i : Nat} {p : Value × List Int} {n' : Nat} (h : DrwW wc g bO ps v m vs W) (hp : ps[i]? = some p) (hb : Below W.heap.size W Wa) (hgrow : Wa.grownBy W' p.1.ownBlock) (hsep : some g' = p.1.ownBlock ∨ Wa.heap.size ≤ g')
    (hown : W'.ownsRow wc.heap.size 2 1 (.slice (some ⟨g', 0, none⟩) n' c') zs.length (zs.map ic)) : DrwW wc g bO (ps.set i (.slice (some ⟨g', 0, none⟩) n' c', zs)) v m vs W' := by
  have hpo := h.rows.own i p hp
  refine ⟨h.rows.app hp hb hgrow hsep hown, ?_, ?_, ?_, h.lo, h.gl⟩
  · refine (own_below h.out hb).kept hgrow ?_
    cases e : v.ownBlock with
    | none => exact .inl rfl
    | some k => exact .inr (fun e' => own_ne_own h.out hpo (by decide) k e e'.symm)
  · exact (h.box.next hb).by_grown hgrow (own_ne_blk hpo h.box (by decide))
  · exact grow_on h.grow ((hb.mono h.grow.size).grown hgrow (Nat.le_trans h.grow.size hb.size) (fun k hk => (hpo.lt k hk).1))
theorem DrwW.snoc {r : Value} (h : DrwW wc g bO ps v m vs W) (hb : Below W.heap.size W W') (hown : W'.ownsRow W.heap.size 2 1 r zs.length (zs.map ic)) : DrwW wc g bO (ps ++ [(r, zs)]) v m vs W' :=
  ⟨h.rows.snoc hb hown h.grow.size, own_below h.out hb, h.box.next hb, grow_on h.grow (hb.mono h.grow.size), h.lo, h.gl⟩
theorem DrwW.row {v' x : Value} (h : DrwW wc g bO ps v m vs W) (hb : Below W.heap.size W Wa) (hgrow : Wa.grownBy W' v.ownBlock) (hown : W'.ownsRow wc.heap.size 29 1 v' (m + 1) (vs ++ [x])) (hs : ∀ k, v'.ownBlock = some k → k ≠ bO) :
    DrwW wc g bO ps v' (m + 1) (vs ++ [x]) (W'.setCell ⟨bO, 0, none⟩ v') := by
  have hbx := (h.box.next hb).by_grown hgrow (own_ne_blk h.out h.box (by decide))
  refine ⟨(((h.rows.keep hb).other hgrow fun i p hp k hk e => ?_).other (only_set (g := bO)) fun i p hp k hk e => ?_), ?_, ?_, ?_, h.lo, h.gl⟩
  · exact own_ne_own (h.rows.own i p hp) h.out (by decide) k hk e
  · obtain rfl : bO = k := Option.some.inj e
    exact own_ne_blk (h.rows.own i p hp) h.box (by decide) hk
  · refine hown.kept (only_set (g := bO)) ?_
    cases e : v'.ownBlock with
    | none => exact .inl rfl
    | some k => exact .inr (fun e' => hs k e (Option.some.inj e'))
  · simpa using hbx.set 0 v'
  · exact grow_on h.grow (((hb.mono h.grow.size).grown hgrow (Nat.le_trans h.grow.size hb.size) (fun k hk => (h.out.lt k hk).1)).setCell (p := ⟨bO, 0, none⟩) h.lo v')
theorem DrwW.lastN (h : DrwW wc g bO (rs ++ [(.slice A n c, zs)]) v m vs W) (hl : zs.length = n) (hb : Below W.heap.size W Wa) (hgrow : Wa.grownBy W' (Value.slice A n c).ownBlock) (hsep : some g' = (Value.slice A n c).ownBlock ∨ Wa.heap.size ≤ g')
    (hown : W'.ownsRow wc.heap.size 2 1 (.slice (some ⟨g', 0, none⟩) (n + 1) c') (n + 1) (zs.map ic ++ [.int .i64 z])) : DrwW wc g bO (rs ++ [(.slice (some ⟨g', 0, none⟩) (n + 1) c', zs ++ [z])]) v m vs W' := by
  have h1 := h.app (i := rs.length) (p := (.slice A n c, zs)) (by simp) hb hgrow hsep (zs := zs ++ [z]) (by rw [List.length_append, hl, List.map_append]; exact hown)
  have e : (rs ++ [((Value.slice A n c, zs) : Value × List Int)]).set rs.length (.slice (some ⟨g', 0, none⟩) (n + 1) c', zs ++ [z]) = rs ++ [(.slice (some ⟨g', 0, none⟩) (n + 1) c', zs ++ [z])] := by
    rw [List.set_append_right _ _ (Nat.le_refl _), Nat.sub_self]; rfl
  rw [e] at h1
  exact h1
theorem DrwW.ownLastN (h : DrwW wc g bO (rs ++ [(.slice A n c, zs)]) v m vs W) (hl : zs.length = n) : W.ownsRow wc.heap.size 2 1 (.slice A n c) n (zs.map ic) := by
  have := h.rows.own rs.length (.slice A n c, zs) (by simp)
  rw [show ((Value.slice A n c, zs) : Value × List Int).2.length = n from hl] at this; exact this
/-- The source, behind what turns only blocks of the call's own. -/
theorem Src.far {w w' : World} {k lo : Nat} (h : Src w g k) (hg : g < lo) (hb : Below lo w w') : Src w' g k := h.below hb hg
theorem DrwW.pol (h : DrwW wc g bO rs (.slice A rs.length c) rs.length (rs.map Prod.fst) W) : PolO W wc.heap.size A c (rs.map Prod.snd) rs := ⟨rfl, h.rows, by have := h.out; rw [List.length_map]; exact this⟩
end
/-- A row of four numbers from -1 to N - 1. -/
def RowK (N : Nat) (r : List Int) : Prop := r.length = 4 ∧ ∀ z ∈ r, -1 ≤ z ∧ z ≤ (N : Int) - 1
theorem PolO.by_g {w w' : World} {lo g : Nat} {R : List (List Int)} {rs : List (Value × List Int)} {A : Option Addr} {c : Nat} (h : PolO w lo A c R rs) (hb : w.grownBy w' (some g)) (hg : g < lo) : PolO w' lo A c R rs := by
  refine ⟨h.eq, h.rows.other hb (fun j p hp k hk e => ?_), h.out.kept hb (.inr fun e => ?_)⟩
  · obtain rfl : g = k := Option.some.inj e
    have := ((h.rows.own j p hp).lt g hk).1; omega
  · have := (h.out.lt g e).1; omega
end Go.Proofs.Ytpdgnmdjneakgaa

/-! The model's drawing of a valid policy. Conditions: fewer than a million choices before. -/
namespace Go.Proofs.Ytpdgnmdjneakgaa
set_option linter.unusedVariables false
open Go.RowKit

set_option maxRecDepth 100000 in
set_option maxHeartbeats 1500000 in
theorem l10DrawOk_c (g k : Nat) (w : World) (h : Src w g k) (hk : k ≤ 1000000) :
    Calls Try.prog 43 #[.pointer (some ⟨g, 0, none⟩)] w fun e w' => ∃ A c R, e = .returned (.agg #[.slice A R.length c]) ∧ (∃ rs, PolO w' w.heap.size A c R rs) ∧ RectP R ∧ R.length ≤ 12 ∧ Src w' g (k + 300) ∧ w.grownBy w' (some g) := by
  obtain ⟨i0, hi, hz0, hz1, hz2⟩ := info_parts info64
  obtain ⟨i1, hi', hz0', hz1', hz2'⟩ := info_parts infoRow
  have hglt := h.lt
  have hb0 := bnew w (.cells #[.slice none 0 0] 26)
  have hR0 : BlkIs (w.alloc (.cells #[.slice none 0 0] 26)) w.heap.size 26 #[.slice none 0 0] := blk_new _ _ _ _ rfl
  have HS0 := Lib.hid (h.below hb0 hglt)
  clear h
  go_enter Try.func43, Try.ntmps43
  go_wp2_with fail
  have hW0s : (w.alloc (.cells #[.slice none 0 0] 26)).heap.size = w.heap.size + 1 := by simp
  obtain ⟨W0, hW0⟩ : ∃ W0, w.alloc (.cells #[.slice none 0 0] 26) = W0 := ⟨_, rfl⟩
  have hgW : w.grownBy W0 (some g) := hW0 ▸ World.grownBy_alloc w _ (some g)
  rw [hW0] at hb0 hR0 HS0 hW0s ⊢
  have HW0 := Lib.hid hW0
  clear hW0
  have hg0 : g < W0.heap.size := by omega
  refine (pick_c g k 4 _ HS0.out (by omega) (by omega) (by omega)).mono ?_
  rintro e w1 ⟨x1, rfl, hx10, hx11, hs1, hb1⟩
  have HS1 := Lib.hid hs1
  clear hs1
  go_wp2_with fail
  refine (one_c g _ 16 _ HS1.out (by omega) (by omega) (by omega)).mono ?_
  rintro e w2 ⟨t2, rfl, hs2, hb2⟩
  have hgr2 : W0.grownBy w2 (some g) := only_trans hb1 hb2
  have hM3 : DrwW W0 g w2.heap.size [] (.slice none 0 0) 0 [] (w2.alloc (.cells #[.slice none 0 0] 26)) :=
    ⟨⟨(fun i p hp => by cases hp), (fun i j p q _ hp => by cases hp)⟩, World.ownsRow_nil _ _ _ _, blk_new _ _ _ _ rfl, only_trans hgr2 (World.grownBy_alloc w2 _ (some g)), hgr2.size, hg0⟩
  have hs3 : Src (w2.alloc (.cells #[.slice none 0 0] 26)) g (k + 4) := (hs2.more (by omega)).below (bnew w2 _) hs2.lt
  have HS3 := Lib.hid hs3
  have HM3 := Lib.hid hM3
  clear hs2 hb1 hb2 hgr2 hM3 hs3 HS0 HS1
  cases t2 with
  | false =>
    obtain ⟨N, hN⟩ : ∃ N : Nat, (N : Int) = 1 + x1 := ⟨(1 + x1).toNat, by omega⟩
    have hN1 : 1 ≤ N := by omega
    have hN2 : N ≤ 12 := by omega
    have HN := Lib.hid hN
    clear hx10 hx11 hN
    go_wp2_with fail
    rw [← HN.out]
    refine (pick_c g _ 5 _ HS3.out (by omega) (by omega) (by omega)).mono ?_
    rintro e w4 ⟨y, rfl, hy0, hy1, hs4, hb4⟩
    have hM4 := HM3.out.by_g hb4
    have HS4 := Lib.hid hs4
    have HM4 := Lib.hid hM4
    clear hs4 hb4 hM4 HM3 HS3
    generalize w2.heap.size = bO at HM4
    go_wp2_with fail
    go_loopw [6, 7, 8, 9] (fun i _ _ _ wr => ∃ (j : Nat) (v : Value) (rs : List (Value × List Int)), i = .int .i64 j ∧ j ≤ N ∧ rs.length = j ∧ Hid (∀ p ∈ rs, RowK N p.2) ∧ DrwW W0 g bO rs v j (rs.map Prod.fst) wr ∧ Hid (Src wr g (k + 6 + 16 * j))) (fun i _ _ _ _ => N - (intOf i).toNat)
    case atStart => exact ⟨0, _, [], rfl, Nat.zero_le _, rfl, (by intro p hp; cases hp), HM4.out, HS4.out.more (by omega)⟩
    case round =>
      clear HM4 HS4
      rename World => wa
      obtain ⟨j, v, rs, rfl, hj, hrs, hrk, hM, hs⟩ := hrel
      by_cases hlt : j < N
      · have i3 : (j : Int) < (N : Int) := by omega
        have hM2 : DrwW W0 g bO (rs ++ [(.slice (some ⟨wa.heap.size, 0, none⟩) 0 0, [])]) v j (rs.map Prod.fst) (wa.alloc (.cells #[] 2)) := hM.snoc (bnew wa _) (own_empty wa _)
        have hs2 : Src (wa.alloc (.cells #[] 2)) g (k + 6 + 16 * j) := hs.out.below (bnew wa _) hs.out.lt
        have HS2 := Lib.hid hs2
        clear hM hs hs2
        go_wp2_with fail
        generalize wa.alloc (.cells #[] 2) = W2 at hM2 HS2 ⊢
        go_loopw [7, 8, 9] (fun r e _ wr => ∃ (m : Nat) (Ar : Option Addr) (cr : Nat) (zs : List Int), e = .int .i64 m ∧ r = .slice Ar m cr ∧ m ≤ 4 ∧ Hid (zs.length = m) ∧ Hid (∀ z ∈ zs, -1 ≤ z ∧ z ≤ (N : Int) - 1) ∧ DrwW W0 g bO (rs ++ [(.slice Ar m cr, zs)]) v j (rs.map Prod.fst) wr ∧ Hid (Src wr g (k + 6 + 16 * j + 4 * m))) (fun _ e _ _ => 4 - (intOf e).toNat)
        case atStart => exact ⟨0, _, _, [], rfl, rfl, by omega, rfl, (by intro z hz; cases hz), hM2, HS2.out⟩
        case round =>
          clear hM2 HS2
          rename World => wi
          obtain ⟨e, Ar, cr, zs, rfl, rfl, he, hzl, hzb, hM, hs⟩ := hrel
          by_cases he4 : e < 4
          · have i6 : (e : Int) < 4 := by omega
            go_wp2_with fail
            refine (pick_c g _ (N : Int) _ hs.out (by omega) (by omega) (by omega)).mono ?_
            rintro e5 w5 ⟨x, rfl, hx0, hx1, hs5, hb5⟩
            have hM5 := hM.by_g hb5
            have HS5 := Lib.hid hs5
            clear hM hs hs5 hb5
            go_wp2_with fail
            refine (one_c g _ _ _ HS5.out (by omega) (by omega) (by omega)).mono ?_
            rintro e6 w6 ⟨t6, rfl, hs6, hb6⟩
            have hM6 := hM5.by_g hb6
            clear hM5 HS5 hb6
            cases t6 with
            | false =>
            have o2 := hM6.ownLastN hzl.out
            have HM6 := Lib.hid hM6
            have HS6 := Lib.hid hs6
            have hsc := hM6.grow.size
            clear hM6 hs6
            go_wp2_with (at_builtin; refine wpList_append_sep rfl _ _ 29 rfl W0.heap.size 2 i0 (.int .i64 0) 1 8 Try.underlying29 hi hz0 hz1 hz2 rfl (by decide) _ _ _ rfl (by first | exact o2.alloc _ | exact (o2 : World.ownsRow _ _ _ _ _ _ _).alloc _) ⟨w6.heap.size, 0, none⟩ 1 1 [.int .i64 (x)] rfl rfl (cell_one_new _ _ _) (by simp [Value.oneCell']) (by unfold maxLen; omega) (by omega) (by simp; omega) (by omega) ?_; intro g' cap' w7 hown7 hgrow7 hsep7)
            have hM7 := HM6.out.lastN hzl.out (bnew w6 _) hgrow7 hsep7 hown7
            have hbg : Below W0.heap.size w6 w7 := ((Below.refl W0.heap.size w6).alloc hsc _).grown hgrow7 (by simp; omega) (fun q hq => (o2.lt q hq).1)
            have HS7 := Lib.hid (HS6.out.far hg0 hbg)
            go_roundw
            case rel => exact ⟨e + 1, some ⟨g', 0, none⟩, cap', zs ++ [x], by go_num, rfl, by omega, (by show _ = _; rw [List.length_append, hzl.out]; rfl), (fun q hq => by rcases List.mem_append.1 hq with q1 | q1; exact hzb.out q q1; simp at q1; subst q1; omega), hM7, HS7.out.more (by omega)⟩
            case measure => simp [intOf]; omega
            | true =>
            have o2 := hM6.ownLastN hzl.out
            have HM6 := Lib.hid hM6
            have HS6 := Lib.hid hs6
            have hsc := hM6.grow.size
            clear hM6 hs6
            go_wp2_with (at_builtin; refine wpList_append_sep rfl _ _ 29 rfl W0.heap.size 2 i0 (.int .i64 0) 1 8 Try.underlying29 hi hz0 hz1 hz2 rfl (by decide) _ _ _ rfl (by first | exact o2.alloc _ | exact (o2 : World.ownsRow _ _ _ _ _ _ _).alloc _) ⟨w6.heap.size, 0, none⟩ 1 1 [.int .i64 (-1)] rfl rfl (cell_one_new _ _ _) (by simp [Value.oneCell']) (by unfold maxLen; omega) (by omega) (by simp; omega) (by omega) ?_; intro g' cap' w7 hown7 hgrow7 hsep7)
            have hM7 := HM6.out.lastN hzl.out (bnew w6 _) hgrow7 hsep7 hown7
            have hbg : Below W0.heap.size w6 w7 := ((Below.refl W0.heap.size w6).alloc hsc _).grown hgrow7 (by simp; omega) (fun q hq => (o2.lt q hq).1)
            have HS7 := Lib.hid (HS6.out.far hg0 hbg)
            go_roundw
            case rel => exact ⟨e + 1, some ⟨g', 0, none⟩, cap', zs ++ [-1], by go_num, rfl, by omega, (by show _ = _; rw [List.length_append, hzl.out]; rfl), (fun q hq => by rcases List.mem_append.1 hq with q1 | q1; exact hzb.out q q1; simp at q1; subst q1; omega), hM7, HS7.out.more (by omega)⟩
            case measure => simp [intOf]; omega
          · obtain rfl : e = 4 := by omega
            obtain ⟨Av, cv, rfl, _⟩ := own_slice hM.out
            have ho := hM.out
            have v0 := hM.box.cell 0
            simp at v0
            have hlo := hM.lo
            have hsc := hM.grow.size
            have HM := Lib.hid hM
            have hNK : Hid (∀ p ∈ rs ++ [((Value.slice Ar 4 cr, zs) : Value × List Int)], RowK N p.2) := fun p hp => by
              rcases List.mem_append.1 hp with q | q
              · exact hrk.out p q
              · simp at q; subst q; exact ⟨hzl.out, hzb.out⟩
            clear hM
            go_wp2_with (at_builtin; refine wpList_append_sep rfl _ _ 24 rfl W0.heap.size 29 i1 (.slice none 0 0) 1 24 Try.underlying24 hi' hz0' hz1' hz2' rfl (by decide) _ _ _ rfl (ho.alloc _) ⟨wi.heap.size, 0, none⟩ 1 1 [.slice Ar 4 cr] rfl rfl (cell_one_new _ _ _) (by simp [Value.oneCell']) (by unfold maxLen; omega) (by omega) (by simp; omega) (by omega) ?_; intro g' cap' w7 hown7 hgrow7 hsep7; have B2 := (HM.out.box.next (bnew wi (.cells #[.slice Ar 4 cr] 29))).by_grown hgrow7 (own_ne_blk HM.out.out HM.out.box (by decide)); have e0 := B2.cell 0; have f0 := B2.frozen 0; simp at e0)
            have hM8 := HM.out.row (bnew _ _) hgrow7 hown7 (fun q hq e => by
              obtain rfl : g' = q := Option.some.inj hq
              rcases hsep7 with h' | h'
              · exact own_ne_blk HM.out.out HM.out.box (by decide) (h'.symm.trans (congrArg some e))
              · have := HM.out.box.lt; simp at h'; omega)
            have hbg : Below W0.heap.size wi (w7.setCell ⟨bO, 0, none⟩ (.slice (some ⟨g', 0, none⟩) (j + 1) cap')) := (((Below.refl W0.heap.size wi).alloc hsc _).grown hgrow7 (by simp; omega) (fun q hq => (HM.out.out.lt q hq).1)).setCell (p := ⟨bO, 0, none⟩) hlo _
            have HS8 := Lib.hid (hs.out.far hg0 hbg)
            go_roundw
            case rel =>
              refine ⟨j + 1, .slice (some ⟨g', 0, none⟩) (j + 1) cap', rs ++ [(.slice Ar 4 cr, zs)], by go_num, by omega, by simp [hrs], hNK, ?_, HS8.out.more (by omega)⟩
              rw [List.map_append]
              exact hM8
            case measure => simp [intOf]; omega
      · obtain rfl : j = N := by omega
        obtain ⟨Av, cv, rfl, _⟩ := own_slice hM.out
        have i3 : ¬ (j : Int) < (j : Int) := by omega
        have v0 := hM.box.cell 0
        have hRW : BlkIs wa w.heap.size 26 #[.slice none 0 0] := (hM.grow.block _ hR0.lt (fun e => by have := Option.some.inj e; omega)).trans hR0
        have s0 := hRW.cell 0
        have s1 := hRW.frozen 0
        simp at v0 s0
        have HM := Lib.hid hM
        clear hM
        go_wp2_with fail
        have hRW2 := (hRW.set 0 (.slice Av j cv)).cell 0
        simp at hRW2
        subst hrs
        have hpol := HM.out.pol
        refine bodyPost_ret (v := .agg #[.slice Av rs.length cv]) (by simp [results, Try.results43, go_sem, hRW2]) rfl ⟨Av, cv, rs.map Prod.snd, ?_, ⟨rs, ?_⟩, ?_, ?_, ?_, ?_⟩
        · rw [List.length_map]
        · exact (hpol.far (by omega)).less hb0.size
        · refine ⟨by rw [List.length_map]; omega, fun r hr => ?_, fun r hr z hz => ?_⟩
          · obtain ⟨p, hp, rfl⟩ := List.mem_map.1 hr
            exact (hrk.out p hp).1
          · obtain ⟨p, hp, rfl⟩ := List.mem_map.1 hr
            rw [List.length_map]
            exact (hrk.out p hp).2 z hz
        · rw [List.length_map]; exact hN2
        · exact (hs.out.far (lo := g + 1) (by omega) ((Below.refl (g + 1) wa).setCell (p := ⟨w.heap.size, 0, none⟩) (by have := hglt; show g + 1 ≤ w.heap.size; omega) _)).more (by omega)
        · exact grow_on (only_trans hgW HM.out.grow) ((Below.refl _ _).setCell (p := ⟨w.heap.size, 0, none⟩) (Nat.le_refl _) _)
  | true =>
    obtain ⟨N, hN⟩ : ∃ N : Nat, N = 12 := ⟨12, rfl⟩
    have hN1 : 1 ≤ N := by omega
    have hN2 : N ≤ 12 := by omega
    have HN : Hid ((12 : Int) = (N : Int)) := by show _ = _; omega
    clear hx10 hx11 hN
    go_wp2_with fail
    rw [HN.out]
    refine (pick_c g _ 5 _ HS3.out (by omega) (by omega) (by omega)).mono ?_
    rintro e w4 ⟨y, rfl, hy0, hy1, hs4, hb4⟩
    have hM4 := HM3.out.by_g hb4
    have HS4 := Lib.hid hs4
    have HM4 := Lib.hid hM4
    clear hs4 hb4 hM4 HM3 HS3
    generalize w2.heap.size = bO at HM4
    go_wp2_with fail
    go_loopw [6, 7, 8, 9] (fun i _ _ _ wr => ∃ (j : Nat) (v : Value) (rs : List (Value × List Int)), i = .int .i64 j ∧ j ≤ N ∧ rs.length = j ∧ Hid (∀ p ∈ rs, RowK N p.2) ∧ DrwW W0 g bO rs v j (rs.map Prod.fst) wr ∧ Hid (Src wr g (k + 6 + 16 * j))) (fun i _ _ _ _ => N - (intOf i).toNat)
    case atStart => exact ⟨0, _, [], rfl, Nat.zero_le _, rfl, (by intro p hp; cases hp), HM4.out, HS4.out.more (by omega)⟩
    case round =>
      clear HM4 HS4
      rename World => wa
      obtain ⟨j, v, rs, rfl, hj, hrs, hrk, hM, hs⟩ := hrel
      by_cases hlt : j < N
      · have i3 : (j : Int) < (N : Int) := by omega
        have hM2 : DrwW W0 g bO (rs ++ [(.slice (some ⟨wa.heap.size, 0, none⟩) 0 0, [])]) v j (rs.map Prod.fst) (wa.alloc (.cells #[] 2)) := hM.snoc (bnew wa _) (own_empty wa _)
        have hs2 : Src (wa.alloc (.cells #[] 2)) g (k + 6 + 16 * j) := hs.out.below (bnew wa _) hs.out.lt
        have HS2 := Lib.hid hs2
        clear hM hs hs2
        go_wp2_with fail
        generalize wa.alloc (.cells #[] 2) = W2 at hM2 HS2 ⊢
        go_loopw [7, 8, 9] (fun r e _ wr => ∃ (m : Nat) (Ar : Option Addr) (cr : Nat) (zs : List Int), e = .int .i64 m ∧ r = .slice Ar m cr ∧ m ≤ 4 ∧ Hid (zs.length = m) ∧ Hid (∀ z ∈ zs, -1 ≤ z ∧ z ≤ (N : Int) - 1) ∧ DrwW W0 g bO (rs ++ [(.slice Ar m cr, zs)]) v j (rs.map Prod.fst) wr ∧ Hid (Src wr g (k + 6 + 16 * j + 4 * m))) (fun _ e _ _ => 4 - (intOf e).toNat)
        case atStart => exact ⟨0, _, _, [], rfl, rfl, by omega, rfl, (by intro z hz; cases hz), hM2, HS2.out⟩
        case round =>
          clear hM2 HS2
          rename World => wi
          obtain ⟨e, Ar, cr, zs, rfl, rfl, he, hzl, hzb, hM, hs⟩ := hrel
          by_cases he4 : e < 4
          · have i6 : (e : Int) < 4 := by omega
            go_wp2_with fail
            refine (pick_c g _ (N : Int) _ hs.out (by omega) (by omega) (by omega)).mono ?_
            rintro e5 w5 ⟨x, rfl, hx0, hx1, hs5, hb5⟩
            have hM5 := hM.by_g hb5
            have HS5 := Lib.hid hs5
            clear hM hs hs5 hb5
            go_wp2_with fail
            refine (one_c g _ _ _ HS5.out (by omega) (by omega) (by omega)).mono ?_
            rintro e6 w6 ⟨t6, rfl, hs6, hb6⟩
            have hM6 := hM5.by_g hb6
            clear hM5 HS5 hb6
            cases t6 with
            | false =>
            have o2 := hM6.ownLastN hzl.out
            have HM6 := Lib.hid hM6
            have HS6 := Lib.hid hs6
            have hsc := hM6.grow.size
            clear hM6 hs6
            go_wp2_with (at_builtin; refine wpList_append_sep rfl _ _ 29 rfl W0.heap.size 2 i0 (.int .i64 0) 1 8 Try.underlying29 hi hz0 hz1 hz2 rfl (by decide) _ _ _ rfl (by first | exact o2.alloc _ | exact (o2 : World.ownsRow _ _ _ _ _ _ _).alloc _) ⟨w6.heap.size, 0, none⟩ 1 1 [.int .i64 (x)] rfl rfl (cell_one_new _ _ _) (by simp [Value.oneCell']) (by unfold maxLen; omega) (by omega) (by simp; omega) (by omega) ?_; intro g' cap' w7 hown7 hgrow7 hsep7)
            have hM7 := HM6.out.lastN hzl.out (bnew w6 _) hgrow7 hsep7 hown7
            have hbg : Below W0.heap.size w6 w7 := ((Below.refl W0.heap.size w6).alloc hsc _).grown hgrow7 (by simp; omega) (fun q hq => (o2.lt q hq).1)
            have HS7 := Lib.hid (HS6.out.far hg0 hbg)
            go_roundw
            case rel => exact ⟨e + 1, some ⟨g', 0, none⟩, cap', zs ++ [x], by go_num, rfl, by omega, (by show _ = _; rw [List.length_append, hzl.out]; rfl), (fun q hq => by rcases List.mem_append.1 hq with q1 | q1; exact hzb.out q q1; simp at q1; subst q1; omega), hM7, HS7.out.more (by omega)⟩
            case measure => simp [intOf]; omega
            | true =>
            have o2 := hM6.ownLastN hzl.out
            have HM6 := Lib.hid hM6
            have HS6 := Lib.hid hs6
            have hsc := hM6.grow.size
            clear hM6 hs6
            go_wp2_with (at_builtin; refine wpList_append_sep rfl _ _ 29 rfl W0.heap.size 2 i0 (.int .i64 0) 1 8 Try.underlying29 hi hz0 hz1 hz2 rfl (by decide) _ _ _ rfl (by first | exact o2.alloc _ | exact (o2 : World.ownsRow _ _ _ _ _ _ _).alloc _) ⟨w6.heap.size, 0, none⟩ 1 1 [.int .i64 (-1)] rfl rfl (cell_one_new _ _ _) (by simp [Value.oneCell']) (by unfold maxLen; omega) (by omega) (by simp; omega) (by omega) ?_; intro g' cap' w7 hown7 hgrow7 hsep7)
            have hM7 := HM6.out.lastN hzl.out (bnew w6 _) hgrow7 hsep7 hown7
            have hbg : Below W0.heap.size w6 w7 := ((Below.refl W0.heap.size w6).alloc hsc _).grown hgrow7 (by simp; omega) (fun q hq => (o2.lt q hq).1)
            have HS7 := Lib.hid (HS6.out.far hg0 hbg)
            go_roundw
            case rel => exact ⟨e + 1, some ⟨g', 0, none⟩, cap', zs ++ [-1], by go_num, rfl, by omega, (by show _ = _; rw [List.length_append, hzl.out]; rfl), (fun q hq => by rcases List.mem_append.1 hq with q1 | q1; exact hzb.out q q1; simp at q1; subst q1; omega), hM7, HS7.out.more (by omega)⟩
            case measure => simp [intOf]; omega
          · obtain rfl : e = 4 := by omega
            obtain ⟨Av, cv, rfl, _⟩ := own_slice hM.out
            have ho := hM.out
            have v0 := hM.box.cell 0
            simp at v0
            have hlo := hM.lo
            have hsc := hM.grow.size
            have HM := Lib.hid hM
            have hNK : Hid (∀ p ∈ rs ++ [((Value.slice Ar 4 cr, zs) : Value × List Int)], RowK N p.2) := fun p hp => by
              rcases List.mem_append.1 hp with q | q
              · exact hrk.out p q
              · simp at q; subst q; exact ⟨hzl.out, hzb.out⟩
            clear hM
            go_wp2_with (at_builtin; refine wpList_append_sep rfl _ _ 24 rfl W0.heap.size 29 i1 (.slice none 0 0) 1 24 Try.underlying24 hi' hz0' hz1' hz2' rfl (by decide) _ _ _ rfl (ho.alloc _) ⟨wi.heap.size, 0, none⟩ 1 1 [.slice Ar 4 cr] rfl rfl (cell_one_new _ _ _) (by simp [Value.oneCell']) (by unfold maxLen; omega) (by omega) (by simp; omega) (by omega) ?_; intro g' cap' w7 hown7 hgrow7 hsep7; have B2 := (HM.out.box.next (bnew wi (.cells #[.slice Ar 4 cr] 29))).by_grown hgrow7 (own_ne_blk HM.out.out HM.out.box (by decide)); have e0 := B2.cell 0; have f0 := B2.frozen 0; simp at e0)
            have hM8 := HM.out.row (bnew _ _) hgrow7 hown7 (fun q hq e => by
              obtain rfl : g' = q := Option.some.inj hq
              rcases hsep7 with h' | h'
              · exact own_ne_blk HM.out.out HM.out.box (by decide) (h'.symm.trans (congrArg some e))
              · have := HM.out.box.lt; simp at h'; omega)
            have hbg : Below W0.heap.size wi (w7.setCell ⟨bO, 0, none⟩ (.slice (some ⟨g', 0, none⟩) (j + 1) cap')) := (((Below.refl W0.heap.size wi).alloc hsc _).grown hgrow7 (by simp; omega) (fun q hq => (HM.out.out.lt q hq).1)).setCell (p := ⟨bO, 0, none⟩) hlo _
            have HS8 := Lib.hid (hs.out.far hg0 hbg)
            go_roundw
            case rel =>
              refine ⟨j + 1, .slice (some ⟨g', 0, none⟩) (j + 1) cap', rs ++ [(.slice Ar 4 cr, zs)], by go_num, by omega, by simp [hrs], hNK, ?_, HS8.out.more (by omega)⟩
              rw [List.map_append]
              exact hM8
            case measure => simp [intOf]; omega
      · obtain rfl : j = N := by omega
        obtain ⟨Av, cv, rfl, _⟩ := own_slice hM.out
        have i3 : ¬ (j : Int) < (j : Int) := by omega
        have v0 := hM.box.cell 0
        have hRW : BlkIs wa w.heap.size 26 #[.slice none 0 0] := (hM.grow.block _ hR0.lt (fun e => by have := Option.some.inj e; omega)).trans hR0
        have s0 := hRW.cell 0
        have s1 := hRW.frozen 0
        simp at v0 s0
        have HM := Lib.hid hM
        clear hM
        go_wp2_with fail
        have hRW2 := (hRW.set 0 (.slice Av j cv)).cell 0
        simp at hRW2
        subst hrs
        have hpol := HM.out.pol
        refine bodyPost_ret (v := .agg #[.slice Av rs.length cv]) (by simp [results, Try.results43, go_sem, hRW2]) rfl ⟨Av, cv, rs.map Prod.snd, ?_, ⟨rs, ?_⟩, ?_, ?_, ?_, ?_⟩
        · rw [List.length_map]
        · exact (hpol.far (by omega)).less hb0.size
        · refine ⟨by rw [List.length_map]; omega, fun r hr => ?_, fun r hr z hz => ?_⟩
          · obtain ⟨p, hp, rfl⟩ := List.mem_map.1 hr
            exact (hrk.out p hp).1
          · obtain ⟨p, hp, rfl⟩ := List.mem_map.1 hr
            rw [List.length_map]
            exact (hrk.out p hp).2 z hz
        · rw [List.length_map]; exact hN2
        · exact (hs.out.far (lo := g + 1) (by omega) ((Below.refl (g + 1) wa).setCell (p := ⟨w.heap.size, 0, none⟩) (by have := hglt; show g + 1 ≤ w.heap.size; omega) _)).more (by omega)
        · exact grow_on (only_trans hgW HM.out.grow) ((Below.refl _ _).setCell (p := ⟨w.heap.size, 0, none⟩) (Nat.le_refl _) _)
end Go.Proofs.Ytpdgnmdjneakgaa

/-! The model's drawing of a policy that is valid nearly always. Conditions: fewer than 900000 choices before. -/
namespace Go.Proofs.Ytpdgnmdjneakgaa
set_option linter.unusedVariables false
set_option linter.unusedSimpArgs false
open Go.RowKit Go.Shelf Go.Deep

theorem SameFrom.mono {B B' : Nat} {W W' : World} (h : SameFrom B W W') (hB : B ≤ B') : SameFrom B' W W' := ⟨h.1, fun k h1 h2 => h.2 k (by omega) h2⟩
theorem RowsO.same {w w' : World} {lo : Nat} {rs : List (Value × List Int)} (h : RowsO w lo rs) (hs : SameFrom lo w w') : RowsO w' lo rs := ⟨fun i p hp => own_same (h.own i p hp) (fun k hk => by have := (h.own i p hp).lt k hk; exact hs.2 k this.1 this.2), h.ne⟩
/-- A list of lists that lies in blocks from lo on. -/
def InLLf (lo : Nat) (w : World) (A : Option Addr) (n : Nat) (xs : List (List Int)) : Prop := ∀ W, SameFrom lo w W → InLL W W.heap.size A n xs
theorem PolO.inf {w : World} {lo lo' c n : Nat} {A : Option Addr} {R : List (List Int)} {rs : List (Value × List Int)} (h : PolO w lo A c R rs) (hl : lo' ≤ lo) (hn : R.length = n) : InLLf lo' w A n R := fun W hs => by
  have := (h.same (hs.mono hl)).inn
  rw [hn] at this
  exact this
theorem InLL.empty (w : World) (B : Nat) (A : Option Addr) : InLL w B A 0 [] := ⟨rfl, fun j x hx => by simp at hx⟩

theorem own_block' {w : World} {lo n : Nat} {e : TypeId} {v : Value} {xs : List Value} (h : w.ownsRow lo e 1 v n xs) (hn : 0 < n) : ∃ g c, v = .slice (some ⟨g, 0, none⟩) n c ∧ n ≤ c := by
  rcases h.2 with ⟨_, h0⟩ | ⟨g, cap, cur, k1, _, _, k2, _⟩
  · omega
  · exact ⟨g, cap, k1, k2⟩
theorem own_frozen {w : World} {lo n c g : Nat} {e : TypeId} {xs : List Value} (h : w.ownsRow lo e 1 (.slice (some ⟨g, 0, none⟩) n c) n xs) (i : Nat) : w.frozen? ⟨g, i, none⟩ = false := by
  rcases h.2 with ⟨h0, _⟩ | ⟨g', cap, cur, k1, _, k3, _⟩
  · cases h0
  · injection k1 with k1
    injection k1 with k1
    injection k1 with k1
    subst k1
    simp [World.frozen?, k3]

theorem RowsO.frozen {w : World} {lo i g n c : Nat} {ps : List (Value × List Int)} {zs : List Int} (h : RowsO w lo ps) (hp : ps[i]? = some (.slice (some ⟨g, 0, none⟩) n c, zs)) (j : Nat) : w.frozen? ⟨g, j, none⟩ = false := by
  have h1 := h.own i _ hp
  dsimp only at h1
  rcases h1.2 with ⟨h0, _⟩ | ⟨g', cap, cur, k1, _, k3, _⟩
  · cases h0
  · injection k1 with k1
    injection k1 with k1
    injection k1 with k1
    subst k1
    simp [World.frozen?, k3]
theorem RowsO.cellz {w : World} {lo i j g n c : Nat} {ps : List (Value × List Int)} {zs : List Int} (h : RowsO w lo ps) (hp : ps[i]? = some (.slice (some ⟨g, 0, none⟩) n c, zs)) (hj : j < zs.length) : w.cell? ⟨g, j, none⟩ = some (.int .i64 (zs.getD j 0)) := by
  have h1 := h.own i _ hp
  dsimp only at h1
  have hn : zs.length = n := by
    rcases h1.2 with ⟨e1, _⟩ | ⟨_, _, _, e1, _⟩
    · injection e1 with e1; cases e1
    · injection e1 with _ e1; exact e1.symm
  rw [hn] at h1
  rw [h1.cellAt j (by omega), List.getElem?_map, List.getElem?_eq_getElem hj, List.getD, List.getElem?_eq_getElem hj]; rfl
/-- A number of a row is written. -/
theorem RowsO.put {w : World} {lo i j b n c : Nat} {ps : List (Value × List Int)} {zs : List Int} (h : RowsO w lo ps) (hp : ps[i]? = some (.slice (some ⟨b, 0, none⟩) n c, zs)) (z : Int) : RowsO (w.setCell ⟨b, j, none⟩ (.int .i64 z)) lo (ps.set i (.slice (some ⟨b, 0, none⟩) n c, zs.set j z)) := by
  have hi := (List.getElem?_eq_some_iff.1 hp).1
  refine ⟨fun k p hk => ?_, fun k l p q hkl hk hl b' hb1 hb2 => ?_⟩
  · by_cases e : i = k
    · subst e
      rw [List.getElem?_set_self hi] at hk
      obtain rfl := Option.some.inj hk
      have h1 := h.own i _ hp
      dsimp only at h1 ⊢
      have hn : zs.length = n := by
        rcases h1.2 with ⟨e1, _⟩ | ⟨_, _, _, e1, _⟩
        · injection e1 with e1; cases e1
        · injection e1 with _ e1; exact e1.symm
      rw [hn] at h1
      rw [List.length_set, hn, show (zs.set j z).map ic = (zs.map ic).set j (.int .i64 z) from by rw [List.map_set]; rfl]
      exact (h1.stored j (.int .i64 z)).1
    · rw [List.getElem?_set_ne e] at hk
      exact (h.own k p hk).kept (only_set (g := b)) (by
        cases e1 : p.1.ownBlock with
        | none => exact .inl rfl
        | some b' => exact .inr (fun e2 => h.ne k i p _ (fun x => e x.symm) hk hp b (e1.trans e2) rfl))
  · have key : ∀ (k : Nat) (p : Value × List Int), (ps.set i (.slice (some ⟨b, 0, none⟩) n c, zs.set j z))[k]? = some p → ∃ p', ps[k]? = some p' ∧ p'.1 = p.1 := fun k p hk => by
      by_cases e : i = k
      · subst e
        rw [List.getElem?_set_self hi] at hk
        obtain rfl := Option.some.inj hk
        exact ⟨_, hp, rfl⟩
      · rw [List.getElem?_set_ne e] at hk
        exact ⟨p, hk, rfl⟩
    obtain ⟨p', h1, h2⟩ := key k p hk
    obtain ⟨q', h3, h4⟩ := key l q hl
    exact h.ne k l p' q' hkl h1 h3 b' (by rw [h2]; exact hb1) (by rw [h4]; exact hb2)
theorem DrwW.put {wc W : World} {g bO m i j b n c : Nat} {ps : List (Value × List Int)} {v : Value} {vs : List Value} {zs : List Int} (h : DrwW wc g bO ps v m vs W) (hp : ps[i]? = some (.slice (some ⟨b, 0, none⟩) n c, zs)) (z : Int) : DrwW wc g bO (ps.set i (.slice (some ⟨b, 0, none⟩) n c, zs.set j z)) v m vs (W.setCell ⟨b, j, none⟩ (.int .i64 z)) := by
  have h1 := h.rows.own i _ hp
  have hb := (h1.lt b rfl).1
  refine ⟨h.rows.put hp z, h.out.kept (only_set (g := b)) ?_, h.box.far (fun e => own_ne_blk h1 h.box (by decide) (by rw [e]; rfl)) _ _, grow_on h.grow ((Below.refl _ _).setCell (p := ⟨b, j, none⟩) hb _), h.lo, h.gl⟩
  cases e : v.ownBlock with
  | none => exact .inl rfl
  | some k => exact .inr (fun e' => by obtain rfl : k = b := Option.some.inj e'; exact own_ne_own h1 h.out (by decide) k rfl e)
theorem fst_set {ps : List (Value × List Int)} {i : Nat} {v : Value} {zs zs' : List Int} (hp : ps[i]? = some (v, zs)) : (ps.set i (v, zs')).map Prod.fst = ps.map Prod.fst := by
  have hi := (List.getElem?_eq_some_iff.1 hp).1
  rw [List.map_set]
  apply List.ext_getElem?
  intro k
  by_cases e : i = k
  · subst e
    rw [List.getElem?_set_self (by rw [List.length_map]; exact hi), List.getElem?_map, hp]; rfl
  · rw [List.getElem?_set_ne e]
/-- The first row without its first number. -/
theorem DrwW.cut {wc W : World} {g bO gA gr q c cr cr' x : Nat} {ps : List (Value × List Int)} {r0 : List Int} {u : Value} (h : DrwW wc g bO ps (.slice (some ⟨gA, 0, none⟩) q c) q (ps.map Prod.fst) W) (hp : ps[0]? = some (.slice (some ⟨gr, 0, none⟩) 4 cr, r0)) (hl : r0.length = 4) (hq : ps.length = q) (hx : x < wc.heap.size) :
    InLLf wc.heap.size (((W.setCell ⟨gA, 0, none⟩ (.slice (some ⟨gr, 1, none⟩) 3 cr')).drew).setCell ⟨x, 0, none⟩ u) (some ⟨gA, 0, none⟩) q ((ps.map Prod.snd).set 0 (r0.drop 1)) := by
  have hA := h.out.lt gA rfl
  have hrows : RowsO (W.setCell ⟨gA, 0, none⟩ (.slice (some ⟨gr, 1, none⟩) 3 cr')) wc.heap.size ps := h.rows.other (only_set (g := gA)) (fun i p hp k hk e => by obtain rfl : gA = k := Option.some.inj e; exact own_ne_own (h.rows.own i p hp) h.out (by decide) gA hk rfl)
  have hout := (h.out.stored 0 (.slice (some ⟨gr, 1, none⟩) 3 cr')).1
  have hrows2 : RowsO (((W.setCell ⟨gA, 0, none⟩ (.slice (some ⟨gr, 1, none⟩) 3 cr')).drew).setCell ⟨x, 0, none⟩ u) wc.heap.size ps := RowsO.other (w := (W.setCell ⟨gA, 0, none⟩ (.slice (some ⟨gr, 1, none⟩) 3 cr')).drew) ⟨fun i p hp => hrows.own i p hp, hrows.ne⟩ (only_set (g := x)) (fun i p hp k hk e => by obtain rfl : x = k := Option.some.inj e; have := ((h.rows.own i p hp).lt x hk).1; omega)
  have hout2 : (((W.setCell ⟨gA, 0, none⟩ (.slice (some ⟨gr, 1, none⟩) 3 cr')).drew).setCell ⟨x, 0, none⟩ u).ownsRow wc.heap.size 29 1 (.slice (some ⟨gA, 0, none⟩) q c) q ((ps.map Prod.fst).set 0 (.slice (some ⟨gr, 1, none⟩) 3 cr')) := ownsRow_setCell_below (w := (W.setCell ⟨gA, 0, none⟩ (.slice (some ⟨gr, 1, none⟩) 3 cr')).drew) hout (a := ⟨x, 0, none⟩) hx u
  generalize ((W.setCell ⟨gA, 0, none⟩ (.slice (some ⟨gr, 1, none⟩) 3 cr')).drew).setCell ⟨x, 0, none⟩ u = W0 at hrows2 hout2 ⊢
  intro W' hsame
  replace hrows2 := hrows2.same hsame
  replace hout2 := own_same hout2 (fun k hk => by have := hout2.lt k hk; exact hsame.2 k this.1 this.2)
  refine ⟨by rw [List.length_set, List.length_map]; exact hq, fun j y hy => ?_⟩
  have hA2 := (hout2.lt gA rfl).2
  have hjl : j < q := by have := (List.getElem?_eq_some_iff.1 hy).1; rw [List.length_set, List.length_map] at this; omega
  have hc := hout2.cellAt j (by omega)
  refine ⟨gA, 0, rfl, hA2, ?_⟩
  by_cases hj : j = 0
  · subst hj
    rw [List.getElem?_set_self (by rw [List.length_map]; omega)] at hy hc
    obtain rfl := Option.some.inj hy
    refine ⟨some ⟨gr, 1, none⟩, 3, cr', by rw [Nat.zero_add]; exact hc, by rw [List.length_drop, hl], fun i hi => ?_⟩
    have hro := hrows2.own 0 _ hp
    dsimp only at hro
    rw [hl] at hro
    have hi3 : i < 3 := by simpa [hl] using hi
    refine ⟨gr, 1, rfl, (hro.lt gr rfl).2, ?_⟩
    rw [hro.cellAt (1 + i) (by omega), List.map_drop, List.getElem?_drop]
  · rw [List.getElem?_set_ne (fun e => hj e.symm)] at hy hc
    rw [List.getElem?_map] at hy hc
    cases e : ps[j]? with
    | none => rw [e] at hy; cases hy
    | some p =>
      rw [e] at hy hc
      obtain rfl := Option.some.inj hy
      have hro := hrows2.own j p e
      obtain ⟨A0, c0, e0, _⟩ := own_slice hro
      refine ⟨A0, p.2.length, c0, by rw [Nat.zero_add]; rw [hc]; show some p.1 = _; rw [e0], ?_⟩
      rw [e0] at hro
      exact (OwnL.of_own hro).inn

set_option maxRecDepth 100000 in
set_option maxHeartbeats 8000000 in
theorem l10Draw_c (g k : Nat) (w : World) (h : Src w g k) (hk : k ≤ 900000) :
    Calls Try.prog 27 #[.pointer (some ⟨g, 0, none⟩)] w fun e w' => ∃ A n c xs, e = .returned (.agg #[.slice A n c]) ∧ InLLf w.heap.size w' A n xs ∧ n ≤ 13 ∧ Src w' g (k + 400) ∧ w.grownBy w' (some g) := by
  obtain ⟨i0, hi, hz0, hz1, hz2⟩ := info_parts info64
  obtain ⟨i1, hi', hz0', hz1', hz2'⟩ := info_parts infoRow
  have hglt := h.lt
  have hb0 := bnew w (.cells #[.slice none 0 0] 26)
  have hR0 : BlkIs (w.alloc (.cells #[.slice none 0 0] 26)) w.heap.size 26 #[.slice none 0 0] := blk_new _ _ _ _ rfl
  have HS0 := Lib.hid (h.below hb0 hglt)
  clear h
  go_enter Try.func27, Try.ntmps27
  go_wp2_with fail
  have hW0s : (w.alloc (.cells #[.slice none 0 0] 26)).heap.size = w.heap.size + 1 := by simp
  obtain ⟨W0, hW0⟩ : ∃ W0, w.alloc (.cells #[.slice none 0 0] 26) = W0 := ⟨_, rfl⟩
  have hgW : w.grownBy W0 (some g) := hW0 ▸ World.grownBy_alloc w _ (some g)
  rw [hW0] at hb0 hR0 HS0 hW0s ⊢
  clear hW0
  have hg0 : g < W0.heap.size := by omega
  refine (l10DrawOk_c g k _ HS0.out (by omega)).mono ?_
  rintro e w1 ⟨A, c, R, rfl, ⟨rs, hpo⟩, hrect, hR12, hs1, hb1⟩
  have hrsl : rs.length = R.length := by rw [← hpo.eq, List.length_map]
  have hM2 : DrwW W0 g w1.heap.size rs (.slice A R.length c) R.length (rs.map Prod.fst) (w1.alloc (.cells #[.slice A R.length c] 26)) :=
    ⟨hpo.rows.keep (bnew w1 _), own_below hpo.out (bnew w1 _), blk_new _ _ _ _ rfl, only_trans hb1 (World.grownBy_alloc w1 _ (some g)), hb1.size, hg0⟩
  have HS2 := Lib.hid (hs1.below (bnew w1 (.cells #[.slice A R.length c] 26)) hs1.lt)
  have HEQ := Lib.hid hpo.eq
  have hR1 := hrect.lo
  have HRE := Lib.hid hrect
  clear hpo hs1 hb1 HS0 hrect
  obtain ⟨q, hq⟩ : ∃ q, R.length = q := ⟨_, rfl⟩
  rw [hq] at hM2 HS2 hR12 hrsl hR1 ⊢
  have HQ := Lib.hid hq
  clear hq
  go_wp2_with fail
  generalize w1.alloc (.cells #[.slice A q c] 26) = W2 at hM2 HS2 ⊢
  generalize w1.heap.size = bO at hM2 ⊢
  refine (one_c g _ 16 _ HS2.out (by omega) (by omega) (by omega)).mono ?_
  rintro e w3 ⟨t3, rfl, hs3, hb3⟩
  have hM3 := hM2.by_g hb3
  have HS3 := Lib.hid hs3
  clear hM2 hb3 hs3 HS2
  cases t3 with
  | false =>
    have hRW : BlkIs w3 w.heap.size 26 #[.slice none 0 0] := (hM3.grow.block _ hR0.lt (fun e => by have := Option.some.inj e; omega)).trans hR0
    have v0 := hM3.box.cell 0
    have s0 := hRW.cell 0
    have s1 := hRW.frozen 0
    simp at v0 s0
    have HM := Lib.hid hM3
    clear hM3
    go_wp2_with fail
    have hRW2 := (hRW.set 0 (.slice A q c)).cell 0
    simp at hRW2
    have hpol : PolO w3 W0.heap.size A c R rs := by
      have := HM.out
      rw [← hrsl] at this
      have := this.pol
      rw [HEQ.out] at this
      exact this
    refine bodyPost_ret (v := .agg #[.slice A q c]) (by simp [results, Try.results27, go_sem, hRW2]) rfl ⟨A, q, c, R, rfl, ?_, by omega, ?_, ?_⟩
    · exact (hpol.far (g := w.heap.size) (i := 0) (u := .slice A q c) (by omega)).inf (by omega) HQ.out
    · exact (HS3.out.far (lo := g + 1) (by omega) ((Below.refl (g + 1) w3).setCell (p := ⟨w.heap.size, 0, none⟩) (by show g + 1 ≤ w.heap.size; omega) _)).more (by omega)
    · exact grow_on (only_trans hgW HM.out.grow) ((Below.refl _ _).setCell (p := ⟨w.heap.size, 0, none⟩) (Nat.le_refl _) _)
  | true =>
    go_wp2_with fail
    refine (pick_c g _ 4 _ HS3.out (by omega) (by omega) (by omega)).mono ?_
    rintro e w4 ⟨x, rfl, hx0, hx1, hs4, hb4⟩
    have hM4 := hM3.by_g hb4
    have HS4 := Lib.hid hs4
    clear hM3 HS3 hb4 hs4
    have hRW : BlkIs w4 w.heap.size 26 #[.slice none 0 0] := (hM4.grow.block _ hR0.lt (fun e => by have := Option.some.inj e; omega)).trans hR0
    have v0 := hM4.box.cell 0
    have v1 := hM4.box.frozen 0
    have s0 := hRW.cell 0
    have s1 := hRW.frozen 0
    simp at v0 s0
    have HM := Lib.hid hM4
    have hlo := hM4.lo
    clear hM4
    have h4 : x = 0 ∨ x = 1 ∨ x = 2 ∨ x = 3 := by omega
    rcases h4 with rfl | rfl | rfl | rfl
    · have hBX := HM.out.box.next (bnew w4 (.cells #[] 29))
      have hRX := hRW.next (bnew w4 (.cells #[] 29))
      have e0 := hBX.cell 0
      have f0 := hBX.frozen 0
      have e1 := hRX.cell 0
      have f1 := hRX.frozen 0
      simp at e0 e1
      have hB5 := hBX.set 0 (.slice (some ⟨w4.heap.size, 0, none⟩) 0 0)
      have hR5 := hRX.far (by omega) 0 (.slice (some ⟨w4.heap.size, 0, none⟩) 0 0) (g' := bO)
      have hgr5 : W0.grownBy ((w4.alloc (.cells #[] 29)).setCell ⟨bO, 0, none⟩ (.slice (some ⟨w4.heap.size, 0, none⟩) 0 0)) (some g) := grow_on HM.out.grow (((Below.refl W0.heap.size w4).alloc HM.out.grow.size _).setCell (p := ⟨bO, 0, none⟩) HM.out.lo _)
      have hS5 := HS4.out.far hg0 (((Below.refl W0.heap.size w4).alloc HM.out.grow.size (.cells #[] 29)).setCell (p := ⟨bO, 0, none⟩) HM.out.lo (.slice (some ⟨w4.heap.size, 0, none⟩) 0 0))
      simp at hB5
      have g0 := hB5.cell 0
      have g1 := hR5.cell 0
      have g2 := hR5.frozen 0
      simp at g0 g1
      have HS5 := Lib.hid hS5
      have HG5 := Lib.hid hgr5
      have HR5 := Lib.hid hR5
      clear hBX hRX hB5 hR5 hgr5 hS5 v0 v1 s0 s1
      go_wp2_with fail
      generalize (w4.alloc (.cells #[] 29)).setCell ⟨bO, 0, none⟩ (.slice (some ⟨w4.heap.size, 0, none⟩) 0 0) = W5 at HS5 HG5 HR5 ⊢
      have k0 := (HR5.out.set 0 (.slice (some ⟨w4.heap.size, 0, none⟩) 0 0)).cell 0
      simp at k0
      refine bodyPost_ret (v := .agg #[.slice (some ⟨w4.heap.size, 0, none⟩) 0 0]) (by simp [results, Try.results27, go_sem, k0]) rfl ⟨some ⟨w4.heap.size, 0, none⟩, 0, 0, [], rfl, (fun W _ => InLL.empty _ _ _), by omega, ?_, ?_⟩
      · exact (HS5.out.far (lo := g + 1) (by omega) ((Below.refl (g + 1) W5).setCell (p := ⟨w.heap.size, 0, none⟩) (by show g + 1 ≤ w.heap.size; omega) _)).more (by omega)
      · exact grow_on (only_trans hgW HG5.out) ((Below.refl _ _).setCell (p := ⟨w.heap.size, 0, none⟩) (Nat.le_refl _) _)
    · have o2 := HM.out.out
      obtain ⟨gA, rfl⟩ : ∃ r, A = some ⟨r, 0, none⟩ := by
        rcases o2.2 with h' | ⟨r, cap, cur, k1, _⟩
        · have := h'.2; omega
        · injection k1 with k1; exact ⟨r, k1⟩
      obtain ⟨p, hp⟩ : ∃ p, rs[0]? = some p := ⟨_, List.getElem?_eq_getElem (by omega)⟩
      obtain ⟨vr, r0⟩ := p
      have hr0 : R[0]? = some r0 := by rw [← HEQ.out, List.getElem?_map, hp]; rfl
      have hrl : r0.length = 4 := HRE.out.len r0 (List.mem_of_getElem? hr0)
      have hro := HM.out.rows.own 0 _ hp
      dsimp only at hro
      rw [hrl] at hro
      obtain ⟨gr, cr, rfl, hcr⟩ := own_block' hro (by omega)
      have u0 : w4.cell? ⟨gA, 0, none⟩ = some (.slice (some ⟨gr, 0, none⟩) 4 cr) := by rw [o2.cellAt 0 (by omega), List.getElem?_map, hp]; rfl
      have u1 : w4.frozen? ⟨gA, 0, none⟩ = false := own_frozen o2 0
      go_wp2_with fail
      go_region
      have hcut := fun u => HM.out.cut (x := w.heap.size) (u := u) (cr' := cr - 1) hp hrl hrsl (by omega)
      have HCUT := Lib.hid hcut
      have hne : bO ≠ gA := fun e => own_ne_blk HM.out.out HM.out.box (by decide) (by rw [e]; rfl)
      have hgA := (o2.lt gA rfl).1
      have hB5 : BlkIs (w4.setCell ⟨gA, 0, none⟩ (.slice (some ⟨gr, 1, none⟩) 3 (cr - 1))).drew bO 26 #[.slice (some ⟨gA, 0, none⟩) q c] := HM.out.box.far hne _ _
      have hR5 : BlkIs (w4.setCell ⟨gA, 0, none⟩ (.slice (some ⟨gr, 1, none⟩) 3 (cr - 1))).drew w.heap.size 26 #[.slice none 0 0] := hRW.far (by omega) _ _
      have hb45 : Below W0.heap.size w4 (w4.setCell ⟨gA, 0, none⟩ (.slice (some ⟨gr, 1, none⟩) 3 (cr - 1))).drew := ((Below.refl W0.heap.size w4).setCell (p := ⟨gA, 0, none⟩) hgA _).drew
      have HG5 := Lib.hid (grow_on HM.out.grow hb45)
      have HS5 := Lib.hid (HS4.out.far hg0 hb45)
      clear hcut hb45 u0 u1 o2 hro v0 v1 s0 s1
      generalize (w4.setCell ⟨gA, 0, none⟩ (.slice (some ⟨gr, 1, none⟩) 3 (cr - 1))).drew = W5 at HCUT hB5 hR5 HG5 HS5 ⊢
      have g0 := hB5.cell 0
      have g1 := hR5.cell 0
      have g2 := hR5.frozen 0
      simp at g0 g1
      go_wp2_with fail
      have k0 := (hR5.set 0 (.slice (some ⟨gA, 0, none⟩) q c)).cell 0
      simp at k0
      refine bodyPost_ret (v := .agg #[.slice (some ⟨gA, 0, none⟩) q c]) (by simp [results, Try.results27, go_sem, k0]) rfl ⟨some ⟨gA, 0, none⟩, q, c, _, rfl, (fun W hs => HCUT.out _ W (hs.mono (by omega))), by omega, ?_, ?_⟩
      · exact (HS5.out.far (lo := g + 1) (by omega) ((Below.refl (g + 1) W5).setCell (p := ⟨w.heap.size, 0, none⟩) (by show g + 1 ≤ w.heap.size; omega) _)).more (by omega)
      · exact grow_on (only_trans hgW HG5.out) ((Below.refl _ _).setCell (p := ⟨w.heap.size, 0, none⟩) (Nat.le_refl _) _)
    · have o2 := HM.out.out
      obtain ⟨gA, rfl⟩ : ∃ r, A = some ⟨r, 0, none⟩ := by
        rcases o2.2 with h' | ⟨r, cap, cur, k1, _⟩
        · have := h'.2; omega
        · injection k1 with k1; exact ⟨r, k1⟩
      obtain ⟨p, hp⟩ : ∃ p, rs[0]? = some p := ⟨_, List.getElem?_eq_getElem (by omega)⟩
      obtain ⟨vr, r0⟩ := p
      have hr0 : R[0]? = some r0 := by rw [← HEQ.out, List.getElem?_map, hp]; rfl
      have hrl : r0.length = 4 := HRE.out.len r0 (List.mem_of_getElem? hr0)
      have hro := HM.out.rows.own 0 _ hp
      dsimp only at hro
      rw [hrl] at hro
      obtain ⟨gr, cr, rfl, hcr⟩ := own_block' hro (by omega)
      have u0 : w4.cell? ⟨gA, 0, none⟩ = some (.slice (some ⟨gr, 0, none⟩) 4 cr) := by rw [o2.cellAt 0 (by omega), List.getElem?_map, hp]; rfl
      have u2 : ∃ z0, w4.cell? ⟨gr, 0, none⟩ = some (.int .i64 z0) := by
        obtain ⟨z0, hz9⟩ : ∃ z0, r0[0]? = some z0 := ⟨_, List.getElem?_eq_getElem (by omega)⟩
        exact ⟨z0, by rw [hro.cellAt 0 (by omega), List.getElem?_map, hz9]; rfl⟩
      obtain ⟨z0, u2⟩ := u2
      have hne : bO ≠ gA := fun e => own_ne_blk HM.out.out HM.out.box (by decide) (by rw [e]; rfl)
      have hne2 : gr ≠ gA := fun e => own_ne_own hro o2 (by decide) gr rfl (by rw [e]; rfl)
      have hne3 : gr ≠ bO := fun e => own_ne_blk hro HM.out.box (by decide) (by rw [e]; rfl)
      have u3 := own_frozen hro 0
      go_wp2_with fail
      have hF0 : (rs.map Prod.fst)[0]? = some (.slice (some ⟨gr, 0, none⟩) 4 cr) := by rw [List.getElem?_map, hp]; simp
      have HF0 := Lib.hid hF0
      have i9 : 0 < q := by omega
      have HMd := Lib.hid (HM.out.keep (Below.refl w4.heap.size w4).drew)
      have HSd := Lib.hid (HS4.out.below (Below.refl w4.heap.size w4).drew HS4.out.lt)
      have hRd : BlkIs w4.drew w.heap.size 26 #[.slice none 0 0] := hRW
      clear hF0 HM HS4 hRW s0 s1 v1 u2 u3 o2 hro
      refine wp_region_held_drew (S := fun w' => w'.cell? ⟨bO, 0, none⟩ = some (.slice (some ⟨gA, 0, none⟩) q c) ∧ w'.cell? ⟨gA, 0, none⟩ = some (.slice (some ⟨gr, 0, none⟩) 4 cr)) (by kernel_rfl) ⟨v0, u0⟩ ?_
      intro hHeld0
      have v0 : w4.drew.cell? ⟨bO, 0, none⟩ = some (.slice (some ⟨gA, 0, none⟩) q c) := v0
      have u0 : w4.drew.cell? ⟨gA, 0, none⟩ = some (.slice (some ⟨gr, 0, none⟩) 4 cr) := u0
      generalize w4.drew = wd at HMd HSd hRd v0 u0 hHeld0 ⊢
      refine wpAnyH_take (i := 0) (v := ?_) rfl (by kernel_rfl) (by kernel_rfl) (by kernel_rfl) (fun _ _ _ h => h) (Or.inl ⟨by kernel_rfl, ?_⟩) (by assumption) ?_
      rotate_left
      · intro w9 hS9; (try dsimp only at hS9); go_simp; (try with_reducible rfl)
      try simp only [Act.put, List.getElem_toArray, List.getElem_cons_succ, List.getElem_cons_zero, List.setIfInBounds_toArray, List.set_cons_zero, List.set_cons_succ]
      refine wpAnyH_take (i := 1) (v := ?_) rfl (by kernel_rfl) (by kernel_rfl) (by kernel_rfl) (fun _ _ _ h => h) (Or.inl ⟨by kernel_rfl, ?_⟩) (by assumption) ?_
      rotate_left
      · intro w9 hS9; (try dsimp only at hS9); go_simp; (try with_reducible rfl)
      try simp only [Act.put, List.getElem_toArray, List.getElem_cons_succ, List.getElem_cons_zero, List.setIfInBounds_toArray, List.set_cons_zero, List.set_cons_succ]
      refine wpAnyH_take (i := 2) (v := ?_) rfl (by kernel_rfl) (by kernel_rfl) (by kernel_rfl) (fun _ _ _ h => h) (Or.inl ⟨by kernel_rfl, ?_⟩) (by assumption) ?_
      rotate_left
      · intro w9 hS9; (try dsimp only at hS9); go_simp; (try with_reducible rfl)
      try simp only [Act.put, List.getElem_toArray, List.getElem_cons_succ, List.getElem_cons_zero, List.setIfInBounds_toArray, List.set_cons_zero, List.set_cons_succ]
      refine wpAnyH_take (i := 3) (v := ?_) rfl (by kernel_rfl) (by kernel_rfl) (by kernel_rfl) (fun _ _ _ h => h) (Or.inl ⟨by kernel_rfl, ?_⟩) (by assumption) ?_
      rotate_left
      · intro w9 hS9; (try dsimp only at hS9); go_simp; (try with_reducible rfl)
      try simp only [Act.put, List.getElem_toArray, List.getElem_cons_succ, List.getElem_cons_zero, List.setIfInBounds_toArray, List.set_cons_zero, List.set_cons_succ]
      refine wpAnyH_take (i := 4) (v := ?_) rfl (by kernel_rfl) (by kernel_rfl) (by kernel_rfl) (fun _ _ _ h => h) (Or.inl ⟨by kernel_rfl, ?_⟩) (by assumption) ?_
      rotate_left
      · intro w9 hS9; (try dsimp only at hS9); go_simp; (try with_reducible rfl)
      try simp only [Act.put, List.getElem_toArray, List.getElem_cons_succ, List.getElem_cons_zero, List.setIfInBounds_toArray, List.set_cons_zero, List.set_cons_succ]
      refine wpAnyH_take (i := 5) (v := ?_) rfl (by kernel_rfl) (by kernel_rfl) (by kernel_rfl) (fun _ _ _ h => h) (Or.inl ⟨by kernel_rfl, ?_⟩) (by assumption) ?_
      rotate_left
      · intro w9 hS9; (try dsimp only at hS9); go_simp; (try with_reducible rfl)
      try simp only [Act.put, List.getElem_toArray, List.getElem_cons_succ, List.getElem_cons_zero, List.setIfInBounds_toArray, List.set_cons_zero, List.set_cons_succ]
      refine wpAnyH_take (i := 6) (v := ?_) rfl (by kernel_rfl) (by kernel_rfl) (by kernel_rfl) (fun _ _ _ h => h) (Or.inl ⟨by kernel_rfl, ?_⟩) (by assumption) ?_
      rotate_left
      · intro w9 hS9; (try dsimp only at hS9); go_simp; (try with_reducible rfl)
      try simp only [Act.put, List.getElem_toArray, List.getElem_cons_succ, List.getElem_cons_zero, List.setIfInBounds_toArray, List.set_cons_zero, List.set_cons_succ]
      refine wpAnyH_take (i := 7) (v := ?_) rfl (by kernel_rfl) (by kernel_rfl) (by kernel_rfl) (fun _ _ _ h => h) (Or.inl ⟨by kernel_rfl, ?_⟩) (by assumption) ?_
      rotate_left
      · intro w9 hS9; (try dsimp only at hS9); go_simp; (try with_reducible rfl)
      try simp only [Act.put, List.getElem_toArray, List.getElem_cons_succ, List.getElem_cons_zero, List.setIfInBounds_toArray, List.set_cons_zero, List.set_cons_succ]
      have hAL := bnew wd (.cells #[.int .i64 (-2), .int .i64 (q : Int), .int .i64 9223372036854775807] 2)
      have HSA := Lib.hid (HSd.out.below hAL HSd.out.lt)
      have HMA := Lib.hid (HMd.out.keep hAL)
      have hZA : (wd.alloc (.cells #[.int .i64 (-2), .int .i64 (q : Int), .int .i64 9223372036854775807] 2)).heap[wd.heap.size]? = some (.cells #[.int .i64 (-2), .int .i64 (q : Int), .int .i64 9223372036854775807] 2 (0, 0)) := heap_alloc_new wd _
      have HCL := Lib.hid (among_c g (k + 306) (some ⟨wd.heap.size, 0, none⟩) 3 3 (wd.heap.size + 1) [-2, (q : Int), 9223372036854775807] (wd.alloc (.cells #[.int .i64 (-2), .int .i64 (q : Int), .int .i64 9223372036854775807] 2)) (HSA.out.more (by omega)) (by omega)
        (fun j hj => ⟨wd.heap.size, 0, rfl, by omega, by rw [Nat.zero_add, cell_of_row _ _ j _ _ _ hZA]; simp [ic]⟩) rfl (by omega) (by omega) (fun b off e => by injection e with e; injection e with e; have := HSd.out.lt; omega))
      have hRA := hRd.next hAL
      have c0 := cell_next v0 hAL
      have c1 := cell_next u0 hAL
      clear hZA
      refine wpAnyH_ready (rs := [8]) (by kernel_rfl) (by simp) ?_
      refine AllReadyH.cons rfl (fun K hK => ?_) AllReadyH.nil
      go_simp
      refine hK.out _ _ ⟨c0, c1⟩ (fun hHeld1 => ?_)
      clear hK K hHeld0
      try simp only [Act.put, List.getElem_toArray, List.getElem_cons_succ, List.getElem_cons_zero, List.setIfInBounds_toArray, List.set_cons_zero, List.set_cons_succ]
      generalize wd.alloc (.cells #[.int .i64 (-2), .int .i64 (q : Int), .int .i64 9223372036854775807] 2) = we at HSA HMA HCL hRA c0 c1 hHeld1 ⊢
      generalize wd.heap.size = wds at HCL ⊢
      refine wpAnyH_ready (rs := [9]) (by kernel_rfl) (by simp) ?_
      refine AllReadyH.cons rfl (fun K hK => ?_) AllReadyH.nil
      go_simp
      go_wp2_with (go_at_call 44; refine HCL.out.mono ?_; rintro e w5 ⟨y, rfl, hy, hs5, hb5⟩)
      have M5 := HMA.out.by_g hb5
      have hR5 : BlkIs w5 w.heap.size 26 #[.slice none 0 0] := hRA.by_grown hb5 (fun e => by have := Option.some.inj e; omega)
      have HS5 := Lib.hid hs5
      have a0 := M5.box.cell 0
      have a1 : w5.cell? ⟨gA, 0, none⟩ = some (.slice (some ⟨gr, 0, none⟩) 4 cr) := (M5.out.cellAt 0 (by omega)).trans HF0.out
      have a2 := M5.rows.frozen hp 0
      have a3 := M5.rows.cellz hp (j := 0) (by omega)
      simp at a0
      clear hs5 hb5 hy HCL HMA HSA hRA c0 c1 v0 u0
      refine hK.out _ _ ⟨a0, a1⟩ (fun hHeld2 => ?_)
      clear hK K hHeld1
      try simp only [Act.put, List.getElem_toArray, List.getElem_cons_succ, List.getElem_cons_zero, List.setIfInBounds_toArray, List.set_cons_zero, List.set_cons_succ]
      refine wpAnyH_take (i := 10) (v := ?_) rfl (by kernel_rfl) (by kernel_rfl) (by kernel_rfl) (fun _ _ _ h => h) (Or.inl ⟨by kernel_rfl, ?_⟩) (by assumption) ?_
      rotate_left
      · intro w9 hS9; (try dsimp only at hS9); go_simp; (try with_reducible rfl)
      try simp only [Act.put, List.getElem_toArray, List.getElem_cons_succ, List.getElem_cons_zero, List.setIfInBounds_toArray, List.set_cons_zero, List.set_cons_succ]
      refine wpAnyH_ready (rs := [11]) (by kernel_rfl) (by simp) ?_
      refine AllReadyH.cons rfl (fun K hK => ?_) AllReadyH.nil
      have M6 := M5.put (j := 0) hp y
      have b0 := M6.box.cell 0
      have b1 : (w5.setCell ⟨gr, 0, none⟩ (.int .i64 y)).cell? ⟨gA, 0, none⟩ = some (.slice (some ⟨gr, 0, none⟩) 4 cr) := (M6.out.cellAt 0 (by omega)).trans HF0.out
      simp at b0
      go_simp
      refine hK.out _ _ ⟨b0, b1⟩ (fun hHeld3 => ?_)
      clear hK K hHeld2
      try simp only [Act.put, List.getElem_toArray, List.getElem_cons_succ, List.getElem_cons_zero, List.setIfInBounds_toArray, List.set_cons_zero, List.set_cons_succ]
      refine wpAnyH_done (by kernel_rfl) ?_ _
      have hgrge := ((M5.rows.own 0 _ hp).lt gr rfl).1
      have hR6 := hR5.far (by omega) 0 (.int .i64 y) (g' := gr)
      have HS6 := Lib.hid (HS5.out.far hg0 ((Below.refl W0.heap.size w5).setCell (p := ⟨gr, 0, none⟩) hgrge (.int .i64 y)))
      have HM6 := Lib.hid M6
      have hM6f : Hid ((rs.set 0 (.slice (some ⟨gr, 0, none⟩) 4 cr, r0.set 0 y)).map Prod.fst = rs.map Prod.fst) := fst_set hp
      clear M5 M6 a0 a1 a2 a3 b0 b1 hHeld3 hR5 HS5
      generalize w5.setCell ⟨gr, 0, none⟩ (.int .i64 y) = w6 at hR6 HS6 HM6 ⊢
      have g0 := HM6.out.box.cell 0
      have g1 := hR6.cell 0
      have g2 := hR6.frozen 0
      simp at g0 g1
      go_wp2_with fail
      have k0 := (hR6.set 0 (.slice (some ⟨gA, 0, none⟩) q c)).cell 0
      simp at k0
      have hpol : PolO w6 W0.heap.size (some ⟨gA, 0, none⟩) c ((rs.set 0 (.slice (some ⟨gr, 0, none⟩) 4 cr, r0.set 0 y)).map Prod.snd) (rs.set 0 (.slice (some ⟨gr, 0, none⟩) 4 cr, r0.set 0 y)) :=
        ⟨rfl, HM6.out.rows, by rw [hM6f.out, List.length_map, List.length_set, hrsl]; exact HM6.out.out⟩
      refine bodyPost_ret (v := .agg #[.slice (some ⟨gA, 0, none⟩) q c]) (by simp [results, Try.results27, go_sem, k0]) rfl ⟨some ⟨gA, 0, none⟩, q, c, (rs.set 0 (.slice (some ⟨gr, 0, none⟩) 4 cr, r0.set 0 y)).map Prod.snd, rfl, ?_, by omega, ?_, ?_⟩
      · exact (hpol.far (g := w.heap.size) (i := 0) (u := .slice (some ⟨gA, 0, none⟩) q c) (by omega)).inf (by omega) (by rw [List.length_map, List.length_set, hrsl])
      · exact (HS6.out.far (lo := g + 1) (by omega) ((Below.refl (g + 1) w6).setCell (p := ⟨w.heap.size, 0, none⟩) (by show g + 1 ≤ w.heap.size; omega) _)).more (by omega)
      · exact grow_on (only_trans hgW HM6.out.grow) ((Below.refl _ _).setCell (p := ⟨w.heap.size, 0, none⟩) (Nat.le_refl _) _)
    · have HIB : Hid (BlkIs w4 w.heap.size 26 #[.slice none 0 0]) := hRW
      have hM : DrwW W0 g bO rs (.slice A q c) rs.length (rs.map Prod.fst) w4 := by rw [hrsl]; exact HM.out
      have HS := Lib.hid (HS4.out.more (k' := k + 306) (by omega))
      have hvq : Value.slice A q c = .slice A rs.length c := by rw [hrsl]
      rw [hvq] at hM
      clear HM HS4 hRW v0 v1 s0 s1
      go_wp2_with fail
      go_loopw [41, 42, 43, 44, 45, 46, 47, 48, 49, 50] (fun _ _ _ _ _ _ _ _ _ _ wr => ∃ (ps : List (Value × List Int)) (A9 : Option Addr) (c9 : Nat), ps.length ≤ 13 ∧ DrwW W0 g bO ps (.slice A9 ps.length c9) ps.length (ps.map Prod.fst) wr ∧ Hid (Src wr g (k + 306)) ∧ Hid (BlkIs wr w.heap.size 26 #[.slice none 0 0])) (fun _ _ _ _ _ _ _ _ _ _ wr => 13 - (match wr.cell? ⟨bO, 0, none⟩ with | some (.slice _ n _) => n | _ => 0))
      case atStart => exact ⟨rs, A, c, by omega, hM, HS.out, HIB.out⟩
      case round =>
        clear hM HS HIB
        rename World => wr
        obtain ⟨ps, A9, c9, hps, hM, hs, hr⟩ := hrel
        have v0 := hM.box.cell 0
        simp at v0
        by_cases hlt : ps.length ≤ 12
        · have i6 : (ps.length : Int) ≤ 12 := by omega
          have own4 : (wr.alloc (.cells #[.int .i64 0, .int .i64 0, .int .i64 0, .int .i64 0] 2)).ownsRow wr.heap.size 2 1 (.slice (some ⟨wr.heap.size, 0, none⟩) 4 4) ([0, 0, 0, 0] : List Int).length (([0, 0, 0, 0] : List Int).map ic) := ⟨rfl, .inr ⟨wr.heap.size, 4, #[.int .i64 0, .int .i64 0, .int .i64 0, .int .i64 0], rfl, Nat.le_refl _, heap_alloc_new wr _, Nat.le_refl _, by unfold maxLen; omega, rfl, rfl⟩⟩
          have hM2 := hM.snoc (bnew wr _) own4
          have hbz := bnew wr (.cells #[.int .i64 0, .int .i64 0, .int .i64 0, .int .i64 0] 2)
          have ho := hM2.out
          have HM2 := Lib.hid hM2
          have HO := Lib.hid ho
          have hsc := hM.grow.size
          have HCN : Hid (∀ (j : Nat) (u : Value), [Value.slice (some ⟨wr.heap.size, 0, none⟩) 4 4][j]? = some u → ((wr.alloc (.cells #[.int .i64 0, .int .i64 0, .int .i64 0, .int .i64 0] 2)).alloc (.cells #[.slice (some ⟨wr.heap.size, 0, none⟩) 4 4] 29)).cell? ((⟨wr.heap.size + 1, 0, none⟩ : Addr).add j) = some u) := fun j u hj => by
            have := cell_one_new (wr.alloc (.cells #[.int .i64 0, .int .i64 0, .int .i64 0, .int .i64 0] 2)) (.slice (some ⟨wr.heap.size, 0, none⟩) 4 4) 29 j u hj
            simpa using this
          clear hM own4 ho hM2
          go_wp2_with (at_builtin; refine wpList_append_sep rfl _ _ 24 rfl W0.heap.size 29 i1 (.slice none 0 0) 1 24 Try.underlying24 hi' hz0' hz1' hz2' rfl (by decide) _ _ _ rfl (HO.out.alloc _) ⟨wr.heap.size + 1, 0, none⟩ 1 1 [.slice (some ⟨wr.heap.size, 0, none⟩) 4 4] rfl rfl HCN.out (by simp [Value.oneCell']) (by unfold maxLen; omega) (by omega) (by simp; omega) (by omega) ?_; intro g' cap' w7 hown7 hgrow7 hsep7; have B2 := (HM2.out.box.next (bnew _ (.cells #[.slice (some ⟨wr.heap.size, 0, none⟩) 4 4] 29))).by_grown hgrow7 (own_ne_blk HM2.out.out HM2.out.box (by decide)); have e0 := B2.cell 0; have f0 := B2.frozen 0; simp at e0)
          have hM8 := HM2.out.row (bnew _ _) hgrow7 hown7 (fun k9 hk9 e9 => by
            obtain rfl : g' = k9 := Option.some.inj hk9
            rcases hsep7 with h' | h'
            · exact own_ne_blk HM2.out.out HM2.out.box (by decide) (h'.symm.trans (congrArg some e9))
            · have := HM2.out.box.lt; simp at h' this; omega)
          have hbg : Below W0.heap.size wr (w7.setCell ⟨bO, 0, none⟩ (.slice (some ⟨g', 0, none⟩) (ps.length + 1) cap')) := ((((Below.refl W0.heap.size wr).alloc hsc _).alloc (by simp; omega) _).grown hgrow7 (by simp; omega) (fun k9 hk9 => (HM2.out.out.lt k9 hk9).1)).setCell (p := ⟨bO, 0, none⟩) hlo _
          have HS8 := Lib.hid (hs.out.far hg0 hbg)
          have hR8 : BlkIs (w7.setCell ⟨bO, 0, none⟩ (.slice (some ⟨g', 0, none⟩) (ps.length + 1) cap')) w.heap.size 26 #[.slice none 0 0] := (hbg.block _ (by omega)).trans hr.out
          have k8 : (w7.setCell ⟨bO, 0, none⟩ (.slice (some ⟨g', 0, none⟩) (ps.length + 1) cap')).cell? ⟨bO, 0, none⟩ = some (.slice (some ⟨g', 0, none⟩) (ps.length + 1) cap') := hM8.box.cell 0
          refine ⟨⟨ps ++ [(.slice (some ⟨wr.heap.size, 0, none⟩) 4 4, [0, 0, 0, 0])], some ⟨g', 0, none⟩, cap', by rw [List.length_append]; show ps.length + 1 ≤ 13; omega, ?_, HS8.out, hR8⟩, ?_⟩
          · rw [List.length_append, List.map_append]
            exact hM8
          · rw [v0, k8]
            show 13 - (ps.length + 1) < 13 - ps.length
            omega
        · have i6 : ¬ (ps.length : Int) ≤ 12 := by omega
          have hpol := hM.pol
          have s0 := hr.out.cell 0
          have s1 := hr.out.frozen 0
          simp at s0
          have HM := Lib.hid hM
          clear hM
          go_wp2_with fail
          have k0 := (hr.out.set 0 (.slice A9 ps.length c9)).cell 0
          simp at k0
          refine bodyPost_ret (v := .agg #[.slice A9 ps.length c9]) (by simp [results, Try.results27, go_sem, k0]) rfl ⟨A9, ps.length, ⟨c9, rfl⟩, ⟨ps.map Prod.snd, ?_⟩, by omega, ?_, ?_⟩
          · exact (hpol.far (g := w.heap.size) (i := 0) (u := .slice A9 ps.length c9) (by omega)).inf (by omega) (by rw [List.length_map])
          · exact (hs.out.far (lo := g + 1) (by omega) ((Below.refl (g + 1) wr).setCell (p := ⟨w.heap.size, 0, none⟩) (by show g + 1 ≤ w.heap.size; omega) _)).more (by omega)
          · exact grow_on (only_trans hgW HM.out.grow) ((Below.refl _ _).setCell (p := ⟨w.heap.size, 0, none⟩) (Nat.le_refl _) _)
end Go.Proofs.Ytpdgnmdjneakgaa

/-! The model's drawing of two policies. Conditions: fewer than 1000 choices before. -/
namespace Go.Proofs.Ytpdgnmdjneakgaa
set_option linter.unusedVariables false
set_option linter.unusedSimpArgs false
open Go.RowKit Go.Shelf Go.Deep

theorem SameFrom.of_g {lo g : Nat} {w w' : World} (h : w.grownBy w' (some g)) (hg : g < lo) : SameFrom lo w w' := ⟨h.size, fun k h1 h2 => h.block k h2 (fun e => by have := Option.some.inj e; omega)⟩
theorem SameFrom.of_below {lo : Nat} {w w' : World} (h : Below w.heap.size w w') : SameFrom lo w w' := ⟨h.size, fun k h1 h2 => h.block k h2⟩
theorem SameFrom.trans {lo : Nat} {a b c : World} (h : SameFrom lo a b) (k : SameFrom lo b c) : SameFrom lo a c := ⟨Nat.le_trans h.1 k.1, fun i h1 h2 => (k.2 i h1 (Nat.lt_of_lt_of_le h2 h.1)).trans (h.2 i h1 h2)⟩
theorem SameFrom.set {lo b i : Nat} {w w' : World} {v : Value} (h : SameFrom lo w w') (hb : b < lo) : SameFrom lo w (w'.setCell ⟨b, i, none⟩ v) := ⟨Nat.le_trans h.1 (by simp), fun k h1 h2 => (Below.heap_setCell _ _ _ k (by show k ≠ b; omega)).trans (h.2 k h1 h2)⟩
theorem SameFrom.refl (lo : Nat) (w : World) : SameFrom lo w w := ⟨Nat.le_refl _, fun _ _ _ => rfl⟩

theorem RectP.put {xs : List (List Int)} (ok : RectP xs) {i j : Nat} {r : List Int} {v : Int} (hr : xs[i]? = some r) (hv : -1 ≤ v ∧ v ≤ (xs.length : Int) - 1) : RectP (xs.set i (r.set j v)) := by
  have hrm := List.mem_of_getElem? hr
  refine ⟨by rw [List.length_set]; exact ok.lo, fun r' h' => ?_, fun r' h' z hz => ?_⟩
  · rcases List.mem_or_eq_of_mem_set h' with h' | rfl
    · exact ok.len r' h'
    · rw [List.length_set]; exact ok.len r hrm
  · rw [List.length_set]
    rcases List.mem_or_eq_of_mem_set h' with h' | rfl
    · exact ok.num r' h' z hz
    · rcases List.mem_or_eq_of_mem_set hz with hz | rfl
      · exact ok.num r hrm z hz
      · exact hv
/-- The builtin append in a region that draws, by its run. -/
theorem wp_app_runT {o : Oper} {a : Act} {w : World} {K : Act → World → Prop} {Q : Exit → Act → World → Prop} (x y : Operand) (ts : TypeId) (ho : o.op = .call { callee := .builtin .append, args := #[x, y], argTypes := #[ts, ts] })
    (vx vy : Value) (hx : a.eval x = vx) (hy : a.eval y = vy) (v' : Value) (w' : World) (hr : (Builtin.append_ #[ts, ts] o.type #[vx, vy]).run Try.prog w = .ok v' w') (h : K (a.put o.dst v') w') : o.wp Try.prog a w K Q := by
  unfold Oper.wp
  simp only [execOp, ho, resolve, Sem.run_bind, Sem.run_pure, Result.andThen_ok, invoke, builtin]
  simp only [List.map_toArray, List.map_cons, List.map_nil, hx, hy]
  rw [hr]
  exact h

set_option maxRecDepth 100000 in
set_option maxHeartbeats 8000000 in
theorem l10DrawTwo_c (g k : Nat) (w : World) (h : Src w g k) (hk : k ≤ 1000) :
    Calls Try.prog 13 #[.pointer (some ⟨g, 0, none⟩)] w fun e w' => ∃ A n c xs A' m c' ys, e = .returned (.tuple #[.agg #[.slice A n c], .agg #[.slice A' m c']]) ∧ InLLf w.heap.size w' A n xs ∧ n ≤ 13 ∧ InLLf w.heap.size w' A' m ys ∧ m ≤ 13 ∧ w.grownBy w' (some g) := by
  obtain ⟨i0, hi, hz0, hz1, hz2⟩ := info_parts info64
  obtain ⟨i1, hi', hz0', hz1', hz2'⟩ := info_parts infoRow
  have hglt := h.lt
  have hb0 := bnew w (.cells #[.slice none 0 0] 26)
  have hb1 := bnew (w.alloc (.cells #[.slice none 0 0] 26)) (.cells #[.slice none 0 0] 26)
  have hbb := bon hb0 hb1
  have hR0 : BlkIs ((w.alloc (.cells #[.slice none 0 0] 26)).alloc (.cells #[.slice none 0 0] 26)) w.heap.size 26 #[.slice none 0 0] := (blk_new _ _ _ _ rfl).next hb1
  have hR1 : BlkIs ((w.alloc (.cells #[.slice none 0 0] 26)).alloc (.cells #[.slice none 0 0] 26)) (w.heap.size + 1) 26 #[.slice none 0 0] := blk_new _ _ _ _ (by simp)
  have HS0 := Lib.hid (h.below hbb hglt)
  have hW0s : ((w.alloc (.cells #[.slice none 0 0] 26)).alloc (.cells #[.slice none 0 0] 26)).heap.size = w.heap.size + 2 := by simp
  have hgW0 : w.grownBy ((w.alloc (.cells #[.slice none 0 0] 26)).alloc (.cells #[.slice none 0 0] 26)) (some g) := only_trans (World.grownBy_alloc _ _ _) (World.grownBy_alloc _ _ _)
  clear h hb0 hb1
  go_enter Try.func13, Try.ntmps13
  go_wp2_with fail
  obtain ⟨W0, hW0⟩ : ∃ W0, (w.alloc (.cells #[.slice none 0 0] 26)).alloc (.cells #[.slice none 0 0] 26) = W0 := ⟨_, rfl⟩
  rw [hW0] at hbb hR0 hR1 HS0 hW0s hgW0 ⊢
  clear hW0
  have hg0 : g < W0.heap.size := by omega
  refine (l10Draw_c g k _ HS0.out (by omega)).mono ?_
  rintro e w1 ⟨A, n, c, xs, rfl, hp1, hn13, hs1, hg1⟩
  have hbP := bnew w1 (.cells #[.slice A n c] 26)
  have hP2 : BlkIs (w1.alloc (.cells #[.slice A n c] 26)) w1.heap.size 26 #[.slice A n c] := blk_new _ _ _ _ rfl
  have HS2 := Lib.hid (hs1.below hbP hs1.lt)
  have hg2 : W0.grownBy (w1.alloc (.cells #[.slice A n c] 26)) (some g) := only_trans hg1 (World.grownBy_alloc _ _ _)
  have hsf2 : SameFrom W0.heap.size w1 (w1.alloc (.cells #[.slice A n c] 26)) := .of_below hbP
  have hbP0 : W0.heap.size ≤ w1.heap.size := hg1.size
  have HP1 := Lib.hid hp1
  clear hs1 hbP hp1 HS0
  go_wp2_with fail
  generalize w1.alloc (.cells #[.slice A n c] 26) = W2 at hP2 HS2 hg2 hsf2 ⊢
  obtain ⟨bP, hbPe⟩ : ∃ b, w1.heap.size = b := ⟨_, rfl⟩
  rw [hbPe] at hP2 hbP0 ⊢
  refine (one_c g _ 2 _ HS2.out (by omega) (by omega) (by omega)).mono ?_
  rintro e w3 ⟨t3, rfl, hs3, hg3⟩
  have hP3 : BlkIs w3 bP 26 #[.slice A n c] := hP2.by_grown hg3 (fun e => by have := Option.some.inj e; omega)
  have hgr3 : W0.grownBy w3 (some g) := only_trans hg2 hg3
  have hsf3 : SameFrom W0.heap.size w1 w3 := hsf2.trans (.of_g hg3 hg0)
  have HS3 := Lib.hid hs3
  have hin3 := HP1.out w3 hsf3
  have p3 : w3.cell? ⟨bP, 0, none⟩ = some (.slice A n c) := hP3.cell 0
  have HIS0 := l10Is_c bP 0 A n c w3.heap.size xs w3 p3 hin3 (by omega)
  have hRW0 : BlkIs w3 w.heap.size 26 #[.slice none 0 0] := (hgr3.block _ hR0.lt (fun e => by have := Option.some.inj e; omega)).trans hR0
  have hRW1 : BlkIs w3 (w.heap.size + 1) 26 #[.slice none 0 0] := (hgr3.block _ hR1.lt (fun e => by have := Option.some.inj e; omega)).trans hR1
  clear hs3 hg3 hg2 HS2 hP2 hsf2
  -- what is owed where the second is drawn anew
  have HNEW : Hid (∀ (w5 W : World) (A' : Option Addr) (m c' : Nat) (ys : List (List Int)), w3.grownBy w5 (some g) → InLLf w3.heap.size w5 A' m ys → SameFrom W0.heap.size w5 W → Below w.heap.size w5 W →
      InLLf w.heap.size W A n xs ∧ InLLf w.heap.size W A' m ys ∧ w.grownBy W (some g)) := by
    intro w5 W A' m c' ys h5 hy hs hb
    have hgs := hgr3.size
    exact ⟨fun W' h' => HP1.out W' (((hsf3.trans (.of_g h5 hg0)).trans hs).trans (h'.mono (by omega))), fun W' h' => hy W' ((hs.mono hgr3.size).trans (h'.mono (by omega))), grow_on (only_trans hgW0 (only_trans hgr3 h5)) hb⟩
  have hcase : t3 = true ∨ (t3 = false ∧ polB xs = false) ∨ (t3 = false ∧ polB xs = true) := by cases t3 <;> cases polB xs <;> simp
  rcases hcase with rfl | ⟨rfl, hv⟩ | ⟨rfl, hv⟩
  · clear HIS0
    have HDR := Lib.hid (l10Draw_c g (k + 402) w3.drew (HS3.out.below (Below.refl w3.heap.size w3).drew HS3.out.lt) (by omega))
    have s0 := hRW0.cell 0
    have s1 := hRW1.cell 0
    have f0 := hRW0.frozen 0
    have f1 := hRW1.frozen 0
    simp at s0 s1
    go_wp2_with fail
    go_region_with (go_at_call 27; refine HDR.out.mono ?_; rintro e w5 ⟨A', m, c', ys, rfl, hy, hm13, hs5, hg5⟩; have hg6 : w3.grownBy w5 (some g) := ⟨hg5.os, hg5.tape, hg5.output, hg5.size, hg5.block⟩; have hq0 := hRW0.by_grown hg6 (fun e => by have := Option.some.inj e; omega); have hq1 := hRW1.by_grown hg6 (fun e => by have := Option.some.inj e; omega); have y0 := hq0.cell 0; have y1 := hq1.cell 0; have y2 := hq0.frozen 0; have y3 := hq1.frozen 0; have y4 : w5.cell? ⟨bP, 0, none⟩ = some (.slice A n c) := (hP3.by_grown hg6 (fun e => by have := Option.some.inj e; omega)).cell 0; simp at y0 y1)
    all_goals (
      have hz0 := (hq0.set 0 (.slice A n c)).far (show w.heap.size ≠ w.heap.size + 1 by omega) 0 (.slice A' m c')
      have hz1 := (hq1.far (show w.heap.size + 1 ≠ w.heap.size by omega) 0 (.slice A n c)).set 0 (.slice A' m c')
      have k0 := hz0.cell 0
      have k1 := hz1.cell 0
      simp at k0 k1
      obtain ⟨j1, j2, j3⟩ := HNEW.out w5 ((w5.setCell ⟨w.heap.size, 0, none⟩ (.slice A n c)).setCell ⟨w.heap.size + 1, 0, none⟩ (.slice A' m c')) A' m c' ys hg6 hy (((SameFrom.refl _ _).set (by omega)).set (by omega)) (((Below.refl w.heap.size w5).setCell (p := ⟨w.heap.size, 0, none⟩) (Nat.le_refl _) _).setCell (p := ⟨w.heap.size + 1, 0, none⟩) (Nat.le_succ _) _)
      have J1 := Lib.hid j1
      have J2 := Lib.hid j2
      have J3 := Lib.hid j3
      clear j1 j2 j3 y0 y1 y2 y3 y4 hz0 hz1 hq0 hq1
      generalize (w5.setCell ⟨w.heap.size, 0, none⟩ (.slice A n c)).setCell ⟨w.heap.size + 1, 0, none⟩ (.slice A' m c') = W9 at k0 k1 J1 J2 J3 ⊢
      go_wp2_with fail
      exact bodyPost_ret (v := .tuple #[.agg #[.slice A n c], .agg #[.slice A' m c']]) (by simp [results, Try.results13, go_sem, k0, k1]) rfl ⟨A, n, c, xs, A', m, c', ys, rfl, J1.out, hn13, J2.out, hm13, J3.out⟩)
  · rw [hv] at HIS0
    have HIS := Lib.hid HIS0
    clear HIS0 hv
    have HDR := Lib.hid (l10Draw_c g (k + 402) w3.drew (HS3.out.below (Below.refl w3.heap.size w3).drew HS3.out.lt) (by omega))
    have s0 := hRW0.cell 0
    have s1 := hRW1.cell 0
    have f0 := hRW0.frozen 0
    have f1 := hRW1.frozen 0
    simp at s0 s1
    go_wp2_with fail
    refine HIS.out.mono ?_
    rintro v w4 ⟨rfl, rfl⟩
    go_wp2_with fail
    go_region_with (go_at_call 27; refine HDR.out.mono ?_; rintro e w5 ⟨A', m, c', ys, rfl, hy, hm13, hs5, hg5⟩; have hg6 : w3.grownBy w5 (some g) := ⟨hg5.os, hg5.tape, hg5.output, hg5.size, hg5.block⟩; have hq0 := hRW0.by_grown hg6 (fun e => by have := Option.some.inj e; omega); have hq1 := hRW1.by_grown hg6 (fun e => by have := Option.some.inj e; omega); have y0 := hq0.cell 0; have y1 := hq1.cell 0; have y2 := hq0.frozen 0; have y3 := hq1.frozen 0; have y4 : w5.cell? ⟨bP, 0, none⟩ = some (.slice A n c) := (hP3.by_grown hg6 (fun e => by have := Option.some.inj e; omega)).cell 0; simp at y0 y1)
    all_goals (
      have hz0 := (hq0.set 0 (.slice A n c)).far (show w.heap.size ≠ w.heap.size + 1 by omega) 0 (.slice A' m c')
      have hz1 := (hq1.far (show w.heap.size + 1 ≠ w.heap.size by omega) 0 (.slice A n c)).set 0 (.slice A' m c')
      have k0 := hz0.cell 0
      have k1 := hz1.cell 0
      simp at k0 k1
      obtain ⟨j1, j2, j3⟩ := HNEW.out w5 ((w5.setCell ⟨w.heap.size, 0, none⟩ (.slice A n c)).setCell ⟨w.heap.size + 1, 0, none⟩ (.slice A' m c')) A' m c' ys hg6 hy (((SameFrom.refl _ _).set (by omega)).set (by omega)) (((Below.refl w.heap.size w5).setCell (p := ⟨w.heap.size, 0, none⟩) (Nat.le_refl _) _).setCell (p := ⟨w.heap.size + 1, 0, none⟩) (Nat.le_succ _) _)
      have J1 := Lib.hid j1
      have J2 := Lib.hid j2
      have J3 := Lib.hid j3
      clear j1 j2 j3 y0 y1 y2 y3 y4 hz0 hz1 hq0 hq1
      generalize (w5.setCell ⟨w.heap.size, 0, none⟩ (.slice A n c)).setCell ⟨w.heap.size + 1, 0, none⟩ (.slice A' m c') = W9 at k0 k1 J1 J2 J3 ⊢
      go_wp2_with fail
      exact bodyPost_ret (v := .tuple #[.agg #[.slice A n c], .agg #[.slice A' m c']]) (by simp [results, Try.results13, go_sem, k0, k1]) rfl ⟨A, n, c, xs, A', m, c', ys, rfl, J1.out, hn13, J2.out, hm13, J3.out⟩)
  · rw [hv] at HIS0
    have HIS := Lib.hid HIS0
    have HOK := Lib.hid (polOk_of hv)
    clear HIS0 hv HNEW
    have hM4 : DrwW w3 g w3.heap.size [] (.slice none 0 0) 0 [] (w3.alloc (.cells #[.slice none 0 0] 26)) :=
      ⟨⟨(fun i p hp => by cases hp), (fun i j p q _ hp => by cases hp)⟩, World.ownsRow_nil _ _ _ _, blk_new _ _ _ _ rfl, World.grownBy_alloc w3 _ (some g), Nat.le_refl _, HS3.out.lt⟩
    have HS4 := Lib.hid (HS3.out.below (bnew w3 (.cells #[.slice none 0 0] 26)) HS3.out.lt)
    have hg3l := HS3.out.lt
    have hbPl : bP < w3.heap.size := hP3.lt
    have hxl : xs.length = n := hin3.1
    have HIN3 := Lib.hid hin3
    have HR0 := Lib.hid hRW0
    have HR1 := Lib.hid hRW1
    have HP3 := Lib.hid hP3
    have hn12 := HOK.out.hi
    clear hin3 hRW0 hRW1 hP3 HS3
    go_wp2_with fail
    refine HIS.out.mono ?_
    rintro v w4 ⟨rfl, rfl⟩
    clear HIS p3
    go_wp2_with fail
    generalize w3.alloc (.cells #[.slice none 0 0] 26) = W4 at hM4 HS4 ⊢
    obtain ⟨bQ, hbQ⟩ : ∃ b, w3.heap.size = b := ⟨_, rfl⟩
    have hM4' : DrwW w3 g bQ [] (.slice none 0 0) 0 [] W4 := by rw [← hbQ]; exact hM4
    rw [hbQ]
    clear hM4 hbQ
    go_loopw [6] (fun i wr => ∃ (j : Nat) (rs : List (Value × List Int)) (A9 : Option Addr) (c9 : Nat), i = .int .i64 j ∧ j ≤ n ∧ rs.length = j ∧ Hid (rs.map Prod.snd = xs.take j) ∧ DrwW w3 g bQ rs (.slice A9 j c9) j (rs.map Prod.fst) wr ∧ Hid (Src wr g (k + 404))) (fun i _ => n - (intOf i).toNat)
    case atStart => exact ⟨0, [], none, 0, rfl, Nat.zero_le _, rfl, rfl, hM4', HS4.out.more (by omega)⟩
    case round =>
      clear hM4' HS4
      rename World => wr
      obtain ⟨j, rs, A9, c9, rfl, hj, hrs, HRS, hM, hs⟩ := hrel
      have hb3r : SameFrom 0 w3 w3 := SameFrom.refl _ _
      have v0 : wr.cell? ⟨bP, 0, none⟩ = some (.slice A n c) := (HP3.out.by_grown hM.grow (fun e => by have := Option.some.inj e; omega)).cell 0
      by_cases hlt : j < n
      · have i4 : (j : Int) < (n : Int) := by omega
        obtain ⟨x, hx⟩ : ∃ x, xs[j]? = some x := ⟨_, List.getElem?_eq_getElem (by omega)⟩
        obtain ⟨bx, ox, rfl, hbxl, _, _, _, _, _⟩ := HIN3.out.2 j x hx
        have hinr := HP1.out wr (hsf3.trans (.of_g hM.grow hg0))
        obtain ⟨bx', ox', hA', hbx', A0, n0, c0, hc1, hin1⟩ := hinr.2 j x hx
        injection hA' with hA'
        injection hA' with e1 e2
        subst e1 e2
        have hx4 := HOK.out.len x (List.mem_of_getElem? hx)
        obtain rfl : n0 = 4 := by have := hin1.1; omega
        have u0 : wr.drew.cell? ⟨bx, ox + j, none⟩ = some (.slice A0 4 c0) := hc1
        have v0 : wr.drew.cell? ⟨bP, 0, none⟩ = some (.slice (some ⟨bx, ox, none⟩) n c) := v0
        have hw13 : w1.heap.size ≤ w3.heap.size := hsf3.1
        have hown0 : ∀ W, Below w3.heap.size wr.drew W → Calls Try.prog 29 #[.slice A0 4 c0] W fun e w' => ∃ A' c', e = .returned (.slice A' 4 c') ∧ OwnL w' W.heap.size w'.heap.size A' 4 c' x ∧ Below W.heap.size W w' := fun W hb => by
          have hsr := hsf3.trans (.of_g hM.grow hg0)
          have h1 := HP1.out W ⟨Nat.le_trans hsr.1 hb.size, fun i h1 h2 => (hb.block i (by omega)).trans (hsr.2 i h1 h2)⟩
          obtain ⟨b', o', e', _, A2, n2, c2, hc2, hin2⟩ := h1.2 j x hx
          injection e' with e'
          injection e' with e1 e2
          subst e1 e2
          have h3 := (hb.cell (p := ⟨bx, ox + j, none⟩) hbxl).trans u0
          rw [hc2] at h3
          have h4 := Option.some.inj h3
          injection h4 with h5 h6 h7
          subst h5 h6 h7
          exact l00Own_c A2 4 c2 W.heap.size x W hin2 (Nat.le_refl _) (by omega)
        have HOWN := Lib.hid hown0
        have Md : DrwW w3 g bQ rs (.slice A9 j c9) j (rs.map Prod.fst) wr.drew := hM.keep (Below.refl wr.heap.size wr).drew
        have HSd := Lib.hid (hs.out.below (Below.refl wr.heap.size wr).drew hs.out.lt)
        have hbd : Below w3.heap.size wr.drew wr.drew := Below.refl _ _
        have HX := Lib.hid hx
        have HXL : Hid (x.length = 4) := hin1.1
        have hsc := hM.grow.size
        clear hown0 hM hs hx hin1 hc1 hinr hb3r hx4
        go_wp2_with fail
        refine wp_region_held_drew (S := fun w' => w'.cell? ⟨bP, 0, none⟩ = some (.slice (some ⟨bx, ox, none⟩) n c) ∧ w'.cell? ⟨bx, ox + j, none⟩ = some (.slice A0 4 c0)) (by kernel_rfl) ⟨v0, u0⟩ ?_
        intro hHeld0
        generalize wr.drew = wd at Md HSd v0 u0 HOWN hbd hHeld0 ⊢
        refine wpAnyH_take (i := 0) (v := ?_) rfl (by kernel_rfl) (by kernel_rfl) (by kernel_rfl) (fun _ _ _ h => h) (Or.inl ⟨by kernel_rfl, ?_⟩) (by assumption) ?_
        rotate_left
        · intro w9 hS9; (try dsimp only at hS9); go_simp; (try with_reducible rfl)
        set_option linter.unusedSimpArgs false in try simp only [Act.put, List.getElem_toArray, List.getElem_cons_succ, List.getElem_cons_zero, List.setIfInBounds_toArray, List.set_cons_zero, List.set_cons_succ]
        refine wpAnyH_take (i := 2) (v := ?_) rfl (by kernel_rfl) (by kernel_rfl) (by kernel_rfl) (fun _ _ _ h => h) (Or.inl ⟨by kernel_rfl, ?_⟩) (by assumption) ?_
        rotate_left
        · intro w9 hS9; (try dsimp only at hS9); go_simp; (try with_reducible rfl)
        set_option linter.unusedSimpArgs false in try simp only [Act.put, List.getElem_toArray, List.getElem_cons_succ, List.getElem_cons_zero, List.setIfInBounds_toArray, List.set_cons_zero, List.set_cons_succ]
        refine wpAnyH_take (i := 3) (v := ?_) rfl (by kernel_rfl) (by kernel_rfl) (by kernel_rfl) (fun _ _ _ h => h) (Or.inl ⟨by kernel_rfl, ?_⟩) (by assumption) ?_
        rotate_left
        · intro w9 hS9; (try dsimp only at hS9); go_simp; (try with_reducible rfl)
        set_option linter.unusedSimpArgs false in try simp only [Act.put, List.getElem_toArray, List.getElem_cons_succ, List.getElem_cons_zero, List.setIfInBounds_toArray, List.set_cons_zero, List.set_cons_succ]
        refine wpAnyH_take (i := 4) (v := ?_) rfl (by kernel_rfl) (by kernel_rfl) (by kernel_rfl) (fun _ _ _ h => h) (Or.inl ⟨by kernel_rfl, ?_⟩) (by assumption) ?_
        rotate_left
        · intro w9 hS9; (try dsimp only at hS9); go_simp; (try with_reducible rfl)
        set_option linter.unusedSimpArgs false in try simp only [Act.put, List.getElem_toArray, List.getElem_cons_succ, List.getElem_cons_zero, List.setIfInBounds_toArray, List.set_cons_zero, List.set_cons_succ]
        refine wpAnyH_take (i := 5) (v := ?_) rfl (by kernel_rfl) (by kernel_rfl) (by kernel_rfl) (fun _ _ _ h => h) (Or.inl ⟨by kernel_rfl, ?_⟩) (by assumption) ?_
        rotate_left
        · intro w9 hS9; (try dsimp only at hS9); go_simp; (try with_reducible rfl)
        set_option linter.unusedSimpArgs false in try simp only [Act.put, List.getElem_toArray, List.getElem_cons_succ, List.getElem_cons_zero, List.setIfInBounds_toArray, List.set_cons_zero, List.set_cons_succ]
        refine wpAnyH_take (i := 6) (v := ?_) rfl (by kernel_rfl) (by kernel_rfl) (by kernel_rfl) (fun _ _ _ h => h) (Or.inl ⟨by kernel_rfl, ?_⟩) (by assumption) ?_
        rotate_left
        · intro w9 hS9; (try dsimp only at hS9); go_simp; (try with_reducible rfl)
        set_option linter.unusedSimpArgs false in try simp only [Act.put, List.getElem_toArray, List.getElem_cons_succ, List.getElem_cons_zero, List.setIfInBounds_toArray, List.set_cons_zero, List.set_cons_succ]
        refine wpAnyH_ready (rs := [1, 7]) (by kernel_rfl) (by simp) ?_
        refine AllReadyH.cons rfl (fun K hK => ?_) (AllReadyH.cons rfl (fun K hK => ?_) (AllReadyH.nil))
        · have q1 := Md.box.cell 0
          simp at q1
          go_simp
          refine hK.out _ _ ⟨(hbd.cell (p := ⟨bP, 0, none⟩) hbPl).trans v0, (hbd.cell (p := ⟨bx, ox + j, none⟩) hbxl).trans u0⟩ (fun hHeld2 => ?_)
          clear hK K hHeld0
          set_option linter.unusedSimpArgs false in try simp only [Act.put, List.getElem_toArray, List.getElem_cons_succ, List.getElem_cons_zero, List.setIfInBounds_toArray, List.set_cons_zero, List.set_cons_succ]
          refine wpAnyH_ready (rs := [7]) (by kernel_rfl) (by simp) ?_
          refine AllReadyH.cons rfl (fun K hK => ?_) (AllReadyH.nil)
          go_simp
          go_wp2_with (go_at_call 29; refine (HOWN.out wd (hbd)).mono ?_; rintro e w6 ⟨A5, c5, rfl, hoL, hb6⟩)
          have hb3 := (hbd).trans (hb6.mono (Md.grow.size))
          have M6 := Md.snoc (zs := x) hb6 (by rw [HXL.out]; exact own_less hoL.2.1 (Nat.le_refl _))
          have HS6 := Lib.hid (HSd.out.below hb6 HSd.out.lt)
          refine hK.out _ _ ⟨(hb3.cell (p := ⟨bP, 0, none⟩) hbPl).trans v0, (hb3.cell (p := ⟨bx, ox + j, none⟩) hbxl).trans u0⟩ (fun hHeld4 => ?_)
          clear hK K hHeld2
          set_option linter.unusedSimpArgs false in try simp only [Act.put, List.getElem_toArray, List.getElem_cons_succ, List.getElem_cons_zero, List.setIfInBounds_toArray, List.set_cons_zero, List.set_cons_succ]
          refine wpAnyH_ready (rs := [8]) (by kernel_rfl) (by simp) ?_
          refine AllReadyH.cons rfl (fun K hK => ?_) (AllReadyH.nil)
          go_simp
          have hbn := bnew w6 (.cells #[.slice A5 4 c5] 29)
          have hb5 := (hb3).trans (hbn.mono (M6.grow.size))
          have M7 := M6.keep hbn
          have HS7 := Lib.hid (HS6.out.below hbn HS6.out.lt)
          obtain ⟨g7, c7, w7, x7, r7, s7, t7⟩ := run_append_sep (P := Try.prog) (w := w6.alloc (.cells #[.slice A5 4 c5] 29)) w3.heap.size 24 24 29 i1 (.slice none 0 0) 1 24 Try.underlying24 hi' hz0' hz1' hz2' rfl (by decide) (.slice A9 j c9) j (rs.map Prod.fst) M7.out ⟨w6.heap.size, 0, none⟩ 1 1 [.slice A5 4 c5] rfl (cell_one_new _ _ _) (by simp [Value.oneCell']) (by unfold maxLen; omega) (by omega) (by simp; have := M6.grow.size; omega) (by omega)
          have hs7 : w3.heap.size ≤ (w6.alloc (.cells #[.slice A5 4 c5] 29)).heap.size := M7.grow.size
          refine hK.out _ _ ⟨(hb5.cell (p := ⟨bP, 0, none⟩) hbPl).trans v0, (hb5.cell (p := ⟨bx, ox + j, none⟩) hbxl).trans u0⟩ (fun hHeld6 => ?_)
          clear hK K hHeld4
          set_option linter.unusedSimpArgs false in try simp only [Act.put, List.getElem_toArray, List.getElem_cons_succ, List.getElem_cons_zero, List.setIfInBounds_toArray, List.set_cons_zero, List.set_cons_succ]
          refine wpAnyH_ready (rs := [9]) (by kernel_rfl) (by simp) ?_
          refine AllReadyH.cons rfl (fun K hK => ?_) (AllReadyH.nil)
          refine Eq.mpr (if_pos (by kernel_rfl)) ?_
          refine wp_app_runT _ _ 24 rfl (.slice A9 j c9) (.slice (some ⟨w6.heap.size, 0, none⟩) 1 1) rfl rfl (.slice (some ⟨g7, 0, none⟩) (j + 1) c7) w7 x7 ?_
          have hb7 := (hb5).grown s7 hs7 (fun k9 hk9 => (M7.out.lt k9 hk9).1)
          have hbg7 : Below w3.heap.size (w6.alloc (.cells #[.slice A5 4 c5] 29)) w7 := (Below.refl _ _).grown s7 hs7 (fun k9 hk9 => (M7.out.lt k9 hk9).1)
          clear x7
          refine hK.out _ _ ⟨(hb7.cell (p := ⟨bP, 0, none⟩) hbPl).trans v0, (hb7.cell (p := ⟨bx, ox + j, none⟩) hbxl).trans u0⟩ (fun hHeld8 => ?_)
          clear hK K hHeld6
          set_option linter.unusedSimpArgs false in try simp only [Act.put, List.getElem_toArray, List.getElem_cons_succ, List.getElem_cons_zero, List.setIfInBounds_toArray, List.set_cons_zero, List.set_cons_succ]
          refine wpAnyH_take (i := 10) (v := ?_) rfl (by kernel_rfl) (by kernel_rfl) (by kernel_rfl) (fun _ _ _ h => h) (Or.inl ⟨by kernel_rfl, ?_⟩) (by assumption) ?_
          rotate_left
          · intro w9 hS9; (try dsimp only at hS9); go_simp; (try with_reducible rfl)
          set_option linter.unusedSimpArgs false in try simp only [Act.put, List.getElem_toArray, List.getElem_cons_succ, List.getElem_cons_zero, List.setIfInBounds_toArray, List.set_cons_zero, List.set_cons_succ]
          refine wpAnyH_ready (rs := [11]) (by kernel_rfl) (by simp) ?_
          refine AllReadyH.cons rfl (fun K hK => ?_) (AllReadyH.nil)
          have B2 := M7.box.by_grown s7 (own_ne_blk M7.out M7.box (by decide))
          have e0 := B2.cell 0
          have f0 := B2.frozen 0
          simp at e0
          have hge7 : w3.heap.size ≤ bQ := M7.lo
          have M8 := M7.row (Below.refl _ _) s7 r7 (fun k9 hk9 e9 => by
            obtain rfl : g7 = k9 := Option.some.inj hk9
            rcases t7 with h' | h'
            · exact own_ne_blk M7.out M7.box (by decide) (h'.symm.trans (congrArg some e9))
            · have := M7.box.lt; omega)
          have hb9 := (hb7).setCell (p := ⟨bQ, 0, none⟩) hge7 (.slice (some ⟨g7, 0, none⟩) (j + 1) c7)
          have HS8 := Lib.hid (HS7.out.far hg3l (hbg7.setCell (p := ⟨bQ, 0, none⟩) hge7 (.slice (some ⟨g7, 0, none⟩) (j + 1) c7)))
          go_simp
          refine hK.out _ _ ⟨(hb9.cell (p := ⟨bP, 0, none⟩) hbPl).trans v0, (hb9.cell (p := ⟨bx, ox + j, none⟩) hbxl).trans u0⟩ (fun hHeld10 => ?_)
          clear hK K hHeld8
          set_option linter.unusedSimpArgs false in try simp only [Act.put, List.getElem_toArray, List.getElem_cons_succ, List.getElem_cons_zero, List.setIfInBounds_toArray, List.set_cons_zero, List.set_cons_succ]
          refine wpAnyH_done (by kernel_rfl) ?_ _
          go_wp2_with fail
          go_roundw
          case rel =>
            refine ⟨j + 1, rs ++ [(.slice A5 4 c5, x)], some ⟨g7, 0, none⟩, c7, by go_num, by omega, by simp [hrs], ?_, ?_, HS8.out⟩
            · show _ = _
              rw [List.map_append, HRS.out, List.take_add_one, HX.out]; rfl
            · rw [List.map_append]; exact M8
          case measure => simp [intOf]; omega
        · go_simp
          go_wp2_with (go_at_call 29; refine (HOWN.out wd (hbd)).mono ?_; rintro e w6 ⟨A5, c5, rfl, hoL, hb6⟩)
          have hb11 := (hbd).trans (hb6.mono (Md.grow.size))
          have M6 := Md.snoc (zs := x) hb6 (by rw [HXL.out]; exact own_less hoL.2.1 (Nat.le_refl _))
          have HS6 := Lib.hid (HSd.out.below hb6 HSd.out.lt)
          refine hK.out _ _ ⟨(hb11.cell (p := ⟨bP, 0, none⟩) hbPl).trans v0, (hb11.cell (p := ⟨bx, ox + j, none⟩) hbxl).trans u0⟩ (fun hHeld12 => ?_)
          clear hK K hHeld0
          set_option linter.unusedSimpArgs false in try simp only [Act.put, List.getElem_toArray, List.getElem_cons_succ, List.getElem_cons_zero, List.setIfInBounds_toArray, List.set_cons_zero, List.set_cons_succ]
          refine wpAnyH_ready (rs := [1, 8]) (by kernel_rfl) (by simp) ?_
          refine AllReadyH.cons rfl (fun K hK => ?_) (AllReadyH.cons rfl (fun K hK => ?_) (AllReadyH.nil))
          · have q13 := M6.box.cell 0
            simp at q13
            go_simp
            refine hK.out _ _ ⟨(hb11.cell (p := ⟨bP, 0, none⟩) hbPl).trans v0, (hb11.cell (p := ⟨bx, ox + j, none⟩) hbxl).trans u0⟩ (fun hHeld14 => ?_)
            clear hK K hHeld12
            set_option linter.unusedSimpArgs false in try simp only [Act.put, List.getElem_toArray, List.getElem_cons_succ, List.getElem_cons_zero, List.setIfInBounds_toArray, List.set_cons_zero, List.set_cons_succ]
            refine wpAnyH_ready (rs := [8]) (by kernel_rfl) (by simp) ?_
            refine AllReadyH.cons rfl (fun K hK => ?_) (AllReadyH.nil)
            go_simp
            have hbn := bnew w6 (.cells #[.slice A5 4 c5] 29)
            have hb15 := (hb11).trans (hbn.mono (M6.grow.size))
            have M7 := M6.keep hbn
            have HS7 := Lib.hid (HS6.out.below hbn HS6.out.lt)
            obtain ⟨g7, c7, w7, x7, r7, s7, t7⟩ := run_append_sep (P := Try.prog) (w := w6.alloc (.cells #[.slice A5 4 c5] 29)) w3.heap.size 24 24 29 i1 (.slice none 0 0) 1 24 Try.underlying24 hi' hz0' hz1' hz2' rfl (by decide) (.slice A9 j c9) j (rs.map Prod.fst) M7.out ⟨w6.heap.size, 0, none⟩ 1 1 [.slice A5 4 c5] rfl (cell_one_new _ _ _) (by simp [Value.oneCell']) (by unfold maxLen; omega) (by omega) (by simp; have := M6.grow.size; omega) (by omega)
            have hs7 : w3.heap.size ≤ (w6.alloc (.cells #[.slice A5 4 c5] 29)).heap.size := M7.grow.size
            refine hK.out _ _ ⟨(hb15.cell (p := ⟨bP, 0, none⟩) hbPl).trans v0, (hb15.cell (p := ⟨bx, ox + j, none⟩) hbxl).trans u0⟩ (fun hHeld16 => ?_)
            clear hK K hHeld14
            set_option linter.unusedSimpArgs false in try simp only [Act.put, List.getElem_toArray, List.getElem_cons_succ, List.getElem_cons_zero, List.setIfInBounds_toArray, List.set_cons_zero, List.set_cons_succ]
            refine wpAnyH_ready (rs := [9]) (by kernel_rfl) (by simp) ?_
            refine AllReadyH.cons rfl (fun K hK => ?_) (AllReadyH.nil)
            refine Eq.mpr (if_pos (by kernel_rfl)) ?_
            refine wp_app_runT _ _ 24 rfl (.slice A9 j c9) (.slice (some ⟨w6.heap.size, 0, none⟩) 1 1) rfl rfl (.slice (some ⟨g7, 0, none⟩) (j + 1) c7) w7 x7 ?_
            have hb17 := (hb15).grown s7 hs7 (fun k9 hk9 => (M7.out.lt k9 hk9).1)
            have hbg7 : Below w3.heap.size (w6.alloc (.cells #[.slice A5 4 c5] 29)) w7 := (Below.refl _ _).grown s7 hs7 (fun k9 hk9 => (M7.out.lt k9 hk9).1)
            clear x7
            refine hK.out _ _ ⟨(hb17.cell (p := ⟨bP, 0, none⟩) hbPl).trans v0, (hb17.cell (p := ⟨bx, ox + j, none⟩) hbxl).trans u0⟩ (fun hHeld18 => ?_)
            clear hK K hHeld16
            set_option linter.unusedSimpArgs false in try simp only [Act.put, List.getElem_toArray, List.getElem_cons_succ, List.getElem_cons_zero, List.setIfInBounds_toArray, List.set_cons_zero, List.set_cons_succ]
            refine wpAnyH_take (i := 10) (v := ?_) rfl (by kernel_rfl) (by kernel_rfl) (by kernel_rfl) (fun _ _ _ h => h) (Or.inl ⟨by kernel_rfl, ?_⟩) (by assumption) ?_
            rotate_left
            · intro w9 hS9; (try dsimp only at hS9); go_simp; (try with_reducible rfl)
            set_option linter.unusedSimpArgs false in try simp only [Act.put, List.getElem_toArray, List.getElem_cons_succ, List.getElem_cons_zero, List.setIfInBounds_toArray, List.set_cons_zero, List.set_cons_succ]
            refine wpAnyH_ready (rs := [11]) (by kernel_rfl) (by simp) ?_
            refine AllReadyH.cons rfl (fun K hK => ?_) (AllReadyH.nil)
            have B2 := M7.box.by_grown s7 (own_ne_blk M7.out M7.box (by decide))
            have e0 := B2.cell 0
            have f0 := B2.frozen 0
            simp at e0
            have hge7 : w3.heap.size ≤ bQ := M7.lo
            have M8 := M7.row (Below.refl _ _) s7 r7 (fun k9 hk9 e9 => by
              obtain rfl : g7 = k9 := Option.some.inj hk9
              rcases t7 with h' | h'
              · exact own_ne_blk M7.out M7.box (by decide) (h'.symm.trans (congrArg some e9))
              · have := M7.box.lt; omega)
            have hb19 := (hb17).setCell (p := ⟨bQ, 0, none⟩) hge7 (.slice (some ⟨g7, 0, none⟩) (j + 1) c7)
            have HS8 := Lib.hid (HS7.out.far hg3l (hbg7.setCell (p := ⟨bQ, 0, none⟩) hge7 (.slice (some ⟨g7, 0, none⟩) (j + 1) c7)))
            go_simp
            refine hK.out _ _ ⟨(hb19.cell (p := ⟨bP, 0, none⟩) hbPl).trans v0, (hb19.cell (p := ⟨bx, ox + j, none⟩) hbxl).trans u0⟩ (fun hHeld20 => ?_)
            clear hK K hHeld18
            set_option linter.unusedSimpArgs false in try simp only [Act.put, List.getElem_toArray, List.getElem_cons_succ, List.getElem_cons_zero, List.setIfInBounds_toArray, List.set_cons_zero, List.set_cons_succ]
            refine wpAnyH_done (by kernel_rfl) ?_ _
            go_wp2_with fail
            go_roundw
            case rel =>
              refine ⟨j + 1, rs ++ [(.slice A5 4 c5, x)], some ⟨g7, 0, none⟩, c7, by go_num, by omega, by simp [hrs], ?_, ?_, HS8.out⟩
              · show _ = _
                rw [List.map_append, HRS.out, List.take_add_one, HX.out]; rfl
              · rw [List.map_append]; exact M8
            case measure => simp [intOf]; omega
          · go_simp
            have hbn := bnew w6 (.cells #[.slice A5 4 c5] 29)
            have hb21 := (hb11).trans (hbn.mono (M6.grow.size))
            have M7 := M6.keep hbn
            have HS7 := Lib.hid (HS6.out.below hbn HS6.out.lt)
            obtain ⟨g7, c7, w7, x7, r7, s7, t7⟩ := run_append_sep (P := Try.prog) (w := w6.alloc (.cells #[.slice A5 4 c5] 29)) w3.heap.size 24 24 29 i1 (.slice none 0 0) 1 24 Try.underlying24 hi' hz0' hz1' hz2' rfl (by decide) (.slice A9 j c9) j (rs.map Prod.fst) M7.out ⟨w6.heap.size, 0, none⟩ 1 1 [.slice A5 4 c5] rfl (cell_one_new _ _ _) (by simp [Value.oneCell']) (by unfold maxLen; omega) (by omega) (by simp; have := M6.grow.size; omega) (by omega)
            have hs7 : w3.heap.size ≤ (w6.alloc (.cells #[.slice A5 4 c5] 29)).heap.size := M7.grow.size
            refine hK.out _ _ ⟨(hb21.cell (p := ⟨bP, 0, none⟩) hbPl).trans v0, (hb21.cell (p := ⟨bx, ox + j, none⟩) hbxl).trans u0⟩ (fun hHeld22 => ?_)
            clear hK K hHeld12
            set_option linter.unusedSimpArgs false in try simp only [Act.put, List.getElem_toArray, List.getElem_cons_succ, List.getElem_cons_zero, List.setIfInBounds_toArray, List.set_cons_zero, List.set_cons_succ]
            refine wpAnyH_ready (rs := [1]) (by kernel_rfl) (by simp) ?_
            refine AllReadyH.cons rfl (fun K hK => ?_) (AllReadyH.nil)
            have q23 := M7.box.cell 0
            simp at q23
            go_simp
            refine hK.out _ _ ⟨(hb21.cell (p := ⟨bP, 0, none⟩) hbPl).trans v0, (hb21.cell (p := ⟨bx, ox + j, none⟩) hbxl).trans u0⟩ (fun hHeld24 => ?_)
            clear hK K hHeld22
            set_option linter.unusedSimpArgs false in try simp only [Act.put, List.getElem_toArray, List.getElem_cons_succ, List.getElem_cons_zero, List.setIfInBounds_toArray, List.set_cons_zero, List.set_cons_succ]
            refine wpAnyH_ready (rs := [9]) (by kernel_rfl) (by simp) ?_
            refine AllReadyH.cons rfl (fun K hK => ?_) (AllReadyH.nil)
            refine Eq.mpr (if_pos (by kernel_rfl)) ?_
            refine wp_app_runT _ _ 24 rfl (.slice A9 j c9) (.slice (some ⟨w6.heap.size, 0, none⟩) 1 1) rfl rfl (.slice (some ⟨g7, 0, none⟩) (j + 1) c7) w7 x7 ?_
            have hb25 := (hb21).grown s7 hs7 (fun k9 hk9 => (M7.out.lt k9 hk9).1)
            have hbg7 : Below w3.heap.size (w6.alloc (.cells #[.slice A5 4 c5] 29)) w7 := (Below.refl _ _).grown s7 hs7 (fun k9 hk9 => (M7.out.lt k9 hk9).1)
            clear x7
            refine hK.out _ _ ⟨(hb25.cell (p := ⟨bP, 0, none⟩) hbPl).trans v0, (hb25.cell (p := ⟨bx, ox + j, none⟩) hbxl).trans u0⟩ (fun hHeld26 => ?_)
            clear hK K hHeld24
            set_option linter.unusedSimpArgs false in try simp only [Act.put, List.getElem_toArray, List.getElem_cons_succ, List.getElem_cons_zero, List.setIfInBounds_toArray, List.set_cons_zero, List.set_cons_succ]
            refine wpAnyH_take (i := 10) (v := ?_) rfl (by kernel_rfl) (by kernel_rfl) (by kernel_rfl) (fun _ _ _ h => h) (Or.inl ⟨by kernel_rfl, ?_⟩) (by assumption) ?_
            rotate_left
            · intro w9 hS9; (try dsimp only at hS9); go_simp; (try with_reducible rfl)
            set_option linter.unusedSimpArgs false in try simp only [Act.put, List.getElem_toArray, List.getElem_cons_succ, List.getElem_cons_zero, List.setIfInBounds_toArray, List.set_cons_zero, List.set_cons_succ]
            refine wpAnyH_ready (rs := [11]) (by kernel_rfl) (by simp) ?_
            refine AllReadyH.cons rfl (fun K hK => ?_) (AllReadyH.nil)
            have B2 := M7.box.by_grown s7 (own_ne_blk M7.out M7.box (by decide))
            have e0 := B2.cell 0
            have f0 := B2.frozen 0
            simp at e0
            have hge7 : w3.heap.size ≤ bQ := M7.lo
            have M8 := M7.row (Below.refl _ _) s7 r7 (fun k9 hk9 e9 => by
              obtain rfl : g7 = k9 := Option.some.inj hk9
              rcases t7 with h' | h'
              · exact own_ne_blk M7.out M7.box (by decide) (h'.symm.trans (congrArg some e9))
              · have := M7.box.lt; omega)
            have hb27 := (hb25).setCell (p := ⟨bQ, 0, none⟩) hge7 (.slice (some ⟨g7, 0, none⟩) (j + 1) c7)
            have HS8 := Lib.hid (HS7.out.far hg3l (hbg7.setCell (p := ⟨bQ, 0, none⟩) hge7 (.slice (some ⟨g7, 0, none⟩) (j + 1) c7)))
            go_simp
            refine hK.out _ _ ⟨(hb27.cell (p := ⟨bP, 0, none⟩) hbPl).trans v0, (hb27.cell (p := ⟨bx, ox + j, none⟩) hbxl).trans u0⟩ (fun hHeld28 => ?_)
            clear hK K hHeld26
            set_option linter.unusedSimpArgs false in try simp only [Act.put, List.getElem_toArray, List.getElem_cons_succ, List.getElem_cons_zero, List.setIfInBounds_toArray, List.set_cons_zero, List.set_cons_succ]
            refine wpAnyH_done (by kernel_rfl) ?_ _
            go_wp2_with fail
            go_roundw
            case rel =>
              refine ⟨j + 1, rs ++ [(.slice A5 4 c5, x)], some ⟨g7, 0, none⟩, c7, by go_num, by omega, by simp [hrs], ?_, ?_, HS8.out⟩
              · show _ = _
                rw [List.map_append, HRS.out, List.take_add_one, HX.out]; rfl
              · rw [List.map_append]; exact M8
            case measure => simp [intOf]; omega
      · obtain rfl : j = n := by omega
        have i4 : ¬ (j : Int) < (j : Int) := by omega
        have hXS : rs.map Prod.snd = xs := by rw [HRS.out]; exact List.take_of_length_le (by omega)
        have HRX := Lib.hid hXS
        have hq1 := HOK.out.lo
        have HXN : Hid (xs.length = j) := hxl
        clear hXS HRS
        have v0 := v0
        go_wp2_with fail
        refine (one_c g _ 2 _ hs.out (by omega) (by omega) (by omega)).mono ?_
        rintro e w5 ⟨t5, rfl, hs5, hg5⟩
        have M5 := hM.by_g hg5
        have HS5 := Lib.hid hs5
        clear hM hs hs5 hg5 hb3r v0
        cases t5 with
        | false =>
          have HM8 := Lib.hid M5
          have hs8 : Src w5 g (k + 420) := HS5.out.more (by omega)
          have HS8 := Lib.hid hs8
          clear hs8
          have HRL := Lib.hid hrs
          have HRE : Hid (RectP (rs.map Prod.snd)) := by show RectP _; rw [HRX.out]; exact HOK.out.rect
          clear M5 HS5
          go_wp2_with fail
          refine (one_c g _ 3 _ HS8.out (by omega) (by omega) (by omega)).mono ?_
          rintro e w9 ⟨t9, rfl, hs9, hg9⟩
          have M9 := HM8.out.by_g hg9
          have hq9 := M9.grow
          have hR9 := (HR0.out.by_grown hq9 (fun e => by have := Option.some.inj e; omega))
          have hR9b := (HR1.out.by_grown hq9 (fun e => by have := Option.some.inj e; omega))
          have hP9 := (HP3.out.by_grown hq9 (fun e => by have := Option.some.inj e; omega))
          have hB9 := M9.box
          have hlo9 := M9.lo
          have hsz9 := hq9.size
          have HPOL : Hid (PolO w9 w3.heap.size A9 c9 (rs.map Prod.snd) rs) := ⟨rfl, M9.rows, by rw [List.length_map, HRL.out]; exact M9.out⟩
          have HG9 := Lib.hid hq9
          clear M9 HM8 HS8 hs9 hg9 hq9
          cases t9 with
          | false =>
            have y0 : w9.cell? ⟨w.heap.size, 0, none⟩ = some (.slice none 0 0) := hR9.cell 0
            have y1 : w9.cell? ⟨w.heap.size + 1, 0, none⟩ = some (.slice none 0 0) := hR9b.cell 0
            have y2 := hR9.frozen 0
            have y3 := hR9b.frozen 0
            have y4 : w9.cell? ⟨bP, 0, none⟩ = some (.slice A j c) := hP9.cell 0
            have y5 : w9.cell? ⟨bQ, 0, none⟩ = some (.slice A9 j c9) := hB9.cell 0
            have z0 := (hR9.set 0 (.slice A j c)).far (show w.heap.size ≠ w.heap.size + 1 by omega) 0 (.slice A9 j c9)
            have z1 := (hR9b.far (show w.heap.size + 1 ≠ w.heap.size by omega) 0 (.slice A j c)).set 0 (.slice A9 j c9)
            have k0 := z0.cell 0
            have k1 := z1.cell 0
            simp at k0 k1
            have ne1 : ¬ bP = w.heap.size := by omega
            have ne2 : ¬ bP = w.heap.size + 1 := by omega
            have ne3 : ¬ bQ = w.heap.size := by omega
            have ne4 : ¬ bQ = w.heap.size + 1 := by omega
            go_wp2_with fail
            go_region
            all_goals (
              have hgs := hgr3.size
              have j1 : InLLf w.heap.size ((w9.setCell ⟨w.heap.size, 0, none⟩ (.slice A j c)).setCell ⟨w.heap.size + 1, 0, none⟩ (.slice A9 j c9)) A j xs := fun W' h' => HP1.out W' (((hsf3.trans ((SameFrom.of_g HG9.out hg0))).set (by omega) |>.set (by omega)).trans (h'.mono (by omega)))
              have j2 : InLLf w.heap.size ((w9.setCell ⟨w.heap.size, 0, none⟩ (.slice A j c)).setCell ⟨w.heap.size + 1, 0, none⟩ (.slice A9 j c9)) A9 j (rs.map Prod.snd) := fun W' h' => by
                have j5 := (HPOL.out.same ((((SameFrom.refl _ w9).set (b := w.heap.size) (i := 0) (v := .slice A j c) (by omega)).set (b := w.heap.size + 1) (i := 0) (v := .slice A9 j c9) (by omega)).trans (h'.mono (by omega)))).inn
                rw [show (rs.map Prod.snd).length = j from (by rw [List.length_map]; exact HRL.out)] at j5
                exact j5
              have j3 : w.grownBy ((w9.setCell ⟨w.heap.size, 0, none⟩ (.slice A j c)).setCell ⟨w.heap.size + 1, 0, none⟩ (.slice A9 j c9)) (some g) := grow_on (only_trans hgW0 (only_trans hgr3 HG9.out)) (((Below.refl w.heap.size w9).setCell (p := ⟨w.heap.size, 0, none⟩) (Nat.le_refl _) _).setCell (p := ⟨w.heap.size + 1, 0, none⟩) (Nat.le_succ _) _)
              have J1 := Lib.hid j1
              have J2 := Lib.hid j2
              have J3 := Lib.hid j3
              clear j1 j2 j3
              go_wp2_with fail
              exact bodyPost_ret (v := .tuple #[.agg #[.slice A j c], .agg #[.slice A9 j c9]]) (by simp [results, Try.results13, go_sem, k0, k1]) rfl ⟨A, j, c, xs, A9, j, c9, (rs.map Prod.snd), rfl, J1.out, hn13, J2.out, by omega, ⟨J3.out.os, J3.out.tape, J3.out.output, J3.out.size, J3.out.block⟩⟩)
          | true =>
            have b0 := hB9.cell 0
            have b1 := hB9.frozen 0
            simp at b0
            have hin9 := HPOL.out.inn
            rw [show (rs.map Prod.snd).length = j from by rw [List.length_map]; exact HRL.out] at hin9
            have HMI := Lib.hid (l10Minimal_c bQ 0 A9 j c9 w9.heap.size (rs.map Prod.snd) w9 b0 hin9 (Nat.le_refl _) HRE.out (by omega))
            have hms := (minL_small HRE.out).1
            rw [show (rs.map Prod.snd).length = j from by rw [List.length_map]; exact HRL.out] at hms
            obtain ⟨V, hV⟩ : ∃ V, minL (rs.map Prod.snd) = V := ⟨_, rfl⟩
            rw [hV] at HMI hms
            obtain ⟨vn, hvn⟩ : ∃ vn, V.length = vn := ⟨_, rfl⟩
            rw [hvn] at HMI hms
            have HVN := Lib.hid hvn
            clear hin9 hV hvn
            go_wp2_with fail
            refine HMI.out.mono ?_
            rintro e w10 ⟨A10, c10, rfl, ⟨rs10, hpo10⟩, hb10⟩
            have hBX := hB9.next hb10
            have x0 := hBX.cell 0
            have x1 := hBX.frozen 0
            simp at x0
            have hBX2 := hBX.set 0 (.slice A10 vn c10)
            simp at hBX2
            have hRA := (hR9.next hb10).far (show w.heap.size ≠ bQ by omega) 0 (.slice A10 vn c10)
            have hRB := (hR9b.next hb10).far (show w.heap.size + 1 ≠ bQ by omega) 0 (.slice A10 vn c10)
            have hPA := (hP9.next hb10).far (show bP ≠ bQ by omega) 0 (.slice A10 vn c10)
            have hgA : w3.grownBy (w10.setCell ⟨bQ, 0, none⟩ (.slice A10 vn c10)) (some g) := grow_on HG9.out ((hb10.mono hsz9).setCell (p := ⟨bQ, 0, none⟩) hlo9 _)
            have hbQl := hB9.lt
            have hpoA : PolO (w10.setCell ⟨bQ, 0, none⟩ (.slice A10 vn c10)) w9.heap.size A10 c10 V rs10 := hpo10.far hbQl
            have HPA := Lib.hid hpoA
            have HGA := Lib.hid hgA
            clear hB9 b0 b1 HMI hpo10 hpoA hgA HPOL hR9 hR9b hP9 HG9 hBX
            go_wp2_with fail
            generalize w10.setCell ⟨bQ, 0, none⟩ (.slice A10 vn c10) = w11 at hBX2 hRA hRB hPA HPA HGA ⊢
            have y0 : w11.cell? ⟨w.heap.size, 0, none⟩ = some (.slice none 0 0) := hRA.cell 0
            have y1 : w11.cell? ⟨w.heap.size + 1, 0, none⟩ = some (.slice none 0 0) := hRB.cell 0
            have y2 := hRA.frozen 0
            have y3 := hRB.frozen 0
            have y4 : w11.cell? ⟨bP, 0, none⟩ = some (.slice A j c) := hPA.cell 0
            have y5 : w11.cell? ⟨bQ, 0, none⟩ = some (.slice A10 vn c10) := hBX2.cell 0
            have z0 := (hRA.set 0 (.slice A j c)).far (show w.heap.size ≠ w.heap.size + 1 by omega) 0 (.slice A10 vn c10)
            have z1 := (hRB.far (show w.heap.size + 1 ≠ w.heap.size by omega) 0 (.slice A j c)).set 0 (.slice A10 vn c10)
            have k0 := z0.cell 0
            have k1 := z1.cell 0
            simp at k0 k1
            have ne1 : ¬ bP = w.heap.size := by omega
            have ne2 : ¬ bP = w.heap.size + 1 := by omega
            have ne3 : ¬ bQ = w.heap.size := by omega
            have ne4 : ¬ bQ = w.heap.size + 1 := by omega
            go_wp2_with fail
            go_region
            all_goals (
              have hgs := hgr3.size
              have j1 : InLLf w.heap.size ((w11.setCell ⟨w.heap.size, 0, none⟩ (.slice A j c)).setCell ⟨w.heap.size + 1, 0, none⟩ (.slice A10 vn c10)) A j xs := fun W' h' => HP1.out W' (((hsf3.trans ((SameFrom.of_g HGA.out hg0))).set (by omega) |>.set (by omega)).trans (h'.mono (by omega)))
              have j2 : InLLf w.heap.size ((w11.setCell ⟨w.heap.size, 0, none⟩ (.slice A j c)).setCell ⟨w.heap.size + 1, 0, none⟩ (.slice A10 vn c10)) A10 vn V := fun W' h' => by
                have j5 := (HPA.out.same ((((SameFrom.refl _ w11).set (b := w.heap.size) (i := 0) (v := .slice A j c) (by omega)).set (b := w.heap.size + 1) (i := 0) (v := .slice A10 vn c10) (by omega)).trans (h'.mono (by omega)))).inn
                rw [show V.length = vn from HVN.out] at j5
                exact j5
              have j3 : w.grownBy ((w11.setCell ⟨w.heap.size, 0, none⟩ (.slice A j c)).setCell ⟨w.heap.size + 1, 0, none⟩ (.slice A10 vn c10)) (some g) := grow_on (only_trans hgW0 (only_trans hgr3 HGA.out)) (((Below.refl w.heap.size w11).setCell (p := ⟨w.heap.size, 0, none⟩) (Nat.le_refl _) _).setCell (p := ⟨w.heap.size + 1, 0, none⟩) (Nat.le_succ _) _)
              have J1 := Lib.hid j1
              have J2 := Lib.hid j2
              have J3 := Lib.hid j3
              clear j1 j2 j3
              go_wp2_with fail
              exact bodyPost_ret (v := .tuple #[.agg #[.slice A j c], .agg #[.slice A10 vn c10]]) (by simp [results, Try.results13, go_sem, k0, k1]) rfl ⟨A, j, c, xs, A10, vn, c10, V, rfl, J1.out, hn13, J2.out, by omega, ⟨J3.out.os, J3.out.tape, J3.out.output, J3.out.size, J3.out.block⟩⟩)
        | true =>
          have q0 := M5.box.cell 0
          simp at q0
          have hjn : (1 : Int) ≤ (j : Int) := by have := HXN.out; omega
          go_wp2_with fail
          refine (pick_c g _ (j : Int) _ HS5.out (by omega) hjn (by omega)).mono ?_
          rintro e w6 ⟨y, rfl, hy0, hy1, hs6, hg6⟩
          obtain ⟨yn, rfl⟩ := Int.eq_ofNat_of_zero_le hy0
          have M6 := M5.by_g hg6
          have HS6 := Lib.hid hs6
          clear M5 HS5 hs6 hg6 q0
          go_wp2_with fail
          refine (pick_c g _ 4 _ HS6.out (by omega) (by omega) (by omega)).mono ?_
          rintro e w7 ⟨z, rfl, hz0_, hz1_, hs7, hg7⟩
          obtain ⟨zn, rfl⟩ := Int.eq_ofNat_of_zero_le hz0_
          have M7 := M6.by_g hg7
          have HS7 := Lib.hid hs7
          clear M6 HS6 hs7 hg7
          have o2 := M7.out
          obtain ⟨gA, rfl⟩ : ∃ r, A9 = some ⟨r, 0, none⟩ := by
            rcases o2.2 with h' | ⟨r, cap, cur, k1, _⟩
            · have := h'.2; omega
            · injection k1 with k1; exact ⟨r, k1⟩
          obtain ⟨p, hp⟩ : ∃ p, rs[yn]? = some p := ⟨_, List.getElem?_eq_getElem (by omega)⟩
          obtain ⟨vr, r0⟩ := p
          have hr0 : (rs.map Prod.snd)[yn]? = some r0 := by rw [List.getElem?_map, hp]; rfl
          rw [HRX.out] at hr0
          have hrl : r0.length = 4 := HOK.out.len r0 (List.mem_of_getElem? hr0)
          have hro := M7.rows.own yn _ hp
          dsimp only at hro
          rw [hrl] at hro
          obtain ⟨gr, cr, rfl, hcr⟩ := own_block' hro (by omega)
          have hF0 : (rs.map Prod.fst)[yn]? = some (.slice (some ⟨gr, 0, none⟩) 4 cr) := by rw [List.getElem?_map, hp]; simp
          have HF0 := Lib.hid hF0
          have u0 : w7.cell? ⟨gA, yn, none⟩ = some (.slice (some ⟨gr, 0, none⟩) 4 cr) := (o2.cellAt yn (by omega)).trans hF0
          have v0 : w7.cell? ⟨bQ, 0, none⟩ = some (.slice (some ⟨gA, 0, none⟩) j c9) := M7.box.cell 0
          have HMd := Lib.hid (M7.keep (Below.refl w7.heap.size w7).drew)
          have HSd := Lib.hid (HS7.out.below (Below.refl w7.heap.size w7).drew HS7.out.lt)
          have e1 : IntKind.i64.wrap ((j : Int) + 1) = (j : Int) + 1 := IntWalk.i64_in _ (by omega)
          have i5 : (yn : Int) < (j : Int) := hy1
          have i6 : yn < j := by omega
          have i7 : zn < 4 := by omega
          clear hF0 M7 HS7 o2 hro
          go_wp2_with fail
          refine wp_region_held_drew (S := fun w' => w'.cell? ⟨bQ, 0, none⟩ = some (.slice (some ⟨gA, 0, none⟩) j c9) ∧ w'.cell? ⟨gA, yn, none⟩ = some (.slice (some ⟨gr, 0, none⟩) 4 cr)) (by kernel_rfl) ⟨v0, u0⟩ ?_
          intro hHeld0
          have v0 : w7.drew.cell? ⟨bQ, 0, none⟩ = some (.slice (some ⟨gA, 0, none⟩) j c9) := v0
          have u0 : w7.drew.cell? ⟨gA, yn, none⟩ = some (.slice (some ⟨gr, 0, none⟩) 4 cr) := u0
          generalize w7.drew = wd at HMd HSd v0 u0 hHeld0 ⊢
          refine wpAnyH_take (i := 0) (v := ?_) rfl (by kernel_rfl) (by kernel_rfl) (by kernel_rfl) (fun _ _ _ h => h) (Or.inl ⟨by kernel_rfl, ?_⟩) (by assumption) ?_
          rotate_left
          · intro w9 hS9; (try dsimp only at hS9); go_simp; (try with_reducible rfl)
          try simp only [Act.put, List.getElem_toArray, List.getElem_cons_succ, List.getElem_cons_zero, List.setIfInBounds_toArray, List.set_cons_zero, List.set_cons_succ]
          refine wpAnyH_take (i := 1) (v := ?_) rfl (by kernel_rfl) (by kernel_rfl) (by kernel_rfl) (fun _ _ _ h => h) (Or.inl ⟨by kernel_rfl, ?_⟩) (by assumption) ?_
          rotate_left
          · intro w9 hS9; (try dsimp only at hS9); go_simp; (try with_reducible rfl)
          try simp only [Act.put, List.getElem_toArray, List.getElem_cons_succ, List.getElem_cons_zero, List.setIfInBounds_toArray, List.set_cons_zero, List.set_cons_succ]
          refine wpAnyH_take (i := 2) (v := ?_) rfl (by kernel_rfl) (by kernel_rfl) (by kernel_rfl) (fun _ _ _ h => h) (Or.inl ⟨by kernel_rfl, ?_⟩) (by assumption) ?_
          rotate_left
          · intro w9 hS9; (try dsimp only at hS9); go_simp; (try with_reducible rfl)
          try simp only [Act.put, List.getElem_toArray, List.getElem_cons_succ, List.getElem_cons_zero, List.setIfInBounds_toArray, List.set_cons_zero, List.set_cons_succ]
          refine wpAnyH_take (i := 3) (v := ?_) rfl (by kernel_rfl) (by kernel_rfl) (by kernel_rfl) (fun _ _ _ h => h) (Or.inl ⟨by kernel_rfl, ?_⟩) (by assumption) ?_
          rotate_left
          · intro w9 hS9; (try dsimp only at hS9); go_simp; (try with_reducible rfl)
          try simp only [Act.put, List.getElem_toArray, List.getElem_cons_succ, List.getElem_cons_zero, List.setIfInBounds_toArray, List.set_cons_zero, List.set_cons_succ]
          refine wpAnyH_take (i := 4) (v := ?_) rfl (by kernel_rfl) (by kernel_rfl) (by kernel_rfl) (fun _ _ _ h => h) (Or.inl ⟨by kernel_rfl, ?_⟩) (by assumption) ?_
          rotate_left
          · intro w9 hS9; (try dsimp only at hS9); go_simp; (try with_reducible rfl)
          try simp only [Act.put, List.getElem_toArray, List.getElem_cons_succ, List.getElem_cons_zero, List.setIfInBounds_toArray, List.set_cons_zero, List.set_cons_succ]
          refine wpAnyH_take (i := 5) (v := ?_) rfl (by kernel_rfl) (by kernel_rfl) (by kernel_rfl) (fun _ _ _ h => h) (Or.inl ⟨by kernel_rfl, ?_⟩) (by assumption) ?_
          rotate_left
          · intro w9 hS9; (try dsimp only at hS9); go_simp; (try with_reducible rfl)
          try simp only [Act.put, List.getElem_toArray, List.getElem_cons_succ, List.getElem_cons_zero, List.setIfInBounds_toArray, List.set_cons_zero, List.set_cons_succ]
          refine wpAnyH_take (i := 6) (v := ?_) rfl (by kernel_rfl) (by kernel_rfl) (by kernel_rfl) (fun _ _ _ h => h) (Or.inl ⟨by kernel_rfl, ?_⟩) (by assumption) ?_
          rotate_left
          · intro w9 hS9; (try dsimp only at hS9); go_simp; (try with_reducible rfl)
          try simp only [Act.put, List.getElem_toArray, List.getElem_cons_succ, List.getElem_cons_zero, List.setIfInBounds_toArray, List.set_cons_zero, List.set_cons_succ]
          refine wpAnyH_take (i := 7) (v := ?_) rfl (by kernel_rfl) (by kernel_rfl) (by kernel_rfl) (fun _ _ _ h => h) (Or.inl ⟨by kernel_rfl, ?_⟩) (by assumption) ?_
          rotate_left
          · intro w9 hS9; (try dsimp only at hS9); go_simp; (try with_reducible rfl)
          try simp only [Act.put, List.getElem_toArray, List.getElem_cons_succ, List.getElem_cons_zero, List.setIfInBounds_toArray, List.set_cons_zero, List.set_cons_succ]
          refine wpAnyH_take (i := 8) (v := ?_) rfl (by kernel_rfl) (by kernel_rfl) (by kernel_rfl) (fun _ _ _ h => h) (Or.inl ⟨by kernel_rfl, ?_⟩) (by assumption) ?_
          rotate_left
          · intro w9 hS9; (try dsimp only at hS9); go_simp; (try with_reducible rfl)
          try simp only [Act.put, List.getElem_toArray, List.getElem_cons_succ, List.getElem_cons_zero, List.setIfInBounds_toArray, List.set_cons_zero, List.set_cons_succ]
          refine wpAnyH_take (i := 9) (v := ?_) rfl (by kernel_rfl) (by kernel_rfl) (by kernel_rfl) (fun _ _ _ h => h) (Or.inl ⟨by kernel_rfl, ?_⟩) (by assumption) ?_
          rotate_left
          · intro w9 hS9; (try dsimp only at hS9); go_simp; (try with_reducible rfl)
          try simp only [Act.put, List.getElem_toArray, List.getElem_cons_succ, List.getElem_cons_zero, List.setIfInBounds_toArray, List.set_cons_zero, List.set_cons_succ]
          refine wpAnyH_take (i := 10) (v := ?_) rfl (by kernel_rfl) (by kernel_rfl) (by kernel_rfl) (fun _ _ _ h => h) (Or.inl ⟨by kernel_rfl, ?_⟩) (by assumption) ?_
          rotate_left
          · intro w9 hS9; (try dsimp only at hS9); go_simp; (try with_reducible rfl)
          try simp only [Act.put, List.getElem_toArray, List.getElem_cons_succ, List.getElem_cons_zero, List.setIfInBounds_toArray, List.set_cons_zero, List.set_cons_succ]
          refine wpAnyH_ready (rs := [11]) (by kernel_rfl) (by simp) ?_
          refine AllReadyH.cons rfl (fun K hK => ?_) AllReadyH.nil
          go_simp
          go_wp2_with (go_at_call 15; refine (pick_c g _ ((j : Int) + 1) _ HSd.out (by omega) (by omega) (by omega)).mono ?_; rintro e w8 ⟨v, rfl, hv0_, hv1_, hs8, hg8⟩)
          have M8 := HMd.out.by_g hg8
          have HS8 := Lib.hid hs8
          have a0 : w8.cell? ⟨bQ, 0, none⟩ = some (.slice (some ⟨gA, 0, none⟩) j c9) := M8.box.cell 0
          have a1 : w8.cell? ⟨gA, yn, none⟩ = some (.slice (some ⟨gr, 0, none⟩) 4 cr) := (M8.out.cellAt yn (by omega)).trans HF0.out
          have a2 := M8.rows.frozen hp zn
          have a3 := M8.rows.cellz hp (j := zn) (by omega)
          have e2 : IntKind.i64.wrap (v - 1) = v - 1 := IntWalk.i64_in _ (by omega)
          clear hs8 hg8 HMd HSd v0 u0
          refine hK.out _ _ ⟨a0, a1⟩ (fun hHeld1 => ?_)
          clear hK K hHeld0
          try simp only [Act.put, List.getElem_toArray, List.getElem_cons_succ, List.getElem_cons_zero, List.setIfInBounds_toArray, List.set_cons_zero, List.set_cons_succ]
          refine wpAnyH_take (i := 12) (v := ?_) rfl (by kernel_rfl) (by kernel_rfl) (by kernel_rfl) (fun _ _ _ h => h) (Or.inl ⟨by kernel_rfl, ?_⟩) (by assumption) ?_
          rotate_left
          · intro w9 hS9; (try dsimp only at hS9); go_simp; (try with_reducible rfl)
          try simp only [Act.put, List.getElem_toArray, List.getElem_cons_succ, List.getElem_cons_zero, List.setIfInBounds_toArray, List.set_cons_zero, List.set_cons_succ]
          refine wpAnyH_take (i := 13) (v := ?_) rfl (by kernel_rfl) (by kernel_rfl) (by kernel_rfl) (fun _ _ _ h => h) (Or.inl ⟨by kernel_rfl, ?_⟩) (by assumption) ?_
          rotate_left
          · intro w9 hS9; (try dsimp only at hS9); go_simp; (try with_reducible rfl)
          try simp only [Act.put, List.getElem_toArray, List.getElem_cons_succ, List.getElem_cons_zero, List.setIfInBounds_toArray, List.set_cons_zero, List.set_cons_succ]
          refine wpAnyH_ready (rs := [14]) (by kernel_rfl) (by simp) ?_
          refine AllReadyH.cons rfl (fun K hK => ?_) AllReadyH.nil
          have M9 := M8.put (j := zn) hp (v - 1)
          have b0 : (w8.setCell ⟨gr, zn, none⟩ (.int .i64 (v - 1))).cell? ⟨bQ, 0, none⟩ = some (.slice (some ⟨gA, 0, none⟩) j c9) := M9.box.cell 0
          have b1 : (w8.setCell ⟨gr, zn, none⟩ (.int .i64 (v - 1))).cell? ⟨gA, yn, none⟩ = some (.slice (some ⟨gr, 0, none⟩) 4 cr) := (M9.out.cellAt yn (by omega)).trans HF0.out
          go_simp
          refine hK.out _ _ ⟨b0, b1⟩ (fun hHeld2 => ?_)
          clear hK K hHeld1
          try simp only [Act.put, List.getElem_toArray, List.getElem_cons_succ, List.getElem_cons_zero, List.setIfInBounds_toArray, List.set_cons_zero, List.set_cons_succ]
          refine wpAnyH_done (by kernel_rfl) ?_ _
          have hgr0 := ((M8.rows.own yn _ hp).lt gr rfl).1
          have hs9 := HS8.out.far hg3l ((Below.refl w3.heap.size w8).setCell (p := ⟨gr, zn, none⟩) hgr0 (.int .i64 (v - 1)))
          have HRE : Hid (RectP ((rs.set yn (.slice (some ⟨gr, 0, none⟩) 4 cr, r0.set zn (v - 1))).map Prod.snd)) := by
            show RectP _
            rw [List.map_set, HRX.out]
            exact HOK.out.rect.put hr0 (by rw [HXN.out]; omega)
          have HRL : Hid ((rs.set yn (.slice (some ⟨gr, 0, none⟩) 4 cr, r0.set zn (v - 1))).length = j) := by show _ = _; rw [List.length_set]; exact hrs
          have hfs := fst_set (zs' := r0.set zn (v - 1)) hp
          rw [← hfs] at M9
          have HM8 := Lib.hid M9
          have hs9b : Src (w8.setCell ⟨gr, zn, none⟩ (.int .i64 (v - 1))) g (k + 420) := hs9.more (by omega)
          have HS8 := Lib.hid hs9b
          clear M8 M9 a0 a1 a2 a3 b0 b1 hs9 hs9b hfs hHeld2 HF0 hp hr0
          generalize rs.set yn (.slice (some ⟨gr, 0, none⟩) 4 cr, r0.set zn (v - 1)) = rs8 at HRE HRL HM8 ⊢
          generalize w8.setCell ⟨gr, zn, none⟩ (.int .i64 (v - 1)) = wz at HM8 HS8 ⊢
          generalize hA9 : (some ⟨gA, 0, none⟩ : Option Addr) = A9 at HM8 ⊢
          go_wp2_with fail
          refine (one_c g _ 3 _ HS8.out (by omega) (by omega) (by omega)).mono ?_
          rintro e w9 ⟨t9, rfl, hs9, hg9⟩
          have M9 := HM8.out.by_g hg9
          have hq9 := M9.grow
          have hR9 := (HR0.out.by_grown hq9 (fun e => by have := Option.some.inj e; omega))
          have hR9b := (HR1.out.by_grown hq9 (fun e => by have := Option.some.inj e; omega))
          have hP9 := (HP3.out.by_grown hq9 (fun e => by have := Option.some.inj e; omega))
          have hB9 := M9.box
          have hlo9 := M9.lo
          have hsz9 := hq9.size
          have HPOL : Hid (PolO w9 w3.heap.size A9 c9 (rs8.map Prod.snd) rs8) := ⟨rfl, M9.rows, by rw [List.length_map, HRL.out]; exact M9.out⟩
          have HG9 := Lib.hid hq9
          clear M9 HM8 HS8 hs9 hg9 hq9
          cases t9 with
          | false =>
            have y0 : w9.cell? ⟨w.heap.size, 0, none⟩ = some (.slice none 0 0) := hR9.cell 0
            have y1 : w9.cell? ⟨w.heap.size + 1, 0, none⟩ = some (.slice none 0 0) := hR9b.cell 0
            have y2 := hR9.frozen 0
            have y3 := hR9b.frozen 0
            have y4 : w9.cell? ⟨bP, 0, none⟩ = some (.slice A j c) := hP9.cell 0
            have y5 : w9.cell? ⟨bQ, 0, none⟩ = some (.slice A9 j c9) := hB9.cell 0
            have z0 := (hR9.set 0 (.slice A j c)).far (show w.heap.size ≠ w.heap.size + 1 by omega) 0 (.slice A9 j c9)
            have z1 := (hR9b.far (show w.heap.size + 1 ≠ w.heap.size by omega) 0 (.slice A j c)).set 0 (.slice A9 j c9)
            have k0 := z0.cell 0
            have k1 := z1.cell 0
            simp at k0 k1
            have ne1 : ¬ bP = w.heap.size := by omega
            have ne2 : ¬ bP = w.heap.size + 1 := by omega
            have ne3 : ¬ bQ = w.heap.size := by omega
            have ne4 : ¬ bQ = w.heap.size + 1 := by omega
            go_wp2_with fail
            go_region
            all_goals (
              have hgs := hgr3.size
              have j1 : InLLf w.heap.size ((w9.setCell ⟨w.heap.size, 0, none⟩ (.slice A j c)).setCell ⟨w.heap.size + 1, 0, none⟩ (.slice A9 j c9)) A j xs := fun W' h' => HP1.out W' (((hsf3.trans ((SameFrom.of_g HG9.out hg0))).set (by omega) |>.set (by omega)).trans (h'.mono (by omega)))
              have j2 : InLLf w.heap.size ((w9.setCell ⟨w.heap.size, 0, none⟩ (.slice A j c)).setCell ⟨w.heap.size + 1, 0, none⟩ (.slice A9 j c9)) A9 j (rs8.map Prod.snd) := fun W' h' => by
                have j5 := (HPOL.out.same ((((SameFrom.refl _ w9).set (b := w.heap.size) (i := 0) (v := .slice A j c) (by omega)).set (b := w.heap.size + 1) (i := 0) (v := .slice A9 j c9) (by omega)).trans (h'.mono (by omega)))).inn
                rw [show (rs8.map Prod.snd).length = j from (by rw [List.length_map]; exact HRL.out)] at j5
                exact j5
              have j3 : w.grownBy ((w9.setCell ⟨w.heap.size, 0, none⟩ (.slice A j c)).setCell ⟨w.heap.size + 1, 0, none⟩ (.slice A9 j c9)) (some g) := grow_on (only_trans hgW0 (only_trans hgr3 HG9.out)) (((Below.refl w.heap.size w9).setCell (p := ⟨w.heap.size, 0, none⟩) (Nat.le_refl _) _).setCell (p := ⟨w.heap.size + 1, 0, none⟩) (Nat.le_succ _) _)
              have J1 := Lib.hid j1
              have J2 := Lib.hid j2
              have J3 := Lib.hid j3
              clear j1 j2 j3
              go_wp2_with fail
              exact bodyPost_ret (v := .tuple #[.agg #[.slice A j c], .agg #[.slice A9 j c9]]) (by simp [results, Try.results13, go_sem, k0, k1]) rfl ⟨A, j, c, xs, A9, j, c9, (rs8.map Prod.snd), rfl, J1.out, hn13, J2.out, by omega, ⟨J3.out.os, J3.out.tape, J3.out.output, J3.out.size, J3.out.block⟩⟩)
          | true =>
            have b0 := hB9.cell 0
            have b1 := hB9.frozen 0
            simp at b0
            have hin9 := HPOL.out.inn
            rw [show (rs8.map Prod.snd).length = j from by rw [List.length_map]; exact HRL.out] at hin9
            have HMI := Lib.hid (l10Minimal_c bQ 0 A9 j c9 w9.heap.size (rs8.map Prod.snd) w9 b0 hin9 (Nat.le_refl _) HRE.out (by omega))
            have hms := (minL_small HRE.out).1
            rw [show (rs8.map Prod.snd).length = j from by rw [List.length_map]; exact HRL.out] at hms
            obtain ⟨V, hV⟩ : ∃ V, minL (rs8.map Prod.snd) = V := ⟨_, rfl⟩
            rw [hV] at HMI hms
            obtain ⟨vn, hvn⟩ : ∃ vn, V.length = vn := ⟨_, rfl⟩
            rw [hvn] at HMI hms
            have HVN := Lib.hid hvn
            clear hin9 hV hvn
            go_wp2_with fail
            refine HMI.out.mono ?_
            rintro e w10 ⟨A10, c10, rfl, ⟨rs10, hpo10⟩, hb10⟩
            have hBX := hB9.next hb10
            have x0 := hBX.cell 0
            have x1 := hBX.frozen 0
            simp at x0
            have hBX2 := hBX.set 0 (.slice A10 vn c10)
            simp at hBX2
            have hRA := (hR9.next hb10).far (show w.heap.size ≠ bQ by omega) 0 (.slice A10 vn c10)
            have hRB := (hR9b.next hb10).far (show w.heap.size + 1 ≠ bQ by omega) 0 (.slice A10 vn c10)
            have hPA := (hP9.next hb10).far (show bP ≠ bQ by omega) 0 (.slice A10 vn c10)
            have hgA : w3.grownBy (w10.setCell ⟨bQ, 0, none⟩ (.slice A10 vn c10)) (some g) := grow_on HG9.out ((hb10.mono hsz9).setCell (p := ⟨bQ, 0, none⟩) hlo9 _)
            have hbQl := hB9.lt
            have hpoA : PolO (w10.setCell ⟨bQ, 0, none⟩ (.slice A10 vn c10)) w9.heap.size A10 c10 V rs10 := hpo10.far hbQl
            have HPA := Lib.hid hpoA
            have HGA := Lib.hid hgA
            clear hB9 b0 b1 HMI hpo10 hpoA hgA HPOL hR9 hR9b hP9 HG9 hBX
            go_wp2_with fail
            generalize w10.setCell ⟨bQ, 0, none⟩ (.slice A10 vn c10) = w11 at hBX2 hRA hRB hPA HPA HGA ⊢
            have y0 : w11.cell? ⟨w.heap.size, 0, none⟩ = some (.slice none 0 0) := hRA.cell 0
            have y1 : w11.cell? ⟨w.heap.size + 1, 0, none⟩ = some (.slice none 0 0) := hRB.cell 0
            have y2 := hRA.frozen 0
            have y3 := hRB.frozen 0
            have y4 : w11.cell? ⟨bP, 0, none⟩ = some (.slice A j c) := hPA.cell 0
            have y5 : w11.cell? ⟨bQ, 0, none⟩ = some (.slice A10 vn c10) := hBX2.cell 0
            have z0 := (hRA.set 0 (.slice A j c)).far (show w.heap.size ≠ w.heap.size + 1 by omega) 0 (.slice A10 vn c10)
            have z1 := (hRB.far (show w.heap.size + 1 ≠ w.heap.size by omega) 0 (.slice A j c)).set 0 (.slice A10 vn c10)
            have k0 := z0.cell 0
            have k1 := z1.cell 0
            simp at k0 k1
            have ne1 : ¬ bP = w.heap.size := by omega
            have ne2 : ¬ bP = w.heap.size + 1 := by omega
            have ne3 : ¬ bQ = w.heap.size := by omega
            have ne4 : ¬ bQ = w.heap.size + 1 := by omega
            go_wp2_with fail
            go_region
            all_goals (
              have hgs := hgr3.size
              have j1 : InLLf w.heap.size ((w11.setCell ⟨w.heap.size, 0, none⟩ (.slice A j c)).setCell ⟨w.heap.size + 1, 0, none⟩ (.slice A10 vn c10)) A j xs := fun W' h' => HP1.out W' (((hsf3.trans ((SameFrom.of_g HGA.out hg0))).set (by omega) |>.set (by omega)).trans (h'.mono (by omega)))
              have j2 : InLLf w.heap.size ((w11.setCell ⟨w.heap.size, 0, none⟩ (.slice A j c)).setCell ⟨w.heap.size + 1, 0, none⟩ (.slice A10 vn c10)) A10 vn V := fun W' h' => by
                have j5 := (HPA.out.same ((((SameFrom.refl _ w11).set (b := w.heap.size) (i := 0) (v := .slice A j c) (by omega)).set (b := w.heap.size + 1) (i := 0) (v := .slice A10 vn c10) (by omega)).trans (h'.mono (by omega)))).inn
                rw [show V.length = vn from HVN.out] at j5
                exact j5
              have j3 : w.grownBy ((w11.setCell ⟨w.heap.size, 0, none⟩ (.slice A j c)).setCell ⟨w.heap.size + 1, 0, none⟩ (.slice A10 vn c10)) (some g) := grow_on (only_trans hgW0 (only_trans hgr3 HGA.out)) (((Below.refl w.heap.size w11).setCell (p := ⟨w.heap.size, 0, none⟩) (Nat.le_refl _) _).setCell (p := ⟨w.heap.size + 1, 0, none⟩) (Nat.le_succ _) _)
              have J1 := Lib.hid j1
              have J2 := Lib.hid j2
              have J3 := Lib.hid j3
              clear j1 j2 j3
              go_wp2_with fail
              exact bodyPost_ret (v := .tuple #[.agg #[.slice A j c], .agg #[.slice A10 vn c10]]) (by simp [results, Try.results13, go_sem, k0, k1]) rfl ⟨A, j, c, xs, A10, vn, c10, V, rfl, J1.out, hn13, J2.out, by omega, ⟨J3.out.os, J3.out.tape, J3.out.output, J3.out.size, J3.out.block⟩⟩)
end Go.Proofs.Ytpdgnmdjneakgaa

/-! What the law about two policies draws: two valid policies, and a word. Conditions: none on the bytes they are drawn from. -/
namespace Go.Proofs.Ytpdgnmdjneakgaa
set_option linter.unusedVariables false
set_option linter.unusedSimpArgs false
open Go.RowKit

theorem wordB_of' {zs : List Int} (h : ∀ e ∈ zs, 0 ≤ e ∧ e ≤ 3) (hl : zs.length ≤ 40) : wordB zs = true := by
  unfold wordB btw
  rw [decide_eq_true h, decide_eq_true hl]; rfl
theorem row_ext {zs : List Int} {x : Int} {w : World} {base : Nat} {v : Value} (h : w.ownsRow base 2 1 v (zs.length + 1) (zs.map ic ++ [.int .i64 x])) :
    w.ownsRow base 2 1 v (zs ++ [x]).length ((zs ++ [x]).map ic) := by
  simpa [ic] using h

set_option maxRecDepth 100000 in
set_option maxHeartbeats 2000000 in
theorem B10Word_c (A : Option Addr) (n c : Nat) (bs : List Nat) (w : World) (hrow : Row w w.heap.size A (bs.map bc)) (hz : bs.length = n) (hz2 : ∀ z ∈ bs, z < 256) (hn : n ≤ 140737488355328) :
    Calls Try.prog 6 #[.slice A n c] w fun e w' => ∃ (E : Option Addr) (ce : Nat) (zs : List Int), e = .returned (.slice E zs.length ce) ∧ wordB zs = true ∧ zs.length ≤ 8 ∧ InL w' w'.heap.size E zs.length zs ∧ Below w.heap.size w w' := by
  obtain ⟨i0, hi, hz0, hz1, hzb⟩ := info_parts info64
  have HF := Lib.hid (l00From_c A n c bs w hrow hz hz2 hn)
  clear hrow hz hz2
  go_enter Try.func6, Try.ntmps6
  go_wp2_with fail
  refine HF.out.mono ?_
  rintro e w1 ⟨g, rfl, hg, hs1, hb1⟩
  have hlt := hs1.lt
  have HS1 := Lib.hid (hs1.below ((Below.refl w1.heap.size w1).alloc (Nat.le_refl _) (.cells #[] 2)) hlt)
  have HGW := Lib.hid hg
  clear hs1 hg
  go_wp2_with fail
  refine (pick_c g 0 9 _ HS1.out (by omega) (by omega) (by omega)).mono ?_
  rintro e w2 ⟨x, rfl, hx0, hx1, hs2, hb2⟩
  obtain ⟨m, rfl⟩ := Int.eq_ofNat_of_zero_le hx0
  have hown2 : w2.ownsRow (g + 1) 2 1 (.slice (some ⟨w1.heap.size, 0, none⟩) 0 0) ([] : List Int).length (([] : List Int).map ic) :=
    (World.ownsRow_made w1 #[] 0 (by omega) (by decide) rfl).kept hb2 (.inr (by simp [Value.ownBlock]; omega))
  have hbel2 : Below w.heap.size w w2 := by
    have h1 : Below w.heap.size w (w1.alloc (.cells #[] 2)) := hb1.alloc hb1.size _
    exact h1.trans (only_below hb2 (by have := HGW.out; omega) (by have := h1.size; omega))
  have HS2 := Lib.hid hs2
  clear hs2 hb2 hb1
  go_wp2_with fail
  go_loopw [4, 5] (fun v i wr => ∃ (k : Nat) (zs : List Int), i = .int .i64 k ∧ zs.length + k ≤ 8 ∧ Hid (∀ z ∈ zs, 0 ≤ z ∧ z ≤ 3) ∧ wr.ownsRow (g + 1) 2 1 v zs.length (zs.map ic) ∧ Hid (Src wr g (2 + 6 * zs.length)) ∧ Below w.heap.size w wr ∧ g + 1 ≤ wr.heap.size) (fun _ i _ => (intOf i).toNat)
  case atStart => exact ⟨m, [], rfl, by simp; omega, by intro z hz; simp at hz, hown2, HS2.out, hbel2, by have := HS2.out.lt; omega⟩
  case round =>
    clear hown2 hbel2 HS2
    obtain ⟨k, zs, rfl, hk, hin, hown, hs, hbel, hsz⟩ := hrel
    by_cases hpos : 0 < k
    · go_wp2_with fail
      refine (pick_c g _ 4 _ hs.out (by omega) (by omega) (by omega)).mono ?_
      rintro e w3 ⟨x, rfl, hx0, hx1, hs3, hb3⟩
      have hown3 := hown.kept hb3 (.inr (fun e => by have := (hown.lt _ e).1; omega))
      have hbel3 : Below w.heap.size w w3 := hbel.trans (only_below hb3 (by have := HGW.out; omega) hbel.size)
      have hsz3 : g + 1 ≤ w3.heap.size := Nat.le_trans hsz hb3.size
      have HS3 := Lib.hid hs3
      clear hown hbel hs hsz hs3 hb3
      go_wp2_with (at_builtin; refine wpList_append_own _ rfl _ _ 29 rfl (g + 1) 2 i0 (.int .i64 0) 1 8 Try.underlying29 hi hz0 hz1 hzb rfl (by decide) _ _ _ rfl (hown3.alloc _) ⟨w3.heap.size, 0, none⟩ 1 1 [.int .i64 x] rfl rfl ?c1 ?c2 ?c3 ?c4 ?c5 ?_)
      case c1 =>
        intro j u hj
        match j, hj with
        | 0, hj => simp at hj; subst hj; simp [Addr.add]
      case c2 => intro u hu; simp at hu; subst hu; rfl
      case c3 => unfold maxLen; omega
      case c4 => omega
      case c5 => simp; omega
      intro v' w4 hown4 hgrow _
      have hbg : Below (g + 1) w3 w4 := ((Below.refl (g + 1) w3).alloc hsz3 _).grown hgrow (by simp; omega) (fun k hk => (hown3.lt k hk).1)
      have HS4 := Lib.hid (HS3.out.below hbg (Nat.lt_succ_self g))
      have hbel4 := hbel3.trans (hbg.mono (by have := HGW.out; omega))
      have hsz4 := Nat.le_trans hsz3 hbg.size
      have hown5 := row_ext hown4
      clear hown4 hgrow hbg hown3 hbel3 hsz3 HS3
      go_wp2_with fail
      go_roundw
      case rel => exact ⟨k - 1, zs ++ [x], by go_num, by simp; omega, (fun z hz => by rcases List.mem_append.1 hz with q | q; exact hin.out z q; simp at q; subst q; omega), hown5, HS4.out.more (by simp; omega), hbel4, hsz4⟩
      case measure => simp [intOf]; omega
    · obtain ⟨E, ce, rfl, _⟩ := own_slice hown
      go_wp2_with fail
      go_ret
      exact ⟨E, ce, zs, rfl, wordB_of' hin.out (by omega), by omega, (OwnL.of_own hown).inn, hbel⟩

theorem own_lit (w : World) (a b c d : Int) : (w.alloc (.cells #[.int .i64 a, .int .i64 b, .int .i64 c, .int .i64 d] 2)).ownsRow w.heap.size 2 1 (.slice (some ⟨w.heap.size, 0, none⟩) 4 4) ([a, b, c, d] : List Int).length (([a, b, c, d] : List Int).map ic) := ⟨rfl, .inr ⟨w.heap.size, 4, #[.int .i64 a, .int .i64 b, .int .i64 c, .int .i64 d], rfl, Nat.le_refl _, heap_alloc_new w _, Nat.le_refl _, by unfold maxLen; omega, rfl, rfl⟩⟩
/-- A policy of one row, written as a literal. -/
theorem pol_lit (w : World) (a b c d : Int) : PolO ((w.alloc (.cells #[.int .i64 a, .int .i64 b, .int .i64 c, .int .i64 d] 2)).alloc (.cells #[.slice (some ⟨w.heap.size, 0, none⟩) 4 4] 29)) w.heap.size (some ⟨w.heap.size + 1, 0, none⟩) 1 [[a, b, c, d]] [(.slice (some ⟨w.heap.size, 0, none⟩) 4 4, [a, b, c, d])] := by
  have h0 : RowsO w w.heap.size [] := ⟨(fun i p hp => by cases hp), (fun i j p q _ hp => by cases hp)⟩
  have h1 := h0.snoc (bnew w _) (own_lit w a b c d) (Nat.le_refl _)
  refine ⟨rfl, h1.keep (bnew _ _), rfl, .inr ⟨w.heap.size + 1, 1, #[.slice (some ⟨w.heap.size, 0, none⟩) 4 4], rfl, Nat.le_succ _, ?_, Nat.le_refl _, by unfold maxLen; omega, rfl, rfl⟩⟩
  have := heap_alloc_new (w.alloc (.cells #[.int .i64 a, .int .i64 b, .int .i64 c, .int .i64 d] 2)) (.cells #[.slice (some ⟨w.heap.size, 0, none⟩) 4 4] 29)
  simpa using this
theorem InLLf.go {lo lo' n : Nat} {w w' : World} {A : Option Addr} {xs : List (List Int)} (h : InLLf lo w A n xs) (hs : SameFrom lo' w w') (hl : lo' ≤ lo) : InLLf lo w' A n xs := fun W hW => h W ((hs.mono hl).trans hW)

/-- The blocks from lo on are as they were, but for two boxes. -/
def KeptB (lo b : Nat) (a W : World) : Prop := a.heap.size ≤ W.heap.size ∧ ∀ k, lo ≤ k → k < a.heap.size → k ≠ b → k ≠ b + 1 → W.heap[k]? = a.heap[k]?
theorem KeptB.refl (lo b : Nat) (a : World) : KeptB lo b a a := ⟨Nat.le_refl _, fun _ _ _ _ _ => rfl⟩
theorem KeptB.trans {lo b : Nat} {a c d : World} (h : KeptB lo b a c) (k : KeptB lo b c d) : KeptB lo b a d := ⟨Nat.le_trans h.1 k.1, fun i h1 h2 h3 h4 => (k.2 i h1 (Nat.lt_of_lt_of_le h2 h.1) h3 h4).trans (h.2 i h1 h2 h3 h4)⟩
theorem KeptB.below {lo b : Nat} {a W : World} (h : Below a.heap.size a W) : KeptB lo b a W := ⟨h.size, fun k _ h2 _ _ => h.block k h2⟩
theorem KeptB.set {lo b c i : Nat} {a W : World} {v : Value} (h : KeptB lo b a W) (hc : c < lo ∨ c = b ∨ c = b + 1) : KeptB lo b a (W.setCell ⟨c, i, none⟩ v) := ⟨Nat.le_trans h.1 (by simp), fun k h1 h2 h3 h4 => (Below.heap_setCell _ _ _ k (by show k ≠ c; omega)).trans (h.2 k h1 h2 h3 h4)⟩
theorem KeptB.same {lo lo' b : Nat} {a W : World} (h : KeptB lo b a W) (h1 : lo ≤ lo') (h2 : b + 2 ≤ lo') : SameFrom lo' a W := ⟨h.1, fun k k1 k2 => h.2 k (by omega) k2 (by omega) (by omega)⟩

set_option maxRecDepth 100000 in
set_option maxHeartbeats 8000000 in
theorem B10Policies_c (A : Option Addr) (n c : Nat) (bs : List Nat) (w : World) (hrow : Row w w.heap.size A (bs.map bc)) (hz : bs.length = n) (hz2 : ∀ z ∈ bs, z < 256) (hn : n ≤ 140737488355328) :
    Calls Try.prog 5 #[.slice A n c] w fun e w' => ∃ A1 n1 c1 xs A2 n2 c2 ys, e = .returned (.tuple #[.agg #[.slice A1 n1 c1], .agg #[.slice A2 n2 c2]]) ∧ InLL w' w'.heap.size A1 n1 xs ∧ polB xs = true ∧ InLL w' w'.heap.size A2 n2 ys ∧ polB ys = true ∧ Below w.heap.size w w' := by
  have hb0 := bnew w (.cells #[.slice none 0 0] 26)
  have hb1 := bnew (w.alloc (.cells #[.slice none 0 0] 26)) (.cells #[.slice none 0 0] 26)
  have hbb := bon hb0 hb1
  have hR0 : BlkIs ((w.alloc (.cells #[.slice none 0 0] 26)).alloc (.cells #[.slice none 0 0] 26)) w.heap.size 26 #[.slice none 0 0] := (blk_new _ _ _ _ rfl).next hb1
  have hR1 : BlkIs ((w.alloc (.cells #[.slice none 0 0] 26)).alloc (.cells #[.slice none 0 0] 26)) (w.heap.size + 1) 26 #[.slice none 0 0] := blk_new _ _ _ _ (by simp)
  have HF := Lib.hid (l00From_c A n c bs ((w.alloc (.cells #[.slice none 0 0] 26)).alloc (.cells #[.slice none 0 0] 26)) ((hrow.below hbb (Nat.le_refl _)).more hbb.size) hz hz2 hn)
  have hW0s : ((w.alloc (.cells #[.slice none 0 0] 26)).alloc (.cells #[.slice none 0 0] 26)).heap.size = w.heap.size + 2 := by simp
  clear hrow hz hz2 hb0 hb1
  go_enter Try.func5, Try.ntmps5
  go_wp2_with fail
  generalize (w.alloc (.cells #[.slice none 0 0] 26)).alloc (.cells #[.slice none 0 0] 26) = W0 at hbb hR0 hR1 HF hW0s ⊢
  refine HF.out.mono ?_
  rintro e w1 ⟨g, rfl, hg, hs1, hb1⟩
  have HTW := Lib.hid (l10DrawTwo_c g 0 w1 hs1 (by omega))
  have hgl := hs1.lt
  have hgw : w.heap.size + 2 ≤ g := by omega
  have hW0g : W0.heap.size ≤ g := by omega
  clear HF hs1 hg hW0s
  go_wp2_with fail
  refine HTW.out.mono ?_
  rintro e w2 ⟨A1, n1, c1, xs, A2, n2, c2, ys, rfl, hp, hn1, hq, hn2, hg2⟩
  have HP0 := Lib.hid hp
  have HQ0 := Lib.hid hq
  clear hp hq
  have hw1s := hb1.size
  have hR0b := hR0.next hb1
  have hR1b := hR1.next hb1
  have hR02 := hR0b.by_grown hg2 (fun e => by have := Option.some.inj e; omega)
  have hR12 := hR1b.by_grown hg2 (fun e => by have := Option.some.inj e; omega)
  have hbw2 : Below w.heap.size w w2 := (bon hbb hb1).trans (only_below hg2 (by omega) (by have := (bon hbb hb1).size; omega))
  have ha5 := bnew w2 (.cells #[.slice A1 n1 c1] 26)
  have ha6 := bnew (w2.alloc (.cells #[.slice A1 n1 c1] 26)) (.cells #[.slice A2 n2 c2] 26)
  have hab := bon ha5 ha6
  have h5 : BlkIs ((w2.alloc (.cells #[.slice A1 n1 c1] 26)).alloc (.cells #[.slice A2 n2 c2] 26)) w2.heap.size 26 #[.slice A1 n1 c1] := (blk_new _ _ _ _ rfl).next ha6
  have h6 : BlkIs ((w2.alloc (.cells #[.slice A1 n1 c1] 26)).alloc (.cells #[.slice A2 n2 c2] 26)) (w2.heap.size + 1) 26 #[.slice A2 n2 c2] := blk_new _ _ _ _ (by simp)
  have hR03 := hR02.next hab
  have hR13 := hR12.next hab
  have hbw3 := bon hbw2 hab
  have HP : Hid (∀ W, KeptB w1.heap.size w2.heap.size ((w2.alloc (.cells #[.slice A1 n1 c1] 26)).alloc (.cells #[.slice A2 n2 c2] 26)) W → InLL W W.heap.size A1 n1 xs) := fun W h => HP0.out W ⟨Nat.le_trans hab.size h.1, fun k h1 h2 => (h.2 k h1 (Nat.lt_of_lt_of_le h2 hab.size) (by omega) (by omega)).trans (hab.block k h2)⟩
  have HQ : Hid (∀ W, KeptB w1.heap.size w2.heap.size ((w2.alloc (.cells #[.slice A1 n1 c1] 26)).alloc (.cells #[.slice A2 n2 c2] 26)) W → InLL W W.heap.size A2 n2 ys) := fun W h => HQ0.out W ⟨Nat.le_trans hab.size h.1, fun k h1 h2 => (h.2 k h1 (Nat.lt_of_lt_of_le h2 hab.size) (by omega) (by omega)).trans (hab.block k h2)⟩
  have hW3s : ((w2.alloc (.cells #[.slice A1 n1 c1] 26)).alloc (.cells #[.slice A2 n2 c2] 26)).heap.size = w2.heap.size + 2 := by simp
  have hg2s := hg2.size
  clear HP0 HQ0 hR0 hR1 hR0b hR1b hR02 hR12 ha5 ha6 hab HTW hg2
  go_wp2_with fail
  generalize (w2.alloc (.cells #[.slice A1 n1 c1] 26)).alloc (.cells #[.slice A2 n2 c2] 26) = W3 at h5 h6 hR03 hR13 hbw3 HP HQ hW3s ⊢
  generalize w2.heap.size = b5 at h5 h6 hW3s hg2s HP HQ ⊢
  have p5 : W3.cell? ⟨b5, 0, none⟩ = some (.slice A1 n1 c1) := h5.cell 0
  have hszx : b5 + 2 ≤ W3.heap.size := by omega
  have h5x := h5
  have h6x := h6
  have hR0x := hR03
  have hR1x := hR13
  have hbwx := hbw3
  have HPx := HP
  have HQx := HQ
  clear h5 h6 hR03 hR13 hbw3 HP HQ hW3s
  have hb5w : w1.heap.size ≤ b5 := hg2s
  have hin5 := HPx.out W3 (KeptB.refl _ _ _)
  cases hv : polB xs with
  | true =>
    have HVx := Lib.hid hv
    have hl := l10Is_c b5 0 A1 n1 c1 W3.heap.size xs W3 p5 hin5 (by omega)
    rw [hv] at hl
    have HL := Lib.hid hl
    clear hl hv hin5
    refine HL.out.mono ?_
    rintro e w6 ⟨rfl, rfl⟩
    clear HL p5
    go_wp2_with fail
    generalize W3 = W4 at h5x h6x hR0x hR1x hbwx HPx HQx hszx ⊢
    have p6 : W4.cell? ⟨b5 + 1, 0, none⟩ = some (.slice A2 n2 c2) := h6x.cell 0
    have hq4 := HQx.out W4 (KeptB.refl _ _ _)
    cases hu : polB ys with
    | true =>
      have HUx := Lib.hid hu
      have hl := l10Is_c (b5 + 1) 0 A2 n2 c2 W4.heap.size ys W4 p6 hq4 (by omega)
      rw [hu] at hl
      have HL := Lib.hid hl
      clear hl hu hq4
      refine HL.out.mono ?_
      rintro e w6 ⟨rfl, rfl⟩
      clear HL p6
      go_wp2_with fail
      generalize W4 = W5 at h5x h6x hR0x hR1x hbwx HPx HQx hszx ⊢
      have y0 : W5.cell? ⟨w.heap.size, 0, none⟩ = some (.slice none 0 0) := hR0x.cell 0
      have y1 : W5.cell? ⟨w.heap.size + 1, 0, none⟩ = some (.slice none 0 0) := hR1x.cell 0
      have y2 := hR0x.frozen 0
      have y3 := hR1x.frozen 0
      have y4 : W5.cell? ⟨b5, 0, none⟩ = some (.slice A1 n1 c1) := h5x.cell 0
      have y5 : W5.cell? ⟨b5 + 1, 0, none⟩ = some (.slice A2 n2 c2) := h6x.cell 0
      have z0 := (hR0x.set 0 (.slice A1 n1 c1)).far (show w.heap.size ≠ w.heap.size + 1 by omega) 0 (.slice A2 n2 c2)
      have z1 := (hR1x.far (show w.heap.size + 1 ≠ w.heap.size by omega) 0 (.slice A1 n1 c1)).set 0 (.slice A2 n2 c2)
      have k0 := z0.cell 0
      have k1 := z1.cell 0
      simp at k0 k1
      have ne1 : ¬ b5 = w.heap.size := by omega
      have ne2 : ¬ b5 = w.heap.size + 1 := by omega
      have ne3 : ¬ b5 + 1 = w.heap.size := by omega
      have ne4 : ¬ b5 = w.heap.size := by omega
      go_wp2_with fail
      go_region
      all_goals (
        have hsf : KeptB w1.heap.size b5 W5 ((W5.setCell ⟨w.heap.size, 0, none⟩ (.slice A1 n1 c1)).setCell ⟨w.heap.size + 1, 0, none⟩ (.slice A2 n2 c2)) := ((KeptB.refl _ _ W5).set (by omega)).set (by omega)
        have J1 := Lib.hid (HPx.out ((W5.setCell ⟨w.heap.size, 0, none⟩ (.slice A1 n1 c1)).setCell ⟨w.heap.size + 1, 0, none⟩ (.slice A2 n2 c2)) hsf)
        have J2 := Lib.hid (HQx.out ((W5.setCell ⟨w.heap.size, 0, none⟩ (.slice A1 n1 c1)).setCell ⟨w.heap.size + 1, 0, none⟩ (.slice A2 n2 c2)) hsf)
        have J3 : Hid (Below w.heap.size w ((W5.setCell ⟨w.heap.size, 0, none⟩ (.slice A1 n1 c1)).setCell ⟨w.heap.size + 1, 0, none⟩ (.slice A2 n2 c2))) := (hbwx.setCell (p := ⟨w.heap.size, 0, none⟩) (Nat.le_refl _) _).setCell (p := ⟨w.heap.size + 1, 0, none⟩) (Nat.le_succ _) _
        clear hsf
        go_wp2_with fail
        exact bodyPost_ret (v := .tuple #[.agg #[.slice A1 n1 c1], .agg #[.slice A2 n2 c2]]) (by simp [results, Try.results5, go_sem, k0, k1]) rfl ⟨A1, n1, c1, xs, A2, n2, c2, ys, rfl, J1.out, HVx.out, J2.out, HUx.out, J3.out.drew⟩)
    | false =>
      have hl := l10Is_c (b5 + 1) 0 A2 n2 c2 W4.heap.size ys W4 p6 hq4 (by omega)
      rw [hu] at hl
      have HL := Lib.hid hl
      clear hl hu hq4
      have HUx : Hid (polB [[0, 0, 0, 0]] = true) := by show _ = _; decide
      have hb7 := bon (bnew W4 (.cells #[.int .i64 0, .int .i64 0, .int .i64 0, .int .i64 0] 2)) (bnew (W4.alloc (.cells #[.int .i64 0, .int .i64 0, .int .i64 0, .int .i64 0] 2)) (.cells #[.slice (some ⟨W4.heap.size, 0, none⟩) 4 4] 29))
      have hp7 := pol_lit W4 0 0 0 0
      have hs7 : ((W4.alloc (.cells #[.int .i64 0, .int .i64 0, .int .i64 0, .int .i64 0] 2)).alloc (.cells #[.slice (some ⟨W4.heap.size, 0, none⟩) 4 4] 29)).heap.size = W4.heap.size + 2 := by simp
      have h57 := h5x.next hb7
      have h67 := h6x.next hb7
      have hR07 := hR0x.next hb7
      have hR17 := hR1x.next hb7
      have hbw7 := bon hbwx hb7
      have q0 := h67.cell 0
      have q1 := h67.frozen 0
      simp at q0
      have h8 := h67.set 0 (.slice (some ⟨W4.heap.size + 1, 0, none⟩) 1 1)
      simp at h8
      have h9 := h57.far (by omega) 0 (.slice (some ⟨W4.heap.size + 1, 0, none⟩) 1 1) (g' := b5 + 1)
      have hR08 := hR07.far (by omega) 0 (.slice (some ⟨W4.heap.size + 1, 0, none⟩) 1 1) (g' := b5 + 1)
      have hR18 := hR17.far (by omega) 0 (.slice (some ⟨W4.heap.size + 1, 0, none⟩) 1 1) (g' := b5 + 1)
      have hbw8 := hbw7.setCell (p := ⟨b5 + 1, 0, none⟩) (by show w.heap.size ≤ b5 + 1; omega) (.slice (some ⟨W4.heap.size + 1, 0, none⟩) 1 1)
      have HP8 : Hid (∀ W, KeptB w1.heap.size b5 (((W4.alloc (.cells #[.int .i64 0, .int .i64 0, .int .i64 0, .int .i64 0] 2)).alloc (.cells #[.slice (some ⟨W4.heap.size, 0, none⟩) 4 4] 29)).setCell ⟨b5 + 1, 0, none⟩ (.slice (some ⟨W4.heap.size + 1, 0, none⟩) 1 1)) W → InLL W W.heap.size A1 n1 xs) := fun W9 h9 => HPx.out W9 (((KeptB.below hb7).set (.inr (.inr rfl))).trans h9)
      have HN8 : Hid (∀ W, KeptB w1.heap.size b5 (((W4.alloc (.cells #[.int .i64 0, .int .i64 0, .int .i64 0, .int .i64 0] 2)).alloc (.cells #[.slice (some ⟨W4.heap.size, 0, none⟩) 4 4] 29)).setCell ⟨b5 + 1, 0, none⟩ (.slice (some ⟨W4.heap.size + 1, 0, none⟩) 1 1)) W → InLL W W.heap.size (some ⟨W4.heap.size + 1, 0, none⟩) 1 [[0, 0, 0, 0]]) := fun W9 h9 => ((hp7.far (by omega)).same (h9.same (by omega) (by omega))).inn
      have hs8 : b5 + 2 ≤ (((W4.alloc (.cells #[.int .i64 0, .int .i64 0, .int .i64 0, .int .i64 0] 2)).alloc (.cells #[.slice (some ⟨W4.heap.size, 0, none⟩) 4 4] 29)).setCell ⟨b5 + 1, 0, none⟩ (.slice (some ⟨W4.heap.size + 1, 0, none⟩) 1 1)).heap.size := by simp; omega
      clear hb7 hp7
      refine HL.out.mono ?_
      rintro e w6 ⟨rfl, rfl⟩
      go_wp2_with fail
      clear h5x h6x hR0x hR1x hbwx HPx HQx hszx
      generalize (((W4.alloc (.cells #[.int .i64 0, .int .i64 0, .int .i64 0, .int .i64 0] 2)).alloc (.cells #[.slice (some ⟨W4.heap.size, 0, none⟩) 4 4] 29)).setCell ⟨b5 + 1, 0, none⟩ (.slice (some ⟨W4.heap.size + 1, 0, none⟩) 1 1)) = W5 at h8 h9 hR08 hR18 hbw8 HN8 hs8 HP8 ⊢
      have h6x := h8
      have h5x := h9
      have hR0x := hR08
      have hR1x := hR18
      have hbwx := hbw8
      have hszx := hs8
      have HQx := HN8
      have HPx := HP8
      have y0 : W5.cell? ⟨w.heap.size, 0, none⟩ = some (.slice none 0 0) := hR0x.cell 0
      have y1 : W5.cell? ⟨w.heap.size + 1, 0, none⟩ = some (.slice none 0 0) := hR1x.cell 0
      have y2 := hR0x.frozen 0
      have y3 := hR1x.frozen 0
      have y4 : W5.cell? ⟨b5, 0, none⟩ = some (.slice A1 n1 c1) := h5x.cell 0
      have y5 : W5.cell? ⟨b5 + 1, 0, none⟩ = some (.slice (some ⟨W4.heap.size + 1, 0, none⟩) 1 1) := h6x.cell 0
      have z0 := (hR0x.set 0 (.slice A1 n1 c1)).far (show w.heap.size ≠ w.heap.size + 1 by omega) 0 (.slice (some ⟨W4.heap.size + 1, 0, none⟩) 1 1)
      have z1 := (hR1x.far (show w.heap.size + 1 ≠ w.heap.size by omega) 0 (.slice A1 n1 c1)).set 0 (.slice (some ⟨W4.heap.size + 1, 0, none⟩) 1 1)
      have k0 := z0.cell 0
      have k1 := z1.cell 0
      simp at k0 k1
      have ne1 : ¬ b5 = w.heap.size := by omega
      have ne2 : ¬ b5 = w.heap.size + 1 := by omega
      have ne3 : ¬ b5 + 1 = w.heap.size := by omega
      have ne4 : ¬ b5 = w.heap.size := by omega
      go_wp2_with fail
      go_region
      all_goals (
        have hsf : KeptB w1.heap.size b5 W5 ((W5.setCell ⟨w.heap.size, 0, none⟩ (.slice A1 n1 c1)).setCell ⟨w.heap.size + 1, 0, none⟩ (.slice (some ⟨W4.heap.size + 1, 0, none⟩) 1 1)) := ((KeptB.refl _ _ W5).set (by omega)).set (by omega)
        have J1 := Lib.hid (HPx.out ((W5.setCell ⟨w.heap.size, 0, none⟩ (.slice A1 n1 c1)).setCell ⟨w.heap.size + 1, 0, none⟩ (.slice (some ⟨W4.heap.size + 1, 0, none⟩) 1 1)) hsf)
        have J2 := Lib.hid (HQx.out ((W5.setCell ⟨w.heap.size, 0, none⟩ (.slice A1 n1 c1)).setCell ⟨w.heap.size + 1, 0, none⟩ (.slice (some ⟨W4.heap.size + 1, 0, none⟩) 1 1)) hsf)
        have J3 : Hid (Below w.heap.size w ((W5.setCell ⟨w.heap.size, 0, none⟩ (.slice A1 n1 c1)).setCell ⟨w.heap.size + 1, 0, none⟩ (.slice (some ⟨W4.heap.size + 1, 0, none⟩) 1 1))) := (hbwx.setCell (p := ⟨w.heap.size, 0, none⟩) (Nat.le_refl _) _).setCell (p := ⟨w.heap.size + 1, 0, none⟩) (Nat.le_succ _) _
        clear hsf
        go_wp2_with fail
        exact bodyPost_ret (v := .tuple #[.agg #[.slice A1 n1 c1], .agg #[.slice (some ⟨W4.heap.size + 1, 0, none⟩) 1 1]]) (by simp [results, Try.results5, go_sem, k0, k1]) rfl ⟨A1, n1, c1, xs, (some ⟨W4.heap.size + 1, 0, none⟩), 1, 1, [[0, 0, 0, 0]], rfl, J1.out, HVx.out, J2.out, HUx.out, J3.out.drew⟩)
  | false =>
    have HVx : Hid (polB [[0, 0, -1, 0]] = true) := by show _ = _; decide
    have hl := l10Is_c b5 0 A1 n1 c1 W3.heap.size xs W3 p5 hin5 (by omega)
    rw [hv] at hl
    have HL := Lib.hid hl
    clear hl hv hin5
    have hb7 := bon (bnew W3 (.cells #[.int .i64 0, .int .i64 0, .int .i64 (-1), .int .i64 0] 2)) (bnew (W3.alloc (.cells #[.int .i64 0, .int .i64 0, .int .i64 (-1), .int .i64 0] 2)) (.cells #[.slice (some ⟨W3.heap.size, 0, none⟩) 4 4] 29))
    have hp7 := pol_lit W3 0 0 (-1) 0
    have hs7 : ((W3.alloc (.cells #[.int .i64 0, .int .i64 0, .int .i64 (-1), .int .i64 0] 2)).alloc (.cells #[.slice (some ⟨W3.heap.size, 0, none⟩) 4 4] 29)).heap.size = W3.heap.size + 2 := by simp
    have h57 := h5x.next hb7
    have h67 := h6x.next hb7
    have hR07 := hR0x.next hb7
    have hR17 := hR1x.next hb7
    have hbw7 := bon hbwx hb7
    have q0 := h57.cell 0
    have q1 := h57.frozen 0
    simp at q0
    have h8 := h57.set 0 (.slice (some ⟨W3.heap.size + 1, 0, none⟩) 1 1)
    simp at h8
    have h9 := h67.far (by omega) 0 (.slice (some ⟨W3.heap.size + 1, 0, none⟩) 1 1) (g' := b5)
    have hR08 := hR07.far (by omega) 0 (.slice (some ⟨W3.heap.size + 1, 0, none⟩) 1 1) (g' := b5)
    have hR18 := hR17.far (by omega) 0 (.slice (some ⟨W3.heap.size + 1, 0, none⟩) 1 1) (g' := b5)
    have hbw8 := hbw7.setCell (p := ⟨b5, 0, none⟩) (by show w.heap.size ≤ b5; omega) (.slice (some ⟨W3.heap.size + 1, 0, none⟩) 1 1)
    have HQ8 : Hid (∀ W, KeptB w1.heap.size b5 (((W3.alloc (.cells #[.int .i64 0, .int .i64 0, .int .i64 (-1), .int .i64 0] 2)).alloc (.cells #[.slice (some ⟨W3.heap.size, 0, none⟩) 4 4] 29)).setCell ⟨b5, 0, none⟩ (.slice (some ⟨W3.heap.size + 1, 0, none⟩) 1 1)) W → InLL W W.heap.size A2 n2 ys) := fun W9 h9 => HQx.out W9 (((KeptB.below hb7).set (.inr (.inl rfl))).trans h9)
    have HN8 : Hid (∀ W, KeptB w1.heap.size b5 (((W3.alloc (.cells #[.int .i64 0, .int .i64 0, .int .i64 (-1), .int .i64 0] 2)).alloc (.cells #[.slice (some ⟨W3.heap.size, 0, none⟩) 4 4] 29)).setCell ⟨b5, 0, none⟩ (.slice (some ⟨W3.heap.size + 1, 0, none⟩) 1 1)) W → InLL W W.heap.size (some ⟨W3.heap.size + 1, 0, none⟩) 1 [[0, 0, (-1), 0]]) := fun W9 h9 => ((hp7.far (by omega)).same (h9.same (by omega) (by omega))).inn
    have hs8 : b5 + 2 ≤ (((W3.alloc (.cells #[.int .i64 0, .int .i64 0, .int .i64 (-1), .int .i64 0] 2)).alloc (.cells #[.slice (some ⟨W3.heap.size, 0, none⟩) 4 4] 29)).setCell ⟨b5, 0, none⟩ (.slice (some ⟨W3.heap.size + 1, 0, none⟩) 1 1)).heap.size := by simp; omega
    clear hb7 hp7
    refine HL.out.mono ?_
    rintro e w6 ⟨rfl, rfl⟩
    go_wp2_with fail
    clear h5x h6x hR0x hR1x hbwx HPx HQx hszx
    generalize (((W3.alloc (.cells #[.int .i64 0, .int .i64 0, .int .i64 (-1), .int .i64 0] 2)).alloc (.cells #[.slice (some ⟨W3.heap.size, 0, none⟩) 4 4] 29)).setCell ⟨b5, 0, none⟩ (.slice (some ⟨W3.heap.size + 1, 0, none⟩) 1 1)) = W4 at h8 h9 hR08 hR18 hbw8 HN8 hs8 HQ8 ⊢
    have h5x := h8
    have h6x := h9
    have hR0x := hR08
    have hR1x := hR18
    have hbwx := hbw8
    have hszx := hs8
    have HPx := HN8
    have HQx := HQ8
    have p6 : W4.cell? ⟨b5 + 1, 0, none⟩ = some (.slice A2 n2 c2) := h6x.cell 0
    have hq4 := HQx.out W4 (KeptB.refl _ _ _)
    cases hu : polB ys with
    | true =>
      have HUx := Lib.hid hu
      have hl := l10Is_c (b5 + 1) 0 A2 n2 c2 W4.heap.size ys W4 p6 hq4 (by omega)
      rw [hu] at hl
      have HL := Lib.hid hl
      clear hl hu hq4
      refine HL.out.mono ?_
      rintro e w6 ⟨rfl, rfl⟩
      clear HL p6
      go_wp2_with fail
      generalize W4 = W5 at h5x h6x hR0x hR1x hbwx HPx HQx hszx ⊢
      have y0 : W5.cell? ⟨w.heap.size, 0, none⟩ = some (.slice none 0 0) := hR0x.cell 0
      have y1 : W5.cell? ⟨w.heap.size + 1, 0, none⟩ = some (.slice none 0 0) := hR1x.cell 0
      have y2 := hR0x.frozen 0
      have y3 := hR1x.frozen 0
      have y4 : W5.cell? ⟨b5, 0, none⟩ = some (.slice (some ⟨W3.heap.size + 1, 0, none⟩) 1 1) := h5x.cell 0
      have y5 : W5.cell? ⟨b5 + 1, 0, none⟩ = some (.slice A2 n2 c2) := h6x.cell 0
      have z0 := (hR0x.set 0 (.slice (some ⟨W3.heap.size + 1, 0, none⟩) 1 1)).far (show w.heap.size ≠ w.heap.size + 1 by omega) 0 (.slice A2 n2 c2)
      have z1 := (hR1x.far (show w.heap.size + 1 ≠ w.heap.size by omega) 0 (.slice (some ⟨W3.heap.size + 1, 0, none⟩) 1 1)).set 0 (.slice A2 n2 c2)
      have k0 := z0.cell 0
      have k1 := z1.cell 0
      simp at k0 k1
      have ne1 : ¬ b5 = w.heap.size := by omega
      have ne2 : ¬ b5 = w.heap.size + 1 := by omega
      have ne3 : ¬ b5 + 1 = w.heap.size := by omega
      have ne4 : ¬ b5 = w.heap.size := by omega
      go_wp2_with fail
      go_region
      all_goals (
        have hsf : KeptB w1.heap.size b5 W5 ((W5.setCell ⟨w.heap.size, 0, none⟩ (.slice (some ⟨W3.heap.size + 1, 0, none⟩) 1 1)).setCell ⟨w.heap.size + 1, 0, none⟩ (.slice A2 n2 c2)) := ((KeptB.refl _ _ W5).set (by omega)).set (by omega)
        have J1 := Lib.hid (HPx.out ((W5.setCell ⟨w.heap.size, 0, none⟩ (.slice (some ⟨W3.heap.size + 1, 0, none⟩) 1 1)).setCell ⟨w.heap.size + 1, 0, none⟩ (.slice A2 n2 c2)) hsf)
        have J2 := Lib.hid (HQx.out ((W5.setCell ⟨w.heap.size, 0, none⟩ (.slice (some ⟨W3.heap.size + 1, 0, none⟩) 1 1)).setCell ⟨w.heap.size + 1, 0, none⟩ (.slice A2 n2 c2)) hsf)
        have J3 : Hid (Below w.heap.size w ((W5.setCell ⟨w.heap.size, 0, none⟩ (.slice (some ⟨W3.heap.size + 1, 0, none⟩) 1 1)).setCell ⟨w.heap.size + 1, 0, none⟩ (.slice A2 n2 c2))) := (hbwx.setCell (p := ⟨w.heap.size, 0, none⟩) (Nat.le_refl _) _).setCell (p := ⟨w.heap.size + 1, 0, none⟩) (Nat.le_succ _) _
        clear hsf
        go_wp2_with fail
        exact bodyPost_ret (v := .tuple #[.agg #[.slice (some ⟨W3.heap.size + 1, 0, none⟩) 1 1], .agg #[.slice A2 n2 c2]]) (by simp [results, Try.results5, go_sem, k0, k1]) rfl ⟨(some ⟨W3.heap.size + 1, 0, none⟩), 1, 1, [[0, 0, -1, 0]], A2, n2, c2, ys, rfl, J1.out, HVx.out, J2.out, HUx.out, J3.out.drew⟩)
    | false =>
      have hl := l10Is_c (b5 + 1) 0 A2 n2 c2 W4.heap.size ys W4 p6 hq4 (by omega)
      rw [hu] at hl
      have HL := Lib.hid hl
      clear hl hu hq4
      have HUx : Hid (polB [[0, 0, 0, 0]] = true) := by show _ = _; decide
      have hb7 := bon (bnew W4 (.cells #[.int .i64 0, .int .i64 0, .int .i64 0, .int .i64 0] 2)) (bnew (W4.alloc (.cells #[.int .i64 0, .int .i64 0, .int .i64 0, .int .i64 0] 2)) (.cells #[.slice (some ⟨W4.heap.size, 0, none⟩) 4 4] 29))
      have hp7 := pol_lit W4 0 0 0 0
      have hs7 : ((W4.alloc (.cells #[.int .i64 0, .int .i64 0, .int .i64 0, .int .i64 0] 2)).alloc (.cells #[.slice (some ⟨W4.heap.size, 0, none⟩) 4 4] 29)).heap.size = W4.heap.size + 2 := by simp
      have h57 := h5x.next hb7
      have h67 := h6x.next hb7
      have hR07 := hR0x.next hb7
      have hR17 := hR1x.next hb7
      have hbw7 := bon hbwx hb7
      have q0 := h67.cell 0
      have q1 := h67.frozen 0
      simp at q0
      have h8 := h67.set 0 (.slice (some ⟨W4.heap.size + 1, 0, none⟩) 1 1)
      simp at h8
      have h9 := h57.far (by omega) 0 (.slice (some ⟨W4.heap.size + 1, 0, none⟩) 1 1) (g' := b5 + 1)
      have hR08 := hR07.far (by omega) 0 (.slice (some ⟨W4.heap.size + 1, 0, none⟩) 1 1) (g' := b5 + 1)
      have hR18 := hR17.far (by omega) 0 (.slice (some ⟨W4.heap.size + 1, 0, none⟩) 1 1) (g' := b5 + 1)
      have hbw8 := hbw7.setCell (p := ⟨b5 + 1, 0, none⟩) (by show w.heap.size ≤ b5 + 1; omega) (.slice (some ⟨W4.heap.size + 1, 0, none⟩) 1 1)
      have HP8 : Hid (∀ W, KeptB w1.heap.size b5 (((W4.alloc (.cells #[.int .i64 0, .int .i64 0, .int .i64 0, .int .i64 0] 2)).alloc (.cells #[.slice (some ⟨W4.heap.size, 0, none⟩) 4 4] 29)).setCell ⟨b5 + 1, 0, none⟩ (.slice (some ⟨W4.heap.size + 1, 0, none⟩) 1 1)) W → InLL W W.heap.size (some ⟨W3.heap.size + 1, 0, none⟩) 1 [[0, 0, -1, 0]]) := fun W9 h9 => HPx.out W9 (((KeptB.below hb7).set (.inr (.inr rfl))).trans h9)
      have HN8 : Hid (∀ W, KeptB w1.heap.size b5 (((W4.alloc (.cells #[.int .i64 0, .int .i64 0, .int .i64 0, .int .i64 0] 2)).alloc (.cells #[.slice (some ⟨W4.heap.size, 0, none⟩) 4 4] 29)).setCell ⟨b5 + 1, 0, none⟩ (.slice (some ⟨W4.heap.size + 1, 0, none⟩) 1 1)) W → InLL W W.heap.size (some ⟨W4.heap.size + 1, 0, none⟩) 1 [[0, 0, 0, 0]]) := fun W9 h9 => ((hp7.far (by omega)).same (h9.same (by omega) (by omega))).inn
      have hs8 : b5 + 2 ≤ (((W4.alloc (.cells #[.int .i64 0, .int .i64 0, .int .i64 0, .int .i64 0] 2)).alloc (.cells #[.slice (some ⟨W4.heap.size, 0, none⟩) 4 4] 29)).setCell ⟨b5 + 1, 0, none⟩ (.slice (some ⟨W4.heap.size + 1, 0, none⟩) 1 1)).heap.size := by simp; omega
      clear hb7 hp7
      refine HL.out.mono ?_
      rintro e w6 ⟨rfl, rfl⟩
      go_wp2_with fail
      clear h5x h6x hR0x hR1x hbwx HPx HQx hszx
      generalize (((W4.alloc (.cells #[.int .i64 0, .int .i64 0, .int .i64 0, .int .i64 0] 2)).alloc (.cells #[.slice (some ⟨W4.heap.size, 0, none⟩) 4 4] 29)).setCell ⟨b5 + 1, 0, none⟩ (.slice (some ⟨W4.heap.size + 1, 0, none⟩) 1 1)) = W5 at h8 h9 hR08 hR18 hbw8 HN8 hs8 HP8 ⊢
      have h6x := h8
      have h5x := h9
      have hR0x := hR08
      have hR1x := hR18
      have hbwx := hbw8
      have hszx := hs8
      have HQx := HN8
      have HPx := HP8
      have y0 : W5.cell? ⟨w.heap.size, 0, none⟩ = some (.slice none 0 0) := hR0x.cell 0
      have y1 : W5.cell? ⟨w.heap.size + 1, 0, none⟩ = some (.slice none 0 0) := hR1x.cell 0
      have y2 := hR0x.frozen 0
      have y3 := hR1x.frozen 0
      have y4 : W5.cell? ⟨b5, 0, none⟩ = some (.slice (some ⟨W3.heap.size + 1, 0, none⟩) 1 1) := h5x.cell 0
      have y5 : W5.cell? ⟨b5 + 1, 0, none⟩ = some (.slice (some ⟨W4.heap.size + 1, 0, none⟩) 1 1) := h6x.cell 0
      have z0 := (hR0x.set 0 (.slice (some ⟨W3.heap.size + 1, 0, none⟩) 1 1)).far (show w.heap.size ≠ w.heap.size + 1 by omega) 0 (.slice (some ⟨W4.heap.size + 1, 0, none⟩) 1 1)
      have z1 := (hR1x.far (show w.heap.size + 1 ≠ w.heap.size by omega) 0 (.slice (some ⟨W3.heap.size + 1, 0, none⟩) 1 1)).set 0 (.slice (some ⟨W4.heap.size + 1, 0, none⟩) 1 1)
      have k0 := z0.cell 0
      have k1 := z1.cell 0
      simp at k0 k1
      have ne1 : ¬ b5 = w.heap.size := by omega
      have ne2 : ¬ b5 = w.heap.size + 1 := by omega
      have ne3 : ¬ b5 + 1 = w.heap.size := by omega
      have ne4 : ¬ b5 = w.heap.size := by omega
      go_wp2_with fail
      go_region
      all_goals (
        have hsf : KeptB w1.heap.size b5 W5 ((W5.setCell ⟨w.heap.size, 0, none⟩ (.slice (some ⟨W3.heap.size + 1, 0, none⟩) 1 1)).setCell ⟨w.heap.size + 1, 0, none⟩ (.slice (some ⟨W4.heap.size + 1, 0, none⟩) 1 1)) := ((KeptB.refl _ _ W5).set (by omega)).set (by omega)
        have J1 := Lib.hid (HPx.out ((W5.setCell ⟨w.heap.size, 0, none⟩ (.slice (some ⟨W3.heap.size + 1, 0, none⟩) 1 1)).setCell ⟨w.heap.size + 1, 0, none⟩ (.slice (some ⟨W4.heap.size + 1, 0, none⟩) 1 1)) hsf)
        have J2 := Lib.hid (HQx.out ((W5.setCell ⟨w.heap.size, 0, none⟩ (.slice (some ⟨W3.heap.size + 1, 0, none⟩) 1 1)).setCell ⟨w.heap.size + 1, 0, none⟩ (.slice (some ⟨W4.heap.size + 1, 0, none⟩) 1 1)) hsf)
        have J3 : Hid (Below w.heap.size w ((W5.setCell ⟨w.heap.size, 0, none⟩ (.slice (some ⟨W3.heap.size + 1, 0, none⟩) 1 1)).setCell ⟨w.heap.size + 1, 0, none⟩ (.slice (some ⟨W4.heap.size + 1, 0, none⟩) 1 1))) := (hbwx.setCell (p := ⟨w.heap.size, 0, none⟩) (Nat.le_refl _) _).setCell (p := ⟨w.heap.size + 1, 0, none⟩) (Nat.le_succ _) _
        clear hsf
        go_wp2_with fail
        exact bodyPost_ret (v := .tuple #[.agg #[.slice (some ⟨W3.heap.size + 1, 0, none⟩) 1 1], .agg #[.slice (some ⟨W4.heap.size + 1, 0, none⟩) 1 1]]) (by simp [results, Try.results5, go_sem, k0, k1]) rfl ⟨(some ⟨W3.heap.size + 1, 0, none⟩), 1, 1, [[0, 0, -1, 0]], (some ⟨W4.heap.size + 1, 0, none⟩), 1, 1, [[0, 0, 0, 0]], rfl, J1.out, HVx.out, J2.out, HUx.out, J3.out.drew⟩)
end Go.Proofs.Ytpdgnmdjneakgaa
