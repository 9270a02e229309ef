/-
  Several texts in one: Unf, UnfK, MinI, MinN, ClsOne, ClsAll, ClasI, MinO, MinT, Prod, BothM, BothS. Conditions: as each says.
-/
import Derived.Test.YtpdgnmdjneakgaaUnfM
import Derived.Test.YtpdgnmdjneakgaaRepeat
import Derived.Test.YtpdgnmdjneakgaaPolS
import Derived.Test.YtpdgnmdjneakgaaRound
import Derived.Deep.RegionHeld3
import Derived.Test.YtpdgnmdjneakgaaMinC
import Derived.Test.YtpdgnmdjneakgaaWorkR
import Derived.Test.YtpdgnmdjneakgaaAlikM
import Derived.Test.YtpdgnmdjneakgaaRowsO
import Derived.Test.YtpdgnmdjneakgaaMinS
import Derived.Test.YtpdgnmdjneakgaaBothP
import Derived.Test.YtpdgnmdjneakgaaUnfQ

/-! unfolded, over the numbers of a policy's states. Conditions: at most 1000 items. -/
namespace Go.Proofs.Ytpdgnmdjneakgaa
set_option linter.unusedVariables false
open Go.RowKit Go.Shelf Go.Deep
attribute [local go_sem] Oper.semAt_some

/-- What unfolded gives. -/
def UnfR (st : Int → Nat → Int × Bool) (x0 : Int) (w : World) (e : Ending) (w' : World) : Prop :=
  ∃ L R v gs A c, UnfEnd st x0 L R ∧ e = .returned (.tuple #[.agg #[v], .slice A L.length c]) ∧ RowsP w' w.heap.size v gs R (fun k => (Value.slice A 0 0).ownBlock = some k) ∧ w'.ownsRow w.heap.size 2 1 (.slice A L.length c) L.length (L.map ic) ∧ Below w.heap.size w w'

set_option maxRecDepth 100000 in
set_option maxHeartbeats 4000000 in
theorem unfolded_in (st : Int → Nat → Int × Bool) (N : Nat) (hst : Stays st N) (hN : N ≤ 1000) (x0 : Int) (hx0 : 0 ≤ x0 ∧ x0 < (N : Int)) (A0 : Option Addr) (n0 c0 : Nat) (w : World)
    (HF0 : ∀ (W : World) (x : Int) (e : Nat), Below w.heap.size w W → 0 ≤ x → x < (N : Int) → e < 4 → Calls Try.prog 19 #[.agg #[.slice A0 n0 c0], .int .i64 x, .int .i64 (e : Int)] W fun v w' => v = .returned (.tuple #[.int .i64 (st x e).1, .bool (st x e).2]) ∧ Below W.heap.size W w') :
    CallsIn Fence.wide 5 Try.prog 37 #[.int .i64 x0, .func (.func 19) #[.agg #[.slice A0 n0 c0]] #[]] w (UnfR st x0 w) := by
  refine callsIn_of_wp_marks Try.func37 rfl trivial ?_ rfl
  simp only [Try.ntmps37, List.size_toArray, List.length_cons, List.length_nil, Nat.reduceAdd, Nat.reduceSub, Array.replicate_succ, Array.replicate_zero, List.push_toArray, List.append_toArray, List.nil_append, List.cons_append]
  obtain ⟨FV, hFV⟩ : ∃ FV : Value, FV = .func (.func 19) #[.agg #[.slice A0 n0 c0]] #[] := ⟨_, rfl⟩
  have HF := Lib.hid HF0
  clear HF0
  have hB0 : Below w.heap.size w ((((w.alloc (.cells #[.func (.func 19) #[.agg #[.slice A0 n0 c0]] #[]] 50)).alloc (.cells #[.slice none 0 0] 26)).alloc (.cells #[.slice none 0 0] 26)).alloc (.cells #[.slice none 0 0, .map none] 96)) := bon (bon (bon (bnew _ _) (bnew _ _)) (bnew _ _)) (bnew _ _)
  have hsz : (((((w.alloc (.cells #[.func (.func 19) #[.agg #[.slice A0 n0 c0]] #[]] 50)).alloc (.cells #[.slice none 0 0] 26)).alloc (.cells #[.slice none 0 0] 26)).alloc (.cells #[.slice none 0 0, .map none] 96))).heap.size = w.heap.size + 4 := by simp
  have b0 : BlkIs ((((w.alloc (.cells #[.func (.func 19) #[.agg #[.slice A0 n0 c0]] #[]] 50)).alloc (.cells #[.slice none 0 0] 26)).alloc (.cells #[.slice none 0 0] 26)).alloc (.cells #[.slice none 0 0, .map none] 96)) w.heap.size 50 #[.func (.func 19) #[.agg #[.slice A0 n0 c0]] #[]] := (((blk_new _ _ _ _ rfl).next (bnew _ _)).next (bnew _ _)).next (bnew _ _)
  have b1 : BlkIs ((((w.alloc (.cells #[.func (.func 19) #[.agg #[.slice A0 n0 c0]] #[]] 50)).alloc (.cells #[.slice none 0 0] 26)).alloc (.cells #[.slice none 0 0] 26)).alloc (.cells #[.slice none 0 0, .map none] 96)) (w.heap.size + 1) 26 #[.slice none 0 0] := ((blk_new _ _ _ _ (by simp)).next (bnew _ _)).next (bnew _ _)
  have b2 : BlkIs ((((w.alloc (.cells #[.func (.func 19) #[.agg #[.slice A0 n0 c0]] #[]] 50)).alloc (.cells #[.slice none 0 0] 26)).alloc (.cells #[.slice none 0 0] 26)).alloc (.cells #[.slice none 0 0, .map none] 96)) (w.heap.size + 1 + 1) 26 #[.slice none 0 0] := (blk_new _ _ _ _ (by simp)).next (bnew _ _)
  have b3 : BlkIs ((((w.alloc (.cells #[.func (.func 19) #[.agg #[.slice A0 n0 c0]] #[]] 50)).alloc (.cells #[.slice none 0 0] 26)).alloc (.cells #[.slice none 0 0] 26)).alloc (.cells #[.slice none 0 0, .map none] 96)) (w.heap.size + 1 + 1 + 1) 96 #[.slice none 0 0, .map none] := blk_new _ _ _ _ (by simp)
  obtain ⟨W4, hW4⟩ : ∃ W4, ((((w.alloc (.cells #[.func (.func 19) #[.agg #[.slice A0 n0 c0]] #[]] 50)).alloc (.cells #[.slice none 0 0] 26)).alloc (.cells #[.slice none 0 0] 26)).alloc (.cells #[.slice none 0 0, .map none] 96)) = W4 := ⟨_, rfl⟩
  rw [hW4] at hB0 hsz b0 b1 b2 b3
  have hWL0 : WL W4 (w.heap.size + 1 + 1 + 1) w.heap.size (w.heap.size + 5) none 0 none [] := ⟨b3, by omega, World.ownsRow_nil _ _ _ _, (fun b e => by cases e), fun _ => rfl⟩
  have HADD := Lib.hid (add_first_c (w.heap.size + 1 + 1 + 1) w.heap.size (w.heap.size + 5) none 0 [] x0 W4 hWL0 rfl (by omega) (by omega) (by omega))
  gi_wp2_with (refine ⟨trivial, ?_⟩; gi_at_call 51; (try rw [hW4]); refine (callsIn_wide.2 HADD.out).mono ?_; rintro e w1 ⟨A1, c1, b, rfl, hW1, ht1, hn1⟩)
  clear HADD hWL0 hW4
  rw [addL_new (by simp), List.nil_append] at hW1
  have hs1 := ht1.size
  have hnb : ∀ k, k < w.heap.size + 3 → ¬ wb (w.heap.size + 1 + 1 + 1) A1 (some b) k := fun k hk e => by
    rcases hn1 k e with h | h <;> omega
  have hI0 : UnfI st x0 w FV w.heap.size (w.heap.size + 1) (w.heap.size + 1 + 1) (w.heap.size + 1 + 1 + 1) (w.heap.size + 5) b ([x0], 0) A1 c1 (.slice none 0 0) [] w1 := by
    have hbx := (hW1.num b rfl).2.2.lt
    refine ⟨⟨?_, ht1.blk b1 (by omega), ht1.blk b2 (by omega), hW1, RowsP.nil _ _ _, ?_, ⟨by omega, by omega, by omega, by omega, by omega, by omega, ?_⟩, ⟨hnb _ (by omega), hnb _ (by omega), hnb _ (by omega), by omega, by omega, by omega⟩⟩, Nat.zero_le _, rfl⟩
    · rw [hFV]; exact ht1.blk b0 (by omega)
    · exact hB0.trans ((ht1.below (B := w.heap.size) (fun k hk => by omega) (by omega)))
    · have hx := (hW1.num b rfl).2.2.lt
      have hm := hn1 b (.inr (.inr rfl))
      have hne := (hW1.map_ne rfl).1
      omega
  obtain ⟨i0, hi0⟩ : ∃ i0 : Int, ((addL x0 []).idxOf x0 : Int) = i0 := ⟨_, rfl⟩
  rw [hi0]
  refine range_bound (σ := List Int × Nat) (α := Int) rfl (by omega) (gf := 52) (bd := #[.pointer (some ⟨w.heap.size + 1 + 1 + 1, 0, none⟩)]) rfl trivial (enters_of Try.func52 (by kernel_rfl) rfl) (encs := fun x : Int => #[.int .i64 x]) (fun _ => rfl)
    (fun s W => w1.heap.size ≤ W.heap.size ∧ ∃ A c v gs, UnfI st x0 w FV w.heap.size (w.heap.size + 1) (w.heap.size + 1 + 1) (w.heap.size + 1 + 1 + 1) (w.heap.size + 5) b s A c v gs W)
    (fun _ _ => False) ?own (fun _ _ _ _ h _ _ => h) (s0 := ([x0], 0)) ⟨Nat.le_refl _, A1, c1, _, _, hI0⟩
    (each_rounds Fence.wide 4 trivial rfl (by omega) (w.heap.size + 1 + 1 + 1) _ (fun L k W h => by
      obtain ⟨_, A, c, v, gs, h⟩ := h
      refine ⟨h.2.1, ?_, _, _, A, c, some b, h.1.wl⟩
      have h1 := h.2.2
      have h2 := (unf_among hst hx0 k).len
      rw [h1] at h2
      exact Nat.le_trans h2 hN) [x0]) (fun x : Int => { tmps := #[.int .i64 x0, .func (.func 19) #[.agg #[.slice A0 n0 c0]] #[], undef, .pointer (some ⟨w.heap.size, 0, none⟩), .pointer (some ⟨w.heap.size + 1, 0, none⟩), .slice none 0 0, .pointer (some ⟨w.heap.size + 1 + 1, 0, none⟩), .pointer (some ⟨w.heap.size + 1 + 1 + 1, 0, none⟩), .int .i64 x, undef, undef, undef, undef, .int .i64 x0, .int .i64 i0, .func (.func 52) #[.pointer (some ⟨w.heap.size + 1 + 1 + 1, 0, none⟩)] #[], .int .i64 x, undef, undef, undef, undef, undef, undef, undef, undef, undef, undef, undef, undef, undef, undef, undef, undef, undef, undef, undef, undef, undef, undef, undef, undef, undef, undef, undef, undef, undef, undef], defers := [] }) ?assign ?body ?done ?stop
  case own =>
    rintro s W W' row ⟨h1, A, c, v, gs, h⟩ hg hr
    exact ⟨Nat.le_trans h1 hg.size, A, c, v, gs, h.1.other hg (fun r e => ⟨by have := (hr r e).1; have := hI0.1.bs; omega, (hr r e).2⟩), h.2⟩
  case assign =>
    intro l s x W K hI hK
    gi_wp2
    exact hK
  case body =>
    rintro l ⟨L, k⟩ x W hl ⟨hW1W, A, c, v, gs, h, hle, hrun⟩ hx
    have hx' : L[k]? = some x := hx
    have hle' : k ≤ L.length := hle
    have hrun' : (unf st x0 k).1 = L := hrun
    have hAm := unf_among hst hx0 k
    rw [hrun'] at hAm
    have hxr := hAm.2 x (List.mem_of_getElem? hx')
    have hR4 := unf_rows hst hx0 k
    have hB5 := hI0.1.bs
    have hC : UnfC w FV w.heap.size (w.heap.size + 1) (w.heap.size + 1 + 1) (w.heap.size + 1 + 1 + 1) (w.heap.size + 5) b L (unf st x0 k).2 A c v gs W := h
    have hWs := hC.below.size
    have hbT := bnew W (.cells #[.int .i64 (-1)] 2)
    have HREP := Lib.hid (repeat4_c W.heap.size (W.alloc (.cells #[.int .i64 (-1)] 2)) (by simp))
    clear h hle hrun hx
    gi_wp2_with (refine ⟨trivial, ?_⟩; gi_at_call 47; refine (CallsIn.inRound l (callsIn_wide.2 HREP.out)).mono ?_; rintro e w2 ⟨g, rfl, hgw, hB, hb2⟩)
    have hbT2 : Below W.heap.size W w2 := bon hbT hb2
    have hgW : W.heap.size ≤ g := by simp at hgw; omega
    have hE0 : EvI st w FV w.heap.size (w.heap.size + 1) (w.heap.size + 1 + 1) (w.heap.size + 1 + 1 + 1) (w.heap.size + 5) b w1.heap.size x L (unf st x0 k).2 v gs g W 0 A c w2 :=
      ⟨hC.fresh hbT2, hB, fun hu => by have := hC.lt hu; omega, hgW, keeps_fresh hbT2, hWs⟩
    clear HREP hb2 hgw hB hbT
    gi_loopw [10, 11, 12, 21] (fun _ _ _ i wr => ∃ (j : Nat) (A' : Option Addr) (c' : Nat), j ≤ 4 ∧ i = .int .i64 j ∧ EvI st w FV w.heap.size (w.heap.size + 1) (w.heap.size + 1 + 1) (w.heap.size + 1 + 1 + 1) (w.heap.size + 5) b w1.heap.size x L (unf st x0 k).2 v gs g W j A' c' wr) (fun _ _ _ i _ => 4 - (intOf i).toNat)
    case atStart => exact ⟨0, A, c, Nat.zero_le _, rfl, hE0⟩
    case round =>
      clear hE0 hbT2
      obtain ⟨j, A', c', hj, rfl, hE⟩ := hrel
      have hbx : wr.cell? ⟨w.heap.size, 0, none⟩ = some FV := hE.core.box.cell 0
      rw [hFV] at hbx
      by_cases hlt : j < 4
      · have i1 : (j : Int) < 4 := by omega
        have HFj0 := HF.out wr x j hE.core.below hxr.1 hxr.2 hlt
        cases hv : (st x j).2 with
        | false =>
          rw [hv] at HFj0
          have HFj := Lib.hid HFj0
          have HE2 := Lib.hid (fun W9 (hb9 : Below wr.heap.size wr W9) => (hE.fresh hb9).no hv)
          clear HFj0 hv hE
          gi_wp2_with (refine ⟨trivial, ?_⟩; gi_at_call 19; refine (CallsIn.inRound l (callsIn_wide.2 HFj.out)).mono ?_; rintro e w3 ⟨rfl, hb3⟩)
          go_roundw
          case rel => exact ⟨j + 1, A', c', by omega, by go_num, HE2.out _ hb3⟩
          case measure => simp [intOf]; omega
        | true =>
          obtain ⟨hyr, hMlen⟩ : (0 ≤ (st x j).1 ∧ (st x j).1 ≤ 1000000) ∧ (evT st x L j).1.length ≤ 1000 := by
            have h1 := hst x j hxr.1 hxr.2 hlt hv
            have h2 := (evT_among hst hxr hAm j (by omega)).1.len
            omega
          have hr4 : ((evT st x L j).2.map ic).length = 4 := by rw [List.length_map]; exact (evT_among hst hxr hAm j (by omega)).2.2
          rw [hv] at HFj0
          have HFj := Lib.hid HFj0
          have HADD := Lib.hid (fun W9 (hb9 : Below wr.heap.size wr W9) => add_c (w.heap.size + 1 + 1 + 1) w.heap.size (w.heap.size + 5) A' c' b (evT st x L j).1 (st x j).1 W9 (hE.fresh hb9).core.wl hyr hMlen (hE.fresh hb9).core.below.size)
          have HY := Lib.hid (fun W9 (hb9 : Below wr.heap.size wr W9) W10 A2 c2 => (hE.fresh hb9).yes (A' := A2) (c' := c2) (W'' := W10) (by omega) hv)
          have HROW := Lib.hid (fun W9 (hb9 : Below wr.heap.size wr W9) W10 (ht : Turns (wb (w.heap.size + 1 + 1 + 1) A' (some b)) W9 W10) => ht.blk (hE.fresh hb9).row (fun hu => hE.out (.inr (.inr (.inr (.inl hu))))))
          obtain ⟨rw_, hrw⟩ : ∃ rw_, (evT st x L j).2.map ic = rw_ := ⟨_, rfl⟩
          rw [hrw] at HROW hr4
          clear HFj0 hrw
          obtain ⟨y, hy⟩ : ∃ y, (st x j).1 = y := ⟨_, rfl⟩
          rw [hy] at HFj HADD HY hyr
          obtain ⟨q, hq⟩ : ∃ q : Int, ((addL y (evT st x L j).1).idxOf y : Int) = q := ⟨_, rfl⟩
          rw [hq] at HADD HY
          clear hv hE hy hq
          gi_wp2_with (first
            | (refine ⟨trivial, ?_⟩; gi_at_call 19; refine (CallsIn.inRound l (callsIn_wide.2 HFj.out)).mono ?_; rintro e w3 ⟨rfl, hb3⟩; have hadd := Lib.hid (HADD.out w3 hb3))
            | (refine ⟨trivial, ?_⟩; gi_at_call 51; refine (CallsIn.inRound l (callsIn_wide.2 hadd.out)).mono ?_; rintro e w4 ⟨A2, c2, rfl, hw4, ht4, hn4⟩; have hrow4 := HROW.out w3 hb3 w4 ht4; have hcl := hrow4.cell j; have hfr := hrow4.frozen j; rw [List.getElem?_toArray, List.getElem?_eq_getElem (by omega)] at hcl))
          go_roundw
          case rel => exact ⟨j + 1, A2, c2, by omega, by go_num, HY.out w3 hb3 w4 A2 c2 hw4 ht4 hn4⟩
          case measure => simp [intOf]; omega
      · have hj4 : j = 4 := by omega
        subst hj4
        obtain ⟨j0, hi, hz0, hz1, hz2⟩ := info_parts infoRow
        have hown := hE.core.rows.own
        obtain ⟨Av, cv, rfl, _⟩ := own_slice hown
        have hp0 : wr.cell? ⟨w.heap.size + 1 + 1, 0, none⟩ = some (.slice Av (unf st x0 k).2.length cv) := hE.core.pol.cell 0
        have hRl := unf_len st x0 k
        have hLN := hAm.len
        have hbl := hE.core.below.size
        have hpv := hE.core.row_ne hE.core.pol (by decide)
        have HPOL := Lib.hid hE.core.pol
        have HEE := Lib.hid hE
        have hgsW : Hid (∀ k' ∈ gs, k' < W.heap.size) := fun k' hk' => (hC.rows.lt hk').2.1
        have hNX := Lib.hid (unf_next (st := st) (x0 := x0) (by rw [hrun']; exact hx'))
        obtain ⟨m, hm⟩ : ∃ m, (unf st x0 k).2.length = m := ⟨_, rfl⟩
        rw [hm] at hown hp0 hRl hpv HPOL
        have HM := Lib.hid hm
        clear hm hE
        gi_wp2_with (gi_at_builtin; refine wpListIn_append_sep rfl _ _ 24 rfl w.heap.size 29 j0 (.slice none 0 0) 1 24 Try.underlying24 hi hz0 hz1 hz2 rfl (by decide) _ _ _ rfl (hown.alloc _) ⟨wr.heap.size, 0, none⟩ 1 1 [.slice (some ⟨g, 0, none⟩) 4 4] rfl rfl (cell_one_new _ _ _) (by simp [Value.oneCell']) (by unfold maxLen; omega) (by omega) (by simp; omega) (by omega) ?_; intro g' cap' w5 hown5 hgrow5 hsep5; have hp5 := (HPOL.out.next (bnew wr (.cells #[.slice (some ⟨g, 0, none⟩) 4 4] 29))).by_grown hgrow5 hpv; have hp6 := hp5.cell 0; have hp7 := hp5.frozen 0; simp at hp6)
        have hm := HM.out
        subst hm
        have hre := HEE.out.rowed (by omega) hW1W hgsW.out hown5 hgrow5 hsep5
        subst hFV
        refine ⟨hre.2, ⟨(evT st x L 4).1, k + 1⟩, rfl, ?_, A', c', .slice (some ⟨g', 0, none⟩) ((unf st x0 k).2.length + 1) cap', gs ++ [g], ?_, ?_, ?_⟩
        · have := hre.2.size; omega
        · show UnfC _ _ _ _ _ _ _ _ (evT st x L 4).1 (unf st x0 (k + 1)).2 _ _ _ _ _
          rw [hNX.out]
          rw [hrun']
          exact hre.1
        · have h1 := (List.getElem?_eq_some_iff.1 hx').1
          have h2 := (evT_among hst hxr hAm 4 (Nat.le_refl _)).2.1.length_le
          show k + 1 ≤ (evT st x L 4).1.length
          omega
        · show (unf st x0 (k + 1)).1 = (evT st x L 4).1
          rw [hNX.out, hrun']
  case done =>
    rintro D ⟨L, k⟩ W hD hF ⟨_, A, c, v, gs, h, hle, hrun⟩ hK
    obtain ⟨Av, cv, rfl, _⟩ := own_slice h.rows.own
    have p0 : W.cell? ⟨w.heap.size + 1 + 1, 0, none⟩ = some (.slice Av (unf st x0 (L, k).2).2.length cv) := h.pol.cell 0
    have l0 : W.cell? ⟨w.heap.size + 1 + 1 + 1, 0, none⟩ = some (.slice A (L, k).1.length c) := h.wl.box.cell 0
    have r0 := h.res.cell 0
    have r1 := h.res.frozen 0
    have HH := Lib.hid h
    have hF' : Hid (k = L.length) := hF
    clear h
    gi_wp2
    refine wpIn_wide.2 ?_
    go_region
    gi_wp2
    subst hFV
    obtain rfl := hF'.out
    obtain ⟨j1, j2, j3, j4, j5⟩ := HH.out.leave hK (by have := hI0.1.bs; omega)
    refine ⟨by simp, .inl ⟨_, _, rfl, run_takeDeferred j1, ?_⟩⟩
    refine ⟨.tuple #[.agg #[.slice Av (unf st x0 L.length).2.length cv], .slice A L.length c], ?_, ?_⟩
    · simp [results, Try.f37, go_sem, j2]
    · exact ⟨L, (unf st x0 L.length).2, .slice Av (unf st x0 L.length).2.length cv, gs, A, c, ⟨L.length, Prod.ext hrun rfl, rfl⟩, rfl, j3, j4, j5⟩
  case stop =>
    intro D c W hD h
    exact h.elim
end Go.Proofs.Ytpdgnmdjneakgaa

/-! unfolded, with the step among the first states of each kind (printed by wip/gen_unfm.py from XUnf). Conditions: at most 1000 items. -/
namespace Go.Proofs.Ytpdgnmdjneakgaa
set_option linter.unusedVariables false
open Go.RowKit Go.Shelf Go.Deep
attribute [local go_sem] Oper.semAt_some

set_option maxRecDepth 100000 in
set_option maxHeartbeats 4000000 in
theorem unfoldedM_in (st : Int → Nat → Int × Bool) (N : Nat) (hst : Stays st N) (hN : N ≤ 1000) (x0 : Int) (hx0 : 0 ≤ x0 ∧ x0 < (N : Int)) (bq bk : Nat) (w : World)
    (HF0 : ∀ (W : World) (x : Int) (e : Nat), Below w.heap.size w W → 0 ≤ x → x < (N : Int) → e < 4 → Calls Try.prog 38 #[.int .i64 x, .int .i64 (e : Int), .pointer (some ⟨bq, 0, none⟩), .pointer (some ⟨bk, 0, none⟩)] W fun v w' => v = .returned (.tuple #[.int .i64 (st x e).1, .bool (st x e).2]) ∧ Below W.heap.size W w') :
    CallsIn Fence.wide 5 Try.prog 37 #[.int .i64 x0, .func (.func 38) #[] #[.pointer (some ⟨bq, 0, none⟩), .pointer (some ⟨bk, 0, none⟩)]] w (UnfR st x0 w) := by
  refine callsIn_of_wp_marks Try.func37 rfl trivial ?_ rfl
  simp only [Try.ntmps37, List.size_toArray, List.length_cons, List.length_nil, Nat.reduceAdd, Nat.reduceSub, Array.replicate_succ, Array.replicate_zero, List.push_toArray, List.append_toArray, List.nil_append, List.cons_append]
  obtain ⟨FV, hFV⟩ : ∃ FV : Value, FV = .func (.func 38) #[] #[.pointer (some ⟨bq, 0, none⟩), .pointer (some ⟨bk, 0, none⟩)] := ⟨_, rfl⟩
  have HF := Lib.hid HF0
  clear HF0
  have hB0 : Below w.heap.size w ((((w.alloc (.cells #[.func (.func 38) #[] #[.pointer (some ⟨bq, 0, none⟩), .pointer (some ⟨bk, 0, none⟩)]] 50)).alloc (.cells #[.slice none 0 0] 26)).alloc (.cells #[.slice none 0 0] 26)).alloc (.cells #[.slice none 0 0, .map none] 96)) := bon (bon (bon (bnew _ _) (bnew _ _)) (bnew _ _)) (bnew _ _)
  have hsz : (((((w.alloc (.cells #[.func (.func 38) #[] #[.pointer (some ⟨bq, 0, none⟩), .pointer (some ⟨bk, 0, none⟩)]] 50)).alloc (.cells #[.slice none 0 0] 26)).alloc (.cells #[.slice none 0 0] 26)).alloc (.cells #[.slice none 0 0, .map none] 96))).heap.size = w.heap.size + 4 := by simp
  have b0 : BlkIs ((((w.alloc (.cells #[.func (.func 38) #[] #[.pointer (some ⟨bq, 0, none⟩), .pointer (some ⟨bk, 0, none⟩)]] 50)).alloc (.cells #[.slice none 0 0] 26)).alloc (.cells #[.slice none 0 0] 26)).alloc (.cells #[.slice none 0 0, .map none] 96)) w.heap.size 50 #[.func (.func 38) #[] #[.pointer (some ⟨bq, 0, none⟩), .pointer (some ⟨bk, 0, none⟩)]] := (((blk_new _ _ _ _ rfl).next (bnew _ _)).next (bnew _ _)).next (bnew _ _)
  have b1 : BlkIs ((((w.alloc (.cells #[.func (.func 38) #[] #[.pointer (some ⟨bq, 0, none⟩), .pointer (some ⟨bk, 0, none⟩)]] 50)).alloc (.cells #[.slice none 0 0] 26)).alloc (.cells #[.slice none 0 0] 26)).alloc (.cells #[.slice none 0 0, .map none] 96)) (w.heap.size + 1) 26 #[.slice none 0 0] := ((blk_new _ _ _ _ (by simp)).next (bnew _ _)).next (bnew _ _)
  have b2 : BlkIs ((((w.alloc (.cells #[.func (.func 38) #[] #[.pointer (some ⟨bq, 0, none⟩), .pointer (some ⟨bk, 0, none⟩)]] 50)).alloc (.cells #[.slice none 0 0] 26)).alloc (.cells #[.slice none 0 0] 26)).alloc (.cells #[.slice none 0 0, .map none] 96)) (w.heap.size + 1 + 1) 26 #[.slice none 0 0] := (blk_new _ _ _ _ (by simp)).next (bnew _ _)
  have b3 : BlkIs ((((w.alloc (.cells #[.func (.func 38) #[] #[.pointer (some ⟨bq, 0, none⟩), .pointer (some ⟨bk, 0, none⟩)]] 50)).alloc (.cells #[.slice none 0 0] 26)).alloc (.cells #[.slice none 0 0] 26)).alloc (.cells #[.slice none 0 0, .map none] 96)) (w.heap.size + 1 + 1 + 1) 96 #[.slice none 0 0, .map none] := blk_new _ _ _ _ (by simp)
  obtain ⟨W4, hW4⟩ : ∃ W4, ((((w.alloc (.cells #[.func (.func 38) #[] #[.pointer (some ⟨bq, 0, none⟩), .pointer (some ⟨bk, 0, none⟩)]] 50)).alloc (.cells #[.slice none 0 0] 26)).alloc (.cells #[.slice none 0 0] 26)).alloc (.cells #[.slice none 0 0, .map none] 96)) = W4 := ⟨_, rfl⟩
  rw [hW4] at hB0 hsz b0 b1 b2 b3
  have hWL0 : WL W4 (w.heap.size + 1 + 1 + 1) w.heap.size (w.heap.size + 5) none 0 none [] := ⟨b3, by omega, World.ownsRow_nil _ _ _ _, (fun b e => by cases e), fun _ => rfl⟩
  have HADD := Lib.hid (add_first_c (w.heap.size + 1 + 1 + 1) w.heap.size (w.heap.size + 5) none 0 [] x0 W4 hWL0 rfl (by omega) (by omega) (by omega))
  gi_wp2_with (refine ⟨trivial, ?_⟩; gi_at_call 51; (try rw [hW4]); refine (callsIn_wide.2 HADD.out).mono ?_; rintro e w1 ⟨A1, c1, b, rfl, hW1, ht1, hn1⟩)
  clear HADD hWL0 hW4
  rw [addL_new (by simp), List.nil_append] at hW1
  have hs1 := ht1.size
  have hnb : ∀ k, k < w.heap.size + 3 → ¬ wb (w.heap.size + 1 + 1 + 1) A1 (some b) k := fun k hk e => by
    rcases hn1 k e with h | h <;> omega
  have hI0 : UnfI st x0 w FV w.heap.size (w.heap.size + 1) (w.heap.size + 1 + 1) (w.heap.size + 1 + 1 + 1) (w.heap.size + 5) b ([x0], 0) A1 c1 (.slice none 0 0) [] w1 := by
    have hbx := (hW1.num b rfl).2.2.lt
    refine ⟨⟨?_, ht1.blk b1 (by omega), ht1.blk b2 (by omega), hW1, RowsP.nil _ _ _, ?_, ⟨by omega, by omega, by omega, by omega, by omega, by omega, ?_⟩, ⟨hnb _ (by omega), hnb _ (by omega), hnb _ (by omega), by omega, by omega, by omega⟩⟩, Nat.zero_le _, rfl⟩
    · rw [hFV]; exact ht1.blk b0 (by omega)
    · exact hB0.trans ((ht1.below (B := w.heap.size) (fun k hk => by omega) (by omega)))
    · have hx := (hW1.num b rfl).2.2.lt
      have hm := hn1 b (.inr (.inr rfl))
      have hne := (hW1.map_ne rfl).1
      omega
  obtain ⟨i0, hi0⟩ : ∃ i0 : Int, ((addL x0 []).idxOf x0 : Int) = i0 := ⟨_, rfl⟩
  rw [hi0]
  refine range_bound (σ := List Int × Nat) (α := Int) rfl (by omega) (gf := 52) (bd := #[.pointer (some ⟨w.heap.size + 1 + 1 + 1, 0, none⟩)]) rfl trivial (enters_of Try.func52 (by kernel_rfl) rfl) (encs := fun x : Int => #[.int .i64 x]) (fun _ => rfl)
    (fun s W => w1.heap.size ≤ W.heap.size ∧ ∃ A c v gs, UnfI st x0 w FV w.heap.size (w.heap.size + 1) (w.heap.size + 1 + 1) (w.heap.size + 1 + 1 + 1) (w.heap.size + 5) b s A c v gs W)
    (fun _ _ => False) ?own (fun _ _ _ _ h _ _ => h) (s0 := ([x0], 0)) ⟨Nat.le_refl _, A1, c1, _, _, hI0⟩
    (each_rounds Fence.wide 4 trivial rfl (by omega) (w.heap.size + 1 + 1 + 1) _ (fun L k W h => by
      obtain ⟨_, A, c, v, gs, h⟩ := h
      refine ⟨h.2.1, ?_, _, _, A, c, some b, h.1.wl⟩
      have h1 := h.2.2
      have h2 := (unf_among hst hx0 k).len
      rw [h1] at h2
      exact Nat.le_trans h2 hN) [x0]) (fun x : Int => { tmps := #[.int .i64 x0, .func (.func 38) #[] #[.pointer (some ⟨bq, 0, none⟩), .pointer (some ⟨bk, 0, none⟩)], undef, .pointer (some ⟨w.heap.size, 0, none⟩), .pointer (some ⟨w.heap.size + 1, 0, none⟩), .slice none 0 0, .pointer (some ⟨w.heap.size + 1 + 1, 0, none⟩), .pointer (some ⟨w.heap.size + 1 + 1 + 1, 0, none⟩), .int .i64 x, undef, undef, undef, undef, .int .i64 x0, .int .i64 i0, .func (.func 52) #[.pointer (some ⟨w.heap.size + 1 + 1 + 1, 0, none⟩)] #[], .int .i64 x, undef, undef, undef, undef, undef, undef, undef, undef, undef, undef, undef, undef, undef, undef, undef, undef, undef, undef, undef, undef, undef, undef, undef, undef, undef, undef, undef, undef, undef, undef], defers := [] }) ?assign ?body ?done ?stop
  case own =>
    rintro s W W' row ⟨h1, A, c, v, gs, h⟩ hg hr
    exact ⟨Nat.le_trans h1 hg.size, A, c, v, gs, h.1.other hg (fun r e => ⟨by have := (hr r e).1; have := hI0.1.bs; omega, (hr r e).2⟩), h.2⟩
  case assign =>
    intro l s x W K hI hK
    gi_wp2
    exact hK
  case body =>
    rintro l ⟨L, k⟩ x W hl ⟨hW1W, A, c, v, gs, h, hle, hrun⟩ hx
    have hx' : L[k]? = some x := hx
    have hle' : k ≤ L.length := hle
    have hrun' : (unf st x0 k).1 = L := hrun
    have hAm := unf_among hst hx0 k
    rw [hrun'] at hAm
    have hxr := hAm.2 x (List.mem_of_getElem? hx')
    have hR4 := unf_rows hst hx0 k
    have hB5 := hI0.1.bs
    have hC : UnfC w FV w.heap.size (w.heap.size + 1) (w.heap.size + 1 + 1) (w.heap.size + 1 + 1 + 1) (w.heap.size + 5) b L (unf st x0 k).2 A c v gs W := h
    have hWs := hC.below.size
    have hbT := bnew W (.cells #[.int .i64 (-1)] 2)
    have HREP := Lib.hid (repeat4_c W.heap.size (W.alloc (.cells #[.int .i64 (-1)] 2)) (by simp))
    clear h hle hrun hx
    gi_wp2_with (refine ⟨trivial, ?_⟩; gi_at_call 47; refine (CallsIn.inRound l (callsIn_wide.2 HREP.out)).mono ?_; rintro e w2 ⟨g, rfl, hgw, hB, hb2⟩)
    have hbT2 : Below W.heap.size W w2 := bon hbT hb2
    have hgW : W.heap.size ≤ g := by simp at hgw; omega
    have hE0 : EvI st w FV w.heap.size (w.heap.size + 1) (w.heap.size + 1 + 1) (w.heap.size + 1 + 1 + 1) (w.heap.size + 5) b w1.heap.size x L (unf st x0 k).2 v gs g W 0 A c w2 :=
      ⟨hC.fresh hbT2, hB, fun hu => by have := hC.lt hu; omega, hgW, keeps_fresh hbT2, hWs⟩
    clear HREP hb2 hgw hB hbT
    gi_loopw [10, 11, 12, 21] (fun _ _ _ i wr => ∃ (j : Nat) (A' : Option Addr) (c' : Nat), j ≤ 4 ∧ i = .int .i64 j ∧ EvI st w FV w.heap.size (w.heap.size + 1) (w.heap.size + 1 + 1) (w.heap.size + 1 + 1 + 1) (w.heap.size + 5) b w1.heap.size x L (unf st x0 k).2 v gs g W j A' c' wr) (fun _ _ _ i _ => 4 - (intOf i).toNat)
    case atStart => exact ⟨0, A, c, Nat.zero_le _, rfl, hE0⟩
    case round =>
      clear hE0 hbT2
      obtain ⟨j, A', c', hj, rfl, hE⟩ := hrel
      have hbx : wr.cell? ⟨w.heap.size, 0, none⟩ = some FV := hE.core.box.cell 0
      rw [hFV] at hbx
      by_cases hlt : j < 4
      · have i1 : (j : Int) < 4 := by omega
        have HFj0 := HF.out wr x j hE.core.below hxr.1 hxr.2 hlt
        cases hv : (st x j).2 with
        | false =>
          rw [hv] at HFj0
          have HFj := Lib.hid HFj0
          have HE2 := Lib.hid (fun W9 (hb9 : Below wr.heap.size wr W9) => (hE.fresh hb9).no hv)
          clear HFj0 hv hE
          gi_wp2_with (refine ⟨trivial, ?_⟩; gi_at_call 38; refine (CallsIn.inRound l (callsIn_wide.2 HFj.out)).mono ?_; rintro e w3 ⟨rfl, hb3⟩)
          go_roundw
          case rel => exact ⟨j + 1, A', c', by omega, by go_num, HE2.out _ hb3⟩
          case measure => simp [intOf]; omega
        | true =>
          obtain ⟨hyr, hMlen⟩ : (0 ≤ (st x j).1 ∧ (st x j).1 ≤ 1000000) ∧ (evT st x L j).1.length ≤ 1000 := by
            have h1 := hst x j hxr.1 hxr.2 hlt hv
            have h2 := (evT_among hst hxr hAm j (by omega)).1.len
            omega
          have hr4 : ((evT st x L j).2.map ic).length = 4 := by rw [List.length_map]; exact (evT_among hst hxr hAm j (by omega)).2.2
          rw [hv] at HFj0
          have HFj := Lib.hid HFj0
          have HADD := Lib.hid (fun W9 (hb9 : Below wr.heap.size wr W9) => add_c (w.heap.size + 1 + 1 + 1) w.heap.size (w.heap.size + 5) A' c' b (evT st x L j).1 (st x j).1 W9 (hE.fresh hb9).core.wl hyr hMlen (hE.fresh hb9).core.below.size)
          have HY := Lib.hid (fun W9 (hb9 : Below wr.heap.size wr W9) W10 A2 c2 => (hE.fresh hb9).yes (A' := A2) (c' := c2) (W'' := W10) (by omega) hv)
          have HROW := Lib.hid (fun W9 (hb9 : Below wr.heap.size wr W9) W10 (ht : Turns (wb (w.heap.size + 1 + 1 + 1) A' (some b)) W9 W10) => ht.blk (hE.fresh hb9).row (fun hu => hE.out (.inr (.inr (.inr (.inl hu))))))
          obtain ⟨rw_, hrw⟩ : ∃ rw_, (evT st x L j).2.map ic = rw_ := ⟨_, rfl⟩
          rw [hrw] at HROW hr4
          clear HFj0 hrw
          obtain ⟨y, hy⟩ : ∃ y, (st x j).1 = y := ⟨_, rfl⟩
          rw [hy] at HFj HADD HY hyr
          obtain ⟨q, hq⟩ : ∃ q : Int, ((addL y (evT st x L j).1).idxOf y : Int) = q := ⟨_, rfl⟩
          rw [hq] at HADD HY
          clear hv hE hy hq
          gi_wp2_with (first
            | (refine ⟨trivial, ?_⟩; gi_at_call 38; refine (CallsIn.inRound l (callsIn_wide.2 HFj.out)).mono ?_; rintro e w3 ⟨rfl, hb3⟩; have hadd := Lib.hid (HADD.out w3 hb3))
            | (refine ⟨trivial, ?_⟩; gi_at_call 51; refine (CallsIn.inRound l (callsIn_wide.2 hadd.out)).mono ?_; rintro e w4 ⟨A2, c2, rfl, hw4, ht4, hn4⟩; have hrow4 := HROW.out w3 hb3 w4 ht4; have hcl := hrow4.cell j; have hfr := hrow4.frozen j; rw [List.getElem?_toArray, List.getElem?_eq_getElem (by omega)] at hcl))
          go_roundw
          case rel => exact ⟨j + 1, A2, c2, by omega, by go_num, HY.out w3 hb3 w4 A2 c2 hw4 ht4 hn4⟩
          case measure => simp [intOf]; omega
      · have hj4 : j = 4 := by omega
        subst hj4
        obtain ⟨j0, hi, hz0, hz1, hz2⟩ := info_parts infoRow
        have hown := hE.core.rows.own
        obtain ⟨Av, cv, rfl, _⟩ := own_slice hown
        have hp0 : wr.cell? ⟨w.heap.size + 1 + 1, 0, none⟩ = some (.slice Av (unf st x0 k).2.length cv) := hE.core.pol.cell 0
        have hRl := unf_len st x0 k
        have hLN := hAm.len
        have hbl := hE.core.below.size
        have hpv := hE.core.row_ne hE.core.pol (by decide)
        have HPOL := Lib.hid hE.core.pol
        have HEE := Lib.hid hE
        have hgsW : Hid (∀ k' ∈ gs, k' < W.heap.size) := fun k' hk' => (hC.rows.lt hk').2.1
        have hNX := Lib.hid (unf_next (st := st) (x0 := x0) (by rw [hrun']; exact hx'))
        obtain ⟨m, hm⟩ : ∃ m, (unf st x0 k).2.length = m := ⟨_, rfl⟩
        rw [hm] at hown hp0 hRl hpv HPOL
        have HM := Lib.hid hm
        clear hm hE
        gi_wp2_with (gi_at_builtin; refine wpListIn_append_sep rfl _ _ 24 rfl w.heap.size 29 j0 (.slice none 0 0) 1 24 Try.underlying24 hi hz0 hz1 hz2 rfl (by decide) _ _ _ rfl (hown.alloc _) ⟨wr.heap.size, 0, none⟩ 1 1 [.slice (some ⟨g, 0, none⟩) 4 4] rfl rfl (cell_one_new _ _ _) (by simp [Value.oneCell']) (by unfold maxLen; omega) (by omega) (by simp; omega) (by omega) ?_; intro g' cap' w5 hown5 hgrow5 hsep5; have hp5 := (HPOL.out.next (bnew wr (.cells #[.slice (some ⟨g, 0, none⟩) 4 4] 29))).by_grown hgrow5 hpv; have hp6 := hp5.cell 0; have hp7 := hp5.frozen 0; simp at hp6)
        have hm := HM.out
        subst hm
        have hre := HEE.out.rowed (by omega) hW1W hgsW.out hown5 hgrow5 hsep5
        subst hFV
        refine ⟨hre.2, ⟨(evT st x L 4).1, k + 1⟩, rfl, ?_, A', c', .slice (some ⟨g', 0, none⟩) ((unf st x0 k).2.length + 1) cap', gs ++ [g], ?_, ?_, ?_⟩
        · have := hre.2.size; omega
        · show UnfC _ _ _ _ _ _ _ _ (evT st x L 4).1 (unf st x0 (k + 1)).2 _ _ _ _ _
          rw [hNX.out]
          rw [hrun']
          exact hre.1
        · have h1 := (List.getElem?_eq_some_iff.1 hx').1
          have h2 := (evT_among hst hxr hAm 4 (Nat.le_refl _)).2.1.length_le
          show k + 1 ≤ (evT st x L 4).1.length
          omega
        · show (unf st x0 (k + 1)).1 = (evT st x L 4).1
          rw [hNX.out, hrun']
  case done =>
    rintro D ⟨L, k⟩ W hD hF ⟨_, A, c, v, gs, h, hle, hrun⟩ hK
    obtain ⟨Av, cv, rfl, _⟩ := own_slice h.rows.own
    have p0 : W.cell? ⟨w.heap.size + 1 + 1, 0, none⟩ = some (.slice Av (unf st x0 (L, k).2).2.length cv) := h.pol.cell 0
    have l0 : W.cell? ⟨w.heap.size + 1 + 1 + 1, 0, none⟩ = some (.slice A (L, k).1.length c) := h.wl.box.cell 0
    have r0 := h.res.cell 0
    have r1 := h.res.frozen 0
    have HH := Lib.hid h
    have hF' : Hid (k = L.length) := hF
    clear h
    gi_wp2
    refine wpIn_wide.2 ?_
    go_region
    gi_wp2
    subst hFV
    obtain rfl := hF'.out
    obtain ⟨j1, j2, j3, j4, j5⟩ := HH.out.leave hK (by have := hI0.1.bs; omega)
    refine ⟨by simp, .inl ⟨_, _, rfl, run_takeDeferred j1, ?_⟩⟩
    refine ⟨.tuple #[.agg #[.slice Av (unf st x0 L.length).2.length cv], .slice A L.length c], ?_, ?_⟩
    · simp [results, Try.f37, go_sem, j2]
    · exact ⟨L, (unf st x0 L.length).2, .slice Av (unf st x0 L.length).2.length cv, gs, A, c, ⟨L.length, Prod.ext hrun rfl, rfl⟩, rfl, j3, j4, j5⟩
  case stop =>
    intro D c W hD h
    exact h.elim
end Go.Proofs.Ytpdgnmdjneakgaa

/-! The step among the first states of each kind, in the program. Conditions: a policy with at most 1000 states. -/
namespace Go.Proofs.Ytpdgnmdjneakgaa
set_option linter.unusedVariables false
open Go.RowKit

theorem rep_settled {xs : List (List Int)} (ok : RectP xs) {t y : Nat} (h : Settled xs t) (hy : y < xs.length) : rep xs t y = rep xs xs.length y := by
  obtain ⟨h1, h2, h3⟩ := rep_ok xs xs.length y
  refine rep_is h1 ?_ fun j hj => ?_
  · rw [same_of ok h (by omega) hy]; exact h2
  · rw [same_of ok h (by omega) hy]
    cases e : sameB xs j y with
    | false => rfl
    | true =>
      have := fstB_iff.1 h3 j hj
      rw [show eqB xs xs.length j (rep xs xs.length y) = true from eqB_trans e (eqB_symm h2)] at this
      cases this

set_option maxRecDepth 100000 in
set_option maxHeartbeats 2000000 in
theorem stepR_c (A : Option Addr) (n c B : Nat) (xs : List (List Int)) (s e : Nat) (w : World) (h : InLL w B A n xs) (hB : B ≤ w.heap.size) (ok : RectP xs) (hs : s < n) (he : e < 4) :
    Calls Try.prog 19 #[.agg #[.slice A n c], .int .i64 (s : Int), .int .i64 (e : Int)] w fun v w' => v = .returned (.tuple #[.int .i64 (stR xs s e).1, .bool (stR xs s e).2]) ∧ Below w.heap.size w w' := by
  have hb0 := bnew w (.cells #[.slice A n c] 26)
  obtain ⟨b, off, A0, c0, b2, off2, rfl, q0, rfl, q1⟩ := (h.next hb0 hB).cell_atR ok hs he
  have i1 : (s : Int) < (n : Int) := by omega
  have i2 : (e : Int) < 4 := by omega
  obtain ⟨r, _, _, _, hlo, _⟩ := ok.at_ (s := s) (e := e) (by rw [h.1]; exact hs) he
  by_cases hq : nxP xs s e < 0
  · have HR := Lib.hid (stR_no hq)
    have hm : nxP xs s e = -1 := by omega
    rw [hm] at q1
    clear hq hlo hm h
    go_enter Try.func19, Try.ntmps19
    go_wp2_with fail
    go_ret2
    exact ⟨by rw [HR.out]; rfl, hb0⟩
  · have HR := Lib.hid (stR_yes hq)
    have q5 : (nxP xs s e == -1) = false := by simp; omega
    have q6 : ¬ nxP xs s e = -1 := by omega
    clear hq hlo h
    generalize nxP xs s e = z at q1 q5 q6 HR ⊢
    go_enter Try.func19, Try.ntmps19
    go_wp2_with fail
    go_ret2
    exact ⟨by rw [HR.out]; rfl, hb0⟩

set_option maxRecDepth 100000 in
set_option maxHeartbeats 2000000 in
theorem index_c (A : Option Addr) (n c B : Nat) (zs : List Int) (x : Int) (w : World) (h : InL w B A n zs) (hx : x ∈ zs) (hn : n ≤ 1000) :
    Calls Try.prog 39 #[.slice A n c, .int .i64 x] w fun e w' => e = .returned (.int .i64 (zs.idxOf x : Int)) ∧ w = w' := by
  have hlen := Lib.hid h.1
  have HX := Lib.hid h
  have hil : zs.idxOf x < n := by rw [← h.1]; exact List.idxOf_lt_length_of_mem hx
  have HI : Hid (∀ (j : Nat) (y : Int), zs[j]? = some y → j ≤ zs.idxOf x → (y = x ↔ j = zs.idxOf x)) := fun j y hy hj => by
    have hl := List.idxOf_lt_length_of_mem hx
    have h2 := List.getElem_idxOf hl
    constructor
    · intro e
      rcases Nat.lt_or_ge j (zs.idxOf x) with k | k
      · have h3 := List.not_of_lt_findIdx (p := (· == x)) (xs := zs) (i := j) k
        obtain ⟨hj', he⟩ := List.getElem?_eq_some_iff.1 hy
        rw [he] at h3
        simp [e] at h3
      · omega
    · intro e
      subst e
      rw [List.getElem?_eq_getElem hl, h2] at hy
      exact (Option.some.inj hy).symm
  clear h hx
  generalize zs.idxOf x = q at hil HI ⊢
  go_enter Try.func39, Try.ntmps39
  go_wp2_with fail
  go_loop [5, 8] (fun _ i => ∃ j : Nat, j ≤ q ∧ i = .int .i64 j) (fun _ i => n - (intOf i).toNat)
  case atStart => exact ⟨0, Nat.zero_le _, rfl⟩
  case round =>
    obtain ⟨j, hj, rfl⟩ := hrel
    obtain ⟨b, off, y, rfl, hb, hy, hc⟩ := HX.out.2.int_at (k := j) (by have := hlen.out; omega)
    have hyx := HI.out j y hy hj
    have i1 : (j : Int) < (n : Int) := by omega
    by_cases e : j = q
    · have q1 : (x == y) = true := by have := hyx.2 e; simp [this]
      have HE := Lib.hid e
      clear hy hyx e
      go_wp2_with fail
      go_ret
      exact ⟨ret_int (by rw [HE.out]), rfl⟩
    · have q1 : (x == y) = false := by
        have : ¬ y = x := fun k => e (hyx.1 k)
        simp only [beq_eq_false_iff_ne, ne_eq]; omega
      clear hy hyx
      go_wp2_with fail
      go_round
      case rel => exact ⟨j + 1, by omega, by go_num⟩
      case measure => simp [intOf]; omega

set_option maxRecDepth 100000 in
set_option maxHeartbeats 2000000 in
theorem minStep_c (bq bk : Nat) (A : Option Addr) (n c : Nat) (Ac : Option Addr) (cc t B : Nat) (xs : List (List Int)) (cl : List Int) (x e : Nat) (w : World) (hq : BlkIs w bq 26 #[.slice A n c]) (hk : BlkIs w bk 29 #[.slice Ac n cc])
    (h : InLL w B A n xs) (hc : InL w B Ac n cl) (hB : B ≤ w.heap.size) (ok : RectP xs) (hcl : ClsI xs t cl) (hset : Settled xs t) (hn : n ≤ 1000) (hx : x < n) (he : e < 4) :
    Calls Try.prog 38 #[.int .i64 (x : Int), .int .i64 (e : Int), .pointer (some ⟨bq, 0, none⟩), .pointer (some ⟨bk, 0, none⟩)] w fun v w' => v = .returned (.tuple #[.int .i64 (stM xs (x : Int) e).1, .bool (stM xs (x : Int) e).2]) ∧ Below w.heap.size w w' := by
  have hxn : xs.length = n := h.1
  have HST0 := stepR_c A n c B xs x e w h hB ok hx he
  have q0 := hq.cell 0
  simp at q0
  by_cases hn0 : nxP xs x e < 0
  · have HR := Lib.hid (stM_no hn0)
    rw [stR_no hn0] at HST0
    have HST := Lib.hid HST0
    rw [HR.out]
    clear HST0 hn0 h hc
    go_enter Try.func38, Try.ntmps38
    go_wp2_with fail
    refine HST.out.mono ?_
    rintro v w1 ⟨rfl, hb1⟩
    go_wp2_with fail
    go_ret2
    exact ⟨rfl, hb1⟩
  · have hyn := ok.nx (s := x) (e := e) (by omega) he hn0
    obtain ⟨y, hy⟩ : ∃ y : Nat, nxP xs x e = y := ⟨(nxP xs x e).toNat, by omega⟩
    have hR := stM_yes hn0
    rw [stR_yes hn0, hy] at HST0
    rw [hy, Int.toNat_natCast] at hyn hR
    have hidx := hcl.index hyn
    rw [rep_settled ok hset hyn] at hidx
    have hlen := hcl.len
    have hget : cl[y]? = some (cl.getD y 0) := by rw [List.getD, List.getElem?_eq_getElem (by omega)]; rfl
    have HST := Lib.hid HST0
    have HR := Lib.hid hR
    rw [HR.out]
    have i1 : (y : Int) < (n : Int) := by omega
    have HX := Lib.hid h
    have HC := Lib.hid hc
    have hz : cl.getD y 0 ∈ cl := List.mem_of_getElem? hget
    obtain ⟨z, hzz⟩ : ∃ z, cl.getD y 0 = z := ⟨_, rfl⟩
    rw [hzz] at hget hidx hz
    have HID := Lib.hid hidx
    have HIX := Lib.hid (fun W (hb : Below w.heap.size w W) => index_c Ac n cc B cl z W (hc.next hb hB) hz hn)
    have HG := Lib.hid hget
    clear HST0 hn0 hR h hc hy hget hidx hz hzz hcl hset ok
    generalize rep xs xs.length y = r at HID HR ⊢
    go_enter Try.func38, Try.ntmps38
    go_wp2_with fail
    refine HST.out.mono ?_
    rintro v w1 ⟨rfl, hb1⟩
    have k0 := (hk.next hb1).cell 0
    simp at k0
    obtain ⟨b2, off2, z2, rfl, hb2, hz2, hcz⟩ := (HC.out.next hb1 hB).2.int_at (k := y) (by rw [hlen]; omega)
    obtain rfl : z2 = z := by rw [HG.out] at hz2; exact (Option.some.inj hz2).symm
    clear hz2
    have HIY : Hid (∀ W, Below w.heap.size w W → Calls Try.prog 39 #[.slice (some ⟨b2, off2, none⟩) n cc, .int .i64 z2] W fun e w' => e = .returned (.int .i64 (r : Int)) ∧ W = w') := fun W hb => by
      have := HIX.out W hb
      rw [HID.out] at this
      exact this
    go_wp2_with fail
    go_quiet ((exact (HIY.out _ (by first | exact hb1 | exact below_drewN hb1 _)).mono fun _ _ hh => ⟨hh.1, _, hh.2.symm⟩))
    go_wp2_with fail
    go_ret2
    exact ⟨rfl, by first | exact hb1 | exact below_drewN hb1 _⟩
end Go.Proofs.Ytpdgnmdjneakgaa

/-! The program's minimal, over what classes gives. Conditions: a policy with at most 1000 states. -/
namespace Go.Proofs.Ytpdgnmdjneakgaa
set_option linter.unusedVariables false
open Go.RowKit Go.Shelf

/-- The rows that unfolded makes, as a policy of rows of the call's own. -/
theorem RowsP.polO {W : World} {lo : Nat} {v : Value} {gs : List Nat} {R : List (List Int)} {S : Nat → Prop} (h : RowsP W lo v gs R S) (h4 : ∀ r ∈ R, r.length = 4) : ∃ A c rs, v = .slice A R.length c ∧ PolO W lo A c R rs := by
  obtain ⟨A, c, rfl, _⟩ := own_slice h.own
  have hl := h.len
  have at_ : ∀ (i : Nat) (p : Value × List Int), (List.zipWith (fun g r => ((Value.slice (some ⟨g, 0, none⟩) 4 4, r) : Value × List Int)) gs R)[i]? = some p → ∃ g r, gs[i]? = some g ∧ R[i]? = some r ∧ p = (.slice (some ⟨g, 0, none⟩) 4 4, r) := fun i p hp => by
    rw [List.getElem?_zipWith] at hp
    cases e1 : gs[i]? with
    | none => rw [e1] at hp; simp at hp
    | some g =>
      cases e2 : R[i]? with
      | none => rw [e1, e2] at hp; simp at hp
      | some r => rw [e1, e2] at hp; simp at hp; exact ⟨g, r, rfl, rfl, hp.symm⟩
  refine ⟨A, c, List.zipWith (fun g r => (Value.slice (some ⟨g, 0, none⟩) 4 4, r)) gs R, rfl, ?_, ⟨fun i p hp => ?_, fun i j p q hij hp hq k hk hk' => ?_⟩, ?_⟩
  · apply List.ext_getElem (by simp [hl])
    intro i h1 h2
    simp
  · obtain ⟨g, r, hg, hr, rfl⟩ := at_ i p hp
    obtain ⟨h1, h2⟩ := h.row i g r hg hr
    have h3 := h4 r (List.mem_of_getElem? hr)
    show W.ownsRow lo 2 1 (.slice (some ⟨g, 0, none⟩) 4 4) r.length (r.map ic)
    rw [h3]
    exact ⟨by simp [h3], .inr ⟨g, 4, (r.map ic).toArray, rfl, h1, h2, Nat.le_refl _, by unfold maxLen; omega, by simp [h3], by rw [Nat.mul_one]; exact List.take_of_length_le (by simp [h3])⟩⟩
  · obtain ⟨g, r, hg, _, rfl⟩ := at_ i p hp
    obtain ⟨g', r', hg', _, rfl⟩ := at_ j q hq
    obtain rfl : g = k := Option.some.inj hk
    obtain rfl : g' = g := Option.some.inj hk'
    have hp := List.pairwise_iff_getElem.1 h.inc
    obtain ⟨hi, ei⟩ := List.getElem?_eq_some_iff.1 hg
    obtain ⟨hj, ej⟩ := List.getElem?_eq_some_iff.1 hg'
    rcases Nat.lt_or_gt_of_ne hij with k | k
    · have := hp i j hi hj k; omega
    · have := hp j i hj hi k; omega
  · have e : (List.zipWith (fun g r => ((Value.slice (some ⟨g, 0, none⟩) 4 4, r) : Value × List Int)) gs R).map Prod.fst = gs.map fun g => Value.slice (some ⟨g, 0, none⟩) 4 4 := by
      apply List.ext_getElem (by simp [hl])
      intro i h1 h2
      simp
    rw [e]
    exact h.own

/-- What classes gives. -/
def ClsR (xs : List (List Int)) (w : World) (e : Ending) (w' : World) : Prop := ∃ A' c' cl t, e = .returned (.slice A' xs.length c') ∧ ClsI xs t cl ∧ Settled xs t ∧ InL w' w'.heap.size A' xs.length cl ∧ Below w.heap.size w w'

set_option maxRecDepth 100000 in
set_option maxHeartbeats 2000000 in
theorem minimal_of (A : Option Addr) (n c B : Nat) (xs : List (List Int)) (w : World) (h : InLL w B A n xs) (hB : B ≤ w.heap.size) (ok : RectP xs) (hn : n ≤ 1000)
    (HC0 : ∀ W, Below w.heap.size w W → Calls Try.prog 36 #[.agg #[.slice A n c]] W (ClsR xs W)) :
    Calls Try.prog 23 #[.agg #[.slice A n c]] w fun e w' => ∃ A' c', e = .returned (.agg #[.slice A' (minL xs).length c']) ∧ (∃ rs, PolO w' w.heap.size A' c' (minL xs) rs) ∧ Below w.heap.size w w' := by
  have hb0 := bnew w (.cells #[.slice A n c] 26)
  have hb1 := bnew (w.alloc (.cells #[.slice A n c] 26)) (.cells #[.slice none 0 0] 26)
  have hP : BlkIs ((w.alloc (.cells #[.slice A n c] 26)).alloc (.cells #[.slice none 0 0] 26)) w.heap.size 26 #[.slice A n c] := (blk_new _ _ _ _ rfl).next hb1
  have hR : BlkIs ((w.alloc (.cells #[.slice A n c] 26)).alloc (.cells #[.slice none 0 0] 26)) (w.heap.size + 1) 26 #[.slice none 0 0] := blk_new _ _ _ _ (by simp)
  have hb := bon hb0 hb1
  have HX := Lib.hid (h.next hb hB)
  have hB0 := Nat.le_trans hB hb.size
  have HC := Lib.hid (HC0 _ hb)
  have hxn : xs.length = n := h.1
  have hst := stM_stays ok
  have h00 : (0 : Int) ≤ 0 ∧ (0 : Int) < (n : Int) := by have := ok.lo; omega
  have HOK := Lib.hid ok
  have p0 := hP.cell 0
  simp at p0
  obtain ⟨V, hV⟩ : ∃ V, minL xs = V := ⟨_, rfl⟩
  have HV := Lib.hid hV
  rw [hV]
  clear h hb0 hb1 HC0 ok hV
  go_enter Try.func23, Try.ntmps23
  go_wp2_with fail
  generalize (w.alloc (.cells #[.slice A n c] 26)).alloc (.cells #[.slice none 0 0] 26) = W at hb p0 HC HX hB0 hR hP ⊢
  refine HC.out.mono ?_
  rintro e w3 ⟨Ac, cc, cl, t, rfl, hcl, hset, hin, hb3⟩
  rw [hxn] at hin ⊢
  have hb4 := bnew w3 (.cells #[.slice Ac n cc] 29)
  have hK : BlkIs (w3.alloc (.cells #[.slice Ac n cc] 29)) w3.heap.size 29 #[.slice Ac n cc] := blk_new _ _ _ _ rfl
  have hb34 := bon hb3 hb4
  have HX4 := (HX.out.next hb34 hB0)
  have HI4 := hin.next hb4 (Nat.le_refl _)
  have hP4 := hP.next hb34
  have hR4 := hR.next hb34
  have hs3 := hb3.size
  have hs4 := hb4.size
  have HU := Lib.hid (callsIn_wide.1 (unfoldedM_in (stM xs) n (by rw [← hxn]; exact hst) hn 0 h00 w.heap.size w3.heap.size (w3.alloc (.cells #[.slice Ac n cc] 29)) (fun W' x e hbW hx0 hxn' he => by
    obtain ⟨k, rfl⟩ : ∃ k : Nat, x = k := ⟨x.toNat, by omega⟩
    exact minStep_c w.heap.size w3.heap.size A n c Ac cc t (w3.alloc (.cells #[.slice Ac n cc] 29)).heap.size xs cl k e W' (hP4.next hbW) (hK.next hbW) ((HX4.next hbW (Nat.le_trans hB0 hb34.size)).more (Nat.le_trans hB0 hb34.size)) ((HI4.next hbW hs4).more hs4) hbW.size HOK.out hcl hset hn (by omega) he)))
  clear hcl hset hin HI4 HX4 hP4
  have hb04 := bon hb hb34
  go_wp2_with fail
  generalize w3.alloc (.cells #[.slice Ac n cc] 29) = W4 at HU hb04 hR4 hb34 hs4 ⊢
  refine HU.out.mono ?_
  rintro e w5 ⟨L, R, v, gs, A5, c5, hend, rfl, hrows, hown, hb5⟩
  have hRe : R = V := by rw [← HV.out]; exact minL_is HOK.out hend
  have h4 : ∀ r ∈ R, r.length = 4 := by
    obtain ⟨k, h1, _⟩ := hend
    have := unf_rows hst (x0 := 0) (by rw [hxn]; exact h00) k
    rw [h1] at this
    exact this
  obtain ⟨Av, cv, rs, rfl, hpo⟩ := hrows.polO h4
  subst hRe
  have hR5 := hR4.next hb5
  have hb6 := bnew w5 (.cells #[.slice Av R.length cv] 26)
  have hR6 := hR5.next hb6
  have r0 := hR6.cell 0
  have r1 := hR6.frozen 0
  simp at r0
  have HPO := Lib.hid (hpo.keep hb6)
  have hRl := hR4.lt
  have hb06 := bon (bon hb04 hb5) hb6
  clear hrows hown hend hpo
  go_wp2_with fail
  have r2 : ((w5.alloc (.cells #[.slice Av R.length cv] 26)).setCell ⟨w.heap.size + 1, 0, none⟩ (.slice Av R.length cv)).cell? ⟨w.heap.size + 1, 0, none⟩ = some (.slice Av R.length cv) := by
    have := (hR6.set 0 (.slice Av R.length cv)).cell 0
    simpa using this
  have hbe := hb06.setCell (p := ⟨w.heap.size + 1, 0, none⟩) (Nat.le_succ _) (.slice Av R.length cv)
  have HPF := Lib.hid ((HPO.out.far (i := 0) (u := .slice Av R.length cv) hRl).less hb04.size)
  generalize (w5.alloc (.cells #[.slice Av R.length cv] 26)).setCell ⟨w.heap.size + 1, 0, none⟩ (.slice Av R.length cv) = WE at r2 hbe HPF ⊢
  exact bodyPost_ret (v := .agg #[.slice Av R.length cv]) (by simp [results, Try.results23, go_sem, r2]) rfl ⟨Av, cv, rfl, ⟨rs, HPF.out⟩, hbe⟩
end Go.Proofs.Ytpdgnmdjneakgaa

/-! The closure of classes: a row of numbers of kinds, added to the work list. Conditions: a policy with at most 1000 states. -/
namespace Go.Proofs.Ytpdgnmdjneakgaa
set_option linter.unusedVariables false
open Go.RowKit

/-- A row is added, whether there are others or not. -/
theorem addR_any_c (g lo B : Nat) (A : Option Addr) (c : Nat) (mv : Option Nat) (L : List (List Int)) (x0 x1 x2 x3 : Int) (w : World) (h : WLR w g lo B A c mv L) (hn : mv = none → (Value.slice A 0 0).ownBlock = none ∧ w.heap.size + 1 < B) (hx : RowG [x0, x1, x2, x3]) (hL : L.length ≤ 1000) (hlo : lo ≤ w.heap.size) :
    Calls Try.prog 50 #[.pointer (some ⟨g, 0, none⟩), .agg #[.int .i64 x0, .int .i64 x1, .int .i64 x2, .int .i64 x3]] w fun e w' => ∃ A' c' b', e = .returned (.int .i64 ((addR [x0, x1, x2, x3] L).idxOf [x0, x1, x2, x3] : Int)) ∧ WLR w' g lo B A' c' (some b') (addR [x0, x1, x2, x3] L) ∧ Turns (wb g A mv) w w' ∧ ∀ k, wb g A' (some b') k → wb g A mv k ∨ w.heap.size ≤ k := by
  cases mv with
  | some b =>
    refine (addR_c g lo B A c b L x0 x1 x2 x3 w h hx hL hlo).mono ?_
    rintro e w' ⟨A', c', h1, h2, h3, h4⟩
    exact ⟨A', c', b, h1, h2, h3, h4⟩
  | none =>
    obtain ⟨n1, n2⟩ := hn rfl
    refine (addR_first_c g lo B A c L x0 x1 x2 x3 w h n1 hx hlo n2).mono ?_
    rintro e w' ⟨A', c', b', h1, h2, h3, h4⟩
    exact ⟨A', c', b', h1, h2, h3.more (fun k _ e => .inl e), fun k hk => (h4 k hk).imp .inl id⟩

/-- The numbers of the first j events, the others 0. -/
def bhJ (xs : List (List Int)) (cl : List Int) (s j : Nat) : List Int := (bhL xs cl s).take j ++ List.replicate (4 - j) 0
theorem bhL_at {xs : List (List Int)} {cl : List Int} {s j : Nat} (hj : j < 4) : (bhL xs cl s)[j]? = some (bh1 xs cl s j) := by
  have : j = 0 ∨ j = 1 ∨ j = 2 ∨ j = 3 := by omega
  rcases this with rfl | rfl | rfl | rfl <;> rfl
theorem bhJ_len {xs : List (List Int)} {cl : List Int} {s j : Nat} (hj : j ≤ 4) : (bhJ xs cl s j).length = 4 := by
  unfold bhJ
  rw [List.length_append, List.length_take, List.length_replicate]
  show min j 4 + (4 - j) = 4
  omega
theorem bhJ_set {xs : List (List Int)} {cl : List Int} {s j : Nat} (hj : j < 4) : (bhJ xs cl s j).set j (bh1 xs cl s j) = bhJ xs cl s (j + 1) := by
  unfold bhJ
  have h1 : ((bhL xs cl s).take j).length = j := by rw [List.length_take]; show min j 4 = j; omega
  rw [List.set_append_right _ _ (by omega), h1, Nat.sub_self, List.take_add_one, bhL_at hj]
  obtain ⟨m, hm⟩ : ∃ m, 4 - j = m + 1 := ⟨3 - j, by omega⟩
  rw [hm, List.replicate_succ, List.set_cons_zero, show 4 - (j + 1) = m by omega]
  simp
theorem bhJ_all (xs : List (List Int)) (cl : List Int) (s : Nat) : bhJ xs cl s 4 = bhL xs cl s := rfl
theorem bhL_good {xs : List (List Int)} (ok : RectP xs) {t : Nat} {cl : List Int} (h : ClsI xs t cl) (hn : xs.length ≤ 1000) {s : Nat} (hs : s < xs.length) : RowG (bhL xs cl s) := by
  refine ⟨rfl, fun x hx => ?_⟩
  have key : ∀ e, e < 4 → -1 ≤ bh1 xs cl s e ∧ bh1 xs cl s e ≤ 1000000 := fun e he => by
    by_cases hq : nxP xs s e < 0
    · rw [bh1_no hq]; omega
    · rw [bh1_yes hq]; have := h.num _ (ok.nx hs he hq); omega
  simp only [bhL, List.mem_cons, List.not_mem_nil, or_false] at hx
  rcases hx with rfl | rfl | rfl | rfl
  · exact key 0 (by omega)
  · exact key 1 (by omega)
  · exact key 2 (by omega)
  · exact key 3 (by omega)

set_option maxRecDepth 100000 in
set_option maxHeartbeats 4000000 in
theorem classes1_c (xs : List (List Int)) (t s : Nat) (cl : List Int) (bk g : Nat) (A0 : Option Addr) (c0 : Nat) (Ac : Option Addr) (n cc : Nat) (lo B B1 : Nat) (A : Option Addr) (c : Nat) (mv : Option Nat) (L : List (List Int)) (w : World)
    (ok : RectP xs) (hcl : ClsI xs t cl) (hxn : xs.length = n) (hn : n ≤ 1000) (hs : s < n) (hr : InL w B1 A0 4 (xs.getD s [])) (hk : BlkIs w bk 29 #[.slice Ac n cc]) (hc : InL w B1 Ac n cl) (hB1 : B1 ≤ w.heap.size)
    (hW : WLR w g lo B A c mv L) (hn0 : mv = none → (Value.slice A 0 0).ownBlock = none ∧ w.heap.size + 2 < B) (hL : L.length ≤ 1000) (hlo : lo ≤ w.heap.size) :
    Calls Try.prog 49 #[.slice A0 4 c0, .pointer (some ⟨bk, 0, none⟩), .pointer (some ⟨g, 0, none⟩)] w fun e w' => ∃ A' c' b', e = .returned (.int .i64 ((addR (bhL xs cl s) L).idxOf (bhL xs cl s) : Int)) ∧ WLR w' g lo B A' c' (some b') (addR (bhL xs cl s) L) ∧ Turns (wb g A mv) w w' ∧ ∀ k, wb g A' (some b') k → wb g A mv k ∨ w.heap.size ≤ k := by
  have hb0 := bnew w (.cells #[.int .i64 0, .int .i64 0, .int .i64 0, .int .i64 0] 92)
  have hG0 : BlkIs (w.alloc (.cells #[.int .i64 0, .int .i64 0, .int .i64 0, .int .i64 0] 92)) w.heap.size 92 ((bhJ xs cl s 0).map ic).toArray := blk_new _ _ _ _ rfl
  have hsz0 : (w.alloc (.cells #[.int .i64 0, .int .i64 0, .int .i64 0, .int .i64 0] 92)).heap.size = w.heap.size + 1 := by simp
  have HSZ0 := Lib.hid hsz0
  have HOK := Lib.hid ok
  have HCL := Lib.hid hcl
  have HRW := Lib.hid hr
  have HC := Lib.hid hc
  have HW := Lib.hid hW
  have hbk := hk.lt
  have hw_lt : ∀ k, wb g A mv k → k < w.heap.size := fun k h => (hW.ge h).2
  have HK := Lib.hid hk
  clear hsz0 ok hcl hr hc hW hk
  go_enter Try.func49, Try.ntmps49
  go_wp2_with fail
  obtain ⟨gB, hgB⟩ : ∃ gB, w.heap.size = gB := ⟨_, rfl⟩
  have HGB := Lib.hid hgB
  rw [hgB] at hG0 hbk ⊢
  clear hgB
  generalize w.alloc (.cells #[.int .i64 0, .int .i64 0, .int .i64 0, .int .i64 0] 92) = W0 at hb0 hG0 HSZ0 ⊢
  go_loopw [6, 7, 10] (fun _ _ i wr => ∃ j : Nat, j ≤ 4 ∧ i = .int .i64 j ∧ BlkIs wr gB 92 ((bhJ xs cl s j).map ic).toArray ∧ Turns (fun k => k = gB) W0 wr ∧ Hid (wr.heap.size = W0.heap.size)) (fun _ _ i _ => 4 - (intOf i).toNat)
  case atStart => exact ⟨0, by omega, rfl, hG0, Turns.refl _ _, rfl⟩
  case round =>
    clear hG0
    obtain ⟨j, hj, rfl, hG, hT, hS⟩ := hrel
    have hbw : Below w.heap.size w wr := hb0.trans (hT.below (fun k e => by have := HGB.out; omega) (by have := HSZ0.out; omega))
    have hlt := hG.lt
    by_cases hj4 : j < 4
    · obtain ⟨r, hr, hrl, hz, hlo1, hhi1⟩ := HOK.out.at_ (s := s) (e := j) (by omega) hj4
      obtain ⟨b3, off3, y, rfl, hb3, hy, hcy⟩ := (HRW.out.next hbw hB1).2.int_at (k := j) (by rw [HRW.out.1]; exact hj4)
      have hye : y = nxP xs s j := by
        rw [show xs.getD s [] = r by rw [List.getD, hr]; rfl, hz] at hy
        exact (Option.some.inj hy).symm
      subst hye
      have i1 : (j : Int) < 4 := by omega
      have hjl : j < (bhJ xs cl s j).length := by rw [bhJ_len hj]; exact hj4
      have z0 := hG.cell j
      have z1 := hG.frozen j
      have z2 : ∃ v0, wr.cell? ⟨gB, j, none⟩ = some (.int .i64 v0) := ⟨(bhJ xs cl s j)[j], by rw [z0]; simp [hjl, ic]⟩
      obtain ⟨v0, z3⟩ := z2
      by_cases hq : nxP xs s j < 0
      · have hm1 : nxP xs s j = -1 := by omega
        have HB1' := bh1_no (c := cl) hq
        rw [hm1] at hcy
        have hG2 : BlkIs (wr.setCell ⟨gB, j, none⟩ (.int .i64 (-1))) gB 92 ((bhJ xs cl s (j + 1)).map ic).toArray := by
          have h1 := hG.set j (.int .i64 (-1))
          rw [List.setIfInBounds_toArray] at h1
          rw [← bhJ_set hj4, HB1', List.map_set]
          exact h1
        have HG2 := Lib.hid hG2
        clear hy hz hr hm1 HB1' z0 hG2 hq hlo1 hhi1
        go_wp2_with fail
        go_roundw
        case rel => exact ⟨j + 1, by omega, by go_num, HG2.out, hT.set rfl, by show _ = _; rw [← hS.out]; simp⟩
        case measure => simp [intOf]; omega
      · obtain ⟨u, hu⟩ : ∃ u : Nat, nxP xs s j = u := ⟨(nxP xs s j).toNat, by omega⟩
        have hun := HOK.out.nx (s := s) (e := j) (by omega) hj4 hq
        have HB1' := bh1_yes (c := cl) hq
        rw [hu, Int.toNat_natCast] at hun HB1'
        rw [hu] at hcy
        have hlen := HCL.out.len
        have hget : cl[u]? = some (cl.getD u 0) := by rw [List.getD, List.getElem?_eq_getElem (by omega)]; rfl
        obtain ⟨z, hzz⟩ : ∃ z, cl.getD u 0 = z := ⟨_, rfl⟩
        rw [hzz] at HB1' hget
        have hset := (Turns.refl (fun k => k = gB) wr).set (g := gB) (i := j) (v := .int .i64 (-1)) rfl
        have hbs : Below w.heap.size w (wr.setCell ⟨gB, j, none⟩ (.int .i64 (-1))) := hbw.setCell (p := ⟨gB, j, none⟩) (by have := HGB.out; show w.heap.size ≤ gB; omega) _
        have hks := (HK.out.next hbw).far (g' := gB) (by omega) j (.int .i64 (-1))
        have k0 := hks.cell 0
        simp at k0
        obtain ⟨b5, off5, z5, rfl, hb5, hz5, hcz⟩ := (HC.out.next hbs hB1).2.int_at (k := u) (by omega)
        obtain rfl : z5 = z := by rw [hget] at hz5; exact (Option.some.inj hz5).symm
        have hG1 := hG.set j (.int .i64 (-1))
        have f1 := hG1.frozen j
        have e1 : (wr.setCell ⟨gB, j, none⟩ (.int .i64 (-1))).cell? ⟨gB, j, none⟩ = some (.int .i64 (-1)) := by
          rw [hG1.cell j, List.setIfInBounds_toArray]
          simp [hjl]
        have hG2 : BlkIs ((wr.setCell ⟨gB, j, none⟩ (.int .i64 (-1))).setCell ⟨gB, j, none⟩ (.int .i64 z5)) gB 92 ((bhJ xs cl s (j + 1)).map ic).toArray := by
          have h1 := hG1.set j (.int .i64 z5)
          rw [List.setIfInBounds_toArray, List.setIfInBounds_toArray, List.set_set] at h1
          rw [← bhJ_set hj4, HB1', List.map_set]
          exact h1
        have HG2 := Lib.hid hG2
        have i2 : (u : Int) < (n : Int) := by omega
        have q1 : ((u : Int) == -1) = false := by simp only [beq_eq_false_iff_ne, ne_eq]; omega
        have q2 : ¬ (u : Int) = -1 := by omega
        clear hy hz hr HB1' z0 hG2 hG1 hq hlo1 hhi1 hu hget hzz hz5 hks hset
        go_wp2_with fail
        go_roundw
        case rel => exact ⟨j + 1, by omega, by go_num, HG2.out, (hT.set rfl).set rfl, by show _ = _; rw [← hS.out]; simp⟩
        case measure => simp [intOf]; omega
    · obtain rfl : j = 4 := by omega
      rw [bhJ_all] at hG
      have hT2 : Turns (wb g A mv) w wr := (Turns.of_below (S := wb g A mv) hb0).trans hT (fun k hk e => by have := HGB.out; omega)
      have hWr := (HW.out.next (S := fun _ => False) (Turns.of_below hb0) (fun k _ e => e)).next hT (fun k hk e => by have := hw_lt k hk; have := HGB.out; omega)
      have HADD := Lib.hid (addR_any_c g lo B A c mv L (bh1 xs cl s 0) (bh1 xs cl s 1) (bh1 xs cl s 2) (bh1 xs cl s 3) wr hWr (fun e => ⟨(hn0 e).1, by have := (hn0 e).2; have := HSZ0.out; have := hS.out; omega⟩) (bhL_good HOK.out HCL.out (by omega) (by omega)) hL (Nat.le_trans hlo hbw.size))
      have e0 := hG.cell 0
      have e1 := hG.cell 1
      have e2 := hG.cell 2
      have e3 := hG.cell 3
      simp [bhL, ic] at e0 e1 e2 e3
      have HT2 := Lib.hid hT2
      have hsw := hbw.size
      have HBL : Hid (bhL xs cl s = [bh1 xs cl s 0, bh1 xs cl s 1, bh1 xs cl s 2, bh1 xs cl s 3]) := rfl
      generalize bh1 xs cl s 0 = v0 at HADD e0 HBL
      generalize bh1 xs cl s 1 = v1 at HADD e1 HBL
      generalize bh1 xs cl s 2 = v2 at HADD e2 HBL
      generalize bh1 xs cl s 3 = v3 at HADD e3 HBL
      clear hG hT hT2 hWr hbw
      go_wp2_with fail
      refine HADD.out.mono ?_
      rintro e w5 ⟨A', c', b', rfl, h1, h2, h3⟩
      have H1 := Lib.hid h1
      have H2 := Lib.hid h2
      have H3 := Lib.hid h3
      clear h1 h2 h3
      go_wp2_with fail
      go_ret
      exact ⟨A', c', b', by rw [HBL.out]; rfl, by rw [HBL.out]; exact H1.out, HT2.out.trans H2.out (fun k _ e => e), fun k hk => (H3.out k hk).imp id (fun h => by omega)⟩
end Go.Proofs.Ytpdgnmdjneakgaa

/-! eachOf with the closure of classes. Conditions: a policy with at most 1000 states. -/
namespace Go.Proofs.Ytpdgnmdjneakgaa
set_option linter.unusedVariables false
open Go.RowKit

theorem rowsK_len (xs : List (List Int)) (cl : List Int) : ∀ k, (rowsK xs cl k).2.length = k
  | 0 => rfl
  | k + 1 => by show (_ ++ [_]).length = _; rw [List.length_append, rowsK_len xs cl k]; rfl
theorem rowsK_pre (xs : List (List Int)) (cl : List Int) (k : Nat) : ∀ d, (rowsK xs cl k).2 <+: (rowsK xs cl (k + d)).2
  | 0 => List.prefix_refl _
  | d + 1 => (rowsK_pre xs cl k d).trans (List.prefix_append _ _)
theorem rowsK_at {xs : List (List Int)} {cl : List Int} {k n : Nat} (h : k < n) : (rowsK xs cl n).2[k]? = some ((addR (bhL xs cl k) (rowsK xs cl k).1).idxOf (bhL xs cl k) : Int) := by
  obtain ⟨d, hd⟩ := Nat.exists_eq_add_of_le (show k + 1 ≤ n from h)
  obtain ⟨t, ht⟩ := rowsK_pre xs cl (k + 1) d
  rw [hd, ← ht]
  have hl := rowsK_len xs cl k
  rw [List.getElem?_append_left (by rw [rowsK_len]; omega)]
  show ((rowsK xs cl k).2 ++ [_])[k]? = _
  rw [List.getElem?_append_right (by omega), hl, Nat.sub_self]; rfl
theorem rowsK_small (xs : List (List Int)) (cl : List Int) : ∀ k, (rowsK xs cl k).1.length ≤ k
  | 0 => Nat.le_refl _
  | k + 1 => by
    show (addR _ _).length ≤ _
    have := rowsK_small xs cl k
    unfold addR
    split
    · omega
    · simp; omega

theorem own_turns {S : Nat → Prop} {w w' : World} {lo : Nat} {e : TypeId} {size n : Nat} {v : Value} {xs : List Value} (h : w.ownsRow lo e size v n xs) (ht : Turns S w w') (hS : ∀ k, v.ownBlock = some k → ¬ S k) : w'.ownsRow lo e size v n xs := by
  refine ⟨h.1, ?_⟩
  rcases h.2 with h1 | ⟨r, cap, cur, h1, h2, h3, h4⟩
  · exact .inl h1
  · have hlt : r < w.heap.size := (h.lt r (by rw [h1]; rfl)).2
    refine .inr ⟨r, cap, cur, h1, h2, ?_, h4⟩
    rw [ht.block r hlt (hS r (by rw [h1]; rfl))]; exact h3

set_option maxRecDepth 100000 in
set_option maxHeartbeats 4000000 in
theorem eachCls_c (xs : List (List Int)) (t : Nat) (cl : List Int) (bk g : Nat) (A0 : Option Addr) (n c0 : Nat) (Ac : Option Addr) (cc : Nat) (lo B B1 : Nat) (A : Option Addr) (c : Nat) (w : World)
    (ok : RectP xs) (hcl : ClsI xs t cl) (hn : n ≤ 1000) (hr : InLL w B1 A0 n xs) (hk : BlkIs w bk 29 #[.slice Ac n cc]) (hc : InL w B1 Ac n cl) (hB1 : B1 ≤ w.heap.size)
    (hW : WLR w g lo B A c none []) (hA : (Value.slice A 0 0).ownBlock = none) (hlo : lo ≤ w.heap.size) (hbg : bk ≠ g) (hgB : B1 ≤ g) :
    Calls Try.prog 48 #[.slice A0 n c0, .func (Fn.func 49) #[] #[.pointer (some ⟨bk, 0, none⟩), .pointer (some ⟨g, 0, none⟩)]] w fun e w' => ∃ gO, e = .returned (.slice (some ⟨gO, 0, none⟩) n n) ∧ w'.ownsRow w.heap.size 2 1 (.slice (some ⟨gO, 0, none⟩) n n) n ((rowsK xs cl n).2.map ic) ∧ (∃ A' c' mv' B', WLR w' g lo B' A' c' mv' (rowsK xs cl n).1) ∧ Turns (fun k => k = g) w w' := by
  obtain ⟨i0, hi, hz0, hz1, hz2⟩ := info_parts info64
  have hxn : xs.length = n := hr.1
  have HOK := Lib.hid ok
  have HCL := Lib.hid hcl
  have HR := Lib.hid hr
  have HC := Lib.hid hc
  have HK := Lib.hid hk
  have hbk := hk.lt
  have hgl := hW.box.lt
  go_enter Try.func48, Try.ntmps48
  go_wp2_with (at_make; refine wpList_make_full _ rfl _ _ 29 rfl w.heap.size 2 i0 (.int .i64 0) 1 Try.underlying29 hi hz0 hz1 .i64 .i64 _ _ n rfl rfl rfl rfl (by rw [hz2]; omega) (by unfold maxLen; omega) (Nat.le_refl _) ?_; intro w1 hown hgrow)
  have hb1 := (Below.refl w.heap.size w).grown hgrow (Nat.le_refl _) (fun _ h => by cases h)
  have hlt0 : w.heap.size < w1.heap.size := (hown.lt w.heap.size rfl).2
  have hT1 : Turns (fun k => k = g) w w1 := Turns.of_below hb1
  have hW1 : WLR w1 g lo (w1.heap.size + 3) A c none [] := by
    have h1 := hW.next (S := fun _ => False) (Turns.of_below hb1) (fun k _ e => e)
    exact ⟨h1.box, h1.glo, h1.row, (fun b e => by cases e), h1.nil⟩
  have hl0 : ∃ ys, w1.ownsRow w.heap.size 2 1 (.slice (some ⟨w.heap.size, 0, none⟩) n n) n ys ∧ ∀ j, j < 0 → ys[j]? = ((rowsK xs cl n).2.map ic)[j]? := ⟨_, hown, fun j hj => by omega⟩
  clear hgrow hown hW hr hc hk ok hcl
  go_loopw [6, 7, 13] (fun _ _ i wr => ∃ (k : Nat) (A : Option Addr) (c : Nat) (mv : Option Nat) (Bx : Nat), k ≤ n ∧ i = .int .i64 k ∧ (∃ ys, wr.ownsRow w.heap.size 2 1 (.slice (some ⟨w.heap.size, 0, none⟩) n n) n ys ∧ ∀ j, j < k → ys[j]? = ((rowsK xs cl n).2.map ic)[j]?) ∧ WLR wr g lo Bx A c mv (rowsK xs cl k).1 ∧ Hid (mv = none → (Value.slice A 0 0).ownBlock = none ∧ wr.heap.size + 2 < Bx) ∧ Hid (∀ q, wb g A mv q → q = g ∨ w.heap.size < q) ∧ Turns (fun k => k = g) w wr ∧ w.heap.size < wr.heap.size) (fun _ _ i _ => n - (intOf i).toNat)
  case atStart => exact ⟨0, A, c, none, w1.heap.size + 3, Nat.zero_le _, rfl, hl0, hW1, (fun _ => ⟨hA, by omega⟩), (fun q hq => by
    rcases hq with e | e | e
    · exact .inl e
    · rw [hA] at e; cases e
    · cases e), hT1, hlt0⟩
  case round =>
    clear hl0 hlt0 hb1 hW1 hT1
    obtain ⟨k, A, c, mv, Bx, hk, rfl, ⟨ys, hox, hl⟩, hW, hM, hQ, hT, hlt0⟩ := hrel
    have hbel : Below B1 w wr := hT.below (fun q e => by omega) hB1
    have hsw := hT.size
    by_cases hlt : k < n
    · obtain ⟨b, off, x, rfl, hb, hx, A1, n1, c1, q0, q1⟩ := (HR.out.next hbel (Nat.le_refl _)).at_ hlt
      have hx4 : n1 = 4 := by rw [← q1.1]; exact HOK.out.len x (List.mem_of_getElem? hx)
      subst hx4
      have hsm := rowsK_small xs cl k
      have HI := Lib.hid (classes1_c xs t k cl bk g A1 c1 Ac n cc lo Bx B1 A c mv (rowsK xs cl k).1 wr HOK.out HCL.out hxn hn hlt (by rw [show xs.getD k [] = x by rw [List.getD, hx]; rfl]; exact q1) (hT.blk HK.out hbg) (HC.out.next hbel (Nat.le_refl _)) (by omega) hW hM.out (by omega) (by omega))
      have HAT := Lib.hid (rowsK_at (xs := xs) (cl := cl) hlt)
      have HOX := Lib.hid hox
      have HL := Lib.hid hl
      clear hx q1 hox hl hW
      go_wp2_with fail
      refine HI.out.mono ?_
      rintro e w5 ⟨A', c', b', rfl, hW5, hT5, hn5⟩
      have hg0 : ∀ q, wb g A mv q → q ≠ w.heap.size := fun q h e => by rcases hQ.out q h with h' | h' <;> omega
      have hox2 := own_turns HOX.out hT5 (fun q hq h => by obtain rfl : w.heap.size = q := Option.some.inj hq; exact hg0 _ h rfl)
      have hs5 := hT5.size
      have hxl : ys.length = n * 1 := HOX.out.1
      have hc0 := hox2.cellAt k (by omega)
      rw [List.getElem?_eq_getElem (by omega)] at hc0
      have f0 := hox2.frozenAt k
      obtain ⟨V, hV⟩ : ∃ V : Int, ((addR (bhL xs cl k) (rowsK xs cl k).1).idxOf (bhL xs cl k) : Int) = V := ⟨_, rfl⟩
      have hAT := HAT.out
      rw [hV] at hAT ⊢
      have HAV := Lib.hid hAT
      have hst := Lib.hid (hox2.stored k (.int .i64 V)).1
      have hset : Turns (fun q => q = w.heap.size) w5 (w5.setCell ⟨w.heap.size, k, none⟩ (.int .i64 V)) := (Turns.refl _ _).set rfl
      have hW6 := Lib.hid (hW5.next hset (fun q hq e => by
        rcases hn5 q hq with h' | h'
        · exact hg0 q h' e
        · omega))
      have hQ6 : Hid (∀ q, wb g A' (some b') q → q = g ∨ w.heap.size < q) := fun q hq => by
        rcases hn5 q hq with h' | h'
        · exact hQ.out q h'
        · right; omega
      have hT6 := Lib.hid ((hT.trans hT5 (fun q hq h => by rcases hQ.out q h with h' | h'; exact h'; omega)).trans hset (fun q hq e => by omega))
      clear hAT hW5 hox2 hV hT5 hn5 hset
      go_wp2_with fail
      go_roundw
      case rel =>
        refine ⟨k + 1, A', c', some b', Bx, by omega, by go_num, ⟨_, hst.out, fun j hj => ?_⟩, hW6.out, (fun e => by cases e), hQ6, hT6.out, by simp; omega⟩
        rcases Nat.lt_or_ge j k with h' | h'
        · rw [List.getElem?_set_ne (by omega)]; exact HL.out j h'
        · obtain rfl : j = k := by omega
          rw [List.getElem?_set_self (by omega), List.getElem?_map, HAV.out]; rfl
      case measure => simp [intOf]; omega
    · obtain rfl : k = n := by omega
      have hxl : ys.length = k * 1 := hox.1
      have hys : ys = (rowsK xs cl k).2.map ic := by
        apply List.ext_getElem?
        intro j
        rcases Nat.lt_or_ge j k with h' | h'
        · exact hl j h'
        · rw [List.getElem?_eq_none (by omega), List.getElem?_eq_none (by rw [List.length_map, rowsK_len]; omega)]
      subst hys
      have HO := Lib.hid hox
      have HW := Lib.hid hW
      clear hox hl hW
      go_wp2_with fail
      go_ret
      exact ⟨_, rfl, HO.out, ⟨_, _, _, _, HW.out⟩, hT⟩
end Go.Proofs.Ytpdgnmdjneakgaa

/-! The program's classes. Conditions: a policy with at most 1000 states. -/
namespace Go.Proofs.Ytpdgnmdjneakgaa
set_option linter.unusedVariables false
open Go.RowKit

set_option maxRecDepth 100000 in
set_option maxHeartbeats 4000000 in
theorem classes_c (A : Option Addr) (n c B : Nat) (xs : List (List Int)) (w : World) (h : InLL w B A n xs) (hB : B ≤ w.heap.size) (ok : RectP xs) (hn : n ≤ 1000) :
    Calls Try.prog 36 #[.agg #[.slice A n c]] w (ClsR xs w) := by
  obtain ⟨i0, hi, hz0, hz1, hz2⟩ := info_parts info64
  have hxn : xs.length = n := h.1
  have hb0 := bnew w (.cells #[.slice A n c] 26)
  have hP0 : BlkIs (w.alloc (.cells #[.slice A n c] 26)) w.heap.size 26 #[.slice A n c] := blk_new _ _ _ _ rfl
  have HX := Lib.hid (h.next hb0 hB)
  have hB0 := Nat.le_trans hB hb0.size
  have HOK := Lib.hid ok
  have hk0 : kinds xs 0 = 1 := kinds_zero ok.lo
  clear h ok
  unfold ClsR
  go_enter Try.func36, Try.ntmps36
  go_upto_region 1 with fail
  generalize w.alloc (.cells #[.slice A n c] 26) = W at hb0 hP0 HX hB0 ⊢
  have p0 := hP0.cell 0
  simp at p0
  go_wp2_with (at_make; refine wpList_make_full _ rfl _ _ 29 rfl W.heap.size 2 i0 (.int .i64 0) 1 Try.underlying29 hi hz0 hz1 .i64 .i64 _ _ n rfl rfl rfl rfl (by rw [hz2]; omega) (by unfold maxLen; omega) (Nat.le_refl _) ?_; intro w1 hown hgrow)
  have hb1 := (Below.refl W.heap.size W).grown hgrow (Nat.le_refl _) (fun _ h => by cases h)
  have hc1 : InL w1 w1.heap.size (some ⟨W.heap.size, 0, none⟩) n (List.replicate n 0) := by
    have h1 : w1.ownsRow W.heap.size 2 1 (.slice (some ⟨W.heap.size, 0, none⟩) n n) n ((List.replicate n (0 : Int)).map ic) := by
      rw [List.map_replicate]
      have e := hown
      rw [show (Value.int .i64 0).cells = #[Value.int .i64 0] from rfl, toList_madeCells_one] at e
      simpa [ic] using e
    exact (OwnL.of_own h1).inn
  have hb2 := bnew w1 (.cells #[.slice (some ⟨W.heap.size, 0, none⟩) n n] 29)
  have hK2 : BlkIs (w1.alloc (.cells #[.slice (some ⟨W.heap.size, 0, none⟩) n n] 29)) w1.heap.size 29 #[.slice (some ⟨W.heap.size, 0, none⟩) n n] := blk_new _ _ _ _ rfl
  have hc2 := (hc1.next hb2 (Nat.le_refl _)).more hb2.size
  have hbw := bon hb0 (bon hb1 hb2)
  have hbW := bon hb1 hb2
  have hcl0 : Hid (ClsI xs 0 (List.replicate n 0)) := by show ClsI _ _ _; rw [← hxn]; exact ClsI.zero HOK.out
  clear hgrow hown hc1
  generalize w1.alloc (.cells #[.slice (some ⟨W.heap.size, 0, none⟩) n n] 29) = W2 at hb2 hK2 hc2 hbw hbW ⊢
  have hlb : w.heap.size ≤ w1.heap.size ∧ B ≤ w1.heap.size := ⟨by have := hb0.size; have := hb1.size; omega, by have := hb1.size; omega⟩
  generalize w1.heap.size = bk at hK2 hlb ⊢
  have hbk0 := hK2.lt
  have hP2 := hP0.next hbW
  have HX2 := Lib.hid (HX.out.next hbW hB0)
  have hB2 := Nat.le_trans hB0 hbW.size
  go_loopw [4, 5, 6] (fun ct _ _ wr => ∃ (t : Nat) (Ac : Option Addr) (cc : Nat) (cl : List Int), ct = .int .i64 (kinds xs t : Int) ∧ Hid (ClsI xs t cl) ∧ BlkIs wr bk 29 #[.slice Ac n cc] ∧ InL wr wr.heap.size Ac n cl ∧ Below w.heap.size w wr ∧ BlkIs wr w.heap.size 26 #[.slice A n c] ∧ InLL wr B A n xs ∧ W2.heap.size ≤ wr.heap.size) (fun ct _ _ _ => n + 1 - (intOf ct).toNat)
  case atStart => exact ⟨0, _, _, _, by rw [hk0]; rfl, hcl0, hK2, hc2, hbw, hP2, HX2.out, Nat.le_refl _⟩
  case round =>
    clear hcl0 hK2 hc2 hbw hb0 hb1 hb2 hbW p0 hP0 hP2
    obtain ⟨hlb1, hlb2⟩ := hlb
    rename World => wa
    obtain ⟨t, Ac, cc, cl, rfl, hcl, hK, hin, hbw, hP, hX, hsz⟩ := hrel
    have hkn := kinds_le xs t
    have hg0 := bnew wa (.cells #[.slice none 0 0, .map none] 90)
    have hG : BlkIs (wa.alloc (.cells #[.slice none 0 0, .map none] 90)) wa.heap.size 90 #[.slice none 0 0, .map none] := blk_new _ _ _ _ rfl
    have hWL : WLR (wa.alloc (.cells #[.slice none 0 0, .map none] 90)) wa.heap.size wa.heap.size 0 none 0 none [] := ⟨hG, Nat.le_refl _, World.ownsRow_nil _ _ _ _, (fun b e => by cases e), fun _ => rfl⟩
    have hBa : B ≤ wa.heap.size := Nat.le_trans hB2 hsz
    have HE := Lib.hid (eachCls_c xs t cl bk wa.heap.size A n c Ac cc wa.heap.size 0 wa.heap.size none 0 _ HOK.out hcl.out hn ((hX.next hg0 hBa).more hBa) (hK.next hg0) (hin.next hg0 (Nat.le_refl _)) hg0.size hWL rfl hg0.size (by have := hK.lt; omega) (Nat.le_refl _))
    have hPg := hP.next hg0
    have q0 := hPg.cell 0
    simp at q0
    have HRC0 := rowsK_cls HOK.out hcl.out
    rw [hxn] at HRC0
    have HRC := Lib.hid HRC0
    have hKg := hK.next hg0
    have hXg := hX.next hg0 hBa
    have hing := hin.next hg0 (Nat.le_refl _)
    have hbg := bon hbw hg0
    have hsg : wa.heap.size < (wa.alloc (.cells #[.slice none 0 0, .map none] 90)).heap.size := by simp
    clear hG hWL hX hin HRC0
    have hbkl := hK.lt
    have hpl := hP.lt
    go_wp2_with fail
    refine HE.out.mono ?_
    rintro e w5 ⟨gO, rfl, hown, ⟨A5, c5, mv5, B5, hW5⟩, hT⟩
    have hTb : Below wa.heap.size (wa.alloc (.cells #[.slice none 0 0, .map none] 90)) w5 := hT.below (fun q e => by omega) hg0.size
    have hK5 := hT.blk hKg (by omega)
    have hP5 := hT.blk hPg (by omega)
    have hX5 := hXg.next hTb hBa
    have hI5 := hing.next hTb (Nat.le_refl _)
    have hs5 := hT.size
    have hb5 : Below w.heap.size w w5 := hbg.trans (hTb.mono (by have := hbw.size; omega))
    obtain ⟨KN, hKK⟩ : ∃ KN, (rowsK xs cl n).1.length = KN := ⟨_, rfl⟩
    have hkt := HRC.out.2
    rw [hKK] at hkt
    have l0 := hW5.box.cell 0
    rw [hKK] at l0
    simp at l0
    have k0 := hK5.cell 0
    have k1 := hK5.frozen 0
    simp at k0
    have HX5 := Lib.hid hX5
    have HP5 := Lib.hid hP5
    have HK5 := Lib.hid hK5
    have HI5 := Lib.hid hI5
    clear hW5 hT hTb hKg hPg hXg hing hX5 hP5 hI5 HE
    by_cases hkk : kinds xs (t + 1) = kinds xs t
    · have q1 : ((KN : Int) == (kinds xs t : Int)) = true := by simp only [beq_iff_eq]; omega
      have HKK := Lib.hid hkk
      clear hkk hkt hKK
      go_wp2_with fail
      go_ret
      exact ⟨Ac, cc, cl, t, by rw [hxn]; rfl, hcl.out, settled_of HKK.out, by rw [hxn]; exact HI5.out.more (by omega), hb5⟩
    · have q1 : ((KN : Int) == (kinds xs t : Int)) = false := by simp only [beq_eq_false_iff_ne, ne_eq]; omega
      have hgr : kinds xs t < kinds xs (t + 1) := by have := kinds_more xs t; omega
      have hkn2 := kinds_le xs (t + 1)
      clear hkk
      go_wp2_with fail
      have l1 : w5.drew.cell? ⟨wa.heap.size, 0, none⟩ = some (.slice A5 KN c5) := l0
      have hK6 : BlkIs w5.drew bk 29 #[.slice Ac n cc] := HK5.out
      have hP6 : BlkIs w5.drew w.heap.size 26 #[.slice A n c] := HP5.out
      have hO6 : w5.drew.ownsRow (wa.alloc (.cells #[.slice none 0 0, .map none] 90)).heap.size 2 1 (.slice (some ⟨gO, 0, none⟩) n n) n ((rowsK xs cl n).2.map ic) := hown
      have hX6 : InLL w5.drew B A n xs := HX5.out
      have hb6 : Below w.heap.size w w5.drew := hb5.drew
      have hs6 : w5.drew.heap.size = w5.heap.size := rfl
      clear hown l0 k0 k1
      refine wp_region_held_drew (S := fun w' => w'.cell? ⟨wa.heap.size, 0, none⟩ = some (.slice A5 KN c5)) (by kernel_rfl) l1 ?_
      intro hHeld0
      generalize w5.drew = w6 at hK6 hP6 hO6 hX6 hb6 hs6 l1 hHeld0 ⊢
      refine wpAnyH_take (i := 0) (v := ?_) rfl (by kernel_rfl) (by kernel_rfl) (by kernel_rfl) (fun _ _ _ h => h) (Or.inl ⟨by kernel_rfl, ?_⟩) (by assumption) ?_
      rotate_left
      · intro w9 hS9; (try dsimp only at hS9); go_simp; (try with_reducible rfl)
      set_option linter.unusedSimpArgs false in try simp only [Act.put, List.getElem_toArray, List.getElem_cons_succ, List.getElem_cons_zero, List.setIfInBounds_toArray, List.set_cons_zero, List.set_cons_succ]
      refine wpAnyH_take (i := 1) (v := ?_) rfl (by kernel_rfl) (by kernel_rfl) (by kernel_rfl) (fun _ _ _ h => h) (Or.inl ⟨by kernel_rfl, ?_⟩) (by assumption) ?_
      rotate_left
      · intro w9 hS9; (try dsimp only at hS9); go_simp; (try with_reducible rfl)
      set_option linter.unusedSimpArgs false in try simp only [Act.put, List.getElem_toArray, List.getElem_cons_succ, List.getElem_cons_zero, List.setIfInBounds_toArray, List.set_cons_zero, List.set_cons_succ]
      refine wpAnyH_take (i := 2) (v := ?_) rfl (by kernel_rfl) (by kernel_rfl) (by kernel_rfl) (fun _ _ _ h => h) (Or.inl ⟨by kernel_rfl, ?_⟩) (by assumption) ?_
      rotate_left
      · intro w9 hS9; (try dsimp only at hS9); go_simp; (try with_reducible rfl)
      set_option linter.unusedSimpArgs false in try simp only [Act.put, List.getElem_toArray, List.getElem_cons_succ, List.getElem_cons_zero, List.setIfInBounds_toArray, List.set_cons_zero, List.set_cons_succ]
      refine wpAnyH_take (i := 3) (v := ?_) rfl (by kernel_rfl) (by kernel_rfl) (by kernel_rfl) (fun _ _ _ h => h) (Or.inl ⟨by kernel_rfl, ?_⟩) (by assumption) ?_
      rotate_left
      · intro w9 hS9; (try dsimp only at hS9); go_simp; (try with_reducible rfl)
      set_option linter.unusedSimpArgs false in try simp only [Act.put, List.getElem_toArray, List.getElem_cons_succ, List.getElem_cons_zero, List.setIfInBounds_toArray, List.set_cons_zero, List.set_cons_succ]
      refine wpAnyH_ready (rs := [4]) (by kernel_rfl) (by simp) ?_
      refine AllReadyH.cons rfl (fun K hK => ?_) (AllReadyH.nil)
      have k0 := hK6.cell 0
      have k1 := hK6.frozen 0
      simp at k0
      have hK7 := hK6.set 0 (.slice (some ⟨gO, 0, none⟩) n n)
      simp at hK7
      have l2 : (w6.setCell ⟨bk, 0, none⟩ (.slice (some ⟨gO, 0, none⟩) n n)).cell? ⟨wa.heap.size, 0, none⟩ = some (.slice A5 KN c5) := (World.cell?_of_block (a := ⟨wa.heap.size, 0, none⟩) (Below.heap_setCell w6 ⟨bk, 0, none⟩ _ wa.heap.size (by show wa.heap.size ≠ bk; omega))).trans l1
      go_simp
      refine hK.out _ _ l2 (fun hHeld1 => ?_)
      clear hK K hHeld0
      set_option linter.unusedSimpArgs false in try simp only [Act.put, List.getElem_toArray, List.getElem_cons_succ, List.getElem_cons_zero, List.setIfInBounds_toArray, List.set_cons_zero, List.set_cons_succ]
      refine wpAnyH_take (i := 5) (v := ?_) rfl (by kernel_rfl) (by kernel_rfl) (by kernel_rfl) (fun _ _ _ h => h) (Or.inl ⟨by kernel_rfl, ?_⟩) (by assumption) ?_
      rotate_left
      · intro w9 hS9; (try dsimp only at hS9); go_simp; (try with_reducible rfl)
      set_option linter.unusedSimpArgs false in try simp only [Act.put, List.getElem_toArray, List.getElem_cons_succ, List.getElem_cons_zero, List.setIfInBounds_toArray, List.set_cons_zero, List.set_cons_succ]
      refine wpAnyH_done (by kernel_rfl) ?_ _
      have hO7 := hO6.kept (only_set (w := w6) (g := bk) (i := 0) (x := .slice (some ⟨gO, 0, none⟩) n n)) (.inr (own_ne_blk hO6 hK6 (by decide)))
      have hP7 := hP6.far (g' := bk) (fun e => by rw [e] at hP6; unfold BlkIs at hP6 hK6; rw [hK6] at hP6; injection hP6 with hP6; injection hP6 with _ hP6 _; revert hP6; decide) 0 (.slice (some ⟨gO, 0, none⟩) n n)
      have hb7 := hb6.setCell (p := ⟨bk, 0, none⟩) (by show w.heap.size ≤ bk; omega) (.slice (some ⟨gO, 0, none⟩) n n)
      have hX7 := hX6.next (w' := w6.setCell ⟨bk, 0, none⟩ (.slice (some ⟨gO, 0, none⟩) n n)) (B' := B) ((Below.refl B w6).setCell (p := ⟨bk, 0, none⟩) (by show B ≤ bk; omega) _) (Nat.le_refl _)
      have hI7 := (OwnL.of_own hO7).inn
      have hL7 := Lib.hid (HRC.out.1)
      clear hO6 hP6 hb6 hX6 hK6 l1 l2 k0 k1
      go_wp2_with fail
      go_roundw
      case rel => exact ⟨t + 1, _, _, _, by first | rfl | rw [hkt], hL7.out, hK7, hI7, hb7, hP7, hX7, by simp; omega⟩
      case measure => simp [intOf]; omega
end Go.Proofs.Ytpdgnmdjneakgaa

/-! The program's MinimalPolicy, over what classes gives. Conditions: at most 2^20 rows and numbers. -/
namespace Go.Proofs.Ytpdgnmdjneakgaa
set_option linter.unusedVariables false
open Go.RowKit

end Go.Proofs.Ytpdgnmdjneakgaa

/-! The program's MinimalPolicy. Conditions: at most 2^20 rows and numbers. -/
namespace Go.Proofs.Ytpdgnmdjneakgaa
open Go.RowKit

theorem minimal_c (A : Option Addr) (n c B : Nat) (xs : List (List Int)) (w : World) (h : InLL w B A n xs) (hB : B ≤ w.heap.size) (ok : RectP xs) (hn : n ≤ 1000) :
    Calls Try.prog 23 #[.agg #[.slice A n c]] w fun e w' => ∃ A' c', e = .returned (.agg #[.slice A' (minL xs).length c']) ∧ (∃ rs, PolO w' w.heap.size A' c' (minL xs) rs) ∧ Below w.heap.size w w' :=
  minimal_of A n c B xs w h hB ok hn (fun W hb => classes_c A n c B xs W (h.next hb hB) (Nat.le_trans hB hb.size) ok hn)
end Go.Proofs.Ytpdgnmdjneakgaa

/-! The product of two policies: the closure's step of a pair, and the pairs that are reached. Conditions: valid policies. -/
namespace Go.Proofs.Ytpdgnmdjneakgaa
set_option linter.unusedVariables false
open Go.RowKit Go.Shelf

set_option maxRecDepth 100000 in
set_option maxHeartbeats 2000000 in
theorem pairStep_c (bp bq : Nat) (A : Option Addr) (n c : Nat) (A' : Option Addr) (m c' B : Nat) (xs ys : List (List Int)) (x : Int) (e : Nat) (w : World) (hp : BlkIs w bp 26 #[.slice A n c]) (hq : BlkIs w bq 26 #[.slice A' m c'])
    (h : InLL w B A n xs) (h' : InLL w B A' m ys) (hB : B ≤ w.heap.size) (ok : RectP xs) (ok' : RectP ys) (h0 : 0 ≤ x) (h1 : x < ((n * m : Nat) : Int)) (he : e < 4) :
    Calls Try.prog 34 #[.agg #[.int .i64 (x / (m : Int)), .int .i64 (x % (m : Int))], .int .i64 (e : Int), .pointer (some ⟨bp, 0, none⟩), .pointer (some ⟨bq, 0, none⟩)] w fun v w' => v = .returned (.tuple #[.agg #[.int .i64 ((stP xs ys x e).1 / (m : Int)), .int .i64 ((stP xs ys x e).1 % (m : Int))], .bool (stP xs ys x e).2]) ∧ Below w.heap.size w w' := by
  have hxn : xs.length = n := h.1
  have hym : ys.length = m := h'.1
  have hm := ok'.lo
  obtain ⟨k1, k2⟩ := stP_parts (p := xs) (q := ys) ok' h0 he
  have k3 : (stP xs ys x e).2 = ((stR xs (x / (ys.length : Int)).toNat e).2 && (stR ys (x % (ys.length : Int)).toNat e).2) := rfl
  rw [hym] at k1 k2 k3
  have d1 : 0 ≤ x / (m : Int) := Int.ediv_nonneg h0 (by omega)
  have d2 : x / (m : Int) < (n : Int) := Int.ediv_lt_of_lt_mul (by omega) (by rw [← Int.natCast_mul]; exact h1)
  have d3 : 0 ≤ x % (m : Int) := Int.emod_nonneg _ (by omega)
  have d4 : x % (m : Int) < (m : Int) := Int.emod_lt_of_pos _ (by omega)
  rw [k1, k2, k3]
  obtain ⟨s, hs⟩ : ∃ s : Nat, x / (m : Int) = s := ⟨(x / (m : Int)).toNat, by omega⟩
  obtain ⟨t, ht⟩ : ∃ t : Nat, x % (m : Int) = t := ⟨(x % (m : Int)).toNat, by omega⟩
  rw [hs, ht, Int.toNat_natCast, Int.toNat_natCast]
  rw [hs] at d2
  rw [ht] at d4
  clear k1 k2 k3 d1 d3 hs ht h1
  have hb0 := bnew w (.cells #[.int .i64 (s : Int), .int .i64 (t : Int)] 52)
  have hb1 := bnew (w.alloc (.cells #[.int .i64 (s : Int), .int .i64 (t : Int)] 52)) (.cells #[.int .i64 0, .int .i64 0] 52)
  have hbb := bon hb0 hb1
  have hP : BlkIs ((w.alloc (.cells #[.int .i64 (s : Int), .int .i64 (t : Int)] 52)).alloc (.cells #[.int .i64 0, .int .i64 0] 52)) w.heap.size 52 #[.int .i64 (s : Int), .int .i64 (t : Int)] := (blk_new _ _ _ _ rfl).next hb1
  have hR : BlkIs ((w.alloc (.cells #[.int .i64 (s : Int), .int .i64 (t : Int)] 52)).alloc (.cells #[.int .i64 0, .int .i64 0] 52)) (w.heap.size + 1) 52 #[.int .i64 0, .int .i64 0] := blk_new _ _ _ _ (by simp)
  have hp2 := hp.next hbb
  have hq2 := hq.next hbb
  have HX := h.next hbb hB
  have HY := h'.next hbb hB
  have hB2 := Nat.le_trans hB hbb.size
  have HST1 := Lib.hid (stepR_c A n c B xs s e _ HX hB2 ok (by omega) he)
  have HST2 := Lib.hid (fun W (hb : Below ((w.alloc (.cells #[.int .i64 (s : Int), .int .i64 (t : Int)] 52)).alloc (.cells #[.int .i64 0, .int .i64 0] 52)).heap.size ((w.alloc (.cells #[.int .i64 (s : Int), .int .i64 (t : Int)] 52)).alloc (.cells #[.int .i64 0, .int .i64 0] 52)) W) => stepR_c A' m c' B ys t e W (HY.next hb hB2) (Nat.le_trans hB2 hb.size) ok' (by omega) he)
  clear hp hq h h' HX HY hB2 hb0 hb1 hB h0
  generalize (stR xs s e).1 = z1 at HST1 ⊢
  generalize (stR ys t e).1 = z2 at HST2 ⊢
  generalize (stR ys t e).2 = b2 at HST2 ⊢
  generalize (stR xs s e).2 = b1 at HST1 ⊢
  have e1 : ((false && b2) : Bool) = false := rfl
  have e2 : ((true && b2) : Bool) = b2 := rfl
  cases b1 with
  | false =>
    rw [e1]
    go_enter Try.func34, Try.ntmps34
    go_upto_region 1 with fail
    generalize (w.alloc (.cells #[.int .i64 (s : Int), .int .i64 (t : Int)] 52)).alloc (.cells #[.int .i64 0, .int .i64 0] 52) = W at hbb hP hR hp2 hq2 HST1 HST2 ⊢
    have a0 := hp2.cell 0
    have p0 := hP.cell 0
    simp at a0 p0
    go_wp2_with fail
    refine HST1.out.mono ?_
    rintro v w1 ⟨rfl, hb1⟩
    have a1 := (hq2.next hb1).cell 0
    have p1 := (hP.next hb1).cell 1
    simp at a1 p1
    have HST4 := Lib.hid (HST2.out w1 hb1)
    clear HST1 HST2 a0 p0
    go_wp2_with fail
    refine HST4.out.mono ?_
    rintro v w2 ⟨rfl, hb2⟩
    have hR2 := (hR.next hb1).next hb2
    have r0 := hR2.cell 0
    have r1 := hR2.cell 1
    have f0 := hR2.frozen 0
    have f1 := hR2.frozen 1
    simp at r0 r1
    have hR3 := (hR2.set 0 (.int .i64 z1)).set 1 (.int .i64 z2)
    simp at hR3
    have r2 := hR3.cell 0
    have r3 := hR3.cell 1
    simp at r2 r3
    have hbe := ((bon (bon hbb hb1) hb2).setCell (p := ⟨w.heap.size + 1, 0, none⟩) (by simp) (.int .i64 z1)).setCell (p := ⟨w.heap.size + 1, 1, none⟩) (by simp) (.int .i64 z2)
    clear a1 p1 HST4
    go_wp2_with fail
    exact bodyPost_ret (v := .tuple #[.agg #[.int .i64 z1, .int .i64 z2], .bool false]) (by simp [results, Try.results34, go_sem, r2, r3]) rfl ⟨rfl, hbe⟩
  | true =>
    rw [e2]
    go_enter Try.func34, Try.ntmps34
    go_upto_region 1 with fail
    generalize (w.alloc (.cells #[.int .i64 (s : Int), .int .i64 (t : Int)] 52)).alloc (.cells #[.int .i64 0, .int .i64 0] 52) = W at hbb hP hR hp2 hq2 HST1 HST2 ⊢
    have a0 := hp2.cell 0
    have p0 := hP.cell 0
    simp at a0 p0
    go_wp2_with fail
    refine HST1.out.mono ?_
    rintro v w1 ⟨rfl, hb1⟩
    have a1 := (hq2.next hb1).cell 0
    have p1 := (hP.next hb1).cell 1
    simp at a1 p1
    have HST4 := Lib.hid (HST2.out w1 hb1)
    clear HST1 HST2 a0 p0
    go_wp2_with fail
    refine HST4.out.mono ?_
    rintro v w2 ⟨rfl, hb2⟩
    have hR2 := (hR.next hb1).next hb2
    have r0 := hR2.cell 0
    have r1 := hR2.cell 1
    have f0 := hR2.frozen 0
    have f1 := hR2.frozen 1
    simp at r0 r1
    have hR3 := (hR2.set 0 (.int .i64 z1)).set 1 (.int .i64 z2)
    simp at hR3
    have r2 := hR3.cell 0
    have r3 := hR3.cell 1
    simp at r2 r3
    have hbe := ((bon (bon hbb hb1) hb2).setCell (p := ⟨w.heap.size + 1, 0, none⟩) (by simp) (.int .i64 z1)).setCell (p := ⟨w.heap.size + 1, 1, none⟩) (by simp) (.int .i64 z2)
    clear a1 p1 HST4
    go_wp2_with fail
    exact bodyPost_ret (v := .tuple #[.agg #[.int .i64 z1, .int .i64 z2], .bool b2]) (by simp [results, Try.results34, go_sem, r2, r3]) rfl ⟨rfl, hbe⟩

theorem own_ne_blkQ {w : World} {lo n z g : Nat} {e t : TypeId} {v : Value} {xs : List Value} {cs : Array Value} (h : w.ownsRow lo e z v n xs) (hb : BlkIs w g t cs) (ht : t ≠ e) : v.ownBlock ≠ some g := fun hk => by
  rcases h.2 with ⟨e1, _⟩ | ⟨g', cap, cur, e1, _, h3, _⟩
  · rw [e1] at hk; cases hk
  rw [e1] at hk
  obtain rfl : g' = g := Option.some.inj hk
  unfold BlkIs at hb
  rw [h3] at hb
  injection hb with hb
  injection hb with _ hb _
  exact ht hb.symm
set_option maxRecDepth 100000 in
set_option maxHeartbeats 2000000 in
theorem product_c (A : Option Addr) (n c : Nat) (A' : Option Addr) (m c' B : Nat) (xs ys : List (List Int)) (w : World) (h : InLL w B A n xs) (h' : InLL w B A' m ys) (hB : B ≤ w.heap.size) (ok : PolOk xs) (ok' : PolOk ys) :
    Calls Try.prog 17 #[.agg #[.slice A n c], .agg #[.slice A' m c']] w fun e w' => ∃ (L : List Int) (R : List (List Int)) (Av : Option Addr) (cv : Nat) (rs : List (Value × List Int)) (A2 : Option Addr) (c2 : Nat), e = .returned (.tuple #[.agg #[.slice Av R.length cv], .slice A2 L.length c2]) ∧ UnfEnd (stP xs ys) 0 L R ∧ PolO w' w.heap.size Av cv R rs ∧ w'.ownsRow w.heap.size 52 2 (.slice A2 L.length c2) L.length (L.flatMap (pv (m : Int))) ∧ Below w.heap.size w w' := by
  have hxn : xs.length = n := h.1
  have hym : ys.length = m := h'.1
  have hn1 := ok.lo
  have hn2 := ok.hi
  have hm1 := ok'.lo
  have hm2 := ok'.hi
  have hN2 : n * m ≤ 144 := Nat.mul_le_mul (show n ≤ 12 by omega) (show m ≤ 12 by omega)
  have hN1 : 0 < n * m := Nat.mul_pos (by omega) (by omega)
  have hst : Stays (stP xs ys) (n * m) := by have := stP_stays ok.rect ok'.rect; rwa [hxn, hym] at this
  have hb0 := bnew w (.cells #[.slice A n c] 26)
  have hb1 := bnew (w.alloc (.cells #[.slice A n c] 26)) (.cells #[.slice A' m c'] 26)
  have hb2 := bnew ((w.alloc (.cells #[.slice A n c] 26)).alloc (.cells #[.slice A' m c'] 26)) (.cells #[.slice none 0 0] 26)
  have hbb := bon (bon hb0 hb1) hb2
  have hP : BlkIs (((w.alloc (.cells #[.slice A n c] 26)).alloc (.cells #[.slice A' m c'] 26)).alloc (.cells #[.slice none 0 0] 26)) w.heap.size 26 #[.slice A n c] := ((blk_new _ _ _ _ rfl).next hb1).next hb2
  have hQ : BlkIs (((w.alloc (.cells #[.slice A n c] 26)).alloc (.cells #[.slice A' m c'] 26)).alloc (.cells #[.slice none 0 0] 26)) (w.heap.size + 1) 26 #[.slice A' m c'] := (blk_new _ _ _ _ (by simp)).next hb2
  have hR : BlkIs (((w.alloc (.cells #[.slice A n c] 26)).alloc (.cells #[.slice A' m c'] 26)).alloc (.cells #[.slice none 0 0] 26)) (w.heap.size + 1 + 1) 26 #[.slice none 0 0] := blk_new _ _ _ _ (by simp)
  have HX := Lib.hid (h.next hbb hB)
  have HY := Lib.hid (h'.next hbb hB)
  have hB2 := Nat.le_trans hB hbb.size
  have HU := Lib.hid (callsIn_wide.1 (unfoldedQ_in (m : Int) (by omega) (stP xs ys) (n * m) hst (by omega) (by omega) w.heap.size (w.heap.size + 1) (((w.alloc (.cells #[.slice A n c] 26)).alloc (.cells #[.slice A' m c'] 26)).alloc (.cells #[.slice none 0 0] 26)) (fun W x e hbW hx0 hxn' he =>
    pairStep_c w.heap.size (w.heap.size + 1) A n c A' m c' B xs ys x e W (hP.next hbW) (hQ.next hbW) (HX.out.next hbW hB2) (HY.out.next hbW hB2) (Nat.le_trans hB2 hbW.size) ok.rect ok'.rect hx0 hxn' he)))
  clear hP hQ HX HY h h' hb0 hb1 hb2
  go_enter Try.func17, Try.ntmps17
  go_upto_region 1 with fail
  generalize ((w.alloc (.cells #[.slice A n c] 26)).alloc (.cells #[.slice A' m c'] 26)).alloc (.cells #[.slice none 0 0] 26) = W at hbb hR HU hB2 ⊢
  go_wp2_with fail
  refine HU.out.mono ?_
  rintro e w5 ⟨L, R, v, gs, A5, c5, hend, rfl, hrows, hown, hb5⟩
  have h4 : ∀ r ∈ R, r.length = 4 := by
    obtain ⟨k, h1, _⟩ := hend
    have := unf_rows hst (x0 := 0) (by omega) k
    rw [h1] at this
    exact this
  obtain ⟨Av, cv, rs, rfl, hpo⟩ := hrows.polO h4
  have hR5 := hR.next hb5
  have r0 := hR5.cell 0
  have r1 := hR5.frozen 0
  simp at r0
  have HPO := Lib.hid hpo
  have HOW := Lib.hid hown
  have HEND := Lib.hid hend
  have hRl := hR.lt
  have hb06 := bon hbb hb5
  clear hrows hown hend hpo HU
  obtain ⟨q, hq⟩ : ∃ q, R.length = q := ⟨_, rfl⟩
  obtain ⟨ql, hql⟩ : ∃ q, L.length = q := ⟨_, rfl⟩
  rw [hq, hql]
  have HQ := Lib.hid hq
  have HQL := Lib.hid hql
  clear hq hql
  go_wp2_with fail
  have hR6 := hR5.set 0 (.slice Av q cv)
  have r2 : (w5.setCell ⟨w.heap.size + 1 + 1, 0, none⟩ (.slice Av q cv)).cell? ⟨w.heap.size + 1 + 1, 0, none⟩ = some (.slice Av q cv) := by
    have := hR6.cell 0
    simpa using this
  have hbe := hb06.setCell (p := ⟨w.heap.size + 1 + 1, 0, none⟩) (by simp; omega) (.slice Av q cv)
  have HPF := Lib.hid ((HPO.out.far (i := 0) (u := .slice Av q cv) hRl).less hbb.size)
  have HOF := Lib.hid (own_less (HOW.out.kept (only_set (w := w5) (g := w.heap.size + 1 + 1) (i := 0) (x := .slice Av q cv)) (.inr (own_ne_blkQ HOW.out hR5 (by decide)))) hbb.size)
  refine bodyPost_ret (v := .tuple #[.agg #[.slice Av q cv], .slice A5 ql c5]) (by simp [results, Try.results17, go_sem, r2]) rfl ?_
  have hq := HQ.out
  have hql := HQL.out
  subst hq hql
  exact ⟨L, R, Av, cv, rs, A5, c5, rfl, HEND.out, HPF.out, HOF.out, hbe⟩
end Go.Proofs.Ytpdgnmdjneakgaa

/-! The model's policy of all pairs. Conditions: valid policies. -/
namespace Go.Proofs.Ytpdgnmdjneakgaa
set_option linter.unusedVariables false
open Go.RowKit

section
variable {wc W W' Wa : World} {bO k n : Nat} {rs : List (Value × List Int)} {v : Value} {vs : List Value} {A : Option Addr} {c g' c' : Nat} {zs : List Int} {z : Int}
theorem MinW.lastN (h : MinW wc bO (rs ++ [(.slice A n c, zs)]) v k vs W) (hl : zs.length = n) (hb : Below W.heap.size W Wa) (hgrow : Wa.grownBy W' (Value.slice A n c).ownBlock) (hsep : some g' = (Value.slice A n c).ownBlock ∨ Wa.heap.size ≤ g')
    (hown : W'.ownsRow wc.heap.size 2 1 (.slice (some ⟨g', 0, none⟩) (n + 1) c') (n + 1) (zs.map ic ++ [.int .i64 z])) : MinW wc bO (rs ++ [(.slice (some ⟨g', 0, none⟩) (n + 1) c', zs ++ [z])]) v k vs W' := by
  have h1 := h.app (i := rs.length) (p := (.slice A n c, zs)) (by simp) hb hgrow hsep (zs := zs ++ [z]) (by rw [List.length_append, hl, List.map_append]; exact hown)
  have e : (rs ++ [((Value.slice A n c, zs) : Value × List Int)]).set rs.length (.slice (some ⟨g', 0, none⟩) (n + 1) c', zs ++ [z]) = rs ++ [(.slice (some ⟨g', 0, none⟩) (n + 1) c', zs ++ [z])] := by
    rw [List.set_append_right _ _ (Nat.le_refl _), Nat.sub_self]; rfl
  rw [e] at h1
  exact h1
theorem MinW.ownLastN (h : MinW wc bO (rs ++ [(.slice A n c, zs)]) v k vs W) (hl : zs.length = n) : W.ownsRow wc.heap.size 2 1 (.slice A n c) n (zs.map ic) := by
  have := h.rows.own rs.length (.slice A n c, zs) (by simp)
  rw [show ((Value.slice A n c, zs) : Value × List Int).2.length = n from hl] at this; exact this
end
theorem boR_take {p q : List (List Int)} {i e : Nat} (he : e < 4) : (boR p q i).take (e + 1) = (boR p q i).take e ++ [boE p q i e] := by
  unfold boR
  rw [List.take_add_one, List.getElem?_map, List.getElem?_range he]; rfl
theorem boR_len (p q : List (List Int)) (i : Nat) : (boR p q i).length = 4 := by simp [boR]

set_option maxRecDepth 100000 in
set_option maxHeartbeats 4000000 in
theorem l10Both_c (b o : Nat) (A : Option Addr) (n c B : Nat) (xs : List (List Int)) (b' o' : Nat) (A' : Option Addr) (m c' : Nat) (ys : List (List Int)) (w : World) (p0 : w.cell? ⟨b, o, none⟩ = some (.slice A n c)) (h : InLL w B A n xs)
    (p1 : w.cell? ⟨b', o', none⟩ = some (.slice A' m c')) (h' : InLL w B A' m ys) (hB : B ≤ w.heap.size) (ok : PolOk xs) (ok' : PolOk ys) :
    Calls Try.prog 25 #[.pointer (some ⟨b, o, none⟩), .pointer (some ⟨b', o', none⟩)] w fun e w' => ∃ A' c', e = .returned (.agg #[.slice A' (bothL xs ys).length c']) ∧ (∃ rs, PolO w' w.heap.size A' c' (bothL xs ys) rs) ∧ Below w.heap.size w w' := by
  obtain ⟨i0, hi, hz0, hz1, hz2⟩ := info_parts info64
  obtain ⟨i1, hi', hz0', hz1', hz2'⟩ := info_parts infoRow
  have hxn : xs.length = n := h.1
  have hym : ys.length = m := h'.1
  have hn1 := ok.lo
  have hn2 := ok.hi
  have hm1 := ok'.lo
  have hm2 := ok'.hi
  obtain ⟨N, hN⟩ : ∃ N, n * m = N := ⟨_, rfl⟩
  have hN2 : N ≤ 144 := by rw [← hN]; exact Nat.mul_le_mul (show n ≤ 12 by omega) (show m ≤ 12 by omega)
  have hmul : (n : Int) * (m : Int) = (N : Int) := by rw [← hN, Int.natCast_mul]
  have hwm : IntKind.i64.wrap ((n : Int) * (m : Int)) = (N : Int) := by rw [hmul]; exact IntWalk.i64_in _ (by omega)
  have hb0 := bnew w (.cells #[.slice none 0 0] 26)
  have hR0 : BlkIs (w.alloc (.cells #[.slice none 0 0] 26)) w.heap.size 26 #[.slice none 0 0] := blk_new _ _ _ _ rfl
  have q0 := cell_next p0 hb0
  have q1 := cell_next p1 hb0
  have HBL : Hid ((bothL xs ys).length = N ∧ bothL xs ys = (List.range N).map (boR xs ys)) := by
    refine ⟨by rw [bothL_len, hxn, hym]; exact hN, ?_⟩
    unfold bothL
    rw [hxn, hym, hN]
  obtain ⟨V, hV⟩ : ∃ V, bothL xs ys = V := ⟨_, rfl⟩
  rw [hV] at HBL ⊢
  have HX := Lib.hid (h.next hb0 hB)
  have HY := Lib.hid (h'.next hb0 hB)
  have hBs := Nat.le_trans hB hb0.size
  have HOK := Lib.hid ok.rect
  have HOK' := Lib.hid ok'.rect
  have HN := Lib.hid hN
  clear hV h h' ok ok' p0 p1 hN
  go_enter Try.func25, Try.ntmps25
  go_wp2_with fail
  have hsz : (w.alloc (.cells #[.slice none 0 0] 26)).heap.size = w.heap.size + 1 := by simp
  generalize w.alloc (.cells #[.slice none 0 0] 26) = W0 at hb0 hR0 HX HY hBs q0 q1 hsz ⊢
  have hM0 : MinW W0 (w.heap.size + 1) [] (.slice none 0 0) 0 [] (W0.alloc (.cells #[.slice none 0 0] 26)) := by
    rw [← hsz]
    exact ⟨⟨(fun i p hp => by cases hp), (fun i j p q _ hp => by cases hp)⟩, World.ownsRow_nil _ _ _ _, blk_new _ _ _ _ rfl, bnew _ _, Nat.le_refl _⟩
  clear hsz
  generalize W0.alloc (.cells #[.slice none 0 0] 26) = W1 at hM0 ⊢
  generalize w.heap.size + 1 = bO at hM0 ⊢
  have hM1 := hM0
  clear hM0
  go_loopw [7, 8, 9, 10, 11] (fun i _ _ _ _ wr => ∃ (k : Nat) (v : Value) (rs : List (Value × List Int)), i = .int .i64 k ∧ Hid (rs.map Prod.snd = (List.range k).map (boR xs ys)) ∧ rs.length = k ∧ k ≤ N ∧ MinW W0 bO rs v k (rs.map Prod.fst) wr) (fun i _ _ _ _ _ => N - (intOf i).toNat)
  case atStart => exact ⟨0, _, [], rfl, rfl, rfl, Nat.zero_le _, hM1⟩
  case round =>
    clear hM1
    rename World => wa
    obtain ⟨k, v, rs, rfl, HRS, hrs, hk, hM⟩ := hrel
    have r0 := cell_next q0 hM.below
    have r1 := cell_next q1 hM.below
    by_cases hlt : k < N
    · obtain ⟨d1, d2⟩ := pair_lt (a := n) (b := m) (i := k) (by rw [HN.out]; exact hlt)
      have hM2 : MinW W0 bO (rs ++ [(.slice (some ⟨wa.heap.size, 0, none⟩) 0 0, [])]) v k (rs.map Prod.fst) (wa.alloc (.cells #[] 2)) := hM.snoc (bnew wa _) (own_empty wa _)
      have i3 : (k : Int) < (N : Int) := by omega
      clear hM
      go_wp2_with fail
      generalize wa.alloc (.cells #[] 2) = W2 at hM2 ⊢
      clear r0 r1
      go_loopw [8, 9, 10, 11] (fun r j _ _ wr => ∃ (e : Nat) (Ar : Option Addr) (cr : Nat), j = .int .i64 e ∧ r = .slice Ar e cr ∧ e ≤ 4 ∧ MinW W0 bO (rs ++ [(.slice Ar e cr, (boR xs ys k).take e)]) v k (rs.map Prod.fst) wr) (fun _ j _ _ _ => 4 - (intOf j).toNat)
      case atStart => exact ⟨0, _, _, rfl, rfl, by omega, hM2⟩
      case round =>
        clear hM2
        rename World => wi
        obtain ⟨e, Ar, cr, rfl, rfl, he, hM⟩ := hrel
        have htk : ((boR xs ys k).take e).length = e := by rw [List.length_take, boR_len]; omega
        have o2 := hM.ownLastN htk
        have hbel := hM.below
        have hsc : W0.heap.size ≤ wi.heap.size := hbel.size
        have HM := Lib.hid hM
        clear hM
        by_cases he4 : e < 4
        · have HTN := Lib.hid (boR_take (p := xs) (q := ys) (i := k) he4)
          obtain ⟨b1, off1, A3, c3, b2, off2, rfl, u0, rfl, u1⟩ := (HX.out.next hbel hBs).cell_atR HOK.out (s := k / m) (e := e) d1 he4
          obtain ⟨b3, off3, A4, c4, b4, off4, rfl, v0, rfl, v1⟩ := (HY.out.next hbel hBs).cell_atR HOK'.out (s := k % m) (e := e) d2 he4
          have r0 := cell_next q0 hbel
          have r1 := cell_next q1 hbel
          have i4 : ((k / m : Nat) : Int) < (n : Int) := by omega
          have i5 : ((k % m : Nat) : Int) < (m : Int) := by omega
          have i6 : (e : Int) < 4 := by omega
          have e1 : (k : Int).tdiv (m : Int) = ((k / m : Nat) : Int) := by rw [Int.tdiv_eq_ediv_of_nonneg (by omega), Int.natCast_ediv]
          have e2 : (k : Int).tmod (m : Int) = ((k % m : Nat) : Int) := by rw [Int.tmod_eq_emod_of_nonneg (by omega), Int.natCast_emod]
          have e3 : ¬ (m : Int) = 0 := by omega
          have hbo := boE_in HOK.out HOK'.out (i := k) (e := e) (by rw [hxn, hym, HN.out]; exact hlt) he4
          rw [hxn, hym, HN.out] at hbo
          have hbd : boE xs ys k e = if nxP xs (k / m) e < 0 ∨ nxP ys (k % m) e < 0 then -1 else nxP xs (k / m) e * (m : Int) + nxP ys (k % m) e := by unfold boE; rw [hym]
          obtain ⟨_, _, _, _, g1, g2⟩ := HOK.out.at_ (s := k / m) (e := e) (by omega) he4
          obtain ⟨_, _, _, _, g3, g4⟩ := HOK'.out.at_ (s := k % m) (e := e) (by omega) he4
          generalize nxP xs (k / m) e = x at u1 hbd g1 g2
          generalize nxP ys (k % m) e = y at v1 hbd g3 g4
          generalize boE xs ys k e = z at HTN hbd hbo
          obtain ⟨ki, hki⟩ : ∃ ki, k / m = ki := ⟨_, rfl⟩
          obtain ⟨kj, hkj⟩ : ∃ kj, k % m = kj := ⟨_, rfl⟩
          rw [hki] at u0 i4 e1
          rw [hkj] at v0 i5 e2
          clear hki hkj d1 d2
          have e4 : IntKind.i64.wrap (ki : Int) = (ki : Int) := IntWalk.i64_in _ (by omega)
          have e5 : IntKind.i64.wrap (kj : Int) = (kj : Int) := IntWalk.i64_in _ (by omega)
          by_cases hx : x < 0
          · rw [if_pos (.inl hx)] at hbd
            subst hbd
            have hx2 : decide (x < 0) = true := decide_eq_true hx
            clear hbo
            go_wp2_with fail
            go_quiet (fail)
            go_wp2_with fail
            go_quiet (fail)
            go_wp2_with (at_builtin; refine wpList_append_sep rfl _ _ 29 rfl W0.heap.size 2 i0 (.int .i64 0) 1 8 Try.underlying29 hi hz0 hz1 hz2 rfl (by decide) _ _ _ rfl (by first | exact o2.alloc _ | exact (o2 : World.ownsRow _ _ _ _ _ _ _).alloc _) ⟨wi.heap.size, 0, none⟩ 1 1 [.int .i64 (-1)] rfl rfl (cell_one_new _ _ _) (by simp [Value.oneCell']) (by unfold maxLen; omega) (by omega) (by simp; omega) (by omega) ?_; intro g' cap' w4 hown4 hgrow4 hsep4)
            go_roundw
            case rel =>
              refine ⟨e + 1, some ⟨g', 0, none⟩, cap', by go_num, rfl, by omega, ?_⟩
              rw [HTN.out]
              exact HM.out.lastN htk ((below_drewN (Below.refl _ _) _).alloc (Nat.le_refl _) _) hgrow4 hsep4 hown4
            case measure => simp [intOf]; omega
          · by_cases hy : y < 0
            · rw [if_pos (.inr hy)] at hbd
              subst hbd
              have hx2 : decide (x < 0) = false := decide_eq_false hx
              have hy2 : decide (y < 0) = true := decide_eq_true hy
              clear hbo
              go_wp2_with fail
              go_quiet (fail)
              go_wp2_with fail
              go_quiet (fail)
              go_wp2_with (at_builtin; refine wpList_append_sep rfl _ _ 29 rfl W0.heap.size 2 i0 (.int .i64 0) 1 8 Try.underlying29 hi hz0 hz1 hz2 rfl (by decide) _ _ _ rfl (by first | exact o2.alloc _ | exact (o2 : World.ownsRow _ _ _ _ _ _ _).alloc _) ⟨wi.heap.size, 0, none⟩ 1 1 [.int .i64 (-1)] rfl rfl (cell_one_new _ _ _) (by simp [Value.oneCell']) (by unfold maxLen; omega) (by omega) (by simp; omega) (by omega) ?_; intro g' cap' w4 hown4 hgrow4 hsep4)
              go_roundw
              case rel =>
                refine ⟨e + 1, some ⟨g', 0, none⟩, cap', by go_num, rfl, by omega, ?_⟩
                rw [HTN.out]
                exact HM.out.lastN htk ((below_drewN (Below.refl _ _) _).alloc (Nat.le_refl _) _) hgrow4 hsep4 hown4
              case measure => simp [intOf]; omega
            · rw [if_neg (by omega)] at hbd
              have hx2 : decide (x < 0) = false := decide_eq_false hx
              have hy2 : decide (y < 0) = false := decide_eq_false hy
              have e6 : IntKind.i64.wrap (x * (m : Int)) = x * (m : Int) := IntWalk.i64_in _ (by have := Int.mul_nonneg (a := x) (b := (m : Int)) (by omega) (by omega); omega)
              have e7 : IntKind.i64.wrap (x * (m : Int) + y) = x * (m : Int) + y := IntWalk.i64_in _ (by omega)
              subst hbd
              go_wp2_with fail
              go_quiet (fail)
              go_wp2_with fail
              go_quiet (fail)
              go_wp2_with (at_builtin; refine wpList_append_sep rfl _ _ 29 rfl W0.heap.size 2 i0 (.int .i64 0) 1 8 Try.underlying29 hi hz0 hz1 hz2 rfl (by decide) _ _ _ rfl (by first | exact o2.alloc _ | exact (o2 : World.ownsRow _ _ _ _ _ _ _).alloc _) ⟨wi.heap.size, 0, none⟩ 1 1 [.int .i64 (x * (m : Int) + y)] rfl rfl (cell_one_new _ _ _) (by simp [Value.oneCell']) (by unfold maxLen; omega) (by omega) (by simp; omega) (by omega) ?_; intro g' cap' w4 hown4 hgrow4 hsep4)
              go_roundw
              case rel =>
                refine ⟨e + 1, some ⟨g', 0, none⟩, cap', by go_num, rfl, by omega, ?_⟩
                rw [HTN.out]
                exact HM.out.lastN htk ((below_drewN (Below.refl _ _) _).alloc (Nat.le_refl _) _) hgrow4 hsep4 hown4
              case measure => simp [intOf]; omega
        · obtain rfl : e = 4 := by omega
          have hM := HM.out
          obtain ⟨Av, cv, rfl, _⟩ := own_slice hM.out
          have ho := hM.out
          have v0 := hM.box.cell 0
          simp at v0
          have hbl := hM.box.lt
          have hlo := hM.lo
          have hR4e : (boR xs ys k).take 4 = boR xs ys k := List.take_of_length_le (by rw [boR_len]; exact Nat.le_refl _)
          have hNR : Hid ((rs ++ [((Value.slice Ar 4 cr, boR xs ys k) : Value × List Int)]).map Prod.snd = (List.range (k + 1)).map (boR xs ys)) := by
            show _ = _
            rw [List.map_append, HRS.out, List.range_succ, List.map_append]; rfl
          clear hM
          go_wp2_with (at_builtin; refine wpList_append_sep rfl _ _ 24 rfl W0.heap.size 29 i1 (.slice none 0 0) 1 24 Try.underlying24 hi' hz0' hz1' hz2' rfl (by decide) _ _ _ rfl (ho.alloc _) ⟨wi.heap.size, 0, none⟩ 1 1 [.slice Ar 4 cr] rfl rfl (cell_one_new _ _ _) (by simp [Value.oneCell']) (by unfold maxLen; omega) (by omega) (by simp; omega) (by omega) ?_; intro g' cap' w4 hown4 hgrow4 hsep4; have B2 := (HM.out.box.next (bnew wi (.cells #[.slice Ar 4 cr] 29))).by_grown hgrow4 (own_ne_blk HM.out.out HM.out.box (by decide)); have e0 := B2.cell 0; have f0 := B2.frozen 0; simp at e0)
          have hM5 := HM.out.row (bnew _ _) hgrow4 hown4 (fun g hg e => by
            obtain rfl : g' = g := Option.some.inj hg
            rcases hsep4 with h' | h'
            · exact own_ne_blk HM.out.out HM.out.box (by decide) (h'.symm.trans (congrArg some e))
            · simp at h'; omega)
          go_roundw
          case rel =>
            refine ⟨k + 1, .slice (some ⟨g', 0, none⟩) (k + 1) cap', rs ++ [(.slice Ar 4 cr, boR xs ys k)], by go_num, hNR, by simp [hrs], by omega, ?_⟩
            rw [List.map_append]
            rw [hR4e] at hM5
            exact hM5
          case measure => simp [intOf]; omega
    · obtain rfl : k = N := by omega
      have HF : rs.map Prod.snd = V := by rw [HBL.out.2]; exact HRS.out
      have hvl : V.length = k := HBL.out.1
      obtain ⟨Av, cv, rfl, _⟩ := own_slice hM.out
      have hRW := hR0.next hM.below
      have v0 := hM.box.cell 0
      simp at v0
      have s0 := hRW.cell 0
      have s1 := hRW.frozen 0
      simp at s0
      have i3 : ¬ (k : Int) < (k : Int) := by omega
      have HM := Lib.hid hM
      clear hM
      go_wp2_with fail
      have r2 : (wa.setCell ⟨w.heap.size, 0, none⟩ (.slice Av k cv)).cell? ⟨w.heap.size, 0, none⟩ = some (.slice Av k cv) := by
        have := (hRW.set 0 (.slice Av k cv)).cell 0
        simpa using this
      have hrows := HM.out.rows.other (only_set (w := wa) (g := w.heap.size) (i := 0) (x := .slice Av k cv)) (fun i p hp g hg e => by
        obtain rfl : w.heap.size = g := Option.some.inj e
        exact own_ne_blk (HM.out.rows.own i p hp) hRW (by decide) hg)
      have hout := HM.out.out.kept (only_set (w := wa) (g := w.heap.size) (i := 0) (x := .slice Av k cv)) (.inr (own_ne_blk HM.out.out hRW (by decide)))
      refine bodyPost_ret (v := .agg #[.slice Av k cv]) (by simp [results, Try.results25, go_sem, r2]) rfl ?_
      refine ⟨Av, cv, by first | rfl | rw [hvl], ⟨rs, HF, hrows.less hb0.size, ?_⟩, (bon hb0 HM.out.below).setCell (p := ⟨w.heap.size, 0, none⟩) (Nat.le_refl _) _⟩
      rw [hvl]
      exact own_less hout hb0.size
end Go.Proofs.Ytpdgnmdjneakgaa

/-! BothPolicies: the model and the program. Conditions: at most 2^20 rows and numbers. -/
namespace Go.Proofs.Ytpdgnmdjneakgaa
set_option linter.unusedVariables false
open Go.RowKit

def bothR (xs ys : List (List Int)) : List (List Int) × Bool := if polB xs = true ∧ polB ys = true ∧ (minL (bothL xs ys)).length ≤ 12 then (minL (bothL xs ys), true) else ([], false)
theorem bothR_one {xs ys : List (List Int)} (h : polB xs = false) : bothR xs ys = ([], false) := if_neg (by rw [h]; simp)
theorem bothR_two {xs ys : List (List Int)} (h : polB ys = false) : bothR xs ys = ([], false) := if_neg (by rw [h]; simp)
theorem bothR_no {xs ys : List (List Int)} (h : ¬ (minL (bothL xs ys)).length ≤ 12) : bothR xs ys = ([], false) := if_neg (fun k => h k.2.2)
theorem bothR_yes {xs ys : List (List Int)} (h1 : polB xs = true) (h2 : polB ys = true) (h : (minL (bothL xs ys)).length ≤ 12) : bothR xs ys = (minL (bothL xs ys), true) := if_pos ⟨h1, h2, h⟩
theorem bothR_small (xs ys : List (List Int)) : (bothR xs ys).1.length ≤ 12 ∧ totLL (bothR xs ys).1 ≤ 48 := by
  by_cases h : polB xs = true ∧ polB ys = true ∧ (minL (bothL xs ys)).length ≤ 12
  · obtain ⟨h1, h2, h3⟩ := h
    have okb := bothL_rect (polOk_of h1).rect (polOk_of h2).rect
    have h4 := (minL_small okb).2
    rw [bothR_yes h1 h2 h3]
    refine ⟨h3, ?_⟩
    show totLL (minL (bothL xs ys)) ≤ 48
    rw [totLL_four h4]; omega
  · have e : bothR xs ys = ([], false) := if_neg h
    rw [e]; exact ⟨by simp, by simp [totLL]⟩

set_option maxRecDepth 100000 in
set_option maxHeartbeats 4000000 in
theorem specBoth_c (A : Option Addr) (n c : Nat) (A' : Option Addr) (m c' B : Nat) (xs ys : List (List Int)) (w : World) (h : InLL w B A n xs) (h' : InLL w B A' m ys) (hB : B ≤ w.heap.size) (hn : n ≤ 1048576) (hm : m ≤ 1048576) :
    Calls Try.prog 11 #[.agg #[.slice A n c], .agg #[.slice A' m c']] w fun e w' => ∃ A' c', e = .returned (.tuple #[.agg #[.slice A' (bothR xs ys).1.length c'], .bool (bothR xs ys).2]) ∧ (∃ rs, PolO w' w.heap.size A' c' (bothR xs ys).1 rs) ∧ Below w.heap.size w w' := by
  have hb0 := bnew w (.cells #[.slice A n c] 26)
  have hb1 := bnew (w.alloc (.cells #[.slice A n c] 26)) (.cells #[.slice A' m c'] 26)
  have hb2 := bnew ((w.alloc (.cells #[.slice A n c] 26)).alloc (.cells #[.slice A' m c'] 26)) (.cells #[.slice none 0 0] 26)
  have hbb := bon (bon hb0 hb1) hb2
  have hP : BlkIs (((w.alloc (.cells #[.slice A n c] 26)).alloc (.cells #[.slice A' m c'] 26)).alloc (.cells #[.slice none 0 0] 26)) w.heap.size 26 #[.slice A n c] := ((blk_new _ _ _ _ rfl).next hb1).next hb2
  have hQ : BlkIs (((w.alloc (.cells #[.slice A n c] 26)).alloc (.cells #[.slice A' m c'] 26)).alloc (.cells #[.slice none 0 0] 26)) (w.heap.size + 1) 26 #[.slice A' m c'] := (blk_new _ _ _ _ (by simp)).next hb2
  have hR : BlkIs (((w.alloc (.cells #[.slice A n c] 26)).alloc (.cells #[.slice A' m c'] 26)).alloc (.cells #[.slice none 0 0] 26)) (w.heap.size + 1 + 1) 26 #[.slice none 0 0] := blk_new _ _ _ _ (by simp)
  have HX := Lib.hid (h.next hbb hB)
  have HY := Lib.hid (h'.next hbb hB)
  have hB2 := Nat.le_trans hB hbb.size
  clear h h' hb0 hb1 hb2
  obtain ⟨W, hW⟩ : ∃ W, ((w.alloc (.cells #[.slice A n c] 26)).alloc (.cells #[.slice A' m c'] 26)).alloc (.cells #[.slice none 0 0] 26) = W := ⟨_, rfl⟩
  rw [hW] at hP hQ hR hbb HX HY hB2
  have HWW := Lib.hid hW
  clear hW
  have p0 : W.cell? ⟨w.heap.size, 0, none⟩ = some (.slice A n c) := hP.cell 0
  have q0 : W.cell? ⟨w.heap.size + 1, 0, none⟩ = some (.slice A' m c') := hQ.cell 0
  have HS1 := l10Is_c w.heap.size 0 A n c B xs _ p0 HX.out hn
  have HS2 := l10Is_c (w.heap.size + 1) 0 A' m c' B ys _ q0 HY.out hm
  have z0 := hR.cell 0
  have z1 := hR.frozen 0
  simp at z0
  have hfail : ∀ (w' : World), w' = W.setCell ⟨w.heap.size + 1 + 1, 0, none⟩ (.slice none 0 0) → w'.cell? ⟨w.heap.size + 1 + 1, 0, none⟩ = some (.slice none 0 0) ∧ Below w.heap.size w w' := fun w' e => by
    subst e
    have := (hR.set 0 (.slice none 0 0)).cell 0
    exact ⟨by simpa using this, hbb.setCell (p := ⟨w.heap.size + 1 + 1, 0, none⟩) (by simp; omega) _⟩
  have HF := Lib.hid hfail
  clear hfail
  cases hv : polB xs with
  | false =>
    have HN := Lib.hid (bothR_one (ys := ys) hv)
    rw [HN.out]
    rw [hv] at HS1
    have HS := Lib.hid HS1
    clear hv HS1 HS2
    go_enter Try.func11, Try.ntmps11
    go_upto_region 1 with fail
    rw [HWW.out]
    go_wp2_with fail
    refine HS.out.mono ?_
    rintro v w1 ⟨rfl, rfl⟩
    go_wp2_with fail
    obtain ⟨k1, k2⟩ := HF.out _ rfl
    exact bodyPost_ret (v := .tuple #[.agg #[.slice none 0 0], .bool false]) (by simp [results, Try.results11, go_sem, k1]) rfl ⟨none, 0, rfl, ⟨[], PolO.nil _ _⟩, k2⟩
  | true =>
    rw [hv] at HS1
    have HS := Lib.hid HS1
    clear HS1
    cases hu : polB ys with
    | false =>
      have HN := Lib.hid (bothR_two (xs := xs) hu)
      rw [HN.out]
      rw [hu] at HS2
      have HT := Lib.hid HS2
      clear hv hu HS2
      go_enter Try.func11, Try.ntmps11
      go_upto_region 1 with fail
      rw [HWW.out]
      go_wp2_with fail
      refine HS.out.mono ?_
      rintro v w1 ⟨rfl, rfl⟩
      go_wp2_with fail
      refine HT.out.mono ?_
      rintro v w1 ⟨rfl, rfl⟩
      go_wp2_with fail
      obtain ⟨k1, k2⟩ := HF.out _ rfl
      exact bodyPost_ret (v := .tuple #[.agg #[.slice none 0 0], .bool false]) (by simp [results, Try.results11, go_sem, k1]) rfl ⟨none, 0, rfl, ⟨[], PolO.nil _ _⟩, k2⟩
    | true =>
      rw [hu] at HS2
      have HT := Lib.hid HS2
      have HOK := Lib.hid (polOk_of hv)
      have HOK' := Lib.hid (polOk_of hu)
      have hxn : xs.length = n := HX.out.1
      have hym : ys.length = m := HY.out.1
      have HBO := Lib.hid (l10Both_c w.heap.size 0 A n c B xs (w.heap.size + 1) 0 A' m c' ys W p0 HX.out q0 HY.out hB2 HOK.out HOK'.out)
      have HRC := Lib.hid (bothL_rect HOK.out.rect HOK'.out.rect)
      have HBN : Hid ((bothL xs ys).length ≤ 144) := by
        show _ ≤ 144
        rw [bothL_len]
        exact Nat.mul_le_mul (show xs.length ≤ 12 from HOK.out.hi) (show ys.length ≤ 12 from HOK'.out.hi)
      have HYES := Lib.hid (bothR_yes hv hu)
      have HNO := Lib.hid (bothR_no (xs := xs) (ys := ys))
      obtain ⟨R, hRR⟩ : ∃ R, bothR xs ys = R := ⟨_, rfl⟩
      rw [hRR] at HYES HNO ⊢
      obtain ⟨Q, hQQ⟩ : ∃ Q, bothL xs ys = Q := ⟨_, rfl⟩
      rw [hQQ] at HBO HRC HBN HYES HNO
      clear hv hu HS2 hRR hQQ
      go_enter Try.func11, Try.ntmps11
      go_upto_region 1 with fail
      rw [HWW.out]
      go_wp2_with fail
      refine HS.out.mono ?_
      rintro v w1 ⟨rfl, rfl⟩
      go_wp2_with fail
      refine HT.out.mono ?_
      rintro v w1 ⟨rfl, rfl⟩
      go_wp2_with fail
      refine HBO.out.mono ?_
      rintro v w2 ⟨Aq, cq, rfl, ⟨rsq, hpq⟩, hb2⟩
      have hb3 := bnew w2 (.cells #[.slice Aq Q.length cq] 26)
      have HMI := Lib.hid (l10Minimal_c w2.heap.size 0 Aq Q.length cq w2.heap.size Q (w2.alloc (.cells #[.slice Aq Q.length cq] 26)) (by simp) (hpq.inn.next hb3 (Nat.le_refl _)) hb3.size HRC.out (by have := HBN.out; omega))
      obtain ⟨V, hV⟩ : ∃ V, minL Q = V := ⟨_, rfl⟩
      rw [hV] at HMI HYES HNO
      have hb03 := bon (bon hbb hb2) hb3
      have hs23 := (bon hb2 hb3).size
      have hR3 := (hR.next hb2).next hb3
      clear hV hpq
      go_wp2_with fail
      generalize w2.alloc (.cells #[.slice Aq Q.length cq] 26) = W3 at HMI hb03 hR3 hs23 ⊢
      refine HMI.out.mono ?_
      rintro v w4 ⟨Av, cv, rfl, ⟨rs, hpv⟩, hb4⟩
      have hb5 := bnew w4 (.cells #[.slice Av V.length cv] 26)
      have hb05 := bon (bon hb03 hb4) hb5
      have hR5 := (hR3.next hb4).next hb5
      have hlt := hR.lt
      have HPV := Lib.hid (hpv.keep hb5)
      have d0 : (w4.alloc (.cells #[.slice Av V.length cv] 26)).cell? ⟨w4.heap.size, 0, none⟩ = some (.slice Av V.length cv) := by simp
      have g0 := hR5.cell 0
      have g1 := hR5.frozen 0
      simp at g0
      clear hpv HMI
      by_cases h12 : V.length ≤ 12
      · have hE := HYES.out h12
        subst hE
        have i1 : ¬ (12 : Int) < (V.length : Int) := by omega
        have i2 : decide ((V.length : Int) > 12) = false := decide_eq_false (by omega)
        go_wp2_with fail
        have hR6 := hR5.set 0 (.slice Av V.length cv)
        have r2 := hR6.cell 0
        simp at r2
        have hbe := hb05.setCell (p := ⟨w.heap.size + 1 + 1, 0, none⟩) (by simp; omega) (.slice Av V.length cv)
        have HPF := (HPV.out.far (g := w.heap.size + 1 + 1) (i := 0) (u := .slice Av V.length cv) (by omega)).less hb03.size
        exact bodyPost_ret (v := .tuple #[.agg #[.slice Av V.length cv], .bool true]) (by simp [results, Try.results11, go_sem, r2]) rfl ⟨Av, cv, rfl, ⟨rs, HPF⟩, hbe⟩
      · have hE := HNO.out h12
        subst hE
        have i1 : (12 : Int) < (V.length : Int) := by omega
        go_wp2_with fail
        have hR6 := hR5.set 0 (.slice none 0 0)
        have r2 := hR6.cell 0
        simp at r2
        have hbe := hb05.setCell (p := ⟨w.heap.size + 1 + 1, 0, none⟩) (by simp; omega) (.slice none 0 0)
        exact bodyPost_ret (v := .tuple #[.agg #[.slice none 0 0], .bool false]) (by simp [results, Try.results11, go_sem, r2]) rfl ⟨none, 0, rfl, ⟨[], PolO.nil _ _⟩, hbe⟩
set_option maxRecDepth 100000 in
set_option maxHeartbeats 4000000 in
theorem implBoth_c (A : Option Addr) (n c : Nat) (A' : Option Addr) (m c' B : Nat) (xs ys : List (List Int)) (w : World) (h : InLL w B A n xs) (h' : InLL w B A' m ys) (hB : B ≤ w.heap.size) (hn : n ≤ 1048576) (hm : m ≤ 1048576) (hea : ∀ x ∈ xs, x.length ≤ 1048576) (hea' : ∀ x ∈ ys, x.length ≤ 1048576) :
    Calls Try.prog 9 #[.agg #[.slice A n c], .agg #[.slice A' m c']] w fun e w' => ∃ A' c', e = .returned (.tuple #[.agg #[.slice A' (bothR xs ys).1.length c'], .bool (bothR xs ys).2]) ∧ (∃ rs, PolO w' w.heap.size A' c' (bothR xs ys).1 rs) ∧ Below w.heap.size w w' := by
  have hb0 := bnew w (.cells #[.slice A n c] 26)
  have hb1 := bnew (w.alloc (.cells #[.slice A n c] 26)) (.cells #[.slice A' m c'] 26)
  have hb2 := bnew ((w.alloc (.cells #[.slice A n c] 26)).alloc (.cells #[.slice A' m c'] 26)) (.cells #[.slice none 0 0] 26)
  have hbb := bon (bon hb0 hb1) hb2
  have hP : BlkIs (((w.alloc (.cells #[.slice A n c] 26)).alloc (.cells #[.slice A' m c'] 26)).alloc (.cells #[.slice none 0 0] 26)) w.heap.size 26 #[.slice A n c] := ((blk_new _ _ _ _ rfl).next hb1).next hb2
  have hQ : BlkIs (((w.alloc (.cells #[.slice A n c] 26)).alloc (.cells #[.slice A' m c'] 26)).alloc (.cells #[.slice none 0 0] 26)) (w.heap.size + 1) 26 #[.slice A' m c'] := (blk_new _ _ _ _ (by simp)).next hb2
  have hR : BlkIs (((w.alloc (.cells #[.slice A n c] 26)).alloc (.cells #[.slice A' m c'] 26)).alloc (.cells #[.slice none 0 0] 26)) (w.heap.size + 1 + 1) 26 #[.slice none 0 0] := blk_new _ _ _ _ (by simp)
  have HX := Lib.hid (h.next hbb hB)
  have HY := Lib.hid (h'.next hbb hB)
  have hB2 := Nat.le_trans hB hbb.size
  clear h h' hb0 hb1 hb2
  obtain ⟨W, hW⟩ : ∃ W, ((w.alloc (.cells #[.slice A n c] 26)).alloc (.cells #[.slice A' m c'] 26)).alloc (.cells #[.slice none 0 0] 26) = W := ⟨_, rfl⟩
  rw [hW] at hP hQ hR hbb HX HY hB2
  have HWW := Lib.hid hW
  clear hW
  have HS1 := implPolicy_c A n c B xs _ HX.out hB2 hn hea
  have HS2 := Lib.hid (fun W1 (hb : Below W.heap.size W W1) => implPolicy_c A' m c' B ys W1 (HY.out.next hb hB2) (Nat.le_trans hB2 hb.size) hm hea')
  have p0 := hP.cell 0
  simp at p0
  have hfail : ∀ (W1 : World), Below W.heap.size W W1 → (W1.setCell ⟨w.heap.size + 1 + 1, 0, none⟩ (.slice none 0 0)).cell? ⟨w.heap.size + 1 + 1, 0, none⟩ = some (.slice none 0 0) ∧ Below w.heap.size w (W1.setCell ⟨w.heap.size + 1 + 1, 0, none⟩ (.slice none 0 0)) := fun W1 hb => by
    have := ((hR.next hb).set 0 (.slice none 0 0)).cell 0
    exact ⟨by simpa using this, (bon hbb hb).setCell (p := ⟨w.heap.size + 1 + 1, 0, none⟩) (by simp; omega) _⟩
  have HF := Lib.hid hfail
  clear hfail
  cases hv : polB xs with
  | false =>
    have HN := Lib.hid (bothR_one (ys := ys) hv)
    rw [HN.out]
    rw [hv] at HS1
    have HS := Lib.hid HS1
    clear hv HS1 HS2
    go_enter Try.func9, Try.ntmps9
    go_upto_region 1 with fail
    rw [HWW.out]
    go_wp2_with fail
    refine HS.out.mono ?_
    rintro v w1 ⟨rfl, hb1⟩
    have z0 := (hR.next hb1).cell 0
    have z1 := (hR.next hb1).frozen 0
    simp at z0
    go_wp2_with fail
    obtain ⟨k1, k2⟩ := HF.out _ hb1
    exact bodyPost_ret (v := .tuple #[.agg #[.slice none 0 0], .bool false]) (by simp [results, Try.results9, go_sem, k1]) rfl ⟨none, 0, rfl, ⟨[], PolO.nil _ _⟩, k2⟩
  | true =>
    rw [hv] at HS1
    have HS := Lib.hid HS1
    clear HS1
    cases hu : polB ys with
    | false =>
      have HN := Lib.hid (bothR_two (xs := xs) hu)
      rw [HN.out]
      rw [hu] at HS2
      clear hv hu
      go_enter Try.func9, Try.ntmps9
      go_upto_region 1 with fail
      rw [HWW.out]
      go_wp2_with fail
      refine HS.out.mono ?_
      rintro v w1 ⟨rfl, hb1⟩
      have q0 := (hQ.next hb1).cell 0
      simp at q0
      have HT := Lib.hid (HS2.out w1 hb1)
      clear HS2
      go_wp2_with fail
      refine HT.out.mono ?_
      rintro v w2 ⟨rfl, hb2⟩
      have hb12 := bon hb1 hb2
      have z0 := (hR.next hb12).cell 0
      have z1 := (hR.next hb12).frozen 0
      simp at z0
      go_wp2_with fail
      obtain ⟨k1, k2⟩ := HF.out _ hb12
      exact bodyPost_ret (v := .tuple #[.agg #[.slice none 0 0], .bool false]) (by simp [results, Try.results9, go_sem, k1]) rfl ⟨none, 0, rfl, ⟨[], PolO.nil _ _⟩, k2⟩
    | true =>
      rw [hu] at HS2
      have HOK := Lib.hid (polOk_of hv)
      have HOK' := Lib.hid (polOk_of hu)
      have hxn : xs.length = n := HX.out.1
      have hym : ys.length = m := HY.out.1
      have HPR := Lib.hid (fun W1 (hb : Below W.heap.size W W1) => product_c A n c A' m c' B xs ys W1 (HX.out.next hb hB2) (HY.out.next hb hB2) (Nat.le_trans hB2 hb.size) HOK.out HOK'.out)
      have HBM := Lib.hid (fun L R (h : UnfEnd (stP xs ys) 0 L R) => both_minL HOK.out.rect HOK'.out.rect h)
      have hN2 : xs.length * ys.length ≤ 144 := Nat.mul_le_mul (show xs.length ≤ 12 from HOK.out.hi) (show ys.length ≤ 12 from HOK'.out.hi)
      have HYES := Lib.hid (bothR_yes hv hu)
      have HNO := Lib.hid (bothR_no (xs := xs) (ys := ys))
      obtain ⟨R, hRR⟩ : ∃ R, bothR xs ys = R := ⟨_, rfl⟩
      rw [hRR] at HYES HNO ⊢
      clear hv hu hRR
      go_enter Try.func9, Try.ntmps9
      go_upto_region 1 with fail
      rw [HWW.out]
      go_wp2_with fail
      refine HS.out.mono ?_
      rintro v w1 ⟨rfl, hb1⟩
      have q0 := (hQ.next hb1).cell 0
      simp at q0
      have HT := Lib.hid (HS2.out w1 hb1)
      clear HS2 p0
      go_wp2_with fail
      refine HT.out.mono ?_
      rintro v w2 ⟨rfl, hb2⟩
      have hb12 := bon hb1 hb2
      have p0 := (hP.next hb12).cell 0
      have q1 := (hQ.next hb12).cell 0
      simp at p0 q1
      have HPC := Lib.hid (HPR.out w2 hb12)
      clear q0 HPR HT
      go_wp2_with fail
      refine HPC.out.mono ?_
      rintro v w3 ⟨L, Q, Aq, cq, rsq, A2, c2, rfl, hend, hpq, _, hb3⟩
      obtain ⟨okQ, hQl, hQm⟩ := HBM.out L Q hend
      have hb4 := bnew w3 (.cells #[.slice Aq Q.length cq] 26)
      have HMI := Lib.hid (minimal_c Aq Q.length cq w3.heap.size Q (w3.alloc (.cells #[.slice Aq Q.length cq] 26)) (hpq.inn.next hb4 (Nat.le_refl _)) hb4.size okQ (by omega))
      obtain ⟨V, hV⟩ : ∃ V, minL (bothL xs ys) = V := ⟨_, rfl⟩
      rw [hQm, hV] at HMI
      rw [hV] at HYES HNO
      have d9 : (w3.alloc (.cells #[.slice Aq Q.length cq] 26)).cell? ⟨w3.heap.size, 0, none⟩ = some (.slice Aq Q.length cq) := by simp
      have hb03 := bon (bon (bon hbb hb12) hb3) hb4
      have hs23 := (bon (bon hb12 hb3) hb4).size
      have hR3 := ((hR.next hb12).next hb3).next hb4
      clear hV hpq hend HBM hQm okQ HPC p0 q1
      go_wp2_with fail
      generalize w3.alloc (.cells #[.slice Aq Q.length cq] 26) = W3 at HMI hb03 hR3 hs23 d9 ⊢
      refine HMI.out.mono ?_
      rintro v w4 ⟨Av, cv, rfl, ⟨rs, hpv⟩, hb4⟩
      have hb5 := bnew w4 (.cells #[.slice Av V.length cv] 26)
      have hb05 := bon (bon hb03 hb4) hb5
      have hR5 := (hR3.next hb4).next hb5
      have hlt := hR.lt
      have HPV := Lib.hid (hpv.keep hb5)
      have d0 : (w4.alloc (.cells #[.slice Av V.length cv] 26)).cell? ⟨w4.heap.size, 0, none⟩ = some (.slice Av V.length cv) := by simp
      have g0 := hR5.cell 0
      have g1 := hR5.frozen 0
      simp at g0
      clear hpv HMI
      by_cases h12 : V.length ≤ 12
      · have hE := HYES.out h12
        subst hE
        have i1 : ¬ (12 : Int) < (V.length : Int) := by omega
        have i2 : decide ((V.length : Int) > 12) = false := decide_eq_false (by omega)
        go_wp2_with fail
        have hR6 := hR5.set 0 (.slice Av V.length cv)
        have r2 := hR6.cell 0
        simp at r2
        have hbe := hb05.setCell (p := ⟨w.heap.size + 1 + 1, 0, none⟩) (by simp; omega) (.slice Av V.length cv)
        have HPF := (HPV.out.far (g := w.heap.size + 1 + 1) (i := 0) (u := .slice Av V.length cv) (by omega)).less hb03.size
        exact bodyPost_ret (v := .tuple #[.agg #[.slice Av V.length cv], .bool true]) (by simp [results, Try.results9, go_sem, r2]) rfl ⟨Av, cv, rfl, ⟨rs, HPF⟩, hbe⟩
      · have hE := HNO.out h12
        subst hE
        have i1 : (12 : Int) < (V.length : Int) := by omega
        go_wp2_with fail
        have hR6 := hR5.set 0 (.slice none 0 0)
        have r2 := hR6.cell 0
        simp at r2
        have hbe := hb05.setCell (p := ⟨w.heap.size + 1 + 1, 0, none⟩) (by simp; omega) (.slice none 0 0)
        exact bodyPost_ret (v := .tuple #[.agg #[.slice none 0 0], .bool false]) (by simp [results, Try.results9, go_sem, r2]) rfl ⟨none, 0, rfl, ⟨[], PolO.nil _ _⟩, hbe⟩
end Go.Proofs.Ytpdgnmdjneakgaa
