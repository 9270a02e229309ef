/-
  unfolded, over the numbers of a policy's states. Conditions: at most 1000 items.
-/
import Derived.Test.YtopijecdhjnipaaUnfM
import Derived.Test.YtopijecdhjnipaaRepeat
import Derived.Test.YtopijecdhjnipaaPolS
import Derived.Test.YtopijecdhjnipaaRound
import Derived.Deep.RegionHeld3
namespace Go.Proofs.Ytopijecdhjnipaa
set_option linter.unusedVariables false
open Go.RowKit Go.Shelf Go.Deep
attribute [local go_sem] Oper.semAt_some

/-- What unfolded gives. -/
def UnfR (st : Int → Nat → Int × Bool) (x0 : Int) (w : World) (e : Ending) (w' : World) : Prop :=
  ∃ L R v gs A c, UnfEnd st x0 L R ∧ e = .returned (.tuple #[.agg #[v], .slice A L.length c]) ∧ RowsP w' w.heap.size v gs R (fun k => (Value.slice A 0 0).ownBlock = some k) ∧ w'.ownsRow w.heap.size 2 1 (.slice A L.length c) L.length (L.map ic) ∧ Below w.heap.size w w'

set_option maxRecDepth 100000 in
set_option maxHeartbeats 4000000 in
theorem unfolded_in (st : Int → Nat → Int × Bool) (N : Nat) (hst : Stays st N) (hN : N ≤ 1000) (x0 : Int) (hx0 : 0 ≤ x0 ∧ x0 < (N : Int)) (A0 : Option Addr) (n0 c0 : Nat) (w : World)
    (HF0 : ∀ (W : World) (x : Int) (e : Nat), Below w.heap.size w W → 0 ≤ x → x < (N : Int) → e < 4 → Calls Try.prog 37 #[.agg #[.slice A0 n0 c0], .int .i64 x, .int .i64 (e : Int)] W fun v w' => v = .returned (.tuple #[.int .i64 (st x e).1, .bool (st x e).2]) ∧ Below W.heap.size W w') :
    CallsIn Fence.wide 5 Try.prog 46 #[.int .i64 x0, .func (.func 37) #[.agg #[.slice A0 n0 c0]] #[]] w (UnfR st x0 w) := by
  refine callsIn_of_wp_marks Try.func46 rfl trivial ?_ rfl
  simp only [Try.ntmps46, List.size_toArray, List.length_cons, List.length_nil, Nat.reduceAdd, Nat.reduceSub, Array.replicate_succ, Array.replicate_zero, List.push_toArray, List.append_toArray, List.nil_append, List.cons_append]
  obtain ⟨FV, hFV⟩ : ∃ FV : Value, FV = .func (.func 37) #[.agg #[.slice A0 n0 c0]] #[] := ⟨_, rfl⟩
  have HF := Lib.hid HF0
  clear HF0
  have hB0 : Below w.heap.size w ((((w.alloc (.cells #[.func (.func 37) #[.agg #[.slice A0 n0 c0]] #[]] 55)).alloc (.cells #[.slice none 0 0] 26)).alloc (.cells #[.slice none 0 0] 26)).alloc (.cells #[.slice none 0 0, .map none] 86)) := bon (bon (bon (bnew _ _) (bnew _ _)) (bnew _ _)) (bnew _ _)
  have hsz : (((((w.alloc (.cells #[.func (.func 37) #[.agg #[.slice A0 n0 c0]] #[]] 55)).alloc (.cells #[.slice none 0 0] 26)).alloc (.cells #[.slice none 0 0] 26)).alloc (.cells #[.slice none 0 0, .map none] 86))).heap.size = w.heap.size + 4 := by simp
  have b0 : BlkIs ((((w.alloc (.cells #[.func (.func 37) #[.agg #[.slice A0 n0 c0]] #[]] 55)).alloc (.cells #[.slice none 0 0] 26)).alloc (.cells #[.slice none 0 0] 26)).alloc (.cells #[.slice none 0 0, .map none] 86)) w.heap.size 55 #[.func (.func 37) #[.agg #[.slice A0 n0 c0]] #[]] := (((blk_new _ _ _ _ rfl).next (bnew _ _)).next (bnew _ _)).next (bnew _ _)
  have b1 : BlkIs ((((w.alloc (.cells #[.func (.func 37) #[.agg #[.slice A0 n0 c0]] #[]] 55)).alloc (.cells #[.slice none 0 0] 26)).alloc (.cells #[.slice none 0 0] 26)).alloc (.cells #[.slice none 0 0, .map none] 86)) (w.heap.size + 1) 26 #[.slice none 0 0] := ((blk_new _ _ _ _ (by simp)).next (bnew _ _)).next (bnew _ _)
  have b2 : BlkIs ((((w.alloc (.cells #[.func (.func 37) #[.agg #[.slice A0 n0 c0]] #[]] 55)).alloc (.cells #[.slice none 0 0] 26)).alloc (.cells #[.slice none 0 0] 26)).alloc (.cells #[.slice none 0 0, .map none] 86)) (w.heap.size + 1 + 1) 26 #[.slice none 0 0] := (blk_new _ _ _ _ (by simp)).next (bnew _ _)
  have b3 : BlkIs ((((w.alloc (.cells #[.func (.func 37) #[.agg #[.slice A0 n0 c0]] #[]] 55)).alloc (.cells #[.slice none 0 0] 26)).alloc (.cells #[.slice none 0 0] 26)).alloc (.cells #[.slice none 0 0, .map none] 86)) (w.heap.size + 1 + 1 + 1) 86 #[.slice none 0 0, .map none] := blk_new _ _ _ _ (by simp)
  obtain ⟨W4, hW4⟩ : ∃ W4, ((((w.alloc (.cells #[.func (.func 37) #[.agg #[.slice A0 n0 c0]] #[]] 55)).alloc (.cells #[.slice none 0 0] 26)).alloc (.cells #[.slice none 0 0] 26)).alloc (.cells #[.slice none 0 0, .map none] 86)) = W4 := ⟨_, rfl⟩
  rw [hW4] at hB0 hsz b0 b1 b2 b3
  have hWL0 : WL W4 (w.heap.size + 1 + 1 + 1) w.heap.size (w.heap.size + 5) none 0 none [] := ⟨b3, by omega, World.ownsRow_nil _ _ _ _, (fun b e => by cases e), fun _ => rfl⟩
  have HADD := Lib.hid (add_first_c (w.heap.size + 1 + 1 + 1) w.heap.size (w.heap.size + 5) none 0 [] x0 W4 hWL0 rfl (by omega) (by omega) (by omega))
  gi_wp2_with (refine ⟨trivial, ?_⟩; gi_at_call 59; (try rw [hW4]); refine (callsIn_wide.2 HADD.out).mono ?_; rintro e w1 ⟨A1, c1, b, rfl, hW1, ht1, hn1⟩)
  clear HADD hWL0 hW4
  rw [addL_new (by simp), List.nil_append] at hW1
  have hs1 := ht1.size
  have hnb : ∀ k, k < w.heap.size + 3 → ¬ wb (w.heap.size + 1 + 1 + 1) A1 (some b) k := fun k hk e => by
    rcases hn1 k e with h | h <;> omega
  have hI0 : UnfI st x0 w FV w.heap.size (w.heap.size + 1) (w.heap.size + 1 + 1) (w.heap.size + 1 + 1 + 1) (w.heap.size + 5) b ([x0], 0) A1 c1 (.slice none 0 0) [] w1 := by
    have hbx := (hW1.num b rfl).2.2.lt
    refine ⟨⟨?_, ht1.blk b1 (by omega), ht1.blk b2 (by omega), hW1, RowsP.nil _ _ _, ?_, ⟨by omega, by omega, by omega, by omega, by omega, by omega, ?_⟩, ⟨hnb _ (by omega), hnb _ (by omega), hnb _ (by omega), by omega, by omega, by omega⟩⟩, Nat.zero_le _, rfl⟩
    · rw [hFV]; exact ht1.blk b0 (by omega)
    · exact hB0.trans ((ht1.below (B := w.heap.size) (fun k hk => by omega) (by omega)))
    · have hx := (hW1.num b rfl).2.2.lt
      have hm := hn1 b (.inr (.inr rfl))
      have hne := (hW1.map_ne rfl).1
      omega
  obtain ⟨i0, hi0⟩ : ∃ i0 : Int, ((addL x0 []).idxOf x0 : Int) = i0 := ⟨_, rfl⟩
  rw [hi0]
  refine range_bound (σ := List Int × Nat) (α := Int) rfl (by omega) (gf := 60) (bd := #[.pointer (some ⟨w.heap.size + 1 + 1 + 1, 0, none⟩)]) rfl trivial (enters_of Try.func60 (by kernel_rfl) rfl) (encs := fun x : Int => #[.int .i64 x]) (fun _ => rfl)
    (fun s W => w1.heap.size ≤ W.heap.size ∧ ∃ A c v gs, UnfI st x0 w FV w.heap.size (w.heap.size + 1) (w.heap.size + 1 + 1) (w.heap.size + 1 + 1 + 1) (w.heap.size + 5) b s A c v gs W)
    (fun _ _ => False) ?own (fun _ _ _ _ h _ _ => h) (s0 := ([x0], 0)) ⟨Nat.le_refl _, A1, c1, _, _, hI0⟩
    (each_rounds Fence.wide 4 trivial rfl (by omega) (w.heap.size + 1 + 1 + 1) _ (fun L k W h => by
      obtain ⟨_, A, c, v, gs, h⟩ := h
      refine ⟨h.2.1, ?_, _, _, A, c, some b, h.1.wl⟩
      have h1 := h.2.2
      have h2 := (unf_among hst hx0 k).len
      rw [h1] at h2
      exact Nat.le_trans h2 hN) [x0]) (fun x : Int => { tmps := #[.int .i64 x0, .func (.func 37) #[.agg #[.slice A0 n0 c0]] #[], undef, .pointer (some ⟨w.heap.size, 0, none⟩), .pointer (some ⟨w.heap.size + 1, 0, none⟩), .slice none 0 0, .pointer (some ⟨w.heap.size + 1 + 1, 0, none⟩), .pointer (some ⟨w.heap.size + 1 + 1 + 1, 0, none⟩), .int .i64 x, undef, undef, undef, undef, .int .i64 x0, .int .i64 i0, .func (.func 60) #[.pointer (some ⟨w.heap.size + 1 + 1 + 1, 0, none⟩)] #[], .int .i64 x, undef, undef, undef, undef, undef, undef, undef, undef, undef, undef, undef, undef, undef, undef, undef, undef, undef, undef, undef, undef, undef, undef, undef, undef, undef, undef, undef, undef, undef, undef], defers := [] }) ?assign ?body ?done ?stop
  case own =>
    rintro s W W' row ⟨h1, A, c, v, gs, h⟩ hg hr
    exact ⟨Nat.le_trans h1 hg.size, A, c, v, gs, h.1.other hg (fun r e => ⟨by have := (hr r e).1; have := hI0.1.bs; omega, (hr r e).2⟩), h.2⟩
  case assign =>
    intro l s x W K hI hK
    gi_wp2
    exact hK
  case body =>
    rintro l ⟨L, k⟩ x W hl ⟨hW1W, A, c, v, gs, h, hle, hrun⟩ hx
    have hx' : L[k]? = some x := hx
    have hle' : k ≤ L.length := hle
    have hrun' : (unf st x0 k).1 = L := hrun
    have hAm := unf_among hst hx0 k
    rw [hrun'] at hAm
    have hxr := hAm.2 x (List.mem_of_getElem? hx')
    have hR4 := unf_rows hst hx0 k
    have hB5 := hI0.1.bs
    have hC : UnfC w FV w.heap.size (w.heap.size + 1) (w.heap.size + 1 + 1) (w.heap.size + 1 + 1 + 1) (w.heap.size + 5) b L (unf st x0 k).2 A c v gs W := h
    have hWs := hC.below.size
    have hbT := bnew W (.cells #[.int .i64 (-1)] 2)
    have HREP := Lib.hid (repeat4_c W.heap.size (W.alloc (.cells #[.int .i64 (-1)] 2)) (by simp))
    clear h hle hrun hx
    gi_wp2_with (refine ⟨trivial, ?_⟩; gi_at_call 61; refine (CallsIn.inRound l (callsIn_wide.2 HREP.out)).mono ?_; rintro e w2 ⟨g, rfl, hgw, hB, hb2⟩)
    have hbT2 : Below W.heap.size W w2 := bon hbT hb2
    have hgW : W.heap.size ≤ g := by simp at hgw; omega
    have hE0 : EvI st w FV w.heap.size (w.heap.size + 1) (w.heap.size + 1 + 1) (w.heap.size + 1 + 1 + 1) (w.heap.size + 5) b w1.heap.size x L (unf st x0 k).2 v gs g W 0 A c w2 :=
      ⟨hC.fresh hbT2, hB, fun hu => by have := hC.lt hu; omega, hgW, keeps_fresh hbT2, hWs⟩
    clear HREP hb2 hgw hB hbT
    gi_loopw [10, 11, 12, 21] (fun _ _ _ i wr => ∃ (j : Nat) (A' : Option Addr) (c' : Nat), j ≤ 4 ∧ i = .int .i64 j ∧ EvI st w FV w.heap.size (w.heap.size + 1) (w.heap.size + 1 + 1) (w.heap.size + 1 + 1 + 1) (w.heap.size + 5) b w1.heap.size x L (unf st x0 k).2 v gs g W j A' c' wr) (fun _ _ _ i _ => 4 - (intOf i).toNat)
    case atStart => exact ⟨0, A, c, Nat.zero_le _, rfl, hE0⟩
    case round =>
      clear hE0 hbT2
      obtain ⟨j, A', c', hj, rfl, hE⟩ := hrel
      have hbx : wr.cell? ⟨w.heap.size, 0, none⟩ = some FV := hE.core.box.cell 0
      rw [hFV] at hbx
      by_cases hlt : j < 4
      · have i1 : (j : Int) < 4 := by omega
        have HFj0 := HF.out wr x j hE.core.below hxr.1 hxr.2 hlt
        cases hv : (st x j).2 with
        | false =>
          rw [hv] at HFj0
          have HFj := Lib.hid HFj0
          have HE2 := Lib.hid (fun W9 (hb9 : Below wr.heap.size wr W9) => (hE.fresh hb9).no hv)
          clear HFj0 hv hE
          gi_wp2_with (refine ⟨trivial, ?_⟩; gi_at_call 37; refine (CallsIn.inRound l (callsIn_wide.2 HFj.out)).mono ?_; rintro e w3 ⟨rfl, hb3⟩)
          go_roundw
          case rel => exact ⟨j + 1, A', c', by omega, by go_num, HE2.out _ hb3⟩
          case measure => simp [intOf]; omega
        | true =>
          obtain ⟨hyr, hMlen⟩ : (0 ≤ (st x j).1 ∧ (st x j).1 ≤ 1000000) ∧ (evT st x L j).1.length ≤ 1000 := by
            have h1 := hst x j hxr.1 hxr.2 hlt hv
            have h2 := (evT_among hst hxr hAm j (by omega)).1.len
            omega
          have hr4 : ((evT st x L j).2.map ic).length = 4 := by rw [List.length_map]; exact (evT_among hst hxr hAm j (by omega)).2.2
          rw [hv] at HFj0
          have HFj := Lib.hid HFj0
          have HADD := Lib.hid (fun W9 (hb9 : Below wr.heap.size wr W9) => add_c (w.heap.size + 1 + 1 + 1) w.heap.size (w.heap.size + 5) A' c' b (evT st x L j).1 (st x j).1 W9 (hE.fresh hb9).core.wl hyr hMlen (hE.fresh hb9).core.below.size)
          have HY := Lib.hid (fun W9 (hb9 : Below wr.heap.size wr W9) W10 A2 c2 => (hE.fresh hb9).yes (A' := A2) (c' := c2) (W'' := W10) (by omega) hv)
          have HROW := Lib.hid (fun W9 (hb9 : Below wr.heap.size wr W9) W10 (ht : Turns (wb (w.heap.size + 1 + 1 + 1) A' (some b)) W9 W10) => ht.blk (hE.fresh hb9).row (fun hu => hE.out (.inr (.inr (.inr (.inl hu))))))
          obtain ⟨rw_, hrw⟩ : ∃ rw_, (evT st x L j).2.map ic = rw_ := ⟨_, rfl⟩
          rw [hrw] at HROW hr4
          clear HFj0 hrw
          obtain ⟨y, hy⟩ : ∃ y, (st x j).1 = y := ⟨_, rfl⟩
          rw [hy] at HFj HADD HY hyr
          obtain ⟨q, hq⟩ : ∃ q : Int, ((addL y (evT st x L j).1).idxOf y : Int) = q := ⟨_, rfl⟩
          rw [hq] at HADD HY
          clear hv hE hy hq
          gi_wp2_with (first
            | (refine ⟨trivial, ?_⟩; gi_at_call 37; refine (CallsIn.inRound l (callsIn_wide.2 HFj.out)).mono ?_; rintro e w3 ⟨rfl, hb3⟩; have hadd := Lib.hid (HADD.out w3 hb3))
            | (refine ⟨trivial, ?_⟩; gi_at_call 59; refine (CallsIn.inRound l (callsIn_wide.2 hadd.out)).mono ?_; rintro e w4 ⟨A2, c2, rfl, hw4, ht4, hn4⟩; have hrow4 := HROW.out w3 hb3 w4 ht4; have hcl := hrow4.cell j; have hfr := hrow4.frozen j; rw [List.getElem?_toArray, List.getElem?_eq_getElem (by omega)] at hcl))
          go_roundw
          case rel => exact ⟨j + 1, A2, c2, by omega, by go_num, HY.out w3 hb3 w4 A2 c2 hw4 ht4 hn4⟩
          case measure => simp [intOf]; omega
      · have hj4 : j = 4 := by omega
        subst hj4
        obtain ⟨j0, hi, hz0, hz1, hz2⟩ := info_parts infoRow
        have hown := hE.core.rows.own
        obtain ⟨Av, cv, rfl, _⟩ := own_slice hown
        have hp0 : wr.cell? ⟨w.heap.size + 1 + 1, 0, none⟩ = some (.slice Av (unf st x0 k).2.length cv) := hE.core.pol.cell 0
        have hRl := unf_len st x0 k
        have hLN := hAm.len
        have hbl := hE.core.below.size
        have hpv := hE.core.row_ne hE.core.pol (by decide)
        have HPOL := Lib.hid hE.core.pol
        have HEE := Lib.hid hE
        have hgsW : Hid (∀ k' ∈ gs, k' < W.heap.size) := fun k' hk' => (hC.rows.lt hk').2.1
        have hNX := Lib.hid (unf_next (st := st) (x0 := x0) (by rw [hrun']; exact hx'))
        obtain ⟨m, hm⟩ : ∃ m, (unf st x0 k).2.length = m := ⟨_, rfl⟩
        rw [hm] at hown hp0 hRl hpv HPOL
        have HM := Lib.hid hm
        clear hm hE
        gi_wp2_with (gi_at_builtin; refine wpListIn_append_sep rfl _ _ 22 rfl w.heap.size 35 j0 (.slice none 0 0) 1 24 Try.underlying22 hi hz0 hz1 hz2 rfl (by decide) _ _ _ rfl (hown.alloc _) ⟨wr.heap.size, 0, none⟩ 1 1 [.slice (some ⟨g, 0, none⟩) 4 4] rfl rfl (cell_one_new _ _ _) (by simp [Value.oneCell']) (by unfold maxLen; omega) (by omega) (by simp; omega) (by omega) ?_; intro g' cap' w5 hown5 hgrow5 hsep5; have hp5 := (HPOL.out.next (bnew wr (.cells #[.slice (some ⟨g, 0, none⟩) 4 4] 35))).by_grown hgrow5 hpv; have hp6 := hp5.cell 0; have hp7 := hp5.frozen 0; simp at hp6)
        have hm := HM.out
        subst hm
        have hre := HEE.out.rowed (by omega) hW1W hgsW.out hown5 hgrow5 hsep5
        subst hFV
        refine ⟨hre.2, ⟨(evT st x L 4).1, k + 1⟩, rfl, ?_, A', c', .slice (some ⟨g', 0, none⟩) ((unf st x0 k).2.length + 1) cap', gs ++ [g], ?_, ?_, ?_⟩
        · have := hre.2.size; omega
        · show UnfC _ _ _ _ _ _ _ _ (evT st x L 4).1 (unf st x0 (k + 1)).2 _ _ _ _ _
          rw [hNX.out]
          rw [hrun']
          exact hre.1
        · have h1 := (List.getElem?_eq_some_iff.1 hx').1
          have h2 := (evT_among hst hxr hAm 4 (Nat.le_refl _)).2.1.length_le
          show k + 1 ≤ (evT st x L 4).1.length
          omega
        · show (unf st x0 (k + 1)).1 = (evT st x L 4).1
          rw [hNX.out, hrun']
  case done =>
    rintro D ⟨L, k⟩ W hD hF ⟨_, A, c, v, gs, h, hle, hrun⟩ hK
    obtain ⟨Av, cv, rfl, _⟩ := own_slice h.rows.own
    have p0 : W.cell? ⟨w.heap.size + 1 + 1, 0, none⟩ = some (.slice Av (unf st x0 (L, k).2).2.length cv) := h.pol.cell 0
    have l0 : W.cell? ⟨w.heap.size + 1 + 1 + 1, 0, none⟩ = some (.slice A (L, k).1.length c) := h.wl.box.cell 0
    have r0 := h.res.cell 0
    have r1 := h.res.frozen 0
    have HH := Lib.hid h
    have hF' : Hid (k = L.length) := hF
    clear h
    gi_wp2
    refine wpIn_wide.2 ?_
    go_region
    gi_wp2
    subst hFV
    obtain rfl := hF'.out
    obtain ⟨j1, j2, j3, j4, j5⟩ := HH.out.leave hK (by have := hI0.1.bs; omega)
    refine ⟨by simp, .inl ⟨_, _, rfl, run_takeDeferred j1, ?_⟩⟩
    refine ⟨.tuple #[.agg #[.slice Av (unf st x0 L.length).2.length cv], .slice A L.length c], ?_, ?_⟩
    · simp [results, Try.f46, go_sem, j2]
    · exact ⟨L, (unf st x0 L.length).2, .slice Av (unf st x0 L.length).2.length cv, gs, A, c, ⟨L.length, Prod.ext hrun rfl, rfl⟩, rfl, j3, j4, j5⟩
  case stop =>
    intro D c W hD h
    exact h.elim
end Go.Proofs.Ytopijecdhjnipaa
