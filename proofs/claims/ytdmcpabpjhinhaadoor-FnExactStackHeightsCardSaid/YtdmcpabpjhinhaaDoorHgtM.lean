/-
  Heights over code: the model's search. Conditions: valid code.
-/
import Derived.Test.YtdmcpabpjhinhaaDoorHgtP
import Derived.Test.YtdmcpabpjhinhaaDoorQue
import Derived.Test.YtdmcpabpjhinhaaDoorTarg
import Derived.Test.YtdmcpabpjhinhaaDoorReachM
import Derived.Test.YtdmcpabpjhinhaaDoorAppend
import Derived.Test.YtdmcpabpjhinhaaDoorSep
import Derived.Deep.QuietTactic
import Derived.BigQuiet
import Derived.Deep.AppendLies
namespace Go.Proofs.YtdmcpabpjhinhaaDoor
set_option linter.unusedVariables false
open Go.RowKit

theorem pops_h (op : Int) (h : 0 ≤ op ∧ op ≤ 11) (w : World) : Calls Tryd.prog 35 #[.int .i64 op] w fun e w' => e = .returned (.int .i64 (popB op)) ∧ w = w' := by
  have hc : op = 0 ∨ op = 1 ∨ op = 2 ∨ op = 3 ∨ op = 4 ∨ op = 5 ∨ op = 6 ∨ op = 7 ∨ op = 8 ∨ op = 9 ∨ op = 10 ∨ op = 11 := by omega
  clear h
  rcases hc with rfl | rfl | rfl | rfl | rfl | rfl | rfl | rfl | rfl | rfl | rfl | rfl
  all_goals (go_enter Tryd.func35, Tryd.ntmps35; go_wp2_with fail; go_ret; exact ⟨rfl, rfl⟩)
theorem pushes_h (op : Int) (h : 0 ≤ op ∧ op ≤ 11) (w : World) : Calls Tryd.prog 36 #[.int .i64 op] w fun e w' => e = .returned (.int .i64 (pushB op)) ∧ w = w' := by
  have hc : op = 0 ∨ op = 1 ∨ op = 2 ∨ op = 3 ∨ op = 4 ∨ op = 5 ∨ op = 6 ∨ op = 7 ∨ op = 8 ∨ op = 9 ∨ op = 10 ∨ op = 11 := by omega
  clear h
  rcases hc with rfl | rfl | rfl | rfl | rfl | rfl | rfl | rfl | rfl | rfl | rfl | rfl
  all_goals (go_enter Tryd.func36, Tryd.ntmps36; go_wp2_with fail; go_ret; exact ⟨rfl, rfl⟩)
theorem popB_bound (op : Int) : 0 ≤ popB op ∧ popB op ≤ 2 := by unfold popB; split <;> (try split) <;> omega
theorem pushB_bound (op : Int) : 0 ≤ pushB op ∧ pushB op ≤ 1 := by unfold pushB; split <;> omega

/-- The negative numbers of a row, as memory tells. -/
def negW (w : World) (g n : Nat) : Nat := match w.heap[g]? with
  | some (.cells cs _ _) => ((cs.toList.take n).filter fun u => match u with | .int _ x => decide (x < 0) | _ => false).length
  | _ => 0
theorem negW_is {W : World} {lo g n c : Nat} {zs : List Int} (h : W.ownsRow lo 2 1 (.slice (some ⟨g, 0, none⟩) n c) n (zs.map ic)) : negW W g n = negN zs := by
  rcases h.2 with ⟨h', _⟩ | ⟨g', c', cur, h', hb, hg, hnc, hcm, hcs, htake⟩
  · simp at h'
  · simp only [Value.slice.injEq, Option.some.injEq, Addr.mk.injEq, and_true, true_and] at h'
    obtain ⟨rfl, rfl⟩ := h'
    rw [Nat.mul_one] at htake
    unfold negW negN
    rw [hg]
    show ((cur.toList.take n).filter _).length = _
    rw [htake, List.filter_map, List.length_map]
    rfl
/-- The search in memory: the queue and the heights. -/
structure HgtW (wc : World) (gO cO n : Nat) (out q : List Int) (v : Value) (W : World) : Prop where
  que : Que W wc.heap.size v q
  outs : W.ownsRow wc.heap.size 2 1 (.slice (some ⟨gO, 0, none⟩) n cO) n (out.map ic)
  apart : v.ownBlock ≠ some gO
  size : 2 * negN out + q.length ≤ 400
  top : ∀ z ∈ out, z ≤ 6
  below : Below wc.heap.size wc W
section
variable {wc W W' W1 W2 : World} {gO cO n k : Nat} {out q ys : List Int} {v v' v0 : Value} {t z a : Int}
theorem HgtW.keep (h : HgtW wc gO cO n out q v W) (hb : Below W.heap.size W W') : HgtW wc gO cO n out q v W' :=
  ⟨h.que.next hb, own_below h.outs hb, h.apart, h.size, h.top, bon h.below hb⟩
theorem HgtW.pop (h : HgtW wc gO cO n out (t :: q) v W) (hq : Que W wc.heap.size v0 q) (h0 : v0.ownBlock = v.ownBlock) : HgtW wc gO cO n out q v0 W :=
  ⟨hq, h.outs, by rw [h0]; exact h.apart, by have := h.size; rw [List.length_cons] at this; omega, h.top, h.below⟩
/-- A height is put, and its place appended. -/
theorem HgtW.put (h : HgtW wc gO cO n out q v W) (hk : out[k]? = some a) (ha : a < 0) (hz : 0 ≤ z) (hz6 : z ≤ 6) (hb : Below (W.setCell ⟨gO, k, none⟩ (.int .i64 z)).heap.size (W.setCell ⟨gO, k, none⟩ (.int .i64 z)) W1)
    (hq : Que W2 wc.heap.size v' (q ++ [t])) (hg : W1.grownBy W2 v.ownBlock) (hv : v'.ownBlock = v.ownBlock ∨ ∃ j, v'.ownBlock = some j ∧ W1.heap.size ≤ j) : HgtW wc gO cO n (out.set k z) (q ++ [t]) v' W2 := by
  have hm := h.outs
  have s1 := (hm.stored k (.int .i64 z)).1
  have s2 := own_below s1 hb
  have s3 := s2.kept hg (.inr (fun e => h.apart (by rw [← e]; rfl)))
  have hgs := hm.lt gO rfl
  refine ⟨hq, ?_, ?_, ?_, fun y hy => by rcases List.mem_or_eq_of_mem_set hy with e | rfl; exact h.top y e; exact hz6, ?_⟩
  · rw [List.map_set]; exact s3
  · rcases hv with e | ⟨j, e, hj⟩
    · rw [e]; exact h.apart
    · rw [e]; intro e'
      obtain rfl := Option.some.inj e'
      have h1 := hgs.2
      have h2 := hb.size
      simp at h2
      omega
  · have h1 := negN_set hk ha hz
    have h2 := h.size
    rw [List.length_append, List.length_singleton]
    omega
  · have b1 : Below wc.heap.size wc (W.setCell ⟨gO, k, none⟩ (.int .i64 z)) := h.below.setCell (p := ⟨gO, k, none⟩) hgs.1 _
    refine (bon b1 hb).grown hg (Nat.le_trans b1.size hb.size) (fun j hj => ?_)
    obtain ⟨b, e, h1, _⟩ := h.que.lt
    rw [e] at hj
    rw [← Option.some.inj hj]; exact h1
end

set_option maxRecDepth 100000 in
set_option maxHeartbeats 4000000 in
theorem l07Heights_c (A : Option Addr) (n c B : Nat) (xs : List (Int × Int)) (w : World) (h : InC w B A n xs) (hB : B ≤ w.heap.size) (hv : codeB xs = true) :
    Calls Tryd.prog 23 #[.slice A n c] w fun e w' => ∃ gO cO out ok, e = .returned (.tuple #[.slice (some ⟨gO, 0, none⟩) n cO, .bool ok]) ∧ (ok = true → LeastH xs out) ∧ (ok = false → ∀ K, ¬ GoodH xs K) ∧ w'.ownsRow w.heap.size 2 1 (.slice (some ⟨gO, 0, none⟩) n cO) n (out.map ic) ∧ Below w.heap.size w w' := by
  obtain ⟨i0, hi, hz0, hz1, hz2⟩ := info_parts infoInt64_q
  have hxn : xs.length = n := h.1
  have hp := codeB_parts hv
  have hn80 : 1 ≤ n ∧ n ≤ 80 := by omega
  have HXN := Lib.hid hxn
  have HI := Lib.hid h
  have HT := Lib.hid (tgt_in hv)
  have HV := Lib.hid hv
  have hown0 := own_empty w 2
  have hbe := bnew w (.cells #[] 2)
  clear h hp hv hxn
  go_enter Tryd.func23, Tryd.ntmps23
  go_wp2_with fail
  generalize w.alloc (.cells #[] 2) = W0 at hown0 hbe ⊢
  go_loopw [4, 5] (fun o i wr => ∃ (j g' c' : Nat), o = .slice (some ⟨g', 0, none⟩) j c' ∧ i = .int .i64 j ∧ j ≤ n ∧ Hid (wr.ownsRow w.heap.size 2 1 (.slice (some ⟨g', 0, none⟩) j c') j ((List.replicate j (-1 : Int)).map ic)) ∧ Hid (Below w.heap.size w wr)) (fun _ i _ => (n - intOf i).toNat)
  case atStart => exact ⟨0, w.heap.size, 0, rfl, rfl, Nat.zero_le _, hown0, hbe⟩
  case round =>
    clear hown0 hbe
    rename World => wr
    obtain ⟨j, g', c', rfl, rfl, hj, hO, hb⟩ := hrel
    by_cases hlt : j < n
    · have i3 : (j : Int) < (n : Int) := by omega
      have hown := hO.out
      have hsz := hb.out.size
      have hbn := bnew wr (.cells #[.int .i64 (-1)] 2)
      have HA := Lib.hid (And.intro (own_below hown hbn) (World.news_of_block (cs := #[.int .i64 (-1)]) (blk_new wr 2 #[.int .i64 (-1)] wr.heap.size rfl)))
      clear hO hbn
      have hrep : (List.replicate (j + 1) (-1 : Int)).map ic = (List.replicate j (-1 : Int)).map ic ++ [.int .i64 (-1)] := by rw [List.replicate_succ', List.map_append]; rfl
      have HRP := Lib.hid hrep
      clear hrep
      go_wp2_with (at_builtin; refine wpList_append_sep rfl _ _ 24 rfl w.heap.size 2 i0 (.int .i64 0) 1 8 Tryd.underlying24 hi hz0 hz1 hz2 rfl (by decide) _ _ _ rfl HA.out.1 ⟨wr.heap.size, 0, none⟩ 1 1 [.int .i64 (-1)] rfl rfl HA.out.2 (by simp [Value.oneCell']) (by unfold maxLen; omega) (by omega) (by simp; omega) (by omega) ?_; intro g2 c2 w2 hown2 hgrow2 hsep2)
      have hbl : Below w.heap.size w w2 := (hb.out.trans ((bnew wr (.cells #[.int .i64 (-1)] 2)).mono hsz)).grown hgrow2 (by simp; omega) (fun q hq => (hown.lt q hq).1)
      go_roundw
      case rel => exact ⟨j + 1, g2, c2, by go_num, by go_num, by omega, by rw [HRP.out]; exact hown2, hbl⟩
      case measure => simp [intOf]; omega
    · have i3 : ¬ (j : Int) < (n : Int) := by omega
      have hjn : j = n := by omega
      have hO2 := hO.out
      rw [hjn] at hO2
      have hgl := hO2.lt g' rfl
      have o0 : wr.cell? ⟨g', 0, none⟩ = some (.int .i64 (-1)) := by rw [hO2.cellAt 0 (by omega), List.getElem?_map, List.getElem?_replicate, if_pos (by omega)]; rfl
      have f0 := hO2.frozenAt 0
      have hst := (hO2.stored 0 (.int .i64 0)).1
      have hb1 : Below w.heap.size w (wr.setCell ⟨g', 0, none⟩ (.int .i64 0)) := hb.out.setCell (p := ⟨g', 0, none⟩) hgl.1 _
      have hb2 := bnew (wr.setCell ⟨g', 0, none⟩ (.int .i64 0)) (.cells #[.int .i64 0] 2)
      have hM0 : HgtW w g' c' n ((List.replicate n (-1 : Int)).set 0 0) [0] (.slice (some ⟨wr.heap.size, 0, none⟩) 1 1) ((wr.setCell ⟨g', 0, none⟩ (.int .i64 0)).alloc (.cells #[.int .i64 0] 2)) := by
        refine ⟨?_, ?_, ?_, ?_, fun y hy => by rcases List.mem_or_eq_of_mem_set hy with e | rfl; have := List.eq_of_mem_replicate e; omega; omega, bon hb1 hb2⟩
        · have h1 := own_one (wr.setCell ⟨g', 0, none⟩ (.int .i64 0)) 0
          have hs : (wr.setCell ⟨g', 0, none⟩ (.int .i64 0)).heap.size = wr.heap.size := by simp
          rw [hs] at h1
          exact Que.of_own (n := 1) (own_less h1 hb.out.size) rfl
        · rw [List.map_set]; exact own_below hst hb2
        · intro e; have e' : wr.heap.size = g' := Option.some.inj e; omega
        · have h1 := negN_le ((List.replicate n (-1 : Int)).set 0 0)
          rw [List.length_set, List.length_replicate] at h1
          simp; omega
      have hS0 : SrchH xs ((List.replicate n (-1 : Int)).set 0 0) [0] := by
        have := SrchH.init (xs := xs) (by rw [HXN.out]; omega)
        rw [HXN.out] at this; exact this
      have i4 : (0 : Int) < (n : Int) := by omega
      have HM0 := Lib.hid hM0
      have HS0 := Lib.hid hS0
      have HJN := Lib.hid hjn
      clear hM0 hS0 hst hb1 hb2 hO hO2
      go_wp2_with fail
      clear hjn hlt i3 hj i4 o0 f0 hgl hb
      generalize (wr.setCell ⟨g', 0, none⟩ (.int .i64 0)).alloc (.cells #[.int .i64 0] 2) = W at HM0 ⊢
      generalize wr.heap.size = qb at HM0 ⊢
      go_loopw [6, 7, 8, 9, 10, 11, 12] (fun v _ _ _ _ _ _ wr => ∃ out q, Hid (SrchH xs out q) ∧ Hid (HgtW w g' c' n out q v wr)) (fun v _ _ _ _ _ _ wr => 2 * negW wr g' n + lenQ v)
      case atStart => exact ⟨_, _, HS0, HM0⟩
      case round =>
        clear HS0 HM0
        rename World => wr
        obtain ⟨out, q, HS, HM⟩ := hrel
        have hM := HM.out
        cases q with
        | nil =>
          obtain ⟨b, off, cq, rfl, _⟩ := hM.que
          go_wp2_with fail
          go_ret2
          exact ⟨g', c', out, true, (by first | rfl | rw [HJN.out]), (fun _ => HS.out.least), (fun e => by cases e), hM.outs, hM.below⟩
        | cons t q =>
          obtain ⟨ht0, htl, h, hth, hh0⟩ := HS.out.inq t (List.mem_cons_self ..)
          have hh6 := hM.top h (List.mem_of_getElem? hth)
          have hql := hM.que
          obtain ⟨b, off, cq, rfl, hq5⟩ := hM.que
          obtain ⟨f1, f2, f3, f4, f5, f6⟩ := hql.front
          have hq0 := hql.tailI
          have ho0 : (Value.slice (if cq = 1 then some ⟨b, off, none⟩ else some ⟨b, off + 1, none⟩) q.length (cq - 1)).ownBlock = some b := ownBlock_if
          have hmiss := negW_is hM.outs
          have hc1 := hM.size
          rw [List.length_cons] at hc1
          obtain ⟨k, rfl⟩ : ∃ k : Nat, t = (k : Int) := ⟨t.toNat, by omega⟩
          rw [Int.toNat_natCast] at hth
          have hk : k < xs.length := by omega
          rw [HXN.out] at htl
          have hkn : k < n := by have := HXN.out; omega
          have hkj : (k : Int) < (j : Int) := by have := HJN.out; omega
          obtain ⟨cb, coff, x, rfl, hcb, hx, a0, a1⟩ := (HI.out.next hM.below hB).at_ hkn
          have hib := instrB_parts (codeB_at HV.out hx)
          have hop : 0 ≤ x.1 ∧ x.1 ≤ 11 := ⟨hib.1, hib.2.1⟩
          have hpb := popB_bound x.1
          have hqb := pushB_bound x.1
          have c0 : wr.cell? ⟨g', k, none⟩ = some (.int .i64 h) := by rw [hM.outs.cellAt k (by omega), List.getElem?_map, hth]; rfl
          have HX := Lib.hid hx
          have HH := Lib.hid hth
          have HQ0 := Lib.hid hq0
          have hw1 : IntKind.i64.wrap (h - popB x.1) = h - popB x.1 := IntWalk.i64_in _ (by omega)
          clear hx hib hql hM hth hq0 ht0 hq5
          go_upto_region 11 with fail
          generalize (if cq = 1 then some (⟨b, off, none⟩ : Addr) else some ⟨b, off + 1, none⟩) = A0 at HQ0 ho0 ⊢
          go_quiet ((exact (pops_h _ hop _).mono fun _ _ hh => ⟨hh.1, _, hh.2.symm⟩))
          have HP := Lib.hid ((HM.out.pop HQ0.out (by rw [ho0]; rfl)).keep (below_drewN (Below.refl wr.heap.size wr) nq))
          have hop1 : opN xs k = x.1 := by unfold opN; rw [List.getD_eq_getElem?_getD, HX.out]; rfl
          have hgB1 : hgB xs k h = h - popB x.1 + pushB x.1 := by unfold hgB; rw [hop1]
          have hw2 : IntKind.i64.wrap (h - popB x.1 + pushB x.1) = h - popB x.1 + pushB x.1 := IntWalk.i64_in _ (by omega)
          have HG1 := Lib.hid hgB1
          have HO1 := Lib.hid hop1
          clear hop1 hgB1 f1 f2 f6
          go_wp2_with fail
          refine (pushes_h _ hop _).mono ?_
          rintro e w1 ⟨rfl, hw⟩
          rw [← hw]
          clear hw
          by_cases hfa : h - popB x.1 < 0
          · have hbad := HS.out.unfit HH.out hh0 (fun f => by have := f.1; rw [HO1.out] at this; omega)
            have HBAD := Lib.hid hbad
            go_wp2_with fail
            go_ret2
            exact ⟨g', c', out, false, (by first | rfl | rw [HJN.out]), (fun e => by cases e), fun _ => HBAD.out, HP.out.outs, HP.out.below⟩
          by_cases hfb : 6 < h - popB x.1 + pushB x.1
          · have hbad := HS.out.unfit HH.out hh0 (fun f => by have := f.2; rw [HG1.out] at this; omega)
            have HBAD := Lib.hid hbad
            go_wp2_with fail
            go_ret2
            exact ⟨g', c', out, false, (by first | rfl | rw [HJN.out]), (fun e => by cases e), fun _ => HBAD.out, HP.out.outs, HP.out.below⟩
          have HST := Lib.hid (HS.out.take HH.out hh0 (show fitH xs k h from ⟨by rw [HO1.out]; omega, by rw [HG1.out]; omega⟩))
          obtain ⟨nx, hnx⟩ : ∃ nx, Hid (h - popB x.1 + pushB x.1 = nx) := ⟨_, rfl⟩
          have hnx0 : 0 ≤ nx ∧ nx ≤ 6 := by have := hnx.out; omega
          have hTG := Lib.hid (l07Targets_c (some ⟨cb, coff, none⟩) n c B xs k x (wr.drewN nq) (HI.out.next HP.out.below hB) (Nat.le_trans hB HP.out.below.size) HX.out (by omega))
          clear hh0 hh6 c0 a0 a1 hcb ho0
          go_wp2_with fail
          refine hTG.out.mono ?_
          rintro e w2 ⟨A', ct, rfl, hyo, hb2⟩
          have htl2 := tgt_len x.1 x.2 k
          have HTI := Lib.hid (HT.out k x HX.out)
          have htg : tgtN xs k = tgt1 x.1 x.2 k := by unfold tgtN; rw [List.getD_eq_getElem?_getD, HX.out]; rfl
          have HTG := Lib.hid htg
          have hP2 := HP.out.keep hb2
          have HP2 := Lib.hid hP2
          have hyr := hyo.2.1
          have hap : ∀ tb, (Value.slice A' (tgt1 x.1 x.2 k).length ct).ownBlock = some tb → (Value.slice A0 q.length (cq - 1)).ownBlock ≠ some tb := fun tb h1 e => by
            obtain ⟨bb, e1, e2, e3⟩ := HP.out.que.lt
            rw [e1] at e
            obtain rfl := Option.some.inj e
            have := (hyr.lt _ h1).1; omega
          have hapO : ∀ tb, (Value.slice A' (tgt1 x.1 x.2 k).length ct).ownBlock = some tb → tb ≠ g' := fun tb h1 e => by
            have h2 := (hyr.lt _ h1).1
            have h3 := (HP.out.outs.lt g' rfl).2
            omega
          have HY := Lib.hid (And.intro hyr hap)
          have HYO := Lib.hid hapO
          clear htg hP2 hyo hyr hap hapO hTG hb2 hfa hfb hw1 hw2
          generalize tgt1 x.1 x.2 k = ys at HY HYO HTG HTI htl2 ⊢
          have HG2 : Hid (hgB xs k h = nx) := HG1.out.trans hnx.out
          rw [hnx.out]
          go_wp2_with fail
          go_loopw [6, 11, 12] (fun v i _ wr2 => ∃ (ii : Nat) (out2 q2 : List Int), i = .int .i64 ii ∧ ii ≤ ys.length ∧ Hid (SrchT xs out2 q2 k h ii) ∧ Hid (HgtW w g' c' n out2 q2 v wr2) ∧ Hid (2 * negN out2 + q2.length ≤ 2 * negN out + q.length) ∧ Hid (wr2.ownsRow w.heap.size 2 1 (.slice A' ys.length ct) ys.length (ys.map ic) ∧ ∀ tb, (Value.slice A' ys.length ct).ownBlock = some tb → v.ownBlock ≠ some tb)) (fun _ i _ _ => (ys.length - intOf i).toNat)
          case atStart => exact ⟨0, out, q, rfl, Nat.zero_le _, HST, HP2, Nat.le_refl _, ⟨own_less HY.out.1 HP.out.below.size, HY.out.2⟩⟩
          case round =>
            clear HST HP2 HY
            rename World => wr2
            obtain ⟨ii, out2, q2, rfl, hii, HS2, HM2, HN2, HY2⟩ := hrel
            obtain ⟨bq, oq, cq2, rfl, hqq⟩ := HM2.out.que
            clear hqq
            by_cases hlt : ii < ys.length
            · have i5 : (ii : Int) < (ys.length : Int) := by omega
              obtain ⟨yb, yoff, t, rfl, hyb, hyt, hyc⟩ := (OwnL.of_own HY2.out.1).all.2.int_at (k := ii) hlt
              have htb := HTI.out t (List.mem_of_getElem? hyt)
              have HTT : Hid ((tgtN xs k)[ii]? = some t) := by rw [HTG.out]; exact hyt
              clear hyt hyb
              by_cases hl : t < (xs.length : Int)
              · obtain ⟨tn, rfl⟩ : ∃ tn : Nat, t = (tn : Int) := ⟨t.toNat, by omega⟩
                have htn : tn < n := by have := HXN.out; omega
                have i6 : (tn : Int) < (n : Int) := by omega
                obtain ⟨a, ha⟩ : ∃ a, out2[tn]? = some a := ⟨_, List.getElem?_eq_getElem (by rw [HS2.out.len]; omega)⟩
                have hac : wr2.cell? ⟨g', tn, none⟩ = some (.int .i64 a) := by rw [HM2.out.outs.cellAt tn (by omega), List.getElem?_map, ha]; rfl
                have HA : Hid (out2[((tn : Nat) : Int).toNat]? = some a) := by rw [Int.toNat_natCast]; exact ha
                clear ha
                by_cases h0 : 0 ≤ a
                · by_cases hne : a = nx
                  · subst hne
                    have HS3 := Lib.hid (HS2.out.skip HTT.out hl (by rw [HA.out, HG2.out]))
                    have i8 : ¬ a < 0 := by omega
                    go_wp2_with fail
                    go_roundw
                    case rel => exact ⟨ii + 1, out2, q2, by go_num, by omega, HS3, HM2, HN2, HY2⟩
                    case measure => simp [intOf]; omega
                  · have HBAD := Lib.hid (HS2.out.other HTT.out HA.out h0 (by rw [HG2.out]; exact hne))
                    have i8 : (a != nx) = true := bne_iff_ne.2 hne
                    go_wp2_with fail
                    go_ret2
                    exact ⟨g', c', out2, false, (by first | rfl | rw [HJN.out]), (fun e => by cases e), (fun _ => HBAD.out), HM2.out.outs, HM2.out.below⟩
                · have i8 : a < 0 := by omega
                  have i9 : ¬ 0 ≤ a := h0
                  have hf := HM2.out.outs.frozenAt tn
                  have HS3 := Lib.hid (HS2.out.put HTT.out htb.1 hl HA.out i8)
                  have hbn := bnew (wr2.setCell ⟨g', tn, none⟩ (.int .i64 nx)) (.cells #[.int .i64 (tn : Int)] 2)
                  have hq1 := (HM2.out.que.kept (only_set (w := wr2) (g := g') (i := tn) (x := .int .i64 nx)) HM2.out.apart).next hbn
                  have hz1 : (wr2.setCell ⟨g', tn, none⟩ (.int .i64 nx)).heap.size = wr2.heap.size := by simp
                  have hall := (OwnL.of_own (own_one (wr2.setCell ⟨g', tn, none⟩ (.int .i64 nx)) (tn : Int))).all
                  rw [hz1] at hall
                  have hlo : w.heap.size ≤ ((wr2.setCell ⟨g', tn, none⟩ (.int .i64 nx)).alloc (.cells #[.int .i64 (tn : Int)] 2)).heap.size := by have := HM2.out.below.size; simp; omega
                  have hqs : q2.length ≤ 400 := by have := HM2.out.size; omega
                  have HC := Lib.hid (And.intro hq1 (And.intro hall (And.intro hbn hlo)))
                  clear hq1 hall hbn hlo
                  go_wp2_with (at_builtin; (refine wpList_append_q rfl _ _ rfl rfl HC.out.1 HC.out.2.2.2 (some ⟨wr2.heap.size, 0, none⟩) 1 1 rfl _ HC.out.2.1 (Nat.le_refl _) (by simp; omega) ?_); intro v' w3 hq3 hg3 hv3)
                  obtain ⟨b3, off3, c3, hv3e, hq5⟩ := id hq3
                  subst hv3e
                  clear hq5
                  have HM3 := Lib.hid (HM2.out.put (by rw [← HA.out, Int.toNat_natCast]) i8 hnx0.1 hnx0.2 HC.out.2.2.1 hq3 hg3 hv3)
                  have hy1 := ownsRow_setCell_other (a := ⟨g', tn, none⟩) HY2.out.1 (fun e => HYO.out _ e rfl) (.int .i64 nx)
                  have hylt := (own_below hy1 HC.out.2.2.1).lt
                  have hy2 := (own_below hy1 HC.out.2.2.1).kept hg3 (.inr (fun e => HY2.out.2 _ e rfl))
                  have HY3 := Lib.hid (And.intro hy2 (fun tb (e : (Value.slice (some ⟨yb, yoff, none⟩) ys.length ct).ownBlock = some tb) => show (Value.slice (some ⟨b3, off3, none⟩) (q2 ++ [(tn : Int)]).length c3).ownBlock ≠ some tb from fun e' => by
                    rcases hv3 with e2 | ⟨jj, e2, hjj⟩
                    · exact HY2.out.2 tb e (e2.symm.trans e')
                    · rw [e2] at e'
                      obtain rfl := Option.some.inj e'
                      have := (hylt _ e).2; omega))
                  have hneg := negN_set (b := nx) (by rw [← HA.out, Int.toNat_natCast]) i8 hnx0.1
                  have HN3 : Hid (2 * negN (out2.set tn nx) + (q2 ++ [(tn : Int)]).length ≤ 2 * negN out + q.length) := by
                    show _ ≤ _
                    have := HN2.out
                    rw [List.length_append, List.length_singleton]; omega
                  clear hq3 hg3 hv3 hy1 hylt hy2
                  go_roundw
                  case rel => exact ⟨ii + 1, out2.set tn nx, q2 ++ [(tn : Int)], by go_num, by omega, (by have := HS3.out; rw [HG2.out, Int.toNat_natCast] at this; exact this), HM3, HN3, HY3⟩
                  case measure => simp [intOf]; omega
              · have HBAD := Lib.hid (HS2.out.far HTT.out hl)
                have i6 : (n : Int) ≤ t := by have := HXN.out; omega
                go_wp2_with fail
                go_ret2
                first | exact ⟨g', c', out2, false, (by first | rfl | rw [HJN.out]), (fun e => by cases e), (fun _ => HBAD.out), HM2.out.outs, HM2.out.below⟩ | exact ⟨g', c', out2, .inl ⟨rfl, HBAD.out, HM2.out.outs, HM2.out.below⟩⟩
            · have hie : ii = ys.length := by omega
              have i5 : ¬ (ii : Int) < (ys.length : Int) := by omega
              have HS4 := Lib.hid (HS2.out.all (by rw [HTG.out]; omega))
              clear hie
              go_wp2_with fail
              go_roundw
              case rel => exact ⟨out2, q2, HS4, HM2⟩
              case measure =>
                rw [negW_is HM2.out.outs, hmiss]
                have := HN2.out
                show 2 * negN out2 + q2.length < 2 * negN out + ((k : Int) :: q).length
                rw [List.length_cons]; omega
end Go.Proofs.YtdmcpabpjhinhaaDoor
