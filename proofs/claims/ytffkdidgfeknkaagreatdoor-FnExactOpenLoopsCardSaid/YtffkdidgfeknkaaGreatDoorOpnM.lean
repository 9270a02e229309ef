/-
  The model's list of the instructions on circles without a point. Conditions: valid code.
-/
import Derived.Test.YtffkdidgfeknkaaGreatDoorHgoM
import Derived.Test.YtffkdidgfeknkaaGreatDoorBunE
import Derived.Test.YtffkdidgfeknkaaGreatDoorReachM
namespace Go.Proofs.YtffkdidgfeknkaaGreatDoor
set_option linter.unusedVariables false
open Go.RowKit

/-- The search in memory: the marks and the places that have one. -/
structure OpnW (wc : World) (gS gW cW n : Nat) (ms : List Bool) (wk : List Int) (W : World) : Prop where
  seen : W.ownsRow wc.heap.size 4 1 (.slice (some ⟨gS, 0, none⟩) n n) n (ms.map Value.bool)
  work : W.ownsRow wc.heap.size 2 1 (.slice (some ⟨gW, 0, none⟩) wk.length cW) wk.length (wk.map ic)
  apart : gW ≠ gS
  size : missing ms + wk.length ≤ n + 1
  below : Below wc.heap.size wc W
section
variable {wc W W' W1 W2 : World} {gS gW cW g' c' n k : Nat} {ms : List Bool} {wk : List Int} {t : Int}
theorem OpnW.keep (h : OpnW wc gS gW cW n ms wk W) (hb : Below W.heap.size W W') : OpnW wc gS gW cW n ms wk W' :=
  ⟨own_below h.seen hb, own_below h.work hb, h.apart, h.size, bon h.below hb⟩
/-- A mark is put, and its place appended. -/
theorem OpnW.put (h : OpnW wc gS gW cW n ms wk W) (hk : ms[k]? = some false) (hb : Below (W.setCell ⟨gS, k, none⟩ (.bool true)).heap.size (W.setCell ⟨gS, k, none⟩ (.bool true)) W1)
    (hq : W2.ownsRow wc.heap.size 2 1 (.slice (some ⟨g', 0, none⟩) (wk ++ [t]).length c') (wk ++ [t]).length ((wk ++ [t]).map ic)) (hg : W1.grownBy W2 (some gW)) (hv : g' = gW ∨ W1.heap.size ≤ g') : OpnW wc gS g' c' n (ms.set k true) (wk ++ [t]) W2 := by
  have hm := h.seen
  have s1 := (hm.stored k (.bool true)).1
  have s2 := own_below s1 hb
  have s3 := s2.kept hg (.inr (fun e => h.apart (Option.some.inj (show some gS = some gW from e)).symm))
  have hgs := hm.lt gS rfl
  refine ⟨?_, hq, ?_, ?_, ?_⟩
  · rw [List.map_set]; exact s3
  · rcases hv with e | hj
    · rw [e]; exact h.apart
    · intro e'
      have h1 := hgs.2
      have h2 := hb.size
      simp at h2
      omega
  · have h1 := missing_set hk
    have h2 := h.size
    rw [List.length_append, List.length_singleton]
    omega
  · have b1 : Below wc.heap.size wc (W.setCell ⟨gS, k, none⟩ (.bool true)) := h.below.setCell (p := ⟨gS, k, none⟩) hgs.1 _
    refine (bon b1 hb).grown hg (Nat.le_trans b1.size hb.size) (fun j hj => ?_)
    obtain rfl := Option.some.inj hj
    exact (h.work.lt gW rfl).1
end

set_option maxRecDepth 100000 in
set_option maxHeartbeats 8000000 in
theorem l08Open_c (b : Nat) (v0 v1 : Value) (A : Option Addr) (n c B : Nat) (xs : List (Int × Int)) (D : Option Addr) (m d : Nat) (ps : List P2) (w : World) (hP : BlkIs w b 35 #[v0, v1, .slice A n c, .slice D m d]) (h : InC w B A n xs) (hpt : InP2 w B D m ps) (hB : B ≤ w.heap.size) (hv : codeB xs = true) (hm8 : m ≤ 1048576) :
    Calls Tryz.prog 35 #[.pointer (some ⟨b, 0, none⟩)] w fun e w' => ∃ A' c', e = .returned (.slice A' (opnL xs ps n).length c') ∧ OwnL w' w.heap.size w'.heap.size A' (opnL xs ps n).length c' (opnL xs ps n) ∧ Below w.heap.size w w' := by
  obtain ⟨i0, hi, hz0, hz1, hz2⟩ := info_parts infoHgo
  obtain ⟨ib, hib, hbz0, hbz1, hbz2⟩ := info_parts infoBR
  have hxn : xs.length = n := h.1
  have hp := codeB_parts hv
  have hn80 : 1 ≤ n ∧ n ≤ 80 := by omega
  have HXN := Lib.hid hxn
  have HI := Lib.hid h
  have HQ := Lib.hid hpt
  have HT := Lib.hid (tgt_in hv)
  have HV := Lib.hid hv
  have HP := Lib.hid (fun W (hb : Below w.heap.size w W) => And.intro (show W.cell? ⟨b, 2, none⟩ = some (.slice A n c) from (hP.next hb).cell 2) (show W.cell? ⟨b, 3, none⟩ = some (.slice D m d) from (hP.next hb).cell 3))
  have p2 : w.cell? ⟨b, 2, none⟩ = some (.slice A n c) := hP.cell 2
  have hown0 := own_empty w 2
  have hbe := bnew w (.cells #[] 2)
  clear h hp hv hxn hP hpt
  go_enter Tryz.func35, Tryz.ntmps35
  go_wp2_with fail
  generalize w.alloc (.cells #[] 2) = W0 at hown0 hbe ⊢
  go_loopw [4, 5, 6, 7, 8, 9, 10, 11] (fun o i _ _ _ _ _ _ wr => ∃ (ii g' c' : Nat), o = .slice (some ⟨g', 0, none⟩) (opnL xs ps ii).length c' ∧ i = .int .i64 ii ∧ ii ≤ n ∧ Hid (wr.ownsRow w.heap.size 2 1 (.slice (some ⟨g', 0, none⟩) (opnL xs ps ii).length c') (opnL xs ps ii).length ((opnL xs ps ii).map ic)) ∧ Hid (Below w.heap.size w wr)) (fun _ i _ _ _ _ _ _ _ => (n - intOf i).toNat)
  case atStart => exact ⟨0, w.heap.size, 0, rfl, rfl, Nat.zero_le _, hown0, hbe⟩
  case round =>
    clear hown0 hbe p2
    rename World => wr
    obtain ⟨ii, g', c', rfl, rfl, hii, hO, hW⟩ := hrel
    have hol := opnL_len xs ps ii
    by_cases hlt : ii < n
    · have i3 : (ii : Int) < (n : Int) := by omega
      obtain ⟨oL, hoL⟩ : ∃ oL, Hid (opnL xs ps ii = oL) := ⟨_, rfl⟩
      rw [hoL.out] at hO hol ⊢
      go_wp2_with (at_make; refine wpList_make_full _ rfl _ _ 111 rfl wr.heap.size 4 ib (.bool false) 1 Tryz.underlying111 hib hbz0 hbz1 .i64 .i64 _ _ n rfl rfl rfl rfl (by rw [hbz2]; omega) (by unfold maxLen; omega) (Nat.le_refl _) ?_; intro w1 hown hgrow)
      have hb1 : Below wr.heap.size wr w1 := (Below.refl _ _).grown hgrow (Nat.le_refl _) (fun q hq => by cases hq)
      have hs0 : w1.ownsRow wr.heap.size 4 1 (.slice (some ⟨wr.heap.size, 0, none⟩) n n) n ((List.replicate n false).map Value.bool) := by
        rw [List.map_replicate]
        have e2 := hown
        rw [show (Value.bool false).cells = #[Value.bool false] from rfl, toList_madeCells_one, Nat.mul_one] at e2
        exact e2
      have hb2 := bnew w1 (.cells #[.int .i64 ii] 2)
      have hM0 : OpnW wr wr.heap.size w1.heap.size 1 n (List.replicate n false) [(ii : Int)] (w1.alloc (.cells #[.int .i64 ii] 2)) := by
        refine ⟨own_below hs0 hb2, own_less (own_one w1 (ii : Int)) hb1.size, ?_, ?_, bon hb1 hb2⟩
        · have := (hs0.lt wr.heap.size rfl).2; omega
        · have := missing_le (List.replicate n false)
          rw [List.length_replicate] at this
          simp only [List.length_singleton]; omega
      have hS0 : SrchO xs ps ii (List.replicate n false) [(ii : Int)] false 0 := by
        have := SrchO.init (xs := xs) (ps := ps) (i := ii) (by rw [HXN.out]; exact hlt)
        rw [HXN.out] at this; exact this
      have HM0 := Lib.hid hM0
      have HS0 := Lib.hid hS0
      clear hM0 hS0 hb1 hs0 hb2 hown hgrow
      go_wp2_with fail
      generalize w1.alloc (.cells #[.int .i64 ii] 2) = W at HM0 ⊢
      generalize w1.heap.size = gw at HM0 ⊢
      go_loopw [7, 8, 9, 10, 11] (fun v bk q _ _ wr2 => ∃ (qq gW cW : Nat) (ms : List Bool) (wk : List Int) (back : Bool), v = .slice (some ⟨gW, 0, none⟩) wk.length cW ∧ bk = .bool back ∧ q = .int .i64 qq ∧ qq ≤ wk.length ∧ Hid (SrchO xs ps ii ms wk back qq) ∧ Hid (OpnW wr wr.heap.size gW cW n ms wk wr2)) (fun _ _ q _ _ _ => (n + 1 - intOf q).toNat)
      case atStart => exact ⟨0, gw, 1, _, [(ii : Int)], false, rfl, rfl, rfl, Nat.zero_le _, HS0, HM0⟩
      case round =>
        clear HS0 HM0
        rename World => wr2
        obtain ⟨qq, gW, cW, ms, wk, back, rfl, rfl, rfl, hqq, HS, HM⟩ := hrel
        have hwl : wk.length ≤ n + 1 := by have := HM.out.size; omega
        have hbl := bon hW.out HM.out.below
        by_cases hlq : qq < wk.length
        · have i4 : (qq : Int) < (wk.length : Int) := by omega
          obtain ⟨t, ht⟩ : ∃ t, wk[qq]? = some t := ⟨_, List.getElem?_eq_getElem hlq⟩
          obtain ⟨ht0, htl, _⟩ := HS.out.ok t (List.mem_of_getElem? ht)
          obtain ⟨k, rfl⟩ : ∃ k : Nat, t = (k : Int) := ⟨t.toNat, by omega⟩
          have hk : k < xs.length := by omega
          have wc0 : wr2.cell? ⟨gW, qq, none⟩ = some (.int .i64 k) := by rw [HM.out.work.cellAt qq (by omega), List.getElem?_map, ht]; rfl
          obtain ⟨x, hx⟩ : ∃ x, xs[k]? = some x := ⟨_, List.getElem?_eq_getElem hk⟩
          obtain ⟨p2, p3⟩ := HP.out wr2 hbl
          have HX := Lib.hid hx
          have HTK := Lib.hid ht
          have HPT := Lib.hid (l08Point_c b D m d B ps (k : Int) wr2 p3 (HQ.out.next hbl hB) hm8)
          have HNX := Lib.hid (l08Next_c b A n c B xs k x wr2 p2 (HI.out.next hbl hB) hx (by have := HXN.out; omega))
          have HBL := Lib.hid hbl
          clear hx ht hbl p2 p3 ht0 htl
          go_wp2_with fail
          refine HPT.out.mono ?_
          rintro e w2 ⟨r, rfl, r1, r0, hw⟩
          subst hw
          cases hpt : ptB ps k
          case true =>
            have i5 : 0 ≤ r := r1 hpt
            have HS2 := Lib.hid (HS.out.skip HTK.out hpt)
            clear hpt
            go_wp2_with fail
            go_roundw
            case rel => exact ⟨qq + 1, gW, cW, ms, wk, back, rfl, rfl, by go_num, hlq, HS2, HM⟩
            case measure => simp [intOf]; omega
          case false =>
            have i5 : ¬ 0 ≤ r := by have := r0 hpt; omega
            have htg : ∀ t, t ∈ rawT x.1 x.2 k ↔ t ∈ tgtN xs k := fun t => by rw [rawT_mem]; unfold tgtN; rw [List.getD_eq_getElem?_getD, HX.out]; exact Iff.rfl
            have HST := Lib.hid (HS.out.take HTK.out hpt htg)
            have htl2 := rawT_len x.1 x.2 k
            have HTI : Hid (∀ t ∈ rawT x.1 x.2 k, 0 ≤ t ∧ t ≤ 80) := fun t ht => HT.out k x HX.out t ((rawT_mem _ _ _ _).1 ht)
            clear htg hpt
            go_wp2_with fail
            refine HNX.out.mono ?_
            rintro e w2 ⟨A', ct, rfl, hyo, hb2⟩
            generalize rawT x.1 x.2 k = T at HST htl2 HTI hyo ⊢
            have HM2 := Lib.hid (HM.out.keep hb2)
            have HY := Lib.hid (show w2.ownsRow wr.heap.size 2 1 (.slice A' T.length ct) T.length (T.map ic) ∧ (∀ tb, (Value.slice A' T.length ct).ownBlock = some tb → tb ≠ gW) ∧ (∀ tb, (Value.slice A' T.length ct).ownBlock = some tb → tb ≠ wr.heap.size) from
              ⟨own_less hyo.2.1 HM.out.below.size, fun tb e => by have h1 := (hyo.2.1.lt tb e).1; have h2 := (HM.out.work.lt gW rfl).2; omega, fun tb e => by have h1 := (hyo.2.1.lt tb e).1; have h2 := (HM.out.seen.lt wr.heap.size rfl).2; omega⟩)
            have hqq1 : qq + 1 ≤ wk.length := hlq
            clear hyo hb2 HNX HPT wc0 r0 r1
            go_wp2_with fail
            go_loopw [7, 8, 11] (fun v bk jx wr3 => ∃ (j2 gV cV : Nat) (ms2 : List Bool) (wk2 : List Int) (back2 : Bool), v = .slice (some ⟨gV, 0, none⟩) wk2.length cV ∧ bk = .bool back2 ∧ jx = .int .i64 j2 ∧ j2 ≤ T.length ∧ qq + 1 ≤ wk2.length ∧ Hid (SrchQ xs ps ii ms2 wk2 back2 qq k T j2) ∧ Hid (OpnW wr wr.heap.size gV cV n ms2 wk2 wr3) ∧ Hid (wr3.ownsRow wr.heap.size 2 1 (.slice A' T.length ct) T.length (T.map ic) ∧ (∀ tb, (Value.slice A' T.length ct).ownBlock = some tb → tb ≠ gV) ∧ (∀ tb, (Value.slice A' T.length ct).ownBlock = some tb → tb ≠ wr.heap.size))) (fun _ _ jx _ => (T.length - intOf jx).toNat)
            case atStart => exact ⟨0, gW, cW, ms, wk, back, rfl, rfl, rfl, Nat.zero_le _, hqq1, HST, HM2, HY⟩
            case round =>
              clear HST HM2 HY HM HS HTK HBL
              rename World => wr3
              obtain ⟨j2, gV, cV, ms2, wk2, back2, rfl, rfl, rfl, hj2, hqq2, HS2, HM2, HY2⟩ := hrel
              have hwl2 : wk2.length ≤ n + 1 := by have := HM2.out.size; omega
              by_cases hl2 : j2 < T.length
              · have i6 : (j2 : Int) < (T.length : Int) := by omega
                obtain ⟨yb, yoff, t, hAe, hyb, hyt, hyc⟩ := (OwnL.of_own HY2.out.1).all.2.int_at (k := j2) hl2
                subst hAe
                have htb := HTI.out t (List.mem_of_getElem? hyt)
                have HTT := Lib.hid hyt
                clear hyt hyb
                go_upto_region 17 with fail
                go_cut [8] from 52 to 60 (fun s wx => s = .bool (back2 || decide (t = (ii : Int))) ∧ wx = wr3)
                case first =>
                  cases back2
                  case true =>
                    go_wp2_with fail
                    go_meet
                    exact ⟨by simp, rfl⟩
                  case false =>
                    by_cases he : t = (ii : Int)
                    · have e1 : (t == (ii : Int)) = true := beq_iff_eq.2 he
                      go_wp2_with fail
                      go_meet
                      exact ⟨by simp [he], rfl⟩
                    · have e1 : (t == (ii : Int)) = false := beq_eq_false_iff_ne.2 he
                      go_wp2_with fail
                      go_meet
                      exact ⟨by simp [he], rfl⟩
                case rest =>
                  obtain ⟨rfl, hwx⟩ := hcut
                  subst hwx
                  obtain ⟨bk3, hbk3⟩ : ∃ bk3, Hid ((back2 || decide (t = (ii : Int))) = bk3) := ⟨_, rfl⟩
                  rw [hbk3.out]
                  by_cases hl : t < (xs.length : Int)
                  · obtain ⟨tn, rfl⟩ : ∃ tn : Nat, t = (tn : Int) := ⟨t.toNat, by omega⟩
                    have htn : tn < n := by have := HXN.out; omega
                    have hin : (decide ((0 : Int) ≤ (tn : Int)) && decide ((tn : Int) ≤ (n : Int) - 1)) = true := by simp; omega
                    obtain ⟨a, ha⟩ : ∃ a, ms2[tn]? = some a := ⟨_, List.getElem?_eq_getElem (by rw [HS2.out.s.len]; omega)⟩
                    have hac : wc.cell? ⟨wr.heap.size, tn, none⟩ = some (.bool a) := by rw [HM2.out.seen.cellAt tn (by omega), List.getElem?_map, ha]; rfl
                    have HA := Lib.hid ha
                    have HIN := l00In_i (tn : Int) 0 ((n : Int) - 1) wc
                    rw [hin] at HIN
                    have HIN := Lib.hid HIN
                    clear ha hin
                    cases a
                    case true =>
                      have HS3 := Lib.hid (HS2.out.pass HTT.out hk (fun _ => by rw [Int.toNat_natCast]; exact HA.out))
                      rw [hbk3.out] at HS3
                      go_wp2_with fail
                      refine HIN.out.mono ?_
                      rintro e w3 ⟨rfl, hw⟩
                      subst hw
                      go_wp2_with fail
                      go_roundw
                      case rel => exact ⟨j2 + 1, gV, cV, ms2, wk2, bk3, rfl, rfl, by go_num, by omega, hqq2, HS3, HM2, HY2⟩
                      case measure => simp [intOf]; omega
                    case false =>
                      have hf := HM2.out.seen.frozenAt tn
                      have HS3 := HS2.out.put HTT.out hk (by omega) hl
                      rw [hbk3.out, Int.toNat_natCast] at HS3
                      have HS3 := Lib.hid HS3
                      have hsz9 : (wc.setCell ⟨wr.heap.size, tn, none⟩ (.bool true)).heap.size = wc.heap.size := by simp
                      have hy1 := ownsRow_setCell_other (a := ⟨wr.heap.size, tn, none⟩) HY2.out.1 (fun e => HY2.out.2.2 _ e rfl) (.bool true)
                      obtain ⟨yb2, yoff2, t2, hAe, _, hyt2, hyc2⟩ := (OwnL.of_own hy1).all.2.int_at (k := j2) hl2
                      obtain ⟨rfl, rfl⟩ : yb = yb2 ∧ yoff = yoff2 := by injection hAe with e1; injection e1 with e2 e3; exact ⟨e2, e3⟩
                      rw [HTT.out] at hyt2
                      obtain rfl := Option.some.inj hyt2
                      have hbn := bnew (wc.setCell ⟨wr.heap.size, tn, none⟩ (.bool true)) (.cells #[.int .i64 (tn : Int)] 2)
                      have hk1 := ownsRow_setCell_other (a := ⟨wr.heap.size, tn, none⟩) HM2.out.work (fun e => HM2.out.apart (Option.some.inj e)) (.bool true)
                      have hk2 := own_below hk1 hbn
                      have hnews := World.news_of_block (cs := #[.int .i64 (tn : Int)]) (blk_new (wc.setCell ⟨wr.heap.size, tn, none⟩ (.bool true)) 2 #[.int .i64 (tn : Int)] wc.heap.size hsz9.symm)
                      have hszb := HM2.out.below.size
                      have HC := Lib.hid (And.intro hk2 (And.intro hnews (And.intro hbn hy1)))
                      clear hk1 hk2 hnews hbn hAe hyt2 hy1
                      go_wp2_with fail
                      refine HIN.out.mono ?_
                      rintro e w3 ⟨rfl, hw⟩
                      subst hw
                      go_wp2_with (at_builtin; (refine wpList_append_sep rfl _ _ 28 rfl wr.heap.size 2 i0 (.int .i64 0) 1 8 Tryz.underlying28 hi hz0 hz1 hz2 rfl (by decide) _ _ _ rfl HC.out.1 ⟨wc.heap.size, 0, none⟩ 1 1 [.int .i64 (tn : Int)] rfl rfl HC.out.2.1 (by simp [Value.oneCell']) (by unfold maxLen; omega) (by omega) (by simp; omega) (by omega) ?_); intro g3 c3 w3 hown3 hgrow3 hsep3)
                      have hown4 : w3.ownsRow wr.heap.size 2 1 (.slice (some ⟨g3, 0, none⟩) (wk2 ++ [(tn : Int)]).length c3) (wk2 ++ [(tn : Int)]).length ((wk2 ++ [(tn : Int)]).map ic) := by
                        rw [List.length_append, List.length_singleton, List.map_append]; exact hown3
                      have hsep4 : g3 = gV ∨ ((wc.setCell ⟨wr.heap.size, tn, none⟩ (.bool true)).alloc (.cells #[.int .i64 (tn : Int)] 2)).heap.size ≤ g3 := hsep3.imp (fun e => Option.some.inj (show some g3 = some gV from e)) id
                      have HM3 := Lib.hid (HM2.out.put HA.out HC.out.2.2.1 hown4 hgrow3 hsep4)
                      have hy2 := (own_below HC.out.2.2.2 HC.out.2.2.1).kept hgrow3 (.inr (fun e => HY2.out.2.1 _ e rfl))
                      have hylt := (own_below HC.out.2.2.2 HC.out.2.2.1).lt
                      have HY3 := Lib.hid (And.intro hy2 (And.intro (fun tb (e : (Value.slice (some ⟨yb, yoff, none⟩) T.length ct).ownBlock = some tb) => show tb ≠ g3 from fun e' => by
                        rcases hsep4 with e2 | e2
                        · exact HY2.out.2.1 tb e (e'.trans e2)
                        · have := (hylt _ e).2; omega) HY2.out.2.2))
                      clear hown3 hown4 hgrow3 hsep3 hsep4 hy2 hylt
                      go_roundw
                      case rel => exact ⟨j2 + 1, g3, c3, ms2.set tn true, wk2 ++ [(tn : Int)], bk3, (by rw [List.length_append]; rfl), rfl, by go_num, by omega, (by rw [List.length_append]; omega), HS3, HM3, HY3⟩
                      case measure => simp [intOf]; omega
                  · have HS3 := HS2.out.pass HTT.out hk (fun e => absurd e hl)
                    rw [hbk3.out] at HS3
                    have HS3 := Lib.hid HS3
                    have hin : (decide ((0 : Int) ≤ t) && decide (t ≤ (n : Int) - 1)) = false := by have := HXN.out; simp; omega
                    have HIN := l00In_i t 0 ((n : Int) - 1) wc
                    rw [hin] at HIN
                    have HIN := Lib.hid HIN
                    clear hin
                    go_wp2_with fail
                    refine HIN.out.mono ?_
                    rintro e w3 ⟨rfl, hw⟩
                    subst hw
                    go_wp2_with fail
                    go_roundw
                    case rel => exact ⟨j2 + 1, gV, cV, ms2, wk2, bk3, rfl, rfl, by go_num, by omega, hqq2, HS3, HM2, HY2⟩
                    case measure => simp [intOf]; omega
              · have i6 : ¬ (j2 : Int) < (T.length : Int) := by omega
                have HS4 := Lib.hid (HS2.out.all (by omega))
                go_wp2_with fail
                go_roundw
                case rel => exact ⟨qq + 1, gV, cV, ms2, wk2, back2, rfl, rfl, by go_num, hqq2, HS4, HM2⟩
                case measure => simp [intOf]; omega
        · have i4 : ¬ (qq : Int) < (wk.length : Int) := by omega
          have HF := Lib.hid (fun hp => HS.out.fin (by omega) (by rw [HXN.out]; exact hlt) hp)
          have hO2 := own_below hO.out HM.out.below
          have HO2 := Lib.hid hO2
          have HBL := Lib.hid hbl
          obtain ⟨p2, p3⟩ := HP.out wr2 hbl
          have HPT := Lib.hid (l08Point_c b D m d B ps (ii : Int) wr2 p3 (HQ.out.next hbl hB) hm8)
          have hbsz := hbl.size
          clear hO2 hbl p2 p3 HM HS
          cases back
          case false =>
            have hno : ¬ OnC xs ps ii := fun hc => by have := (HF.out hc.1).2 hc.2; cases this
            have hE := opnL_no hno
            rw [hoL.out] at hE
            have HE := Lib.hid hE
            clear hno hE
            go_wp2_with fail
            go_roundw
            case rel => exact ⟨ii + 1, g', c', by rw [HE.out], by go_num, by omega, (by rw [HE.out]; exact HO2), HBL⟩
            case measure => simp [intOf]; omega
          case true =>
            go_wp2_with fail
            refine HPT.out.mono ?_
            rintro e w2 ⟨r, rfl, r1, r0, hw⟩
            subst hw
            cases hpt : ptB ps ii
            case true =>
              have i5 : ¬ r < 0 := by have := r1 hpt; omega
              have hno : ¬ OnC xs ps ii := fun hc => by have h9 := hc.1; rw [hpt] at h9; cases h9
              have hE := opnL_no hno
              rw [hoL.out] at hE
              have HE := Lib.hid hE
              clear hno hE hpt
              go_wp2_with fail
              go_roundw
              case rel => exact ⟨ii + 1, g', c', by rw [HE.out], by go_num, by omega, (by rw [HE.out]; exact HO2), HBL⟩
              case measure => simp [intOf]; omega
            case false =>
              have i5 : r < 0 := by have := r0 hpt; omega
              have hyes : OnC xs ps ii := ⟨hpt, (HF.out hpt).1 (by first | rfl | trivial)⟩
              have hE := opnL_yes hyes
              rw [hoL.out] at hE
              have HE := Lib.hid hE
              have hbn := bnew wr2 (.cells #[.int .i64 (ii : Int)] 2)
              have hk2 := own_below HO2.out hbn
              have hnews := World.news_of_block (cs := #[.int .i64 (ii : Int)]) (blk_new wr2 2 #[.int .i64 (ii : Int)] wr2.heap.size rfl)
              have HC := Lib.hid (And.intro hk2 (And.intro hnews hbn))
              clear hyes hE hpt hk2 hnews hbn
              go_wp2_with (at_builtin; (refine wpList_append_sep rfl _ _ 28 rfl w.heap.size 2 i0 (.int .i64 0) 1 8 Tryz.underlying28 hi hz0 hz1 hz2 rfl (by decide) _ _ _ rfl HC.out.1 ⟨wr2.heap.size, 0, none⟩ 1 1 [.int .i64 (ii : Int)] rfl rfl HC.out.2.1 (by simp [Value.oneCell']) (by unfold maxLen; omega) (by omega) (by simp; omega) (by omega) ?_); intro g3 c3 w3 hown3 hgrow3 hsep3)
              have hown4 : w3.ownsRow w.heap.size 2 1 (.slice (some ⟨g3, 0, none⟩) (oL ++ [(ii : Int)]).length c3) (oL ++ [(ii : Int)]).length ((oL ++ [(ii : Int)]).map ic) := by
                rw [List.length_append, List.length_singleton, List.map_append]; exact hown3
              have hb3 : Below w.heap.size w w3 := (bon HBL.out HC.out.2.2).grown hgrow3 (Nat.le_trans hbsz HC.out.2.2.size) (fun q hq => (HO2.out.lt q hq).1)
              have HO4 := Lib.hid hown4
              have HB3 := Lib.hid hb3
              clear hown3 hown4 hgrow3 hsep3 hb3
              go_roundw
              case rel => exact ⟨ii + 1, g3, c3, (by rw [HE.out, List.length_append]; rfl), by go_num, by omega, (by rw [HE.out]; exact HO4), HB3⟩
              case measure => simp [intOf]; omega
    · obtain rfl : ii = n := by omega
      have i3 : ¬ (ii : Int) < (ii : Int) := by omega
      go_wp2_with fail
      go_ret
      exact ⟨some ⟨g', 0, none⟩, c', rfl, OwnL.of_own hO.out, hW.out⟩
end Go.Proofs.YtffkdidgfeknkaaGreatDoor
