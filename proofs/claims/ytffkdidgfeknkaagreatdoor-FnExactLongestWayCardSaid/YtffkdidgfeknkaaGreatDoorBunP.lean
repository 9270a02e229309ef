/-
  Several texts in one: OpnM, WayM. Conditions: as each says.
-/
import Derived.Test.YtffkdidgfeknkaaGreatDoorHgoM
import Derived.Test.YtffkdidgfeknkaaGreatDoorBunE
import Derived.Test.YtffkdidgfeknkaaGreatDoorReachM
import Derived.Test.YtffkdidgfeknkaaGreatDoorBunL

/-! The model's list of the instructions on circles without a point. Conditions: valid code. -/
namespace Go.Proofs.YtffkdidgfeknkaaGreatDoor
set_option linter.unusedVariables false
open Go.RowKit

/-- The search in memory: the marks and the places that have one. -/
structure OpnW (wc : World) (gS gW cW n : Nat) (ms : List Bool) (wk : List Int) (W : World) : Prop where
  seen : W.ownsRow wc.heap.size 4 1 (.slice (some ⟨gS, 0, none⟩) n n) n (ms.map Value.bool)
  work : W.ownsRow wc.heap.size 2 1 (.slice (some ⟨gW, 0, none⟩) wk.length cW) wk.length (wk.map ic)
  apart : gW ≠ gS
  size : missing ms + wk.length ≤ n + 1
  below : Below wc.heap.size wc W
section
variable {wc W W' W1 W2 : World} {gS gW cW g' c' n k : Nat} {ms : List Bool} {wk : List Int} {t : Int}
theorem OpnW.keep (h : OpnW wc gS gW cW n ms wk W) (hb : Below W.heap.size W W') : OpnW wc gS gW cW n ms wk W' :=
  ⟨own_below h.seen hb, own_below h.work hb, h.apart, h.size, bon h.below hb⟩
/-- A mark is put, and its place appended. -/
theorem OpnW.put (h : OpnW wc gS gW cW n ms wk W) (hk : ms[k]? = some false) (hb : Below (W.setCell ⟨gS, k, none⟩ (.bool true)).heap.size (W.setCell ⟨gS, k, none⟩ (.bool true)) W1)
    (hq : W2.ownsRow wc.heap.size 2 1 (.slice (some ⟨g', 0, none⟩) (wk ++ [t]).length c') (wk ++ [t]).length ((wk ++ [t]).map ic)) (hg : W1.grownBy W2 (some gW)) (hv : g' = gW ∨ W1.heap.size ≤ g') : OpnW wc gS g' c' n (ms.set k true) (wk ++ [t]) W2 := by
  have hm := h.seen
  have s1 := (hm.stored k (.bool true)).1
  have s2 := own_below s1 hb
  have s3 := s2.kept hg (.inr (fun e => h.apart (Option.some.inj (show some gS = some gW from e)).symm))
  have hgs := hm.lt gS rfl
  refine ⟨?_, hq, ?_, ?_, ?_⟩
  · rw [List.map_set]; exact s3
  · rcases hv with e | hj
    · rw [e]; exact h.apart
    · intro e'
      have h1 := hgs.2
      have h2 := hb.size
      simp at h2
      omega
  · have h1 := missing_set hk
    have h2 := h.size
    rw [List.length_append, List.length_singleton]
    omega
  · have b1 : Below wc.heap.size wc (W.setCell ⟨gS, k, none⟩ (.bool true)) := h.below.setCell (p := ⟨gS, k, none⟩) hgs.1 _
    refine (bon b1 hb).grown hg (Nat.le_trans b1.size hb.size) (fun j hj => ?_)
    obtain rfl := Option.some.inj hj
    exact (h.work.lt gW rfl).1
end

set_option maxRecDepth 100000 in
set_option maxHeartbeats 8000000 in
theorem l08Open_c (b : Nat) (v0 v1 : Value) (A : Option Addr) (n c B : Nat) (xs : List (Int × Int)) (D : Option Addr) (m d : Nat) (ps : List P2) (w : World) (hP : BlkIs w b 35 #[v0, v1, .slice A n c, .slice D m d]) (h : InC w B A n xs) (hpt : InP2 w B D m ps) (hB : B ≤ w.heap.size) (hv : codeB xs = true) (hm8 : m ≤ 1048576) :
    Calls Tryz.prog 35 #[.pointer (some ⟨b, 0, none⟩)] w fun e w' => ∃ A' c', e = .returned (.slice A' (opnL xs ps n).length c') ∧ OwnL w' w.heap.size w'.heap.size A' (opnL xs ps n).length c' (opnL xs ps n) ∧ Below w.heap.size w w' := by
  obtain ⟨i0, hi, hz0, hz1, hz2⟩ := info_parts infoHgo
  obtain ⟨ib, hib, hbz0, hbz1, hbz2⟩ := info_parts infoBR
  have hxn : xs.length = n := h.1
  have hp := codeB_parts hv
  have hn80 : 1 ≤ n ∧ n ≤ 80 := by omega
  have HXN := Lib.hid hxn
  have HI := Lib.hid h
  have HQ := Lib.hid hpt
  have HT := Lib.hid (tgt_in hv)
  have HV := Lib.hid hv
  have HP := Lib.hid (fun W (hb : Below w.heap.size w W) => And.intro (show W.cell? ⟨b, 2, none⟩ = some (.slice A n c) from (hP.next hb).cell 2) (show W.cell? ⟨b, 3, none⟩ = some (.slice D m d) from (hP.next hb).cell 3))
  have p2 : w.cell? ⟨b, 2, none⟩ = some (.slice A n c) := hP.cell 2
  have hown0 := own_empty w 2
  have hbe := bnew w (.cells #[] 2)
  clear h hp hv hxn hP hpt
  go_enter Tryz.func35, Tryz.ntmps35
  go_wp2_with fail
  generalize w.alloc (.cells #[] 2) = W0 at hown0 hbe ⊢
  go_loopw [4, 5, 6, 7, 8, 9, 10, 11] (fun o i _ _ _ _ _ _ wr => ∃ (ii g' c' : Nat), o = .slice (some ⟨g', 0, none⟩) (opnL xs ps ii).length c' ∧ i = .int .i64 ii ∧ ii ≤ n ∧ Hid (wr.ownsRow w.heap.size 2 1 (.slice (some ⟨g', 0, none⟩) (opnL xs ps ii).length c') (opnL xs ps ii).length ((opnL xs ps ii).map ic)) ∧ Hid (Below w.heap.size w wr)) (fun _ i _ _ _ _ _ _ _ => (n - intOf i).toNat)
  case atStart => exact ⟨0, w.heap.size, 0, rfl, rfl, Nat.zero_le _, hown0, hbe⟩
  case round =>
    clear hown0 hbe p2
    rename World => wr
    obtain ⟨ii, g', c', rfl, rfl, hii, hO, hW⟩ := hrel
    have hol := opnL_len xs ps ii
    by_cases hlt : ii < n
    · have i3 : (ii : Int) < (n : Int) := by omega
      obtain ⟨oL, hoL⟩ : ∃ oL, Hid (opnL xs ps ii = oL) := ⟨_, rfl⟩
      rw [hoL.out] at hO hol ⊢
      go_wp2_with (at_make; refine wpList_make_full _ rfl _ _ 111 rfl wr.heap.size 4 ib (.bool false) 1 Tryz.underlying111 hib hbz0 hbz1 .i64 .i64 _ _ n rfl rfl rfl rfl (by rw [hbz2]; omega) (by unfold maxLen; omega) (Nat.le_refl _) ?_; intro w1 hown hgrow)
      have hb1 : Below wr.heap.size wr w1 := (Below.refl _ _).grown hgrow (Nat.le_refl _) (fun q hq => by cases hq)
      have hs0 : w1.ownsRow wr.heap.size 4 1 (.slice (some ⟨wr.heap.size, 0, none⟩) n n) n ((List.replicate n false).map Value.bool) := by
        rw [List.map_replicate]
        have e2 := hown
        rw [show (Value.bool false).cells = #[Value.bool false] from rfl, toList_madeCells_one, Nat.mul_one] at e2
        exact e2
      have hb2 := bnew w1 (.cells #[.int .i64 ii] 2)
      have hM0 : OpnW wr wr.heap.size w1.heap.size 1 n (List.replicate n false) [(ii : Int)] (w1.alloc (.cells #[.int .i64 ii] 2)) := by
        refine ⟨own_below hs0 hb2, own_less (own_one w1 (ii : Int)) hb1.size, ?_, ?_, bon hb1 hb2⟩
        · have := (hs0.lt wr.heap.size rfl).2; omega
        · have := missing_le (List.replicate n false)
          rw [List.length_replicate] at this
          simp only [List.length_singleton]; omega
      have hS0 : SrchO xs ps ii (List.replicate n false) [(ii : Int)] false 0 := by
        have := SrchO.init (xs := xs) (ps := ps) (i := ii) (by rw [HXN.out]; exact hlt)
        rw [HXN.out] at this; exact this
      have HM0 := Lib.hid hM0
      have HS0 := Lib.hid hS0
      clear hM0 hS0 hb1 hs0 hb2 hown hgrow
      go_wp2_with fail
      generalize w1.alloc (.cells #[.int .i64 ii] 2) = W at HM0 ⊢
      generalize w1.heap.size = gw at HM0 ⊢
      go_loopw [7, 8, 9, 10, 11] (fun v bk q _ _ wr2 => ∃ (qq gW cW : Nat) (ms : List Bool) (wk : List Int) (back : Bool), v = .slice (some ⟨gW, 0, none⟩) wk.length cW ∧ bk = .bool back ∧ q = .int .i64 qq ∧ qq ≤ wk.length ∧ Hid (SrchO xs ps ii ms wk back qq) ∧ Hid (OpnW wr wr.heap.size gW cW n ms wk wr2)) (fun _ _ q _ _ _ => (n + 1 - intOf q).toNat)
      case atStart => exact ⟨0, gw, 1, _, [(ii : Int)], false, rfl, rfl, rfl, Nat.zero_le _, HS0, HM0⟩
      case round =>
        clear HS0 HM0
        rename World => wr2
        obtain ⟨qq, gW, cW, ms, wk, back, rfl, rfl, rfl, hqq, HS, HM⟩ := hrel
        have hwl : wk.length ≤ n + 1 := by have := HM.out.size; omega
        have hbl := bon hW.out HM.out.below
        by_cases hlq : qq < wk.length
        · have i4 : (qq : Int) < (wk.length : Int) := by omega
          obtain ⟨t, ht⟩ : ∃ t, wk[qq]? = some t := ⟨_, List.getElem?_eq_getElem hlq⟩
          obtain ⟨ht0, htl, _⟩ := HS.out.ok t (List.mem_of_getElem? ht)
          obtain ⟨k, rfl⟩ : ∃ k : Nat, t = (k : Int) := ⟨t.toNat, by omega⟩
          have hk : k < xs.length := by omega
          have wc0 : wr2.cell? ⟨gW, qq, none⟩ = some (.int .i64 k) := by rw [HM.out.work.cellAt qq (by omega), List.getElem?_map, ht]; rfl
          obtain ⟨x, hx⟩ : ∃ x, xs[k]? = some x := ⟨_, List.getElem?_eq_getElem hk⟩
          obtain ⟨p2, p3⟩ := HP.out wr2 hbl
          have HX := Lib.hid hx
          have HTK := Lib.hid ht
          have HPT := Lib.hid (l08Point_c b D m d B ps (k : Int) wr2 p3 (HQ.out.next hbl hB) hm8)
          have HNX := Lib.hid (l08Next_c b A n c B xs k x wr2 p2 (HI.out.next hbl hB) hx (by have := HXN.out; omega))
          have HBL := Lib.hid hbl
          clear hx ht hbl p2 p3 ht0 htl
          go_wp2_with fail
          refine HPT.out.mono ?_
          rintro e w2 ⟨r, rfl, r1, r0, hw⟩
          subst hw
          cases hpt : ptB ps k
          case true =>
            have i5 : 0 ≤ r := r1 hpt
            have HS2 := Lib.hid (HS.out.skip HTK.out hpt)
            clear hpt
            go_wp2_with fail
            go_roundw
            case rel => exact ⟨qq + 1, gW, cW, ms, wk, back, rfl, rfl, by go_num, hlq, HS2, HM⟩
            case measure => simp [intOf]; omega
          case false =>
            have i5 : ¬ 0 ≤ r := by have := r0 hpt; omega
            have htg : ∀ t, t ∈ rawT x.1 x.2 k ↔ t ∈ tgtN xs k := fun t => by rw [rawT_mem]; unfold tgtN; rw [List.getD_eq_getElem?_getD, HX.out]; exact Iff.rfl
            have HST := Lib.hid (HS.out.take HTK.out hpt htg)
            have htl2 := rawT_len x.1 x.2 k
            have HTI : Hid (∀ t ∈ rawT x.1 x.2 k, 0 ≤ t ∧ t ≤ 80) := fun t ht => HT.out k x HX.out t ((rawT_mem _ _ _ _).1 ht)
            clear htg hpt
            go_wp2_with fail
            refine HNX.out.mono ?_
            rintro e w2 ⟨A', ct, rfl, hyo, hb2⟩
            generalize rawT x.1 x.2 k = T at HST htl2 HTI hyo ⊢
            have HM2 := Lib.hid (HM.out.keep hb2)
            have HY := Lib.hid (show w2.ownsRow wr.heap.size 2 1 (.slice A' T.length ct) T.length (T.map ic) ∧ (∀ tb, (Value.slice A' T.length ct).ownBlock = some tb → tb ≠ gW) ∧ (∀ tb, (Value.slice A' T.length ct).ownBlock = some tb → tb ≠ wr.heap.size) from
              ⟨own_less hyo.2.1 HM.out.below.size, fun tb e => by have h1 := (hyo.2.1.lt tb e).1; have h2 := (HM.out.work.lt gW rfl).2; omega, fun tb e => by have h1 := (hyo.2.1.lt tb e).1; have h2 := (HM.out.seen.lt wr.heap.size rfl).2; omega⟩)
            have hqq1 : qq + 1 ≤ wk.length := hlq
            clear hyo hb2 HNX HPT wc0 r0 r1
            go_wp2_with fail
            go_loopw [7, 8, 11] (fun v bk jx wr3 => ∃ (j2 gV cV : Nat) (ms2 : List Bool) (wk2 : List Int) (back2 : Bool), v = .slice (some ⟨gV, 0, none⟩) wk2.length cV ∧ bk = .bool back2 ∧ jx = .int .i64 j2 ∧ j2 ≤ T.length ∧ qq + 1 ≤ wk2.length ∧ Hid (SrchQ xs ps ii ms2 wk2 back2 qq k T j2) ∧ Hid (OpnW wr wr.heap.size gV cV n ms2 wk2 wr3) ∧ Hid (wr3.ownsRow wr.heap.size 2 1 (.slice A' T.length ct) T.length (T.map ic) ∧ (∀ tb, (Value.slice A' T.length ct).ownBlock = some tb → tb ≠ gV) ∧ (∀ tb, (Value.slice A' T.length ct).ownBlock = some tb → tb ≠ wr.heap.size))) (fun _ _ jx _ => (T.length - intOf jx).toNat)
            case atStart => exact ⟨0, gW, cW, ms, wk, back, rfl, rfl, rfl, Nat.zero_le _, hqq1, HST, HM2, HY⟩
            case round =>
              clear HST HM2 HY HM HS HTK HBL
              rename World => wr3
              obtain ⟨j2, gV, cV, ms2, wk2, back2, rfl, rfl, rfl, hj2, hqq2, HS2, HM2, HY2⟩ := hrel
              have hwl2 : wk2.length ≤ n + 1 := by have := HM2.out.size; omega
              by_cases hl2 : j2 < T.length
              · have i6 : (j2 : Int) < (T.length : Int) := by omega
                obtain ⟨yb, yoff, t, hAe, hyb, hyt, hyc⟩ := (OwnL.of_own HY2.out.1).all.2.int_at (k := j2) hl2
                subst hAe
                have htb := HTI.out t (List.mem_of_getElem? hyt)
                have HTT := Lib.hid hyt
                clear hyt hyb
                go_upto_region 17 with fail
                go_cut [8] from 52 to 60 (fun s wx => s = .bool (back2 || decide (t = (ii : Int))) ∧ wx = wr3)
                case first =>
                  cases back2
                  case true =>
                    go_wp2_with fail
                    go_meet
                    exact ⟨by simp, rfl⟩
                  case false =>
                    by_cases he : t = (ii : Int)
                    · have e1 : (t == (ii : Int)) = true := beq_iff_eq.2 he
                      go_wp2_with fail
                      go_meet
                      exact ⟨by simp [he], rfl⟩
                    · have e1 : (t == (ii : Int)) = false := beq_eq_false_iff_ne.2 he
                      go_wp2_with fail
                      go_meet
                      exact ⟨by simp [he], rfl⟩
                case rest =>
                  obtain ⟨rfl, hwx⟩ := hcut
                  subst hwx
                  obtain ⟨bk3, hbk3⟩ : ∃ bk3, Hid ((back2 || decide (t = (ii : Int))) = bk3) := ⟨_, rfl⟩
                  rw [hbk3.out]
                  by_cases hl : t < (xs.length : Int)
                  · obtain ⟨tn, rfl⟩ : ∃ tn : Nat, t = (tn : Int) := ⟨t.toNat, by omega⟩
                    have htn : tn < n := by have := HXN.out; omega
                    have hin : (decide ((0 : Int) ≤ (tn : Int)) && decide ((tn : Int) ≤ (n : Int) - 1)) = true := by simp; omega
                    obtain ⟨a, ha⟩ : ∃ a, ms2[tn]? = some a := ⟨_, List.getElem?_eq_getElem (by rw [HS2.out.s.len]; omega)⟩
                    have hac : wc.cell? ⟨wr.heap.size, tn, none⟩ = some (.bool a) := by rw [HM2.out.seen.cellAt tn (by omega), List.getElem?_map, ha]; rfl
                    have HA := Lib.hid ha
                    have HIN := l00In_i (tn : Int) 0 ((n : Int) - 1) wc
                    rw [hin] at HIN
                    have HIN := Lib.hid HIN
                    clear ha hin
                    cases a
                    case true =>
                      have HS3 := Lib.hid (HS2.out.pass HTT.out hk (fun _ => by rw [Int.toNat_natCast]; exact HA.out))
                      rw [hbk3.out] at HS3
                      go_wp2_with fail
                      refine HIN.out.mono ?_
                      rintro e w3 ⟨rfl, hw⟩
                      subst hw
                      go_wp2_with fail
                      go_roundw
                      case rel => exact ⟨j2 + 1, gV, cV, ms2, wk2, bk3, rfl, rfl, by go_num, by omega, hqq2, HS3, HM2, HY2⟩
                      case measure => simp [intOf]; omega
                    case false =>
                      have hf := HM2.out.seen.frozenAt tn
                      have HS3 := HS2.out.put HTT.out hk (by omega) hl
                      rw [hbk3.out, Int.toNat_natCast] at HS3
                      have HS3 := Lib.hid HS3
                      have hsz9 : (wc.setCell ⟨wr.heap.size, tn, none⟩ (.bool true)).heap.size = wc.heap.size := by simp
                      have hy1 := ownsRow_setCell_other (a := ⟨wr.heap.size, tn, none⟩) HY2.out.1 (fun e => HY2.out.2.2 _ e rfl) (.bool true)
                      obtain ⟨yb2, yoff2, t2, hAe, _, hyt2, hyc2⟩ := (OwnL.of_own hy1).all.2.int_at (k := j2) hl2
                      obtain ⟨rfl, rfl⟩ : yb = yb2 ∧ yoff = yoff2 := by injection hAe with e1; injection e1 with e2 e3; exact ⟨e2, e3⟩
                      rw [HTT.out] at hyt2
                      obtain rfl := Option.some.inj hyt2
                      have hbn := bnew (wc.setCell ⟨wr.heap.size, tn, none⟩ (.bool true)) (.cells #[.int .i64 (tn : Int)] 2)
                      have hk1 := ownsRow_setCell_other (a := ⟨wr.heap.size, tn, none⟩) HM2.out.work (fun e => HM2.out.apart (Option.some.inj e)) (.bool true)
                      have hk2 := own_below hk1 hbn
                      have hnews := World.news_of_block (cs := #[.int .i64 (tn : Int)]) (blk_new (wc.setCell ⟨wr.heap.size, tn, none⟩ (.bool true)) 2 #[.int .i64 (tn : Int)] wc.heap.size hsz9.symm)
                      have hszb := HM2.out.below.size
                      have HC := Lib.hid (And.intro hk2 (And.intro hnews (And.intro hbn hy1)))
                      clear hk1 hk2 hnews hbn hAe hyt2 hy1
                      go_wp2_with fail
                      refine HIN.out.mono ?_
                      rintro e w3 ⟨rfl, hw⟩
                      subst hw
                      go_wp2_with (at_builtin; (refine wpList_append_sep rfl _ _ 28 rfl wr.heap.size 2 i0 (.int .i64 0) 1 8 Tryz.underlying28 hi hz0 hz1 hz2 rfl (by decide) _ _ _ rfl HC.out.1 ⟨wc.heap.size, 0, none⟩ 1 1 [.int .i64 (tn : Int)] rfl rfl HC.out.2.1 (by simp [Value.oneCell']) (by unfold maxLen; omega) (by omega) (by simp; omega) (by omega) ?_); intro g3 c3 w3 hown3 hgrow3 hsep3)
                      have hown4 : w3.ownsRow wr.heap.size 2 1 (.slice (some ⟨g3, 0, none⟩) (wk2 ++ [(tn : Int)]).length c3) (wk2 ++ [(tn : Int)]).length ((wk2 ++ [(tn : Int)]).map ic) := by
                        rw [List.length_append, List.length_singleton, List.map_append]; exact hown3
                      have hsep4 : g3 = gV ∨ ((wc.setCell ⟨wr.heap.size, tn, none⟩ (.bool true)).alloc (.cells #[.int .i64 (tn : Int)] 2)).heap.size ≤ g3 := hsep3.imp (fun e => Option.some.inj (show some g3 = some gV from e)) id
                      have HM3 := Lib.hid (HM2.out.put HA.out HC.out.2.2.1 hown4 hgrow3 hsep4)
                      have hy2 := (own_below HC.out.2.2.2 HC.out.2.2.1).kept hgrow3 (.inr (fun e => HY2.out.2.1 _ e rfl))
                      have hylt := (own_below HC.out.2.2.2 HC.out.2.2.1).lt
                      have HY3 := Lib.hid (And.intro hy2 (And.intro (fun tb (e : (Value.slice (some ⟨yb, yoff, none⟩) T.length ct).ownBlock = some tb) => show tb ≠ g3 from fun e' => by
                        rcases hsep4 with e2 | e2
                        · exact HY2.out.2.1 tb e (e'.trans e2)
                        · have := (hylt _ e).2; omega) HY2.out.2.2))
                      clear hown3 hown4 hgrow3 hsep3 hsep4 hy2 hylt
                      go_roundw
                      case rel => exact ⟨j2 + 1, g3, c3, ms2.set tn true, wk2 ++ [(tn : Int)], bk3, (by rw [List.length_append]; rfl), rfl, by go_num, by omega, (by rw [List.length_append]; omega), HS3, HM3, HY3⟩
                      case measure => simp [intOf]; omega
                  · have HS3 := HS2.out.pass HTT.out hk (fun e => absurd e hl)
                    rw [hbk3.out] at HS3
                    have HS3 := Lib.hid HS3
                    have hin : (decide ((0 : Int) ≤ t) && decide (t ≤ (n : Int) - 1)) = false := by have := HXN.out; simp; omega
                    have HIN := l00In_i t 0 ((n : Int) - 1) wc
                    rw [hin] at HIN
                    have HIN := Lib.hid HIN
                    clear hin
                    go_wp2_with fail
                    refine HIN.out.mono ?_
                    rintro e w3 ⟨rfl, hw⟩
                    subst hw
                    go_wp2_with fail
                    go_roundw
                    case rel => exact ⟨j2 + 1, gV, cV, ms2, wk2, bk3, rfl, rfl, by go_num, by omega, hqq2, HS3, HM2, HY2⟩
                    case measure => simp [intOf]; omega
              · have i6 : ¬ (j2 : Int) < (T.length : Int) := by omega
                have HS4 := Lib.hid (HS2.out.all (by omega))
                go_wp2_with fail
                go_roundw
                case rel => exact ⟨qq + 1, gV, cV, ms2, wk2, back2, rfl, rfl, by go_num, hqq2, HS4, HM2⟩
                case measure => simp [intOf]; omega
        · have i4 : ¬ (qq : Int) < (wk.length : Int) := by omega
          have HF := Lib.hid (fun hp => HS.out.fin (by omega) (by rw [HXN.out]; exact hlt) hp)
          have hO2 := own_below hO.out HM.out.below
          have HO2 := Lib.hid hO2
          have HBL := Lib.hid hbl
          obtain ⟨p2, p3⟩ := HP.out wr2 hbl
          have HPT := Lib.hid (l08Point_c b D m d B ps (ii : Int) wr2 p3 (HQ.out.next hbl hB) hm8)
          have hbsz := hbl.size
          clear hO2 hbl p2 p3 HM HS
          cases back
          case false =>
            have hno : ¬ OnC xs ps ii := fun hc => by have := (HF.out hc.1).2 hc.2; cases this
            have hE := opnL_no hno
            rw [hoL.out] at hE
            have HE := Lib.hid hE
            clear hno hE
            go_wp2_with fail
            go_roundw
            case rel => exact ⟨ii + 1, g', c', by rw [HE.out], by go_num, by omega, (by rw [HE.out]; exact HO2), HBL⟩
            case measure => simp [intOf]; omega
          case true =>
            go_wp2_with fail
            refine HPT.out.mono ?_
            rintro e w2 ⟨r, rfl, r1, r0, hw⟩
            subst hw
            cases hpt : ptB ps ii
            case true =>
              have i5 : ¬ r < 0 := by have := r1 hpt; omega
              have hno : ¬ OnC xs ps ii := fun hc => by have h9 := hc.1; rw [hpt] at h9; cases h9
              have hE := opnL_no hno
              rw [hoL.out] at hE
              have HE := Lib.hid hE
              clear hno hE hpt
              go_wp2_with fail
              go_roundw
              case rel => exact ⟨ii + 1, g', c', by rw [HE.out], by go_num, by omega, (by rw [HE.out]; exact HO2), HBL⟩
              case measure => simp [intOf]; omega
            case false =>
              have i5 : r < 0 := by have := r0 hpt; omega
              have hyes : OnC xs ps ii := ⟨hpt, (HF.out hpt).1 (by first | rfl | trivial)⟩
              have hE := opnL_yes hyes
              rw [hoL.out] at hE
              have HE := Lib.hid hE
              have hbn := bnew wr2 (.cells #[.int .i64 (ii : Int)] 2)
              have hk2 := own_below HO2.out hbn
              have hnews := World.news_of_block (cs := #[.int .i64 (ii : Int)]) (blk_new wr2 2 #[.int .i64 (ii : Int)] wr2.heap.size rfl)
              have HC := Lib.hid (And.intro hk2 (And.intro hnews hbn))
              clear hyes hE hpt hk2 hnews hbn
              go_wp2_with (at_builtin; (refine wpList_append_sep rfl _ _ 28 rfl w.heap.size 2 i0 (.int .i64 0) 1 8 Tryz.underlying28 hi hz0 hz1 hz2 rfl (by decide) _ _ _ rfl HC.out.1 ⟨wr2.heap.size, 0, none⟩ 1 1 [.int .i64 (ii : Int)] rfl rfl HC.out.2.1 (by simp [Value.oneCell']) (by unfold maxLen; omega) (by omega) (by simp; omega) (by omega) ?_); intro g3 c3 w3 hown3 hgrow3 hsep3)
              have hown4 : w3.ownsRow w.heap.size 2 1 (.slice (some ⟨g3, 0, none⟩) (oL ++ [(ii : Int)]).length c3) (oL ++ [(ii : Int)]).length ((oL ++ [(ii : Int)]).map ic) := by
                rw [List.length_append, List.length_singleton, List.map_append]; exact hown3
              have hb3 : Below w.heap.size w w3 := (bon HBL.out HC.out.2.2).grown hgrow3 (Nat.le_trans hbsz HC.out.2.2.size) (fun q hq => (HO2.out.lt q hq).1)
              have HO4 := Lib.hid hown4
              have HB3 := Lib.hid hb3
              clear hown3 hown4 hgrow3 hsep3 hb3
              go_roundw
              case rel => exact ⟨ii + 1, g3, c3, (by rw [HE.out, List.length_append]; rfl), by go_num, by omega, (by rw [HE.out]; exact HO4), HB3⟩
              case measure => simp [intOf]; omega
    · obtain rfl : ii = n := by omega
      have i3 : ¬ (ii : Int) < (ii : Int) := by omega
      go_wp2_with fail
      go_ret
      exact ⟨some ⟨g', 0, none⟩, c', rfl, OwnL.of_own hO.out, hW.out⟩
end Go.Proofs.YtffkdidgfeknkaaGreatDoor

/-! The model's LongestWay. Conditions: at most 2^20 elements and numbers. -/
namespace Go.Proofs.YtffkdidgfeknkaaGreatDoor
set_option linter.unusedVariables false
open Go.RowKit

theorem max_c (a b : Int) (w : World) : Calls Tryz.prog 42 #[.int .i64 a, .int .i64 b] w fun e w' => e = .returned (.int .i64 (if a > b then a else b)) ∧ w = w' := by
  by_cases h : a > b
  · rw [if_pos h]
    have h' : b < a := h
    go_enter Tryz.func42, Tryz.ntmps42
    go_wp2_with fail
    go_ret
    exact ⟨rfl, rfl⟩
  · rw [if_neg h]
    have h' : ¬ b < a := h
    go_enter Tryz.func42, Tryz.ntmps42
    go_wp2_with fail
    go_ret
    exact ⟨rfl, rfl⟩
theorem mem_opnL {xs : List (Int × Int)} {ps : List P2} {k : Nat} {t : Int} : t ∈ opnL xs ps k ↔ ∃ i : Nat, t = i ∧ i < k ∧ OnC xs ps i := by
  unfold opnL
  rw [List.mem_map]
  constructor
  · rintro ⟨i, hi, rfl⟩
    rw [List.mem_filter, List.mem_range, @decide_eq_true_iff] at hi
    exact ⟨i, rfl, hi⟩
  · rintro ⟨i, rfl, hi⟩
    refine ⟨i, ?_, rfl⟩
    rw [List.mem_filter, List.mem_range, @decide_eq_true_iff]
    exact hi

set_option maxRecDepth 100000 in
set_option maxHeartbeats 16000000 in
theorem specWay_c (A0 : Option Addr) (n0 c0 : Nat) (t0 : List (Int × List Int)) (A1 : Option Addr) (n1 c1 : Nat) (t1 : List (Int × List Int)) (A2 : Option Addr) (n2 c2 : Nat) (t2 : List (Int × Int)) (A3 : Option Addr) (n3 c3 : Nat) (t3 : List P2) (w : World) (h0 : InTS w w.heap.size A0 n0 t0) (h1 : InTS w w.heap.size A1 n1 t1) (h2 : InC w w.heap.size A2 n2 t2) (h3 : InP2 w w.heap.size A3 n3 t3) (hn0 : n0 ≤ 1048576) (he0 : totT t0 ≤ 1048576) (hn1 : n1 ≤ 1048576) (he1 : totT t1 ≤ 1048576) (hn2 : n2 ≤ 1048576) (hn3 : n3 ≤ 1048576) (he3 : totP2 t3 ≤ 1048576) :
    Calls Tryz.prog 17 #[.agg #[.slice A0 n0 c0, .slice A1 n1 c1, .slice A2 n2 c2, .slice A3 n3 c3]] w fun e w' => e = .returned (.tuple #[.int .i64 (wayR t0 t1 t2 t3).1, .bool (wayR t0 t1 t2 t3).2]) ∧ Below w.heap.size w w' := by
  obtain ⟨i0, hi, hz0, hz1, hz2⟩ := info_parts infoHgo
  have hb0 := bnew w (.cells #[.slice A0 n0 c0, .slice A1 n1 c1, .slice A2 n2 c2, .slice A3 n3 c3] 35)
  have hP : BlkIs (w.alloc (.cells #[.slice A0 n0 c0, .slice A1 n1 c1, .slice A2 n2 c2, .slice A3 n3 c3] 35)) w.heap.size 35 #[.slice A0 n0 c0, .slice A1 n1 c1, .slice A2 n2 c2, .slice A3 n3 c3] := blk_new _ _ _ _ rfl
  have hc0 := l08Is_c w.heap.size A0 n0 c0 t0 A1 n1 c1 t1 A2 n2 c2 t2 A3 n3 c3 t3 w.heap.size _ hP (h0.next hb0 (Nat.le_refl _)) (h1.next hb0 (Nat.le_refl _)) (h2.next hb0 (Nat.le_refl _)) (h3.next hb0 (Nat.le_refl _)) hb0.size hn0 he0 hn1 he1 hn2 hn3 he3
  obtain ⟨R, HR⟩ : ∃ R, Hid (wayR t0 t1 t2 t3 = R) := ⟨_, rfl⟩
  rw [HR.out]
  cases hv : annB t0 t1 t2 t3 with
  | false =>
    have HE : Hid (R = (0, false)) := by show R = _; rw [← HR.out]; exact wayR_no (by rw [hgoR_bad hv])
    rw [hv] at hc0
    have H := Lib.hid hc0
    clear hP h0 h1 h2 h3 hc0 hv
    go_enter Tryz.func17, Tryz.ntmps17
    go_wp2_with fail
    generalize w.alloc (.cells #[.slice A0 n0 c0, .slice A1 n1 c1, .slice A2 n2 c2, .slice A3 n3 c3] 35) = W at hb0 H ⊢
    refine H.out.mono ?_
    rintro e w1 ⟨rfl, hb1⟩
    go_wp2_with fail
    go_ret2
    rw [HE.out]
    exact ⟨rfl, bon hb0 hb1⟩
  | true =>
    have hlen : t2.length = n2 := h2.1
    have HLEN := Lib.hid hlen
    rw [hv] at hc0
    have H := Lib.hid hc0
    have HV := Lib.hid hv
    have HCB := Lib.hid (annB_parts hv).1
    have HI := Lib.hid (And.intro h2 h3)
    have hn80 : 1 ≤ n2 ∧ n2 ≤ 80 := by have := codeB_parts (annB_parts hv).1; omega
    have HX := Lib.hid hP
    clear h0 h1 h2 h3 hc0 hv hlen hP
    go_enter Tryz.func17, Tryz.ntmps17
    go_wp2_with fail
    generalize w.alloc (.cells #[.slice A0 n0 c0, .slice A1 n1 c1, .slice A2 n2 c2, .slice A3 n3 c3] 35) = W at hb0 HX H ⊢
    obtain ⟨b, hbb⟩ : ∃ b, Hid (w.heap.size = b) := ⟨_, rfl⟩
    rw [hbb.out] at HX H
    rw [show (.pointer (some ⟨w.heap.size, 0, none⟩) : Value) = .pointer (some ⟨b, 0, none⟩) by rw [hbb.out]]
    refine H.out.mono ?_
    rintro e w1 ⟨rfl, hb1⟩
    have hb01 := bon hb0 hb1
    have HH := Lib.hid (l08Heights_c b (.slice A0 n0 c0) (.slice A1 n1 c1) A2 n2 c2 w.heap.size t2 A3 n3 c3 t3 w1 (HX.out.next hb1) (HI.out.1.next hb01 (Nat.le_refl _)) (HI.out.2.next hb01 (Nat.le_refl _)) hb01.size HCB.out hn3)
    have HX1 := Lib.hid (HX.out.next hb1)
    have HB1 := Lib.hid hb01
    clear hb1 hb0 hb01 H HX
    go_wp2_with fail
    refine HH.out.mono ?_
    rintro e w2 ⟨AL, L, cL, ok, rfl, hy, hno, ho, hb2⟩
    have HB2 := Lib.hid (bon HB1.out hb2)
    have HX2 := Lib.hid (HX1.out.next hb2)
    cases ok with
    | false =>
      have HE : Hid (R = (0, false)) := by show R = _; rw [← HR.out]; exact wayR_no (by rw [hgoR_no (hno rfl).1])
      clear hy hno ho hb2
      go_wp2_with fail
      go_ret2
      rw [HE.out]
      exact ⟨rfl, HB2.out⟩
    | true =>
      obtain ⟨hLst, hFlat⟩ := hy rfl
      have HGO : Hid ((hgoR t0 t1 t2 t3).2 = true) := by show _ = _; rw [hgoR_yes HV.out hLst hFlat]
      have HLST := Lib.hid hLst
      have hLl : L.length = n2 := hLst.good.len.trans HLEN.out
      have HLL := Lib.hid hLl
      have HL := Lib.hid (fun W3 (h : Below w2.heap.size w2 W3) => (ho.all.next h (Nat.le_refl _)).more h.size)
      have HOP := Lib.hid (l08Open_c b (.slice A0 n0 c0) (.slice A1 n1 c1) A2 n2 c2 w.heap.size t2 A3 n3 c3 t3 w2 HX2.out (HI.out.1.next HB2.out (Nat.le_refl _)) (HI.out.2.next HB2.out (Nat.le_refl _)) HB2.out.size HCB.out hn3)
      have hll80 : L.length ≤ 80 := by omega
      clear hy hno ho hb2 hLst hFlat hLl HH HX1
      obtain ⟨ln, hln⟩ : ∃ ln, Hid (L.length = ln) := ⟨_, rfl⟩
      rw [hln.out] at HL HLL hll80
      rw [hln.out]
      have hln2 : ln = n2 := HLL.out
      subst hln2
      go_wp2_with fail
      refine HOP.out.mono ?_
      rintro e w3 ⟨AO, cO, rfl, hoo, hb3⟩
      obtain ⟨oL, hoL⟩ : ∃ oL, Hid (opnL t2 t3 ln = oL) := ⟨_, rfl⟩
      have hol : oL.length ≤ ln := by rw [← hoL.out]; exact opnL_len _ _ _
      have HMO : Hid (∀ t, t ∈ oL ↔ ∃ i : Nat, t = i ∧ i < ln ∧ OnC t2 t3 i) := fun t => by rw [← hoL.out]; exact mem_opnL
      rw [hoL.out] at hoo
      rw [hoL.out]
      have HO := Lib.hid (fun W3 (h : Below w3.heap.size w3 W3) => (hoo.all.next h (Nat.le_refl _)).more h.size)
      have HL3 := Lib.hid (fun W3 (h : Below w3.heap.size w3 W3) => HL.out W3 (bon hb3 h))
      have HB3 := Lib.hid (bon HB2.out hb3)
      have HX3 := Lib.hid (HX2.out.next hb3)
      have HHT : Hid (∀ (i : Nat) (g : Int), L[i]? = some g → (0 ≤ g ↔ RchN t2 i)) := fun i g e => height_iff HCB.out HLST.out e
      clear hoo hb3 HOP HL HX2
      go_wp2_with fail
      go_loopw [7] (fun i wr => ∃ k : Nat, i = .int .i64 k ∧ k ≤ oL.length ∧ Hid (∀ t ∈ oL.take k, ¬ RchN t2 t.toNat) ∧ wr = w3) (fun i _ => (oL.length - intOf i).toNat)
      case atStart => exact ⟨0, rfl, Nat.zero_le _, Lib.hid (fun t ht => by cases ht), rfl⟩
      case round =>
        obtain ⟨k, rfl, hk, hno, rfl⟩ := hrel
        by_cases hlt : k < oL.length
        · have i3 : (k : Int) < (oL.length : Int) := by omega
          obtain ⟨ob, ooff, o, hAe, hobb, hot, hoc⟩ := (HO.out _ (Below.refl _ _)).2.int_at (k := k) hlt
          subst hAe
          obtain ⟨on, rfl, hol2, hoC⟩ := (HMO.out o).1 (List.mem_of_getElem? hot)
          obtain ⟨g, hg⟩ : ∃ g, L[on]? = some g := ⟨_, List.getElem?_eq_getElem (by rw [hln.out]; exact hol2)⟩
          obtain ⟨lb, loff, g', hAe, hlb, hg', hgc⟩ := (HL3.out _ (Below.refl _ _)).2.int_at (k := on) (by rw [hln.out]; exact hol2)
          subst hAe
          rw [hg] at hg'
          obtain rfl := Option.some.inj hg'
          have i4 : (on : Int) < (ln : Int) := by omega
          have hgi := HHT.out on g hg
          by_cases hg0 : 0 ≤ g
          · have HE : Hid (R = (0, false)) := by show R = _; rw [← HR.out]; exact wayR_open (by rw [HLEN.out]; exact hol2) hoC (hgi.1 hg0)
            clear hot hg hgi hoC hobb hlb
            go_wp2_with fail
            go_ret2
            rw [HE.out]
            exact ⟨rfl, HB3.out⟩
          · have hno2 : ∀ t ∈ oL.take (k + 1), ¬ RchN t2 t.toNat := fun t ht => by
              rw [List.take_add_one, hot] at ht
              rcases List.mem_append.1 ht with e | e
              · exact hno.out t e
              · have : t = (on : Int) := by simpa using e
                subst this
                rw [Int.toNat_natCast]
                exact fun h => hg0 (hgi.2 h)
            have HNO := Lib.hid hno2
            clear hot hg hgi hoC hobb hlb hno hno2
            go_wp2_with fail
            go_roundw
            case rel => exact ⟨k + 1, by go_num, by omega, HNO, (by first | rfl | trivial)⟩
            case measure => simp [intOf]; omega
        · have i3 : ¬ (k : Int) < (oL.length : Int) := by omega
          have hna : ∀ i, i < t2.length → OnC t2 t3 i → ¬ RchN t2 i := fun i hil hc => by
            have := hno.out (i : Int) (by rw [List.take_of_length_le (by omega)]; exact (HMO.out i).2 ⟨i, rfl, by rw [← HLEN.out]; exact hil, hc⟩)
            rwa [Int.toNat_natCast] at this
          have HNA := Lib.hid hna
          have p2 : wr.cell? ⟨b, 2, none⟩ = some (.slice A2 ln c2) := HX3.out.cell 2
          clear hna hno HO HMO
          go_wp2_with (at_make; refine wpList_make_full _ rfl _ _ 28 rfl wr.heap.size 2 i0 (.int .i64 0) 1 Tryz.underlying28 hi hz0 hz1 .i64 .i64 _ _ ln rfl rfl rfl rfl (by rw [hz2]; omega) (by unfold maxLen; omega) (Nat.le_refl _) ?_; intro w4 hown hgrow)
          have hb4 : Below wr.heap.size wr w4 := (Below.refl _ _).grown hgrow (Nat.le_refl _) (fun q hq => by cases hq)
          have hown2 : w4.ownsRow wr.heap.size 2 1 (.slice (some ⟨wr.heap.size, 0, none⟩) ln ln) ln ((List.replicate ln (0 : Int)).map ic) := by
            rw [List.map_replicate]
            have e2 := hown
            rw [show (Value.int .i64 0).cells = #[Value.int .i64 0] from rfl, toList_madeCells_one] at e2
            simpa [ic] using e2
          obtain ⟨gF, hgF⟩ : ∃ gF, Hid (wr.heap.size = gF) := ⟨_, rfl⟩
          have HF0 : Hid (w4.ownsRow wr.heap.size 2 1 (.slice (some ⟨gF, 0, none⟩) ln ln) ln ((List.replicate ln (0 : Int)).map ic)) := by show _; rw [← hgF.out]; exact hown2
          rw [show (.slice (some ⟨wr.heap.size, 0, none⟩) ln ln : Value) = .slice (some ⟨gF, 0, none⟩) ln ln by rw [hgF.out]]
          have HFI : Hid (FarI t2 t3 (List.replicate ln 0) 0 0 0) := by
            have := FarI.init (xs := t2) (ps := t3) (by rw [HLEN.out]; omega)
            rw [HLEN.out] at this; exact this
          have HB4 := Lib.hid hb4
          have HP := Lib.hid (fun W3 (h : Below wr.heap.size wr W3) => And.intro (show W3.cell? ⟨b, 2, none⟩ = some (.slice A2 ln c2) from (HX3.out.next h).cell 2) (show W3.cell? ⟨b, 3, none⟩ = some (.slice A3 n3 c3) from (HX3.out.next h).cell 3))
          have HJ := Lib.hid (fun W3 (h : Below wr.heap.size wr W3) => And.intro (HI.out.1.next (bon HB3.out h) (Nat.le_refl _)) (HI.out.2.next (bon HB3.out h) (Nat.le_refl _)))
          clear hown hgrow hb4 hown2 p2
          go_wp2_with fail
          go_loopw [9, 10, 11, 12, 13, 14] (fun bv rv _ _ _ _ wr2 => ∃ (rr : Nat) (best : Int) (far : List Int), bv = .int .i64 best ∧ rv = .int .i64 rr ∧ rr ≤ ln + 1 ∧ Hid (FarI t2 t3 far best rr 0) ∧ Hid (wr2.ownsRow wr.heap.size 2 1 (.slice (some ⟨gF, 0, none⟩) ln ln) ln (far.map ic)) ∧ Hid (Below wr.heap.size wr wr2)) (fun _ rv _ _ _ _ _ => (ln + 1 - intOf rv).toNat)
          case atStart => exact ⟨0, 0, _, rfl, rfl, Nat.zero_le _, HFI, HF0, HB4⟩
          case round =>
            clear HFI HF0 HB4
            rename World => wr2
            obtain ⟨rr, best, far, rfl, rfl, hrr, HFI, HF, HW⟩ := hrel
            obtain ⟨p2, p3⟩ := HP.out wr2 HW.out
            by_cases hlr : rr ≤ ln
            · have i5 : (rr : Int) ≤ (ln : Int) := by omega
              go_wp2_with fail
              go_loopw [9, 11, 12, 13, 14] (fun bv iv _ _ _ wr3 => ∃ (ii : Nat) (best : Int) (far : List Int), bv = .int .i64 best ∧ iv = .int .i64 ii ∧ ii ≤ ln ∧ Hid (FarI t2 t3 far best rr ii) ∧ Hid (wr3.ownsRow wr.heap.size 2 1 (.slice (some ⟨gF, 0, none⟩) ln ln) ln (far.map ic)) ∧ Hid (Below wr.heap.size wr wr3)) (fun _ iv _ _ _ _ => (ln - intOf iv).toNat)
              case atStart => exact ⟨0, best, far, rfl, rfl, Nat.zero_le _, HFI, HF, HW⟩
              case round =>
                clear HFI HF HW p2 p3
                rename World => wr3
                obtain ⟨ii, best, far, rfl, rfl, hii, HFI, HF, HW⟩ := hrel
                obtain ⟨p2, p3⟩ := HP.out wr3 HW.out
                by_cases hli : ii < ln
                · have i6 : (ii : Int) < (ln : Int) := by omega
                  have hil : ii < t2.length := by rw [HLEN.out]; exact hli
                  obtain ⟨g, hg⟩ : ∃ g, L[ii]? = some g := ⟨_, List.getElem?_eq_getElem (by rw [hln.out]; exact hli)⟩
                  obtain ⟨lb, loff, g', hAe, hlb, hg', hgc⟩ := (HL3.out wr3 HW.out).2.int_at (k := ii) (by rw [hln.out]; exact hli)
                  subst hAe
                  rw [hg] at hg'
                  obtain rfl := Option.some.inj hg'
                  have hgi := HHT.out ii g hg
                  by_cases hg0 : g < 0
                  · have HF2 := Lib.hid (HFI.out.skip (fun h => by have := hgi.2 h; omega))
                    clear hg hgi hlb
                    go_wp2_with fail
                    go_roundw
                    case rel => exact ⟨ii + 1, best, far, rfl, by go_num, by omega, HF2, HF, HW⟩
                    case measure => simp [intOf]; omega
                  · have hrch := hgi.1 (by omega)
                    obtain ⟨x, hx⟩ : ∃ x, t2[ii]? = some x := ⟨_, List.getElem?_eq_getElem hil⟩
                    obtain ⟨j1, j2⟩ := HJ.out wr3 HW.out
                    have HNX := Lib.hid (l08Next_c b A2 ln c2 w.heap.size t2 ii x wr3 p2 j1 hx (by omega))
                    have htg : ∀ t, t ∈ rawT x.1 x.2 ii ↔ t ∈ tgtN t2 ii := fun t => by rw [rawT_mem]; unfold tgtN; rw [List.getD_eq_getElem?_getD, hx]; exact Iff.rfl
                    have hin : ∀ t ∈ rawT x.1 x.2 ii, 0 ≤ t ∧ t < t2.length := fun t ht => by
                      have h1 := (htg t).1 ht
                      exact ⟨(tgtN_ge HCB.out ii hil t h1).1, ((HLST.out.good.step ii g hg (by omega)).2 t h1).1⟩
                    have HTG := Lib.hid htg
                    have HIN := Lib.hid hin
                    have HRC := Lib.hid hrch
                    have htl2 := rawT_len x.1 x.2 ii
                    clear hg hgi hlb hx htg hin hrch j1
                    go_wp2_with fail
                    refine HNX.out.mono ?_
                    rintro e w5 ⟨A', ct, rfl, hyo, hb5⟩
                    generalize rawT x.1 x.2 ii = T at HTG HIN htl2 hyo ⊢
                    have HF5 := Lib.hid (own_below HF.out hb5)
                    have HW5 := Lib.hid (bon HW.out hb5)
                    have HY := Lib.hid hyo.all
                    obtain ⟨p2, p3⟩ := HP.out w5 HW5.out
                    have hj2 := (HJ.out w5 HW5.out).2
                    have HJ2 := Lib.hid hj2
                    have hfl : far.length = ln := by rw [HFI.out.len]; exact HLEN.out
                    have hbb1 := HFI.out.bn
                    have hbb0 := HFI.out.b0
                    have HFL := Lib.hid hfl
                    rw [HLEN.out] at hbb1
                    clear hyo hb5 HNX hgc HF HW hj2 j2 hfl
                    go_wp2_with fail
                    go_loopw [12, 14] (fun av jv wr4 => ∃ (jj : Nat) (acc : Int), av = .int .i64 acc ∧ jv = .int .i64 jj ∧ jj ≤ T.length ∧ acc ≤ 82 ∧ Hid (FarT t2 t3 far ii T jj acc) ∧ wr4 = w5) (fun _ jv _ => (T.length - intOf jv).toNat)
                    case atStart => exact ⟨0, 1, rfl, rfl, Nat.zero_le _, by omega, FarT.init, (by first | rfl | trivial)⟩
                    case round =>
                      rename World => wr4
                      obtain ⟨jj, acc, rfl, rfl, hjj, hac, HT, hwe⟩ := hrel
                      rw [hwe]
                      clear hwe
                      by_cases hlj : jj < T.length
                      · have i7 : (jj : Int) < (T.length : Int) := by omega
                        obtain ⟨yb, yoff, t, hAe, hyb, hyt, hyc⟩ := HY.out.2.int_at (k := jj) hlj
                        subst hAe
                        have htm := List.mem_of_getElem? hyt
                        obtain ⟨ht0, htl⟩ := HIN.out t htm
                        obtain ⟨tn, rfl⟩ : ∃ tn : Nat, t = (tn : Int) := ⟨t.toNat, by omega⟩
                        have htn : tn < ln := by have := HLEN.out; omega
                        have HPT := Lib.hid (l08Point_c b A3 n3 c3 w.heap.size t3 (tn : Int) w5 p3 HJ2.out hn3)
                        have HYT := Lib.hid hyt
                        clear hyb hyt htm
                        go_wp2_with fail
                        refine HPT.out.mono ?_
                        rintro e w6 ⟨r, rfl, r1, r0, hw⟩
                        subst hw
                        cases hpt : ptB t3 tn
                        case true =>
                          have i8 : ¬ r < 0 := by have := r1 hpt; omega
                          have HT2 := Lib.hid (HT.out.skip HYT.out hpt)
                          clear hpt
                          go_wp2_with fail
                          go_roundw
                          case rel => exact ⟨jj + 1, acc, rfl, by go_num, by omega, hac, HT2, (by first | rfl | trivial)⟩
                          case measure => simp [intOf]; omega
                        case false =>
                          have i8 : r < 0 := by have := r0 hpt; omega
                          obtain ⟨v, hv⟩ : ∃ v, far[tn]? = some v := ⟨_, List.getElem?_eq_getElem (by rw [HFL.out]; exact htn)⟩
                          have hvb := HFI.out.nn v (List.mem_of_getElem? hv)
                          have fc : w5.cell? ⟨gF, tn, none⟩ = some (.int .i64 v) := by rw [HF5.out.cellAt tn (by omega), List.getElem?_map, hv]; rfl
                          have HT2 := Lib.hid (HT.out.take HFI.out HCB.out HYT.out (fun t h => (HTG.out t).1 h) hil hpt (by rw [HLEN.out]; omega) (by rw [Int.toNat_natCast]; exact hv))
                          have hwv : IntKind.i64.wrap (1 + v) = 1 + v := IntWalk.i64_in _ (by omega)
                          have i9 : (tn : Int) < (ln : Int) := by omega
                          clear hpt hv
                          go_wp2_with fail
                          refine (max_c _ _ _).mono ?_
                          rw [show 1 + v = v + 1 by omega]
                          obtain ⟨m2, hm2⟩ : ∃ m2, Hid ((if acc > v + 1 then acc else v + 1) = m2) := ⟨_, rfl⟩
                          have hm3 : m2 ≤ 82 := by rw [← hm2.out]; split <;> omega
                          rw [hm2.out] at HT2
                          rw [hm2.out]
                          rintro e w6 ⟨rfl, hw⟩
                          subst hw
                          clear fc hwv hvb
                          go_wp2_with fail
                          go_roundw
                          case rel => exact ⟨jj + 1, m2, rfl, by go_num, by omega, hm3, HT2, (by first | rfl | trivial)⟩
                          case measure => simp [intOf]; omega
                      · have i7 : ¬ (jj : Int) < (T.length : Int) := by omega
                        have HF6 := Lib.hid (HFI.out.put HCB.out HNA.out HT.out (by omega) HTG.out hil HRC.out)
                        have fc : w5.cell? ⟨gF, ii, none⟩ = some (.int .i64 (far.getD ii 0)) := by rw [HF5.out.cellAt ii (by omega), List.getElem?_map, List.getD_eq_getElem?_getD, List.getElem?_eq_getElem (by rw [HFL.out]; exact hli)]; rfl
                        have ff := HF5.out.frozenAt ii
                        have hst := (HF5.out.stored ii (.int .i64 acc)).1
                        have HST : Hid ((w5.setCell ⟨gF, ii, none⟩ (.int .i64 acc)).ownsRow wr.heap.size 2 1 (.slice (some ⟨gF, 0, none⟩) ln ln) ln ((far.set ii acc).map ic)) := by show _; rw [List.map_set]; exact hst
                        have HW6 := Lib.hid (HW5.out.setCell (p := ⟨gF, ii, none⟩) (by show wr.heap.size ≤ gF; have := hgF.out; omega) (.int .i64 acc))
                        clear hst
                        go_wp2_with fail
                        refine (max_c _ _ _).mono ?_
                        obtain ⟨m2, hm2⟩ : ∃ m2, Hid ((if best > acc then best else acc) = m2) := ⟨_, rfl⟩
                        rw [hm2.out] at HF6
                        rw [hm2.out]
                        rintro e w6 ⟨rfl, hw⟩
                        subst hw
                        clear fc ff
                        go_wp2_with fail
                        go_roundw
                        case rel => exact ⟨ii + 1, m2, far.set ii acc, rfl, by go_num, by omega, HF6, HST, HW6⟩
                        case measure => simp [intOf]; omega
                · have i6 : ¬ (ii : Int) < (ln : Int) := by omega
                  have HF2 := Lib.hid (FarI.next (by rw [HLEN.out, show ln = ii by omega]; exact HFI.out))
                  go_wp2_with fail
                  go_roundw
                  case rel => exact ⟨rr + 1, best, far, rfl, by go_num, by omega, HF2, HF, HW⟩
                  case measure => simp [intOf]; omega
            · have i5 : ¬ (rr : Int) ≤ (ln : Int) := by omega
              have hil := HFI.out.len_is (by rw [HLEN.out]; omega) HCB.out HNA.out (fun i hr => by have := (HLST.out.good.reach HCB.out _ hr).1; omega)
              have HE : Hid (R = (best, true)) := by
                show R = _
                rw [← HR.out, wayR_yes HGO.out HNA.out hil, Int.toNat_of_nonneg HFI.out.b0]
              clear hil
              go_wp2_with fail
              go_ret2
              rw [HE.out]
              exact ⟨rfl, bon HB3.out HW.out⟩
end Go.Proofs.YtffkdidgfeknkaaGreatDoor
