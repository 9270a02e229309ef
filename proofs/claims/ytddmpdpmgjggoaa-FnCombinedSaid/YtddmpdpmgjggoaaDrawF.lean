/-
  The model's draw of a few facts with small numbers, some of which are opposed to one another. Conditions: none on the bytes they are drawn from.
-/
import Derived.Test.YtddmpdpmgjggoaaFactsK
import Derived.Test.YtddmpdpmgjggoaaOppS
import Derived.Test.YtddmpdpmgjggoaaBlk
import Derived.Test.YtddmpdpmgjggoaaSpecT1
import Derived.Deep.RegionWith
namespace Go.Proofs.Ytddmpdpmgjggoaa
open Go.RowKit
set_option linter.unusedVariables false

theorem cell_two_new (w : World) (x y : Value) (t : TypeId) : ∀ j u, [x, y][j]? = some u → (w.alloc (.cells #[x, y] t)).cell? ((⟨w.heap.size, 0, none⟩ : Addr).add j) = some u := by
  intro j u hj
  have ha : (⟨w.heap.size, 0, none⟩ : Addr).add j = ⟨w.heap.size, j, none⟩ := by unfold Addr.add; split <;> simp_all
  rw [ha, cell_of_row _ _ j _ _ _ (heap_alloc_new w _)]
  simpa using hj

theorem blk_noInts {w : World} {b : Nat} {cs : Array Value} (h : BlkIs w b 26 cs) : ∀ k cs', some b = some k → w.heap[k]? ≠ some (.cells cs' 2 (0, 0)) := by
  intro k cs' e hk
  obtain rfl := Option.some.inj e
  unfold BlkIs at h
  rw [h] at hk
  injection hk with hk
  injection hk with _ h2 _
  revert h2
  decide
theorem blk_kept {w w' : World} {b g : Nat} {t : TypeId} {cs : Array Value} (h : BlkIs w b t cs) (hb : w.grownBy w' (some g)) (hne : ¬ g = b) : BlkIs w' b t cs :=
  (hb.block b h.lt (fun e => hne (by injection e with e; exact e.symm))).trans h
theorem cell_two_at (w : World) (x y : Value) (t : TypeId) (g : Nat) (hg : g = w.heap.size) : ∀ j u, [x, y][j]? = some u → (w.alloc (.cells #[x, y] t)).cell? ((⟨g, 0, none⟩ : Addr).add j) = some u := by
  subst hg; exact cell_two_new w x y t

set_option maxRecDepth 100000 in
set_option maxHeartbeats 8000000 in
theorem B10Facts_c (A : Option Addr) (n c : Nat) (bs : List Nat) (w : World) (hrow : Row w w.heap.size A (bs.map bc)) (hz : bs.length = n) (hz2 : ∀ z ∈ bs, z < 256) (hn : n ≤ 140737488355328) :
    Calls Try.prog 22 #[.slice A n c] w fun e w' => ∃ (v : Value) (k : Nat) (ts : List (Int × List Int)), e = .returned v ∧ k ≤ 5 ∧ FactsR w' w.heap.size 50 v k ts ∧ Below w.heap.size w w' := by
  obtain ⟨i0, hi, hz0, hz1, hzb⟩ := info_parts info64
  obtain ⟨i1, hj, hy0, hy1, hy2⟩ := info_parts infoTerm2
  have HF := Lib.hid (l00From_c A n c bs w hrow hz hz2 hn)
  clear hrow hz hz2
  go_enter Try.func22, Try.ntmps22
  go_wp2_with fail
  refine HF.out.mono ?_
  rintro e w1 ⟨g, rfl, hg, hs1, hb1⟩
  have hlt := hs1.lt
  have HS1 := Lib.hid (hs1.below ((Below.refl w1.heap.size w1).alloc (Nat.le_refl _) (.cells #[] 26)) hlt)
  have HGW := Lib.hid hg
  have hown1 : (w1.alloc (.cells #[] 26)).ownsRow (g + 1) 26 2 (.slice (some ⟨w1.heap.size, 0, none⟩) 0 0) 0 [] :=
    ⟨rfl, .inr ⟨w1.heap.size, 0, #[], rfl, by omega, heap_alloc_new w1 _, Nat.le_refl _, by decide, rfl, rfl⟩⟩
  have hbel1 : Below w.heap.size w (w1.alloc (.cells #[] 26)) := hb1.alloc hb1.size _
  clear hs1 hg
  go_wp2_with fail
  refine (pick_c g 0 5 _ HS1.out (by omega) (by omega) (by omega)).mono ?_
  rintro e w2 ⟨x, rfl, hx0, hx1, hs2, hb2⟩
  obtain ⟨m0, hm0⟩ : ∃ m0 : Nat, (m0 : Int) = 1 + x := ⟨(1 + x).toNat, by omega⟩
  have HM0 := Lib.hid hm0
  have hF2 : FactsR w2 (g + 1) 0 (.slice (some ⟨w1.heap.size, 0, none⟩) 0 0) 0 [] :=
    ⟨rfl, fun t ht => by simp at ht, [], hown1.kept hb2 (.inr (by simp [Value.ownBlock]; omega)), fun j t hj => by simp at hj⟩
  have hbel2 : Below w.heap.size w w2 := hbel1.trans (only_below hb2 (by have := HGW.out; omega) hbel1.size)
  have HS2 := Lib.hid hs2
  have hgsz : g + 1 ≤ w2.heap.size := by have := HS2.out.lt; omega
  clear hs2 hb2 hb1 hown1 hbel1 hm0
  go_wp2_with fail
  go_loopw [4, 5, 6, 7, 8, 9] (fun v i _ _ _ _ wr => ∃ (k m : Nat) (ts : List (Int × List Int)), i = .int .i64 k ∧ m + k ≤ 5 ∧ Hid (FactsR wr (g + 1) (10 * (m : Int)) v m ts) ∧ Hid (Src wr g (2 + 20 * m)) ∧ Hid (Below w.heap.size w wr) ∧ g + 1 ≤ wr.heap.size) (fun _ i _ _ _ _ _ => (intOf i).toNat)
  case atStart => exact ⟨m0, 0, [], by rw [HM0.out], by have := HM0.out; omega, hF2, HS2.out, hbel2, hgsz⟩
  case round =>
    clear hF2 HS2 hbel2 hgsz hx0 hx1
    obtain ⟨k, m, ts, rfl, hmk, HFR, HSR, HBR, hgsz⟩ := hrel
    obtain ⟨wo, rfl⟩ : ∃ wo : World, wo = wr := ⟨_, rfl⟩
    obtain ⟨Av, cv, rfl, _⟩ := HFR.out.inn
    by_cases hpos : 0 < k
    · -- a new list, and how many numbers it gets
      have hg0 : wo.grownBy (wo.alloc (.cells #[] 2)) (some g) := World.grownBy_alloc _ _ _
      have HSA := Lib.hid (HSR.out.below (only_below (g := wo.heap.size) (World.grownBy_alloc wo (.cells #[] 2) _) (Nat.le_refl _) (Nat.le_refl _)) HSR.out.lt)
      go_wp2_with fail
      refine (pick_c g _ 4 _ HSA.out (by omega) (by omega) (by omega)).mono ?_
      rintro e w3 ⟨x, rfl, hx0, hx1, hs3, hb3⟩
      obtain ⟨q0, rfl⟩ := Int.eq_ofNat_of_zero_le hx0
      have hg3 : wo.grownBy w3 (some g) := only_trans hg0 hb3
      have hl3 : w3.ownsRow wo.heap.size 2 1 (.slice (some ⟨wo.heap.size, 0, none⟩) 0 0) 0 (([] : List Int).map ic) :=
        (own_empty wo 2).kept hb3 (.inr (by simp [Value.ownBlock]; omega))
      have HS3 := Lib.hid hs3
      clear hs3 hb3 hg0 HSA
      go_wp2_with fail
      go_loopw [6, 7] (fun v i wr => ∃ (q p g' c' : Nat) (zs : List Int), i = .int .i64 q ∧ p + q ≤ 3 ∧ v = .slice (some ⟨g', 0, none⟩) p c' ∧ p ≤ c' ∧ Hid (zs.length = p) ∧ Hid (∀ z ∈ zs, -3 ≤ z ∧ z ≤ 3) ∧ wr.ownsRow wo.heap.size 2 1 (.slice (some ⟨g', 0, none⟩) p c') p (zs.map ic) ∧ Hid (Src wr g (4 + 20 * m + 2 * p)) ∧ wo.grownBy wr (some g)) (fun _ i _ => (intOf i).toNat)
      case atStart => exact ⟨q0, 0, _, 0, [], rfl, by omega, rfl, Nat.le_refl _, rfl, (by intro z hz; simp at hz), hl3, HS3.out.more (by omega), hg3⟩
      case round =>
        clear hl3 HS3 hg3 hx0 hx1
        obtain ⟨q, p, g', c', zs, rfl, hpq, rfl, hpc, hlz, hin, hown, hs, hgr⟩ := hrel
        have hsz := hgr.size
        by_cases hq : 0 < q
        · go_wp2_with fail
          refine (pick_c g _ 7 _ hs.out (by omega) (by omega) (by omega)).mono ?_
          rintro e w4 ⟨x, rfl, hx0, hx1, hs4, hb4⟩
          have hown4 := hown.kept hb4 (.inr (fun e => by have := (hown.lt _ e).1; omega))
          have hgr4 : wo.grownBy w4 (some g) := only_trans hgr hb4
          have hsz4 := hgr4.size
          have HS4 := Lib.hid hs4
          have HE := Lib.hid (in_ext (x := x - 3) hin.out (by omega) (by omega))
          clear hown hgr hs hsz hs4 hb4
          go_wp2_with (at_builtin; refine wpList_append_own _ rfl _ _ 24 rfl wo.heap.size 2 i0 (.int .i64 0) 1 8 Try.underlying24 hi hz0 hz1 hzb rfl (by decide) _ _ _ rfl (hown4.alloc _) ⟨w4.heap.size, 0, none⟩ 1 1 [.int .i64 (x - 3)] rfl rfl (cell_one_new _ _ _) (fun u hu => by simp at hu; subst hu; rfl) (by unfold maxLen; omega) (by omega) (by simp; omega) ?_; intro v' w5 hown5 hgrow _)
          have hgr5 : wo.grownBy w5 (some g) := grown_far (grown_far hgr4 (World.grownBy_alloc w4 _ none) (fun k e => by cases e)) hgrow (fun k e => (hown4.lt k e).1)
          have hbg : Below (g + 1) w4 w5 := ((Below.refl (g + 1) w4).alloc (by omega) _).grown hgrow (by simp; omega) (fun k hk => by have := (hown4.lt k hk).1; omega)
          have HS5 := Lib.hid (HS4.out.below hbg (Nat.lt_succ_self g))
          have hown6 := row_ext' hlz.out hown5
          obtain ⟨g1, c1, rfl, hc1⟩ := own_block hown6 (by omega)
          have HL1 : Hid ((zs ++ [x - 3]).length = p + 1) := by show _ = _; simp [hlz.out]
          clear hown5 hgrow hbg hown4 hgr4 HS4
          go_wp2_with fail
          go_roundw
          case rel => exact ⟨q - 1, p + 1, g1, c1, zs ++ [x - 3], by go_num, by omega, by go_num, hc1, HL1, HE, hown6, HS5.out.more (by omega), hgr5⟩
          case measure => simp [intOf]; omega
        · go_wp2_with fail
          refine (pick_c g _ 9 _ hs.out (by omega) (by omega) (by omega)).mono ?_
          rintro e w5 ⟨y, rfl, hy00, hy11, hs5, hb5⟩
          have hown5 := hown.kept hb5 (.inr (fun e => by have := (hown.lt _ e).1; omega))
          have hgr5 : wo.grownBy w5 (some g) := only_trans hgr hb5
          have hin5 : InL w5 w5.heap.size (some ⟨g', 0, none⟩) p zs := (OwnL.of_own hown5).all
          have hM := l02Make_c (y - 3) g' p c' zs w5 hin5 (by omega) hpc
          have hsm := mk_small (m := 5) (k := 3) (c := y - 3) (zs := zs) (by omega) (by omega) (by have := hlz.out; omega) (by omega) (by omega) hin.out
          have HS5 := Lib.hid hs5
          have hsz5 := hgr5.size
          clear hown hgr hs hb5 hown5 hin5 hs5
          generalize mkL (y - 3) zs = R at hM hsm
          obtain ⟨⟨t, ok⟩, hR⟩ : ∃ r, r = R := ⟨_, rfl⟩
          subst hR
          obtain ⟨hok, hsm⟩ := hsm
          have hok' : ok = true := hok
          subst hok'
          have HSM := Lib.hid hsm
          have HM : Hid (Calls Try.prog 44 #[.int .i64 (y - 3), .slice (some ⟨g', 0, none⟩) p c'] w5 fun e w' => ∃ A' m c', e = .returned (.tuple #[.agg #[.int .i64 t.1, .slice A' m c'], .bool true]) ∧ OwnL w' w5.heap.size w'.heap.size A' m c' t.2 ∧ Below w5.heap.size w5 w') := hM
          clear hsm hM hok
          go_wp2_with fail
          refine HM.out.mono ?_
          rintro e w6 ⟨A1, m1, c1, rfl, hown6, hb6⟩
          have hx6 := bnew w6 (.cells #[.int .i64 t.1, .slice A1 m1 c1] 26)
          have hT : BlkIs (w6.alloc (.cells #[.int .i64 t.1, .slice A1 m1 c1] 26)) w6.heap.size 26 #[.int .i64 t.1, .slice A1 m1 c1] := blk_new _ _ _ _ rfl
          have hIT := (IntL.of_own hown6).next hx6
          have hb56 := bon hb6 hx6
          have hgr7 : wo.grownBy (w6.alloc (.cells #[.int .i64 t.1, .slice A1 m1 c1] 26)) (some g) := only_trans hgr5 (grown_of hb56)
          have HS7 := Lib.hid (HS5.out.below hb56 HS5.out.lt)
          have hsz6 := hb6.size
          have hgsz5 : g + 1 ≤ wo.heap.size := hgsz
          have hlg6 : w6.heap.size < (w6.alloc (.cells #[.int .i64 t.1, .slice A1 m1 c1] 26)).heap.size := by simp
          generalize hw7 : w6.alloc (.cells #[.int .i64 t.1, .slice A1 m1 c1] 26) = w7 at hx6 hT hIT hb56 hgr7 HS7 hlg6
          have hs7 := hgr7.size
          have hmv : (if m = 0 then (0 : Nat) else 1) ≤ 1 := by split <;> omega
          by_cases hm0 : m = 0
          · have hm0i : (m : Int) = 0 := by omega
            subst hm0
            have hUU := HSM.out.more (m' := 10 * ((0 + 1 : Nat) : Int)) (by omega)
            subst hw7
            have hFW := HFR.out.kept hgr7 HSR.out (Nat.lt_succ_self g)
            have hbL := bnew (w6.alloc (.cells #[.int .i64 t.1, .slice A1 m1 c1] 26)) (.cells #[.int .i64 t.1, .slice A1 m1 c1] 26)
            have hWs := hgr7.size
            have hIL := hIT.next hbL
            obtain ⟨e1, e2, xs, hxr, hxs⟩ := hFW.next hbL
            have HXS := Lib.hid hxs
            have HE2 := Lib.hid e2
            have k0 : (w6.alloc (.cells #[.int .i64 t.1, .slice A1 m1 c1] 26)).cell? ⟨w6.heap.size, 0, none⟩ = some (.int .i64 t.1) := hT.cell 0
            have k1 : (w6.alloc (.cells #[.int .i64 t.1, .slice A1 m1 c1] 26)).cell? ⟨w6.heap.size, 1, none⟩ = some (.slice A1 m1 c1) := hT.cell 1
            have HIL := Lib.hid hIL
            clear hFW hIL hxs e2
            go_wp2_with (at_builtin; refine wpList_append_own _ rfl _ _ 34 rfl (g + 1) 26 i1 (.agg #[.int .i64 0, .slice none 0 0]) 2 32 Try.underlying34 hj hy0 hy1 hy2 rfl (by decide) _ _ _ rfl hxr ⟨w6.heap.size + 1, 0, none⟩ 1 1 [.int .i64 t.1, .slice A1 m1 c1] rfl rfl (cell_two_at _ _ _ _ _ (by simp)) (fun u hu => by simp at hu; rcases hu with rfl | rfl <;> rfl) (by unfold maxLen; omega) (by omega) (by simp; omega) ?_; intro v' w9 hown9 hgrow9 _)
            have hFN := FactsR.push ⟨e1, HE2.out, xs, hxr, HXS.out⟩ (m' := 10 * ((0 + 1 : Nat) : Int)) (t := t) hUU (by omega) HIL.out hxr HXS.out hown9 hgrow9
            have hbg : Below (g + 1) (w6.alloc (.cells #[.int .i64 t.1, .slice A1 m1 c1] 26)) w9 := ((Below.refl (g + 1) (w6.alloc (.cells #[.int .i64 t.1, .slice A1 m1 c1] 26))).alloc (by omega) _).grown hgrow9 (by simp; omega) (fun k hk => (hxr.lt k hk).1)
            have HS9 := Lib.hid (HS7.out.below hbg (Nat.lt_succ_self g))
            have hB9 : Below w.heap.size w w9 := (HBR.out.trans (only_below hgr7 (by have := HGW.out; omega) HBR.out.size)).trans (hbg.mono (by have := HGW.out; omega))
            have hs9 := hbg.size
            clear hown9 hgrow9 hbg hxr e1
            go_wp2_with fail
            go_roundw
            case rel => exact ⟨k - 1, 0 + 1, ts ++ [t], by go_num, by omega, hFN, HS9.out.more (by omega), hB9, by omega⟩
            case measure => simp [intOf]; omega
          · have hmi : (0 : Int) < (m : Int) := by omega
            have hmn : 0 < m := by omega
            have hmd : decide ((0 : Int) < (m : Int)) = true := by simp; omega
            have hmd2 : decide (0 < m) = true := by simp; omega
            subst hw7
            go_wp2_with fail
            generalize w6.alloc (.cells #[.int .i64 t.1, .slice A1 m1 c1] 26) = w7 at hx6 hT hIT hb56 hgr7 HS7 hlg6 hs7 ⊢
            refine (one_c g _ 3 w7 HS7.out (by omega) (by omega) (by omega)).mono ?_
            rintro e w8 ⟨yes, rfl, hs8, hb8⟩
            have hgr8 : wo.grownBy w8 (some g) := only_trans hgr7 hb8
            have hT8 : BlkIs w8 w6.heap.size 26 #[.int .i64 t.1, .slice A1 m1 c1] := (hb8.block _ hlg6 (fun e => by injection e; omega)).trans hT
            have hI8 := hIT.kept hb8 HS7.out.noInts
            have HS8 := Lib.hid hs8
            clear hs8 HS7 hT hIT
            have hs88 := hb8.size
            cases yes with
            | false =>
              have hUU := HSM.out.more (m' := 10 * ((m + 1 : Nat) : Int)) (by omega)
              have hFW := HFR.out.kept hgr8 HSR.out (Nat.lt_succ_self g)
              have hbL := bnew (w8) (.cells #[.int .i64 t.1, .slice A1 m1 c1] 26)
              have hWs := hgr8.size
              have hIL := hI8.next hbL
              obtain ⟨e1, e2, xs, hxr, hxs⟩ := hFW.next hbL
              have HXS := Lib.hid hxs
              have HE2 := Lib.hid e2
              have k0 : (w8).cell? ⟨w6.heap.size, 0, none⟩ = some (.int .i64 t.1) := hT8.cell 0
              have k1 : (w8).cell? ⟨w6.heap.size, 1, none⟩ = some (.slice A1 m1 c1) := hT8.cell 1
              have HIL := Lib.hid hIL
              clear hFW hIL hxs e2
              go_wp2_with (at_builtin; refine wpList_append_own _ rfl _ _ 34 rfl (g + 1) 26 i1 (.agg #[.int .i64 0, .slice none 0 0]) 2 32 Try.underlying34 hj hy0 hy1 hy2 rfl (by decide) _ _ _ rfl hxr ⟨(w8).heap.size, 0, none⟩ 1 1 [.int .i64 t.1, .slice A1 m1 c1] rfl rfl (cell_two_at _ _ _ _ _ (by simp)) (fun u hu => by simp at hu; rcases hu with rfl | rfl <;> rfl) (by unfold maxLen; omega) (by omega) (by simp; omega) ?_; intro v' w9 hown9 hgrow9 _)
              have hFN := FactsR.push ⟨e1, HE2.out, xs, hxr, HXS.out⟩ (m' := 10 * ((m + 1 : Nat) : Int)) (t := t) hUU (by omega) HIL.out hxr HXS.out hown9 hgrow9
              have hbg : Below (g + 1) (w8) w9 := ((Below.refl (g + 1) (w8)).alloc (by omega) _).grown hgrow9 (by simp; omega) (fun k hk => (hxr.lt k hk).1)
              have HS9 := Lib.hid (HS8.out.below hbg (Nat.lt_succ_self g))
              have hB9 : Below w.heap.size w w9 := (HBR.out.trans (only_below hgr8 (by have := HGW.out; omega) HBR.out.size)).trans (hbg.mono (by have := HGW.out; omega))
              have hs9 := hbg.size
              clear hown9 hgrow9 hbg hxr e1
              go_wp2_with fail
              go_roundw
              case rel => exact ⟨k - 1, m + 1, ts ++ [t], by go_num, by omega, hFN, HS9.out.more (by omega), hB9, by omega⟩
              case measure => simp [intOf]; omega
            | true =>
              go_wp2_with fail
              refine (pick_c g _ (m : Int) _ HS8.out (by omega) (by omega) (by omega)).mono ?_
              rintro e w10 ⟨x, rfl, hx0, hx1, hs10, hb10⟩
              obtain ⟨j, rfl⟩ := Int.eq_ofNat_of_zero_le hx0
              have hgr10 : wo.grownBy w10 (some g) := only_trans hgr8 hb10
              have hT10 : BlkIs w10 w6.heap.size 26 #[.int .i64 t.1, .slice A1 m1 c1] := (hb10.block _ (by omega) (fun e => by injection e; omega)).trans hT8
              have HS10 := Lib.hid hs10
              have hs100 := hb10.size
              obtain ⟨b, cb, u, hvb, hju, hsu, hpu⟩ := (HFR.out.kept hgr10 HSR.out (Nat.lt_succ_self g)).ptr (j := j) (by omega)
              have hti := opp_is hsu.1 (by have := hsu.2.2.1; omega)
              obtain ⟨p, hp⟩ : ∃ p : Int × List Int, p = (-1 - u.1, u.2.map (fun z => -z)) := ⟨_, rfl⟩
              rw [← hp] at hti
              have hp1 : -(10 * (m : Int)) - 1 ≤ p.1 ∧ p.1 ≤ 10 * (m : Int) := by
                have a1 := hsu.2.1
                have a2 := hsu.2.2.1
                rw [hp]
                show _ ≤ -1 - u.1 ∧ -1 - u.1 ≤ _
                omega
              have hp2 : ∀ z ∈ p.2, -3 ≤ z ∧ z ≤ 3 := fun z hz => by
                rw [hp] at hz
                obtain ⟨y, hy, rfl⟩ := List.mem_map.1 hz
                have := hsu.2.2.2 y hy
                show -3 ≤ -y ∧ -y ≤ 3
                omega
              have hO := l02Opposite_c w10.heap.size b (j * 2) u w10 hpu (Nat.le_refl _) hsu.1
              rw [← oppR_yes hsu.1, hti.1] at hO
              have HO : Hid (Calls Try.prog 56 #[.pointer (some ⟨b, j * 2, none⟩)] w10 fun e w' => ∃ A' m c', e = .returned (.tuple #[.agg #[.int .i64 p.1, .slice A' m c'], .bool true]) ∧ OwnL w' w10.heap.size w'.heap.size A' m c' p.2 ∧ Below w10.heap.size w10 w') := hO
              have HPT := Lib.hid hti.2
              have HP2 := Lib.hid hp2
              have hAv : Av = some ⟨b, 0, none⟩ := by injection hvb
              have hjm : j < m := by omega
              have hjm2 : (j : Int) < (m : Int) := by omega
              obtain ⟨hp11, hp12⟩ := hp1
              clear hO hp hp2 hti hpu hsu hju hvb hs10 hb10 hT8
              subst hAv
              go_wp2_with fail
              refine HO.out.mono ?_
              rintro e w11 ⟨A2, m2, c2, rfl, hown11, hb11⟩
              have hT11 := hT10.next hb11
              have hs11 := hb11.size
              have z0 := hT11.cell 0
              have z1 := hT11.cell 1
              have f0 := hT11.frozen 0
              have f1 := hT11.frozen 1
              simp at z0 z1
              have hI11 := IntL.of_own hown11
              have hgr11 : wo.grownBy w11 (some g) := only_trans hgr10 (grown_of hb11)
              have HS11 := Lib.hid (HS10.out.below hb11 HS10.out.lt)
              have hT12 : BlkIs ((w11.setCell ⟨w6.heap.size, 0, none⟩ (.int .i64 p.1)).setCell ⟨w6.heap.size, 1, none⟩ (.slice A2 m2 c2)) w6.heap.size 26 #[.int .i64 p.1, .slice A2 m2 c2] := (hT11.set 0 (.int .i64 p.1)).set 1 (.slice A2 m2 c2)
              have hst : w11.grownBy ((w11.setCell ⟨w6.heap.size, 0, none⟩ (.int .i64 p.1)).setCell ⟨w6.heap.size, 1, none⟩ (.slice A2 m2 c2)) (some w6.heap.size) := only_trans only_set only_set
              have hgr12 := grown_far hgr11 hst (fun k e => by injection e; omega)
              have hI12 := hI11.kept hst (blk_noInts hT11)
              have HS12 := Lib.hid (HS11.out.below (only_below hst (show g + 1 ≤ w6.heap.size by omega) (by omega)) (Nat.lt_succ_self g))
              have d0 : ((w11.setCell ⟨w6.heap.size, 0, none⟩ (.int .i64 p.1)).setCell ⟨w6.heap.size, 1, none⟩ (.slice A2 m2 c2)).cell? ⟨w6.heap.size, 0, none⟩ = some (.int .i64 p.1) := hT12.cell 0
              have hs12 := hst.size
              clear hT11 hI11 hown11 HS11 hgr11 hst HO hT10 HS10
              go_wp2_with fail
              generalize (w11.setCell ⟨w6.heap.size, 0, none⟩ (.int .i64 p.1)).setCell ⟨w6.heap.size, 1, none⟩ (.slice A2 m2 c2) = w12 at hT12 hgr12 hI12 HS12 d0 hs12 ⊢
              clear z0 z1 f0 f1
              have e0 : w12.drew.cell? ⟨w6.heap.size, 0, none⟩ = some (.int .i64 p.1) := d0
              have hne : ¬ g = w6.heap.size := by omega
              have HPK : Hid (Calls Try.prog 43 #[.pointer (some ⟨g, 0, none⟩), .int .i64 7] w12.drew fun e w' => ∃ x : Int, e = .returned (.int .i64 x) ∧ 0 ≤ x ∧ x < 7 ∧ Src w' g (4 + 20 * m + 16) ∧ w12.grownBy w' (some g)) := by
                refine (pick_c g (4 + 20 * m + 14) 7 w12.drew (HS12.out.more (by omega)) (by omega) (by omega) (by omega)).mono ?_
                rintro e w' ⟨x, h1, h2, h3, h4, h5⟩
                exact ⟨x, h1, h2, h3, h4, ⟨h5.os, h5.tape, h5.output, h5.size, h5.block⟩⟩
              go_cut [] (fun wx => ∃ y : Int, 0 ≤ y ∧ y < 7 ∧ BlkIs wx w6.heap.size 26 #[.int .i64 (p.1 + y), .slice A2 m2 c2] ∧ wo.grownBy wx (some g) ∧ IntL wx A2 m2 p.2 ∧ Hid (Src wx g (4 + 20 * m + 16)))
              case first =>
                go_region_with (first | (go_at_call 43; refine HPK.out.mono ?_; rintro e w13 ⟨y, rfl, hyb0, hyb1, hs13, hb13⟩; have hT13 := blk_kept hT12 hb13 hne; have y0 : w13.cell? ⟨w6.heap.size, 0, none⟩ = some (.int .i64 p.1) := hT13.cell 0; have yf := hT13.frozen 0; have hwr : IntKind.i64.wrap (p.1 + y) = p.1 + y := IntWalk.i64_in _ (by omega)))
                all_goals
                  go_wp2_with fail
                  go_meet
                  try rw [hwr]
                  exact ⟨y, hyb0, hyb1, hT13.set 0 (.int .i64 (p.1 + y)), grown_far (only_trans hgr12 hb13) only_set (fun k e => by injection e; omega), (hI12.kept hb13 HS12.out.noInts).kept only_set (blk_noInts hT13), hs13.below (only_below (only_set (g := w6.heap.size)) (show g + 1 ≤ w6.heap.size by omega) (by have := hb13.size; omega)) (Nat.lt_succ_self g)⟩
              case rest =>
                obtain ⟨y, hyb0, hyb1, hTc, hgrc, hIc, HSc⟩ := hcut
                have hUU : SmallT (10 * ((m + 1 : Nat) : Int)) 3 (p.1 + y, p.2) := by
                  obtain ⟨a1, _, _, a4⟩ := tmB_parts HPT.out
                  exact ⟨tmB_mk a1 a4 (by omega) (by omega) (fun z hz => by have := HP2.out z hz; omega), by show -(10 * ((m + 1 : Nat) : Int)) ≤ p.1 + y; omega, by show p.1 + y ≤ 10 * ((m + 1 : Nat) : Int); omega, HP2.out⟩
                have hFW := HFR.out.kept hgrc HSR.out (Nat.lt_succ_self g)
                have hbL := bnew (wc) (.cells #[.int .i64 (p.1 + y), .slice A2 m2 c2] 26)
                have hWs := hgrc.size
                have hIL := hIc.next hbL
                obtain ⟨e1, e2, xs, hxr, hxs⟩ := hFW.next hbL
                have HXS := Lib.hid hxs
                have HE2 := Lib.hid e2
                have k0 : (wc).cell? ⟨w6.heap.size, 0, none⟩ = some (.int .i64 (p.1 + y)) := hTc.cell 0
                have k1 : (wc).cell? ⟨w6.heap.size, 1, none⟩ = some (.slice A2 m2 c2) := hTc.cell 1
                have HIL := Lib.hid hIL
                clear hFW hIL hxs e2
                go_wp2_with (at_builtin; refine wpList_append_own _ rfl _ _ 34 rfl (g + 1) 26 i1 (.agg #[.int .i64 0, .slice none 0 0]) 2 32 Try.underlying34 hj hy0 hy1 hy2 rfl (by decide) _ _ _ rfl hxr ⟨(wc).heap.size, 0, none⟩ 1 1 [.int .i64 (p.1 + y), .slice A2 m2 c2] rfl rfl (cell_two_at _ _ _ _ _ (by simp)) (fun u hu => by simp at hu; rcases hu with rfl | rfl <;> rfl) (by unfold maxLen; omega) (by omega) (by simp; omega) ?_; intro v' w9 hown9 hgrow9 _)
                have hFN := FactsR.push ⟨e1, HE2.out, xs, hxr, HXS.out⟩ (m' := 10 * ((m + 1 : Nat) : Int)) (t := (p.1 + y, p.2)) hUU (by omega) HIL.out hxr HXS.out hown9 hgrow9
                have hbg : Below (g + 1) (wc) w9 := ((Below.refl (g + 1) (wc)).alloc (by omega) _).grown hgrow9 (by simp; omega) (fun k hk => (hxr.lt k hk).1)
                have HS9 := Lib.hid (HSc.out.below hbg (Nat.lt_succ_self g))
                have hB9 : Below w.heap.size w w9 := (HBR.out.trans (only_below hgrc (by have := HGW.out; omega) HBR.out.size)).trans (hbg.mono (by have := HGW.out; omega))
                have hs9 := hbg.size
                clear hown9 hgrow9 hbg hxr e1
                go_wp2_with fail
                go_roundw
                case rel => exact ⟨k - 1, m + 1, ts ++ [(p.1 + y, p.2)], by go_num, by omega, hFN, HS9.out.more (by omega), hB9, by omega⟩
                case measure => simp [intOf]; omega
    · go_wp2_with fail
      go_ret
      refine ⟨_, m, ts, rfl, by omega, ?_, HBR.out⟩
      obtain ⟨h1, h2, xs, h3, h4⟩ := HFR.out
      exact ⟨h1, fun t ht => (h2 t ht).more (by omega), xs, own_less h3 (by have := HGW.out; omega), h4⟩
end Go.Proofs.Ytddmpdpmgjggoaa
