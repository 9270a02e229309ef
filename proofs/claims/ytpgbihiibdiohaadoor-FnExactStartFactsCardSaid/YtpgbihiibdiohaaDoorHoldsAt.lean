/-
  Whether the facts of a start hold in a state: HoldsAt of both. Conditions: at most 2^20 elements, terms, coefficients and numbers; the table elementForms holds what the program's text lays.
-/
import Derived.Test.YtpgbihiibdiohaaDoorStartS
namespace Go.Proofs.YtpgbihiibdiohaaDoor
set_option linter.unusedVariables false
open Go.RowKit

/-- Values, padded with zeros. -/
def padV (zs : List Int) : List Int := zs ++ List.replicate 6 0
theorem padV_get (zs : List Int) (k : Nat) : (padV zs).getD k 0 = zs.getD k 0 := by
  unfold padV
  rw [List.getD_eq_getElem?_getD, List.getD_eq_getElem?_getD]
  by_cases h : k < zs.length
  · rw [List.getElem?_append_left h]
  · rw [List.getElem?_append_right (by omega), List.getElem?_eq_none (l := zs) (by omega), List.getElem?_replicate]
    split <;> rfl
theorem padV_vals {zs : List Int} (hl : zs.length = 4) (hb : BigV zs) : valsB (padV zs) = true := by
  have hlen : (padV zs).length = 10 := by unfold padV; simp [hl]
  rw [valsB_is hlen]
  unfold btw
  rw [decide_eq_true_eq]
  intro z hz
  obtain ⟨k, hk⟩ := List.getElem?_of_mem hz
  have h1 := padV_get zs k
  rw [List.getD_eq_getElem?_getD, hk] at h1
  have := hb k
  rw [← h1] at this
  exact this

set_option maxRecDepth 100000 in
set_option maxHeartbeats 4000000 in
theorem l04Hold_c (A : Option Addr) (n c : Nat) (ts : List (Int × List Int)) (D : Option Addr) (m d B : Nat) (zs : List Int) (w : World) (h : InTS w B A n ts) (hz : InL w B D m zs) (hB : B ≤ w.heap.size) (hn : n ≤ 1000) (hm : m = 4) (hbig : BigV zs) (he : ∀ t ∈ ts, tmB t = true ∧ t.2.length ≤ 4) :
    Calls Tryd.prog 74 #[.slice A n c, .slice D m d] w fun e w' => e = .returned (.bool (hsB ts zs)) ∧ Below w.heap.size w w' := by
  obtain ⟨i0, hi, hz0, hz1, hz2⟩ := info_parts info64
  have hlen := Lib.hid h.1
  have hzl := Lib.hid hz.1
  have HE := Lib.hid he
  have hl4 : zs.length = 4 := by rw [hz.1, hm]
  have HVS := Lib.hid (padV_vals hl4 hbig)
  have hpl : ((padV zs).map ic).length = 10 := by unfold padV; simp [hl4]
  have HPL := Lib.hid hpl
  have HPG : Hid (∀ k x, zs[k]? = some x → ((padV zs).map ic)[k]? = some (Value.int .i64 x)) := fun k x hx => by
    have hk := (List.getElem?_eq_some_iff.1 hx).1
    unfold padV
    rw [List.getElem?_map, List.getElem?_append_left hk, hx]; rfl
  have HPE : Hid (((padV zs).map ic).take m ++ List.replicate (10 - m) (Value.int .i64 0) = (padV zs).map ic) := by
    show _ = _
    rw [hm]
    unfold padV
    rw [List.map_append, List.take_append_of_le_length (by simp [hl4]), List.take_of_length_le (by simp [hl4])]
    simp [ic]
  have HEV : Hid (∀ t, evTo t (padV zs) t.2.length = numS zs t) := fun t => evTo_same (padV_get zs) _
  have hm10 : m ≤ 10 := by omega
  clear he hpl hm hl4
  generalize padV zs = vs at HVS HPL HPG HPE HEV
  go_enter Tryd.func74, Tryd.ntmps74
  go_wp2_with (at_make; refine wpList_make_full _ rfl _ _ 49 rfl w.heap.size 2 i0 (.int .i64 0) 1 Tryd.underlying49 hi hz0 hz1 .i64 .i64 _ _ 10 rfl rfl rfl rfl (by rw [hz2]; omega) (by unfold maxLen; omega) (Nat.le_refl _) ?_; intro w1 hown hgrow)
  rw [copy_start 10 (vs.map ic)] at hown
  have hb1 := (Below.refl w.heap.size w).grown hgrow (Nat.le_refl _) (fun _ h => by cases h)
  clear hgrow
  go_loopw [6] (fun i wr => ∃ k : Nat, k ≤ m ∧ i = .int .i64 k ∧ wr.ownsRow w.heap.size 2 1 (.slice (some ⟨w.heap.size, 0, none⟩) 10 10) 10 ((vs.map ic).take k ++ List.replicate (10 - k) (.int .i64 0)) ∧ Below w.heap.size w wr) (fun i _ => m - (intOf i).toNat)
  case atStart => exact ⟨0, Nat.zero_le _, rfl, hown, hb1⟩
  case round =>
    clear hown hb1
    obtain ⟨k, hk, rfl, hown, hbel⟩ := hrel
    by_cases hlt : k < m
    · obtain ⟨b, off, x, rfl, hb, hx, hc⟩ := (hz.next hbel hB).2.int_at (k := k) (by have := hzl.out; omega)
      have hst := hown.stored k (.int .i64 x)
      rw [copy_step HPL.out (by omega) (HPG.out k x hx)] at hst
      have hfz := hown.frozenAt k
      have hul : k < ((vs.map ic).take k ++ List.replicate (10 - k) (Value.int .i64 0)).length := by have := HPL.out; simp at this ⊢; omega
      have hcl := hown.cellAt k (by omega)
      rw [List.getElem?_eq_getElem hul] at hcl
      have HST := Lib.hid hst
      have hsz := hbel.size
      have hk10 : (k : Int) < 10 := by omega
      generalize ((vs.map ic).take k ++ List.replicate (10 - k) (Value.int .i64 0)) = ys at hown hul hcl
      clear hx hst
      go_wp2_with fail
      go_roundw
      case rel => exact ⟨k + 1, by omega, by go_num, HST.out.1, hbel.setCell (p := ⟨w.heap.size, k, none⟩) (Nat.le_refl _) _⟩
      case measure => simp [intOf]; omega
    · have e : k = m := by omega
      subst e
      have hown2 := hown
      rw [HPE.out] at hown2
      clear hown
      rename_i wr
      have HIV : Hid (InL wr wr.heap.size (some ⟨w.heap.size, 0, none⟩) 10 vs) := (OwnL.of_own hown2).all
      have HIT := Lib.hid (h.next hbel hB)
      have hsr := hbel.size
      clear hown2
      go_wp2_with fail
      go_loopw [7] (fun i wx => ∃ k q : Nat, k ≤ n ∧ i = .int .i64 k ∧ Hid (∀ u ∈ ts.take k, 0 ≤ numS zs u) ∧ wx = wr.drewN q) (fun i _ => n - (intOf i).toNat)
      case atStart => exact ⟨0, 0, Nat.zero_le _, rfl, fun u hu => by simp at hu, rfl⟩
      case round =>
        obtain ⟨k, q, hk, rfl, ha, rfl⟩ := hrel
        by_cases hlt : k < n
        · obtain ⟨b', off, A', n', c', t, rfl, hb', ht, hc0, hc1, hin⟩ := HIT.out.at_ hlt
          have hov := HE.out t (List.mem_of_getElem? ht)
          have hC := l02Eval_c wr.heap.size b' (off + k * 2) t (some ⟨w.heap.size, 0, none⟩) 10 10 vs (wr.drewN q) ⟨A', n', c', by omega, hc0, hc1, hin.more (by omega)⟩ HIV.out hov.1 HVS.out
          rw [HEV.out t] at hC
          have HC := Lib.hid hC
          have hS := Lib.hid (fun h => hs_step (vs := zs) ha.out ht h)
          have hN := Lib.hid (fun h => hsB_no (vs := zs) ht h)
          clear hin ht hc0 hc1 hov hC
          generalize numS zs t = v at HC hS hN
          by_cases hv : v < 0
          · have HN := Lib.hid (hN.out hv)
            clear hS hN
            go_wp2_with fail
            refine HC.out.mono ?_
            rintro e w1 ⟨rfl, d1, rfl⟩
            go_wp2_with fail
            go_ret
            exact ⟨ret_bool HN.out.symm, below_drewN hbel _⟩
          · have HS := Lib.hid (hS.out (by omega))
            clear hS hN
            go_wp2_with fail
            refine HC.out.mono ?_
            rintro e w1 ⟨rfl, d1, rfl⟩
            go_wp2_with fail
            go_roundw
            case rel => exact ⟨k + 1, _, by omega, by go_num, HS.out, rfl⟩
            case measure => simp [intOf]; omega
        · have HY := Lib.hid (hsB_yes (vs := zs) ha.out (by have := hlen.out; omega))
          go_wp2_with fail
          go_ret
          exact ⟨ret_bool HY.out.symm, below_drewN hbel q⟩

/-- Whether the facts of a start hold in a state, and whether both are valid. -/
def hatR (ts : List (Int × List Int)) (xs : List S8) (us : List (Int × List Int)) (s : Int) (zs ys : List Int) : Bool × Bool := if (startR ts xs us s).2 = true ∧ stB zs ys = true then (hsB (startR ts xs us s).1 zs, true) else (false, false)
theorem hatR_yes {ts us : List (Int × List Int)} {xs : List S8} {s : Int} {zs ys : List Int} (h : (startR ts xs us s).2 = true) (k : stB zs ys = true) : hatR ts xs us s zs ys = (hsB (startR ts xs us s).1 zs, true) := if_pos ⟨h, k⟩
theorem hatR_no {ts us : List (Int × List Int)} {xs : List S8} {s : Int} {zs ys : List Int} (h : (startR ts xs us s).2 = false) : hatR ts xs us s zs ys = (false, false) := if_neg (by rw [h]; simp)
theorem hatR_no2 {ts us : List (Int × List Int)} {xs : List S8} {s : Int} {zs ys : List Int} (h : stB zs ys = false) : hatR ts xs us s zs ys = (false, false) := if_neg (by rw [h]; simp)
theorem startR_ok {ts us : List (Int × List Int)} {xs : List S8} {s : Int} (h : progB ts xs us = true) (hs : -1 ≤ s ∧ s < (loopsU xs xs.length).length) : (startR ts xs us s).2 = true := by
  unfold startR
  rw [if_pos ⟨h, hs⟩]

set_option maxRecDepth 100000 in
set_option maxHeartbeats 4000000 in
theorem specHoldsAt_c (A : Option Addr) (n c : Nat) (ts : List (Int × List Int)) (D : Option Addr) (m d : Nat) (xs : List S8) (E : Option Addr) (q e' : Nat) (us : List (Int × List Int)) (s : Int) (F : Option Addr) (nf cf : Nat) (zs : List Int) (G : Option Addr) (ng cg : Nat) (ys : List Int) (B : Nat) (w : World)
    (h : PIn w B A n ts D m xs E q us) (hz : InL w B F nf zs) (hy : InL w B G ng ys) (hB : B ≤ w.heap.size) (hn : progN n ts m xs q us ≤ 1048576) (hnf : nf ≤ 1048576) (hng : ng ≤ 1048576) :
    Calls Tryd.prog 42 #[.agg #[.slice A n c, .slice D m d, .slice E q e'], .int .i64 s, .agg #[.slice F nf cf, .slice G ng cg]] w fun e w' => e = .returned (.tuple #[.bool (hatR ts xs us s zs ys).1, .bool (hatR ts xs us s zs ys).2]) ∧ Below w.heap.size w w' := by
  have hb0 : Below w.heap.size w ((w.alloc (.cells #[.slice A n c, .slice D m d, .slice E q e'] 42)).alloc (.cells #[.slice F nf cf, .slice G ng cg] 65)) := bon (bnew _ _) (bnew _ _)
  have hP : BlkIs ((w.alloc (.cells #[.slice A n c, .slice D m d, .slice E q e'] 42)).alloc (.cells #[.slice F nf cf, .slice G ng cg] 65)) w.heap.size 42 #[.slice A n c, .slice D m d, .slice E q e'] := (blk_new w _ _ _ rfl).next (bnew _ _)
  have hS : BlkIs ((w.alloc (.cells #[.slice A n c, .slice D m d, .slice E q e'] 42)).alloc (.cells #[.slice F nf cf, .slice G ng cg] 65)) (w.heap.size + 1) 65 #[.slice F nf cf, .slice G ng cg] := blk_new _ _ _ _ (by simp)
  have HN := Lib.hid (h.next hb0 hB)
  have HZ := Lib.hid (hz.next hb0 hB)
  have HY := Lib.hid (hy.next hb0 hB)
  have hmle : m ≤ 1048576 := by unfold progN at hn; omega
  have hlm : xs.length = m := h.2.1.1
  clear h hz hy
  obtain ⟨R, HR⟩ : ∃ R, Hid (hatR ts xs us s zs ys = R) := ⟨_, rfl⟩
  rw [HR.out]
  go_enter Tryd.func42, Tryd.ntmps42
  go_wp2_with fail
  generalize (w.alloc (.cells #[.slice A n c, .slice D m d, .slice E q e'] 42)).alloc (.cells #[.slice F nf cf, .slice G ng cg] 65) = W at hb0 hP hS HN HZ HY ⊢
  have hs0 := hb0.size
  have p0 : W.cell? ⟨w.heap.size, 0, none⟩ = some (.slice A n c) := hP.cell 0
  have p1 : W.cell? ⟨w.heap.size, 1, none⟩ = some (.slice D m d) := hP.cell 1
  have p2 : W.cell? ⟨w.heap.size, 2, none⟩ = some (.slice E q e') := hP.cell 2
  have t0 : W.cell? ⟨w.heap.size + 1, 0, none⟩ = some (.slice F nf cf) := hS.cell 0
  have t1 : W.cell? ⟨w.heap.size + 1, 1, none⟩ = some (.slice G ng cg) := hS.cell 1
  refine (l03Is_c w.heap.size A n c ts D m d xs E q e' B us W HN.out p0 p1 p2 hn).mono ?_
  rintro e9 w9 ⟨rfl, rfl⟩
  cases hp : progB ts xs us with
  | false =>
    have HE : Hid (R = (false, false)) := HR.out.symm.trans (hatR_no (by rw [startR_no hp]))
    obtain rfl := HE.out
    clear HE HR hp hP hS
    go_wp2_with fail
    go_ret2
    exact ⟨rfl, hb0⟩
  | true =>
    have HPP := Lib.hid hp
    clear hp
    have HC1 := Lib.hid (l04Start_c w.heap.size D m d xs B s W HN.out.2.1 (by omega) p1 hmle)
    obtain ⟨bb, HBB⟩ : ∃ x, Hid (decide (-1 ≤ s ∧ s < (loopsU xs m).length) = x) := ⟨_, rfl⟩
    rw [HBB.out] at HC1
    go_wp2_with fail
    refine HC1.out.mono ?_
    rintro e9 w1 ⟨rfl, hb1⟩
    have hs1 := hb1.size
    have hb01 := bon hb0 hb1
    cases bb with
    | false =>
      have HE : Hid (R = (false, false)) := HR.out.symm.trans (hatR_no (by rw [startR_out (by rw [hlm]; exact of_decide_eq_false HBB.out)]))
      obtain rfl := HE.out
      clear HE HR HC1 hP hS
      go_wp2_with fail
      go_ret2
      exact ⟨rfl, hb01⟩
    | true =>
      have hrange : -1 ≤ s ∧ s < (loopsU xs m).length := of_decide_eq_true HBB.out
      have HST := Lib.hid (startR_ok (us := us) HPP.out (by rw [hlm]; exact hrange))
      have HRG := Lib.hid hrange
      have HP1 := Lib.hid (hP.next hb1)
      have HS1 := Lib.hid (hS.next hb1)
      have u0 : w1.cell? ⟨w.heap.size + 1, 0, none⟩ = some (.slice F nf cf) := HS1.out.cell 0
      have u1 : w1.cell? ⟨w.heap.size + 1, 1, none⟩ = some (.slice G ng cg) := HS1.out.cell 1
      have HC2 := Lib.hid (l03State_c (w.heap.size + 1) 0 F nf cf zs G ng cg ys B w1 u0 u1 (HZ.out.next hb1 (by omega)) (HY.out.next hb1 (by omega)) hnf hng)
      obtain ⟨b2, HB2⟩ : ∃ x, Hid (stB zs ys = x) := ⟨_, rfl⟩
      rw [HB2.out] at HC2
      clear hrange HC1 HBB hP hS p0 p1 p2 t0 t1
      go_wp2_with fail
      refine HC2.out.mono ?_
      rintro e9 w9 ⟨rfl, rfl⟩
      cases b2 with
      | false =>
        have HE : Hid (R = (false, false)) := HR.out.symm.trans (hatR_no2 HB2.out)
        obtain rfl := HE.out
        clear HE HR HC2
        go_wp2_with fail
        go_ret2
        exact ⟨rfl, hb01⟩
      | true =>
        have HE : Hid (R = (hsB (startR ts xs us s).1 zs, true)) := HR.out.symm.trans (hatR_yes HST.out HB2.out)
        obtain rfl := HE.out
        have hst := stB_parts HB2.out
        have hsm := start_small HST.out
        have p0 : w1.drew.cell? ⟨w.heap.size, 0, none⟩ = some (.slice A n c) := HP1.out.cell 0
        have p1 : w1.drew.cell? ⟨w.heap.size, 1, none⟩ = some (.slice D m d) := HP1.out.cell 1
        have hin1 : PIn w1.drew B A n ts D m xs E q us := (show PIn w1 B A n ts D m xs E q us from HN.out.next hb1 (by omega))
        have hz1 : InL w1.drew B F nf zs := (show InL w1 B F nf zs from HZ.out.next hb1 (by omega))
        have HF := Lib.hid (l04Facts_c w.heap.size A n c ts D m d xs E q e' B us s w1.drew hin1 (show B ≤ w1.heap.size by omega) p0 p1 HPP.out HRG.out)
        have HH := Lib.hid (fun (X : World) (v : Value) (hb : Below w1.drew.heap.size w1.drew X) (hf : FRow X w1.drew.heap.size v (startR ts xs us s).1.length (startR ts xs us s).1) =>
          (show Calls Tryd.prog 74 #[v, .slice F nf cf] X fun e w' => e = .returned (.bool (hsB (startR ts xs us s).1 zs)) ∧ Below X.heap.size X w' by
            obtain ⟨FA, Fc, rfl, hin⟩ := hf.inn
            exact l04Hold_c FA _ Fc (startR ts xs us s).1 F nf cf X.heap.size zs X hin ((hz1.next hb (show B ≤ w1.heap.size by omega)).more (Nat.le_trans (show B ≤ w1.heap.size by omega) hb.size)) (Nat.le_refl _) (by have := hsm.1; omega) (by rw [← hz1.1]; exact hst.1) hst.2 hsm.2))
        clear HE HR HC2 hst hsm hin1 hz1 u1 p0 p1
        obtain ⟨fs, HFS⟩ : ∃ fs, Hid ((startR ts xs us s).1 = fs) := ⟨_, rfl⟩
        rw [HFS.out] at HF HH
        go_wp2_with fail
        go_region_held3 (fun w' => w'.cell? ⟨w.heap.size + 1, 0, none⟩ = some (.slice F nf cf))
          (first | go_keep | exact cell_on u0 hb2 | exact cell_on2 u0 hb2 hb3 | fail)
          (first | (go_at_call 68; refine HF.out.mono ?_; rintro e w2 ⟨v, rfl, hf, hb2⟩) | (go_at_call 74; refine (HH.out _ _ hb2 hf).mono ?_; rintro e w3 ⟨rfl, hb3⟩) | fail)
        go_wp2_with fail
        go_ret2
        exact ⟨by rw [HFS.out]; rfl, bon (bon hb01 (bstep hb2)) hb3⟩

theorem allV_small {ts : List (Int × List Int)} (h1 : ts.length ≤ 6) (h2 : ∀ t ∈ ts, tmB t = true ∧ t.2.length ≤ 4) : allV 14 ts = true := by
  unfold allV ovB
  rw [decide_eq_true (p := ts.length ≤ 14) (by omega), Bool.and_true]
  exact decide_eq_true (fun t ht => by rw [(h2 t ht).1, decide_eq_true (h2 t ht).2]; rfl)
theorem totT_small : ∀ {ts : List (Int × List Int)}, (∀ t ∈ ts, t.2.length ≤ 4) → totT ts ≤ 4 * ts.length
  | [], _ => by simp [totT]
  | t :: ts, h => by
    have ih := totT_small (ts := ts) (fun u hu => h u (List.mem_cons_of_mem _ hu))
    have := h t List.mem_cons_self
    unfold totT at ih ⊢
    simp only [List.map_cons, List.sum_cons, List.length_cons]
    omega
set_option maxRecDepth 100000 in
set_option maxHeartbeats 4000000 in
theorem implHoldsAt_c (A : Option Addr) (n c : Nat) (ts : List (Int × List Int)) (D : Option Addr) (m d : Nat) (xs : List S8) (E : Option Addr) (q e' : Nat) (us : List (Int × List Int)) (s : Int) (F : Option Addr) (nf cf : Nat) (zs : List Int) (G : Option Addr) (ng cg : Nat) (ys : List Int) (B : Nat) (w : World)
    (hT : TabE w) (h : PIn w B A n ts D m xs E q us) (hz : InL w B F nf zs) (hy : InL w B G ng ys) (hB : B ≤ w.heap.size) (hn : progN n ts m xs q us ≤ 1048576) (hnf : nf ≤ 1048576) (hng : ng ≤ 1048576) :
    Calls Tryd.prog 44 #[.agg #[.slice A n c, .slice D m d, .slice E q e'], .int .i64 s, .agg #[.slice F nf cf, .slice G ng cg]] w fun e w' => e = .returned (.tuple #[.bool (hatR ts xs us s zs ys).1, .bool (hatR ts xs us s zs ys).2]) ∧ Below w.heap.size w w' := by
  have hb0 : Below w.heap.size w ((w.alloc (.cells #[.slice A n c, .slice D m d, .slice E q e'] 42)).alloc (.cells #[.slice F nf cf, .slice G ng cg] 65)) := bon (bnew _ _) (bnew _ _)
  have hP : BlkIs ((w.alloc (.cells #[.slice A n c, .slice D m d, .slice E q e'] 42)).alloc (.cells #[.slice F nf cf, .slice G ng cg] 65)) w.heap.size 42 #[.slice A n c, .slice D m d, .slice E q e'] := (blk_new w _ _ _ rfl).next (bnew _ _)
  have hS : BlkIs ((w.alloc (.cells #[.slice A n c, .slice D m d, .slice E q e'] 42)).alloc (.cells #[.slice F nf cf, .slice G ng cg] 65)) (w.heap.size + 1) 65 #[.slice F nf cf, .slice G ng cg] := blk_new _ _ _ _ (by simp)
  have HN := Lib.hid (h.next hb0 hB)
  have HZ := Lib.hid (hz.next hb0 hB)
  have HY := Lib.hid (hy.next hb0 hB)
  have HSF := Lib.hid (startFacts_c A n c ts D m d xs E q e' B us s _ (hT.next hb0) HN.out (Nat.le_trans hB hb0.size) hn)
  clear h hz hy
  obtain ⟨R, HR⟩ : ∃ R, Hid (hatR ts xs us s zs ys = R) := ⟨_, rfl⟩
  rw [HR.out]
  obtain ⟨bs, HBS⟩ : ∃ x, Hid ((startR ts xs us s).2 = x) := ⟨_, rfl⟩
  rw [HBS.out] at HSF
  go_enter Tryd.func44, Tryd.ntmps44
  go_wp2_with fail
  generalize (w.alloc (.cells #[.slice A n c, .slice D m d, .slice E q e'] 42)).alloc (.cells #[.slice F nf cf, .slice G ng cg] 65) = W at hb0 hP hS HN HZ HY HSF ⊢
  have hs0 := hb0.size
  refine HSF.out.mono ?_
  rintro e9 w1 ⟨v, rfl, hf, hb1⟩
  have hs1 := hb1.size
  have hb01 := bon hb0 hb1
  have t0 : w1.cell? ⟨w.heap.size + 1, 0, none⟩ = some (.slice F nf cf) := (hS.next hb1).cell 0
  have t1 : w1.cell? ⟨w.heap.size + 1, 1, none⟩ = some (.slice G ng cg) := (hS.next hb1).cell 1
  cases bs with
  | false =>
    have HE : Hid (R = (false, false)) := HR.out.symm.trans (hatR_no HBS.out)
    obtain rfl := HE.out
    clear HE HR HSF
    go_wp2_with fail
    go_ret2
    exact ⟨rfl, hb01⟩
  | true =>
    have hsm := start_small HBS.out
    have hall := allV_small hsm.1 hsm.2
    obtain ⟨FA, Fc, rfl, hin⟩ := hf.inn
    have hH := implHolds_c FA _ Fc (startR ts xs us s).1 F nf cf zs G ng cg ys w1 hin ((HZ.out.next hb1 (by omega)).more (by omega)) ((HY.out.next hb1 (by omega)).more (by omega)) (by have := hsm.1; omega) (by have := totT_small (fun t ht => (hsm.2 t ht).2); have := hsm.1; omega) hnf hng
    have he : holdR (startR ts xs us s).1 zs ys = R := by
      rw [← HR.out]
      cases hst : stB zs ys with
      | false => rw [holdR_no2 hst, hatR_no2 hst]
      | true => rw [holdR_yes hall hst, hatR_yes HBS.out hst]
    rw [he] at hH
    have HH := Lib.hid hH
    clear HR HSF hH he hall hsm hin hf HBS
    go_wp2_with fail
    refine HH.out.mono ?_
    rintro e9 w2 ⟨rfl, hb2⟩
    go_wp2_with fail
    go_ret2
    exact ⟨rfl, bon hb01 hb2⟩
end Go.Proofs.YtpgbihiibdiohaaDoor
