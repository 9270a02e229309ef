/-
  A term with symbols replaced by terms: the model's function and the program's. Conditions: at most 2^20 terms and coefficients.
-/
import Derived.Test.YtddmpdpmgjggoaaSubS
import Derived.Test.YtddmpdpmgjggoaaComb
import Derived.Test.YtddmpdpmgjggoaaSeqK
namespace Go.Proofs.Ytddmpdpmgjggoaa
set_option linter.unusedVariables false
open Go.RowKit

theorem subR_yes {u : Int × List Int} {ts : List (Int × List Int)} (h : tmB u = true) (k : allT 10 ts = true) : subR u ts = mkL (subTo u ts u.2.length (-1)) (ten (subTo u ts u.2.length)) := if_pos ⟨h, k⟩
theorem subR_no {u : Int × List Int} {ts : List (Int × List Int)} (h : tmB u = false) : subR u ts = ((0, []), false) := if_neg (by rw [h]; simp)
theorem subR_no2 {u : Int × List Int} {ts : List (Int × List Int)} (h : allT 10 ts = false) : subR u ts = ((0, []), false) := if_neg (by rw [h]; simp)
theorem res_lenR (u : Int × List Int) (ts : List (Int × List Int)) : (subR u ts).1.2.length ≤ 10 := by
  unfold subR
  split
  · exact mkL_len _ _
  · simp

/-- What one summand adds. -/
def subF (ts : List (Int × List Int)) (f : Int → Int) (p : Int × Int) : Int → Int := if 0 ≤ p.1 ∧ p.1 < (ts.length : Int) then addT f p.2 (ts.getD p.1.toNat (0, [])) else upd f p.1 p.2
def subL (ts : List (Int × List Int)) (l : List (Int × Int)) : Int → Int := l.foldl (subF ts) (fun _ => 0)
theorem subL_snoc (ts : List (Int × List Int)) (l : List (Int × Int)) (p : Int × Int) : subL ts (l ++ [p]) = subF ts (subL ts l) p := by simp [subL, List.foldl_append]
theorem subL_sumTo (u : Int × List Int) (ts : List (Int × List Int)) : ∀ (k : Nat) (j : Int), subL ts (sumTo u k) j = subTo u ts k j - (if j = -1 then u.1 else 0)
  | 0, j => by
    show (0 : Int) = (if j = -1 then u.1 else 0) - (if j = -1 then u.1 else 0)
    omega
  | k + 1, j => by
    have ih := subL_sumTo u ts k
    by_cases h0 : u.2.getD k 0 = 0
    · rw [sumTo, if_pos h0, List.append_nil, ih j, subTo, h0]
      unfold subStep
      by_cases hk : k < ts.length
      · rw [if_pos hk]; unfold addT; rw [Int.zero_mul]; omega
      · rw [if_neg hk]; unfold upd
        by_cases hj : j = (k : Int)
        · rw [if_pos hj]; omega
        · rw [if_neg hj]
    · rw [sumTo, if_neg h0, subL_snoc, subTo]
      unfold subF subStep
      by_cases hk : k < ts.length
      · rw [if_pos hk, if_pos (by show (0 : Int) ≤ (k : Int) ∧ (k : Int) < _; omega)]
        unfold addT
        rw [ih j]
        show _ + u.2.getD k 0 * tf (ts.getD (Int.toNat (k : Int)) (0, [])) j = _
        rw [Int.toNat_natCast]
        omega
      · rw [if_neg hk, if_neg (by show ¬ ((0 : Int) ≤ (k : Int) ∧ (k : Int) < _); omega)]
        unfold upd
        by_cases hj : j = (k : Int)
        · rw [if_pos hj, if_pos hj, ih j]; omega
        · rw [if_neg hj, if_neg hj, ih j]
theorem subL_summ (u : Int × List Int) (ts : List (Int × List Int)) : subL ts (summ u) = subTo u ts u.2.length := by
  funext j
  have key := subL_sumTo u ts u.2.length
  unfold summ
  by_cases h0 : u.1 = 0
  · rw [if_pos h0, List.append_nil, key j, h0]
    split <;> omega
  · rw [if_neg h0, subL_snoc]
    unfold subF
    rw [if_neg (by show ¬ ((0 : Int) ≤ -1 ∧ _); omega)]
    unfold upd
    by_cases hj : j = -1
    · rw [if_pos hj, key j, if_pos hj]; show _ - u.1 + u.1 = _; omega
    · rw [if_neg hj, key j, if_neg hj]; omega
theorem subF_bound {ts : List (Int × List Int)} {f : Int → Int} {M s x : Int} (ht : ∀ t ∈ ts, tmB t = true) (hf : ∀ j, -M ≤ f j ∧ f j ≤ M) (x1 : -1000000 ≤ x) (x2 : x ≤ 1000000) : ∀ j, -(M + 1000000000000) ≤ subF ts f (s, x) j ∧ subF ts f (s, x) j ≤ M + 1000000000000 := fun j => by
  have b := hf j
  unfold subF
  by_cases h : 0 ≤ s ∧ s < (ts.length : Int)
  · rw [if_pos h]
    obtain ⟨k, rfl⟩ := Int.eq_ofNat_of_zero_le h.1
    have hk : k < ts.length := by omega
    have e1 : ts.getD (Int.toNat (k : Int)) (0, []) = ts[k] := by rw [Int.toNat_natCast, List.getD_eq_getElem?_getD, List.getElem?_eq_getElem hk]; rfl
    have a := tf_small (ht ts[k] (List.getElem_mem _)) j
    have p := prod_le (a := x) (b := tf ts[k] j) x1 x2 a.1 a.2
    show _ ≤ addT f x (ts.getD (Int.toNat (k : Int)) (0, [])) j ∧ addT f x (ts.getD (Int.toNat (k : Int)) (0, [])) j ≤ _
    rw [e1]
    unfold addT
    omega
  · rw [if_neg h]
    unfold upd
    split <;> (try (show _ ≤ f j + x ∧ f j + x ≤ _)) <;> omega

set_option maxRecDepth 100000 in
set_option maxHeartbeats 2000000 in
theorem specSub_c (c0 : Int) (A : Option Addr) (n cp : Nat) (zs : List Int) (D : Option Addr) (m cq : Nat) (ts : List (Int × List Int)) (w : World) (h : InL w w.heap.size A n zs) (hn : n ≤ 1048576) (hk : InTS w w.heap.size D m ts) (hm : m ≤ 1048576) (he : totT ts ≤ 1048576) :
    Calls Try.prog 34 #[.agg #[.int .i64 c0, .slice A n cp], .slice D m cq] w (GivesT (subR (c0, zs) ts) w) := by
  have hb0 : Below w.heap.size w ((w.alloc (.cells #[.int .i64 c0, .slice A n cp] 26)).alloc (.cells #[.int .i64 0, .slice none 0 0] 26)) := bon (bnew _ _) (bnew _ _)
  have hP : BlkIs ((w.alloc (.cells #[.int .i64 c0, .slice A n cp] 26)).alloc (.cells #[.int .i64 0, .slice none 0 0] 26)) w.heap.size 26 #[.int .i64 c0, .slice A n cp] := (blk_new w _ _ _ rfl).next (bnew _ _)
  have hR : BlkIs ((w.alloc (.cells #[.int .i64 c0, .slice A n cp] 26)).alloc (.cells #[.int .i64 0, .slice none 0 0] 26)) (w.heap.size + 1) 26 #[.int .i64 0, .slice none 0 0] := blk_new _ _ _ _ (by simp)
  have H1 := Lib.hid (h.next hb0 (Nat.le_refl _))
  have HK := Lib.hid (hk.next hb0 (Nat.le_refl _))
  clear h hk
  obtain ⟨R, HR⟩ : ∃ R, Hid (subR (c0, zs) ts = R) := ⟨_, rfl⟩
  rw [HR.out]
  go_enter Try.func34, Try.ntmps34
  go_wp2_with fail
  generalize (w.alloc (.cells #[.int .i64 c0, .slice A n cp] 26)).alloc (.cells #[.int .i64 0, .slice none 0 0] 26) = W at hb0 hP hR H1 HK ⊢
  have hsW := hb0.size
  have p0 := hP.cell 0
  have p1 := hP.cell 1
  have r0 := hR.cell 0
  have r1 := hR.cell 1
  have f0 := hR.frozen 0
  have f1 := hR.frozen 1
  simp at p0 p1 r0 r1
  have hlR := hR.lt
  refine (l02Is_c w.heap.size 0 c0 A n cp _ zs W p0 p1 H1.out.2 H1.out.1 hn).mono ?_
  rintro e w1 ⟨rfl, rfl⟩
  cases hv : tmB (c0, zs) with
  | false =>
    have HE : Hid (R = ((0, []), false)) := HR.out.symm.trans (subR_no hv)
    clear hv HR
    obtain rfl := HE.out
    clear HE
    go_wp2_with fail
    refine bodyPost_ret (v := .tuple #[.agg #[.int .i64 0, .slice none 0 0], .bool false]) (by simp [results, Try.results34, go_sem, r0, r1]) rfl ?_
    unfold GivesT
    exact ⟨none, 0, 0, rfl, own_nil _ _, give_no hb0 (by omega)⟩
  | true =>
    have HV := Lib.hid hv
    clear hv
    go_wp2_with fail
    refine (l02All_c D m cq _ ts 10 W HK.out hm he).mono ?_
    rintro e w1 ⟨rfl, rfl⟩
    cases hv1 : allT 10 ts with
    | false =>
      have HE : Hid (R = ((0, []), false)) := HR.out.symm.trans (subR_no2 hv1)
      clear hv1 HR
      obtain rfl := HE.out
      clear HE
      go_wp2_with fail
      refine bodyPost_ret (v := .tuple #[.agg #[.int .i64 0, .slice none 0 0], .bool false]) (by simp [results, Try.results34, go_sem, r0, r1]) rfl ?_
      unfold GivesT
      exact ⟨none, 0, 0, rfl, own_nil _ _, give_no hb0 (by omega)⟩
    | true =>
      have HE := Lib.hid ((subR_yes HV.out hv1).symm.trans HR.out)
      have hC := l02Replace_c w.heap.size 0 W.heap.size (c0, zs) D m cq ts W ⟨A, n, cp, by omega, p0, p1, H1.out.more hsW⟩ (HK.out.more hsW) (Nat.le_refl _) HV.out (allT_parts hv1).1
      rw [HE.out] at hC
      have HC := Lib.hid hC
      clear hC hv1
      go_wp2_with fail
      refine HC.out.mono ?_
      rintro e w2 ⟨A1, k1, c1, rfl, hown, hb2⟩
      have hR2 := hR.next hb2
      have r0 := hR2.cell 0
      have r1 := hR2.cell 1
      have f0 := hR2.frozen 0
      have f1 := hR2.frozen 1
      simp at r0 r1
      go_wp2_with fail
      refine bodyPost_ret (v := .tuple #[.agg #[.int .i64 R.1.1, .slice A1 k1 c1], .bool R.2]) (by simp [results, Try.results34, go_sem, r0, r1]) rfl ?_
      exact ⟨_, _, _, rfl, give_end hb0 (by omega) hlR hown hb2⟩

set_option maxRecDepth 100000 in
set_option maxHeartbeats 4000000 in
theorem implSub_c (c0 : Int) (A : Option Addr) (n cp : Nat) (zs : List Int) (D : Option Addr) (m cq : Nat) (ts : List (Int × List Int)) (w : World) (h : InL w w.heap.size A n zs) (hn : n ≤ 1048576) (hk : InTS w w.heap.size D m ts) (hm : m ≤ 1048576) (he : totT ts ≤ 1048576) :
    Calls Try.prog 17 #[.agg #[.int .i64 c0, .slice A n cp], .slice D m cq] w (GivesT (subR (c0, zs) ts) w) := by
  have hmm := @run_makeMap Try.prog
  have hb0 : Below w.heap.size w ((w.alloc (.cells #[.int .i64 c0, .slice A n cp] 26)).alloc (.cells #[.int .i64 0, .slice none 0 0] 26)) := bon (bnew _ _) (bnew _ _)
  have hP : BlkIs ((w.alloc (.cells #[.int .i64 c0, .slice A n cp] 26)).alloc (.cells #[.int .i64 0, .slice none 0 0] 26)) w.heap.size 26 #[.int .i64 c0, .slice A n cp] := (blk_new w _ _ _ rfl).next (bnew _ _)
  have hR : BlkIs ((w.alloc (.cells #[.int .i64 c0, .slice A n cp] 26)).alloc (.cells #[.int .i64 0, .slice none 0 0] 26)) (w.heap.size + 1) 26 #[.int .i64 0, .slice none 0 0] := blk_new _ _ _ _ (by simp)
  have H1 := Lib.hid (h.next hb0 (Nat.le_refl _))
  have HK := Lib.hid (hk.next hb0 (Nat.le_refl _))
  have hlk := Lib.hid hk.1
  clear h hk
  obtain ⟨R, HR⟩ : ∃ R, Hid (subR (c0, zs) ts = R) := ⟨_, rfl⟩
  rw [HR.out]
  go_enter Try.func17, Try.ntmps17
  go_wp2_with fail
  generalize (w.alloc (.cells #[.int .i64 c0, .slice A n cp] 26)).alloc (.cells #[.int .i64 0, .slice none 0 0] 26) = W at hb0 hP hR H1 HK ⊢
  have hsW := hb0.size
  refine (implValid_c c0 A n cp _ zs W H1.out.2 hsW H1.out.1 hn).mono ?_
  rintro e w1 ⟨rfl, hb1⟩
  have hs1 := hb1.size
  replace hP := hP.next hb1
  replace hR := hR.next hb1
  have H11 := Lib.hid (H1.out.next hb1 hsW)
  have HK1 := Lib.hid (HK.out.next hb1 hsW)
  have hb01 := bon hb0 hb1
  clear H1 HK hb0 hb1
  cases hv : tmB (c0, zs) with
  | false =>
    have HE : Hid (R = ((0, []), false)) := HR.out.symm.trans (subR_no hv)
    have r0 := hR.cell 0
    have r1 := hR.cell 1
    have f0 := hR.frozen 0
    have f1 := hR.frozen 1
    simp at r0 r1
    clear hv HR
    obtain rfl := HE.out
    clear HE
    go_wp2_with fail
    refine bodyPost_ret (v := .tuple #[.agg #[.int .i64 0, .slice none 0 0], .bool false]) (by simp [results, Try.results17, go_sem, r0, r1]) rfl ?_
    unfold GivesT
    exact ⟨none, 0, 0, rfl, own_nil _ _, give_no hb01 (by omega)⟩
  | true =>
    have HV := Lib.hid hv
    clear hv
    go_wp2_with fail
    refine (areTerms_c D m cq _ ts 10 w1 HK1.out (by omega) he (by omega)).mono ?_
    rintro e w2 ⟨rfl, hb2⟩
    have hs2 := hb2.size
    replace hP := hP.next hb2
    replace hR := hR.next hb2
    have hlR2 := hR.lt
    have H12 := Lib.hid (H11.out.next hb2 (by omega))
    have HK2 := Lib.hid (HK1.out.next hb2 (by omega))
    have hb02 := bon hb01 hb2
    clear H11 HK1 hb01 hb2
    cases hv1 : allT 10 ts with
    | false =>
      have HE : Hid (R = ((0, []), false)) := HR.out.symm.trans (subR_no2 hv1)
      have r0 := hR.cell 0
      have r1 := hR.cell 1
      have f0 := hR.frozen 0
      have f1 := hR.frozen 1
      simp at r0 r1
      clear hv1 HR
      obtain rfl := HE.out
      clear HE
      go_wp2_with fail
      refine bodyPost_ret (v := .tuple #[.agg #[.int .i64 0, .slice none 0 0], .bool false]) (by simp [results, Try.results17, go_sem, r0, r1]) rfl ?_
      unfold GivesT
      exact ⟨none, 0, 0, rfl, own_nil _ _, give_no hb02 (by omega)⟩
    | true =>
      have HE := Lib.hid ((subR_yes HV.out hv1).symm.trans HR.out)
      have HTB := Lib.hid (allT_parts hv1).1
      have hm10 : m ≤ 10 := by have := (allT_parts hv1).2; have := hlk.out; omega
      have hn10 : n ≤ 10 := by have := (tmB_parts HV.out).1; have := H12.out.1; simp at *; omega
      have hsl : (summ (c0, zs)).length ≤ 11 := by have := summ_len (c0, zs); have := (tmB_parts HV.out).1; simp at *; omega
      have HOK := Lib.hid (fun p hp => summ_ok (t := (c0, zs)) HV.out (p := p) hp)
      have HSUM := Lib.hid (subL_summ (c0, zs) ts)
      have hmp0 := mapF_made w2
      have hb3 := bnew w2 (.map #[] 0)
      have hP3 := hP.next hb3
      have q0 := hP3.cell 0
      have q1 := hP3.cell 1
      simp at q0 q1
      clear hv1
      go_wp2_with fail
      replace hR := hR.next hb3
      have H13 := Lib.hid (H12.out.next hb3 (by omega))
      have HK3 := Lib.hid (HK2.out.next hb3 (by omega))
      have hb03 := bon hb02 hb3
      have hs3 : w2.heap.size < (w2.alloc (.map #[] 0)).heap.size := by simp
      clear q0 q1 hP3 hb3 H12 HK2
      generalize w2.alloc (.map #[] 0) = w3 at hmp0 hR H13 HK3 hb03 hs3 ⊢
      refine (summandsOf_c c0 A n cp _ zs w3 H13.out (by omega) hn10).mono ?_
      rintro e w4 ⟨v, rfl, hown, hb4⟩
      obtain ⟨A1, c1, rfl, hpr⟩ := prow_of_own hown
      have hs4 := hb4.size
      have hmp4 := hmp0.next hb4 hs3
      replace hR := hR.next hb4
      have HK4 := Lib.hid (HK3.out.next hb4 (by omega))
      have hb04 := bon hb03 hb4
      have hlR := hR.lt
      have HR4 := Lib.hid hR
      clear hown HK3 H13 hmp0 hb4 hR
      generalize summ (c0, zs) = l at HOK HSUM hpr hsl ⊢
      go_wp2_with fail
      go_loopw [8, 22] (fun _ i wr => ∃ j : Nat, j ≤ l.length ∧ i = .int .i64 j ∧ MapF wr w2.heap.size (11 * j) (subL ts (l.take j)) ∧ PRow wr w3.heap.size A1 l ∧ w4.grownBy wr (some w2.heap.size) ∧ Hid (∀ q, -((j : Int) * 1000000000000) ≤ subL ts (l.take j) q ∧ subL ts (l.take j) q ≤ (j : Int) * 1000000000000)) (fun _ i _ => l.length - (intOf i).toNat)
      case atStart => exact ⟨0, Nat.zero_le _, rfl, hmp4, hpr, only_refl _ _, fun q => by simp [subL]⟩
      case round =>
        clear hmp4 hpr
        obtain ⟨j, hj, rfl, hmp, hpr, hg, hbd⟩ := hrel
        have hb5 : Below w2.heap.size w4 wr := only_below hg (Nat.le_refl _) (by omega)
        have hs5 := hg.size
        by_cases hlt : j < l.length
        · obtain ⟨p, hp⟩ : ∃ p, l[j]? = some p := ⟨_, List.getElem?_eq_getElem hlt⟩
          obtain ⟨g, rfl, hp1, hp2, hp3, hp4⟩ := hpr j p hp
          have hok := HOK.out p (List.mem_of_getElem? hp)
          obtain ⟨s, x⟩ := p
          obtain ⟨o1, o2, o3, o4⟩ := hok
          simp only at o1 o2 o3 o4 hp3 hp4
          have HT : Hid (subL ts (l.take (j + 1)) = subF ts (subL ts (l.take j)) (s, x)) := by
            show _ = _
            rw [List.take_add_one, hp]
            exact subL_snoc ts _ (s, x)
          have HB : Hid (∀ q, -(((j + 1 : Nat) : Int) * 1000000000000) ≤ subL ts (l.take (j + 1)) q ∧ subL ts (l.take (j + 1)) q ≤ ((j + 1 : Nat) : Int) * 1000000000000) := fun q => by
            rw [HT.out]
            have := subF_bound (s := s) (x := x) HTB.out hbd.out o3 o4 q
            omega
          have hlt1 := hmp.lt
          have hbs := hbd.out s
          obtain ⟨hbs1, hbs2⟩ := hbs
          have hbo := bnew wr (.cells #[.int .i64 s, .int .i64 x] 74)
          have e0 : (wr.alloc (.cells #[.int .i64 s, .int .i64 x] 74)).cell? ⟨wr.heap.size, 0, none⟩ = some (.int .i64 s) := cell_new wr _ _ 0 _ rfl
          have e1 : (wr.alloc (.cells #[.int .i64 s, .int .i64 x] 74)).cell? ⟨wr.heap.size, 1, none⟩ = some (.int .i64 x) := cell_new wr _ _ 1 _ rfl
          have hmp2 := hmp.next hbo hlt1
          have hj11 : j ≤ 11 := by omega
          by_cases hs : 0 ≤ s ∧ s < (m : Int)
          · obtain ⟨k, rfl⟩ := Int.eq_ofNat_of_zero_le hs.1
            have hkm : k < m := by omega
            obtain ⟨b', off, A', n', c', t, rfl, hb', ht, hc0, hc1, hin⟩ := (HK4.out.next hb5 (by omega)).at_ hkm
            have hvt : tmB (t.1, t.2) = true := HTB.out t (List.mem_of_getElem? ht)
            have HS : Hid (subF ts (subL ts (l.take j)) ((k : Int), x) = addT (subL ts (l.take j)) x t) := by
              show _ = _
              unfold subF
              rw [if_pos (by show (0 : Int) ≤ (k : Int) ∧ (k : Int) < _; have := hlk.out; omega)]
              show addT _ x (ts.getD (Int.toNat (k : Int)) (0, [])) = _
              rw [Int.toNat_natCast, List.getD_eq_getElem?_getD, ht]; rfl
            have hd0 := cell_next hc0 hbo
            have hd1 := cell_next hc1 hbo
            have hin2 := hin.next hbo (by omega)
            have HADD := Lib.hid (addTimes_c w2.heap.size (11 * j) (subL ts (l.take j)) t.1 A' n' c' w.heap.size t.2 x ((j : Int) * 1000000000000) (wr.alloc (.cells #[.int .i64 (k : Int), .int .i64 x] 74)).drew hmp2.drew hin2.drew (Nat.le_trans (by omega) hbo.size) hvt (by omega) (by omega) (by omega) (by omega) (by omega) hbd.out)
            have i1 : (0 : Int) ≤ (k : Int) := by omega
            have i2 : (k : Int) ≤ (m : Int) - 1 := by omega
            have i3 : (k : Int) < (m : Int) := by omega
            clear hin ht hmp hin2 hmp2 hp hs hbd
            go_wp2_with (first | (go_at_call 46; go_in))
            generalize wr.alloc (.cells #[.int .i64 (k : Int), .int .i64 x] 74) = W2 at hbo e0 e1 hd0 hd1 HADD ⊢
            go_still_tail 8, (by kernel_rfl)
            change wpList _ _ _ _ _ W2.drew
            go_wp2_with fail
            refine HADD.out.mono ?_
            rintro e w5 ⟨rfl, hmp3, hg3⟩
            have hg4 : wr.grownBy w5 (some w2.heap.size) := only_trans (only_trans ⟨hbo.os, hbo.tape, hbo.output, hbo.size, fun i hi _ => hbo.block i hi⟩ (only_drewN (only_refl W2 _) 1)) hg3
            have hmp4 := hmp3.mono (n' := 11 * (j + 1)) (by omega)
            go_wp2_with fail
            go_roundw
            case rel => exact ⟨j + 1, by omega, by go_num, by rw [HT.out, HS.out]; exact hmp4, hpr.grown hg4 (by omega), only_trans hg hg4, HB⟩
            case measure => simp [intOf]; omega
          · have HS : Hid (subF ts (subL ts (l.take j)) (s, x) = upd (subL ts (l.take j)) s x) := by
              show _ = _
              unfold subF
              rw [if_neg (by show ¬ ((0 : Int) ≤ s ∧ s < _); rw [hlk.out]; exact hs)]
            have HADD := Lib.hid (add_c w2.heap.size (11 * j) (subL ts (l.take j)) s x (wr.alloc (.cells #[.int .i64 s, .int .i64 x] 74)) hmp2 ⟨o1, o2⟩ (by omega) (by omega) (by omega) (by omega) (by omega))
            have hno : s < 0 ∨ ((0 : Int) ≤ s ∧ (m : Int) - 1 < s) := by omega
            clear hmp hmp2 hp hs hbd
            rcases hno with hno | ⟨hno1, hno2⟩
            all_goals
              go_wp2_with (first | (go_at_call 46; go_in))
              refine HADD.out.mono ?_
              rintro e w5 ⟨rfl, hmp3, hg3⟩
              have hg4 : wr.grownBy w5 (some w2.heap.size) := only_trans (World.grownBy_alloc _ _ _) hg3
              have hmp4 := hmp3.mono (n' := 11 * (j + 1)) (by omega)
              go_wp2_with fail
              go_roundw
              case rel => exact ⟨j + 1, by omega, by go_num, by rw [HT.out, HS.out]; exact hmp4, hpr.grown hg4 (by omega), only_trans hg hg4, HB⟩
              case measure => simp [intOf]; omega
        · have e : l.take j = l := List.take_of_length_le (by omega)
          rw [e, HSUM.out] at hmp
          have hb7 := hb04.trans (hb5.mono (by omega))
          have hT := term_c w2.heap.size _ _ wr hmp
          rw [show mkL (subTo (c0, zs) ts (c0, zs).2.length (-1)) (ten (subTo (c0, zs) ts (c0, zs).2.length)) = R from HE.out] at hT
          have HT := Lib.hid hT
          clear hbd e hT hmp
          have hRr : BlkIs wr (w.heap.size + 1) 26 #[.int .i64 0, .slice none 0 0] := (hb5.block _ (by omega)).trans HR4.out
          go_wp2_with fail
          refine HT.out.mono ?_
          rintro e w6 ⟨A2, m2, c2, rfl, hown, hb6⟩
          have hR6 := hRr.next hb6
          have r0 := hR6.cell 0
          have r1 := hR6.cell 1
          have f0 := hR6.frozen 0
          have f1 := hR6.frozen 1
          simp at r0 r1
          go_wp2_with fail
          refine bodyPost_ret (v := .tuple #[.agg #[.int .i64 R.1.1, .slice A2 m2 c2], .bool R.2]) (by simp [results, Try.results17, go_sem, r0, r1]) rfl ?_
          exact ⟨_, _, _, rfl, give_end hb7 (by omega) (by omega) hown hb6⟩
end Go.Proofs.Ytddmpdpmgjggoaa
