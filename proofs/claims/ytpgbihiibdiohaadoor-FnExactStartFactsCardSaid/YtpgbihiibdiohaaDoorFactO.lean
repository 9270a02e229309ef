/-
  The facts of a start in memory of the call's own; the marks that the law writes into a list of terms, and reads again. Conditions: at most 2^20 elements, terms and coefficients.
-/
import Derived.Test.YtpgbihiibdiohaaDoorHoldsAt
import Derived.Test.YtpgbihiibdiohaaDoorMarkTS
namespace Go.Proofs.YtpgbihiibdiohaaDoor
set_option linter.unusedVariables false
open Go.RowKit

theorem ownTS_nil (w : World) (lo : Nat) : OwnTS w lo w.heap.size none 0 0 [] :=
  ⟨rfl, Nat.le_refl _, [], fun _ => undef, World.ownsRow_nil _ _ _ _, fun k hk => (by cases hk), fun j t hj => (by simp at hj), fun i j hi => (by omega), fun i hi => (by omega)⟩
theorem laid_stepG {wr w1 : World} {B n k : Nat} {ts : List (Int × List Int)} {t : Int × List Int} {A1 : Option Addr} {n' c' : Nat} (h : Laid wr B n k ts) (ht : ts[k]? = some t) (hk : k < n) (hB : B < wr.heap.size)
    (hb : Below wr.heap.size wr w1) (hown : OwnL w1 wr.heap.size w1.heap.size A1 n' c' t.2) :
    Laid ((w1.setCell ⟨B, k * 2, none⟩ (.int .i64 t.1)).setCell ⟨B, k * 2 + 1, none⟩ (.slice A1 n' c')) B n (k + 1) ts := by
  obtain ⟨xs, e, h1, h2, h3, h4⟩ := h
  have h1' := own_below h1 hb
  have s1 := (h1'.stored (k * 2) (.int .i64 t.1)).1
  have s2 := (s1.stored (k * 2 + 1) (.slice A1 n' c')).1
  have hxl : xs.length = n * 2 := h1.1
  have ho : Out B (B + 1) w1 ((w1.setCell ⟨B, k * 2, none⟩ (.int .i64 t.1)).setCell ⟨B, k * 2 + 1, none⟩ (.slice A1 n' c')) :=
    (Out.of_grown (only_set (g := B)) (fun j hj => by injection hj; omega)).trans (Out.of_grown (only_set (g := B)) (fun j hj => by injection hj; omega))
  have hos := ho.size
  have hbs := hb.size
  have hg1 : ∀ q, (Value.slice A1 n' c').ownBlock = some q → q < w1.heap.size := hown.2.2.1
  have hg2 : ∀ q, (Value.slice A1 n' c').ownBlock = some q → wr.heap.size ≤ q := fun q hq => (hown.2.1.lt q hq).1
  refine ⟨_, fun j => if j = k then .slice A1 n' c' else e j, s2, fun j hj u hu => ?_, fun i j hij hj q hq => ?_, fun i hi q hq => ?_⟩
  · by_cases e1 : j = k
    · subst e1
      rw [ht] at hu
      obtain rfl := Option.some.inj hu
      refine ⟨?_, ?_, ?_⟩
      · rw [List.getElem?_set_ne (by omega), List.getElem?_set_self (by omega)]
      · rw [List.getElem?_set_self (by rw [List.length_set]; omega)]; simp
      · exact ⟨A1, n', c', by simp, ((hown.out ho (by omega)).less (by omega)).wide hos (Nat.le_refl _)⟩
    · obtain ⟨a, b, A', m', c', d, f⟩ := h2 j (by omega) u hu
      refine ⟨?_, ?_, A', m', c', ?_, ?_⟩
      · rw [List.getElem?_set_ne (by omega), List.getElem?_set_ne (by omega)]; exact a
      · rw [List.getElem?_set_ne (by omega), List.getElem?_set_ne (by omega)]; simp only [e1, if_false]; exact b
      · simp only [e1, if_false]; exact d
      · exact ((f.next hb).out ho (by omega)).wide (by omega) (Nat.le_refl _)
  · by_cases e1 : j = k
    · have hi : i ≠ k := by omega
      simp only [hi, if_false] at hq
      have := h4 i (by omega) q hq
      simp only [e1, if_true]
      intro hq'
      have := hg2 q hq'
      omega
    · have hi : i ≠ k := by omega
      simp only [hi, if_false] at hq
      simp only [e1, if_false]
      exact h3 i j hij (by omega) q hq
  · by_cases e1 : i = k
    · simp only [e1, if_true] at hq
      have := hg1 q hq
      have := hg2 q hq
      omega
    · simp only [e1, if_false] at hq
      have := h4 i (by omega) q hq
      omega

set_option maxRecDepth 100000 in
set_option maxHeartbeats 2000000 in
theorem copyOf_o (c0 : Int) (A : Option Addr) (n c B : Nat) (zs : List Int) (w : World) (h : InL w B A n zs) (hB : B ≤ w.heap.size) (hn : n ≤ 100000) :
    Calls Tryd.prog 70 #[.agg #[.int .i64 c0, .slice A n c]] w fun e w' => ∃ A' c', e = .returned (.agg #[.int .i64 c0, .slice A' n c']) ∧ OwnL w' w.heap.size w'.heap.size A' n c' zs ∧ Below w.heap.size w w' := by
  have hb0 : Below w.heap.size w ((w.alloc (.cells #[.int .i64 c0, .slice A n c] 78)).alloc (.cells #[.int .i64 0, .slice none 0 0] 78)) := bon (bnew _ _) (bnew _ _)
  have hP : BlkIs ((w.alloc (.cells #[.int .i64 c0, .slice A n c] 78)).alloc (.cells #[.int .i64 0, .slice none 0 0] 78)) w.heap.size 78 #[.int .i64 c0, .slice A n c] := (blk_new w _ _ _ rfl).next (bnew _ _)
  have hX : BlkIs ((w.alloc (.cells #[.int .i64 c0, .slice A n c] 78)).alloc (.cells #[.int .i64 0, .slice none 0 0] 78)) (w.heap.size + 1) 78 #[.int .i64 0, .slice none 0 0] := blk_new _ _ _ _ (by simp)
  have hsz : ((w.alloc (.cells #[.int .i64 c0, .slice A n c] 78)).alloc (.cells #[.int .i64 0, .slice none 0 0] 78)).heap.size = w.heap.size + 2 := by simp
  have HI := Lib.hid (h.next hb0 hB)
  clear h
  go_enter Tryd.func70, Tryd.ntmps70
  go_wp2_with fail
  generalize (w.alloc (.cells #[.int .i64 c0, .slice A n c] 78)).alloc (.cells #[.int .i64 0, .slice none 0 0] 78) = W at hb0 hP hX hsz HI ⊢
  have hs0 := hb0.size
  have p0 : W.cell? ⟨w.heap.size, 0, none⟩ = some (.int .i64 c0) := hP.cell 0
  have p1 : W.cell? ⟨w.heap.size, 1, none⟩ = some (.slice A n c) := hP.cell 1
  have HO := Lib.hid (clone64_c A n c B zs W.drew HI.out (by show B ≤ W.heap.size; omega) hn)
  have HX := Lib.hid (show BlkIs W.drew (w.heap.size + 1) 78 #[.int .i64 0, .slice none 0 0] from hX)
  have hne : w.heap.size ≠ w.heap.size + 1 := by omega
  clear hX hP
  go_region_held3 (fun w' => w'.cell? ⟨w.heap.size, 0, none⟩ = some (.int .i64 c0) ∧ w'.cell? ⟨w.heap.size, 1, none⟩ = some (.slice A n c))
    (first | go_keep | exact ⟨cell_on p0 hb1, cell_on p1 hb1⟩ | exact ⟨set_far hne (set_far hne (cell_on p0 hb1)), set_far hne (set_far hne (cell_on p1 hb1))⟩ | fail)
    (first | (go_at_call 92; refine HO.out.mono ?_; rintro e w1 ⟨A', c', rfl, hown, hb1⟩; have hX1 := HX.out.next hb1; have z0 := hX1.cell 0; have z1 := hX1.cell 1; have f0 := hX1.frozen 0; have f1 := hX1.frozen 1; simp at z0 z1) | fail)
  have hX2 := (hX1.set 0 (.int .i64 c0)).set 1 (.slice A' n c')
  simp at hX2
  have r0 := hX2.cell 0
  have r1 := hX2.cell 1
  simp at r0 r1
  have ho : Out (w.heap.size + 1) (w.heap.size + 2) w1 ((w1.setCell ⟨w.heap.size + 1, 0, none⟩ (.int .i64 c0)).setCell ⟨w.heap.size + 1, 1, none⟩ (.slice A' n c')) := out_set (out_set (Out.refl _ _ _) (by omega)) (by omega)
  have hb01 := bon hb0 (bstep hb1)
  have hlo : w.heap.size + 2 ≤ W.drew.heap.size := by show w.heap.size + 2 ≤ W.heap.size; omega
  have hI := ((hown.out ho (.inl hlo)).less (lo' := w.heap.size) (show w.heap.size ≤ W.heap.size by omega)).wide ho.size (Nat.le_refl _)
  go_wp2_with fail
  refine bodyPost_ret (v := .agg #[.int .i64 c0, .slice A' n c']) (by simp [results, Tryd.results70, go_sem, r0, r1]) rfl ?_
  exact ⟨A', c', rfl, hI, hb01.trans (ho.below (Nat.le_succ _) hb01.size)⟩

set_option maxRecDepth 100000 in
set_option maxHeartbeats 2000000 in
theorem eachCopy_o (A : Option Addr) (n c B : Nat) (ts : List (Int × List Int)) (w : World) (h : InTS w B A n ts) (hB : B ≤ w.heap.size) (hn : n ≤ 1000) (he : ∀ t ∈ ts, t.2.length ≤ 100000) :
    Calls Tryd.prog 69 #[.slice A n c, .func (Fn.func 70) #[] #[]] w fun e w' => ∃ g, e = .returned (.slice (some ⟨g, 0, none⟩) n n) ∧ OwnTS w' w.heap.size w'.heap.size (some ⟨g, 0, none⟩) n n ts ∧ Below w.heap.size w w' := by
  obtain ⟨i0, hi, hz0, hz1, hz2⟩ := info_parts infoTerm2
  have hlen := Lib.hid h.1
  have HE := Lib.hid he
  clear he
  go_enter Tryd.func69, Tryd.ntmps69
  go_wp2_with (at_make; refine wpList_make_full _ rfl _ _ 40 rfl w.heap.size 78 i0 (.agg #[.int .i64 0, .slice none 0 0]) 2 Tryd.underlying40 hi hz0 hz1 .i64 .i64 _ _ n rfl rfl rfl rfl (by rw [hz2]; omega) (by unfold maxLen; omega) (Nat.le_refl _) ?_; intro w1 hown hgrow)
  have hb1 := (Below.refl w.heap.size w).grown hgrow (Nat.le_refl _) (fun _ h => by cases h)
  have hlt0 : w.heap.size < w1.heap.size := (hown.lt w.heap.size rfl).2
  have hl0 : Laid w1 w.heap.size n 0 ts := ⟨_, fun _ => undef, hown, fun j hj => by omega, fun i j _ hj => by omega, fun i hi => by omega⟩
  clear hgrow hown
  go_loopw [6, 7, 13] (fun _ _ i wr => ∃ k : Nat, k ≤ n ∧ i = .int .i64 k ∧ Laid wr w.heap.size n k ts ∧ w.heap.size < wr.heap.size ∧ Below w.heap.size w wr) (fun _ _ i _ => n - (intOf i).toNat)
  case atStart => exact ⟨0, Nat.zero_le _, rfl, hl0, hlt0, hb1⟩
  case round =>
    clear hl0 hlt0 hb1
    obtain ⟨k, hk, rfl, hl, hlt0, hbel⟩ := hrel
    have hsz := hbel.size
    by_cases hlt : k < n
    · obtain ⟨b, off, A', n', c', t, rfl, hb, ht, hc0, hc1, hin⟩ := (h.next hbel hB).at_ hlt
      have hb2 := bnew wr (.cells #[.int .i64 t.1, .slice A' n' c'] 78)
      have HC := Lib.hid (copyOf_o t.1 A' n' c' B t.2 _ (hin.next hb2 (by omega)) (Nat.le_trans (by omega) hb2.size) (by have := HE.out t (List.mem_of_getElem? ht); have := hin.1; omega))
      have HT := Lib.hid ht
      clear ht hin
      go_wp2_with fail
      refine HC.out.mono ?_
      rintro e w2 ⟨A1, c1, rfl, hIL, hb3⟩
      have hb23 := bon hb2 hb3
      have HL := Lib.hid (laid_stepG (c' := c1) hl HT.out hlt hlt0 hb23 (hIL.less (by simp)))
      obtain ⟨xs, _, hox, _⟩ := hl
      have hox2 := own_below hox hb23
      have hxl : xs.length = n * 2 := hox.1
      have q0 := hox2.cellAt (k * 2) (by omega)
      have q1 := hox2.cellAt (k * 2 + 1) (by omega)
      rw [List.getElem?_eq_getElem (by omega)] at q0 q1
      have f0 := hox2.frozenAt (k * 2)
      have f1 := hox2.frozenAt (k * 2 + 1)
      have hb4 := ((hbel.trans (hb23.mono hsz)).setCell (p := ⟨w.heap.size, k * 2, none⟩) (Nat.le_refl _) (.int .i64 t.1)).setCell (p := ⟨w.heap.size, k * 2 + 1, none⟩) (Nat.le_refl _) (.slice A1 n' c1)
      clear hox hox2 HC hIL
      go_wp2_with fail
      go_roundw
      case rel => exact ⟨k + 1, by omega, by go_num, HL.out, by simp; have := hb23.size; omega, hb4⟩
      case measure => simp [intOf]; omega
    · have e : k = n := by omega
      subst e
      go_wp2_with fail
      go_ret
      exact ⟨_, rfl, laid_end hl h.1 hlt0, hbel⟩
set_option maxRecDepth 100000 in
set_option maxHeartbeats 4000000 in
theorem startFacts_o (A : Option Addr) (n c : Nat) (ts : List (Int × List Int)) (D : Option Addr) (m d : Nat) (xs : List S8) (E : Option Addr) (q e' B : Nat) (us : List (Int × List Int)) (s : Int) (w : World) (hT : TabE w) (h : PIn w B A n ts D m xs E q us) (hB : B ≤ w.heap.size)
    (hn : progN n ts m xs q us ≤ 1048576) :
    Calls Tryd.prog 37 #[.agg #[.slice A n c, .slice D m d, .slice E q e'], .int .i64 s] w fun e w' => ∃ VA Vc, e = .returned (.tuple #[.slice VA (startR ts xs us s).1.length Vc, .bool (startR ts xs us s).2]) ∧ OwnTS w' w.heap.size w'.heap.size VA (startR ts xs us s).1.length Vc (startR ts xs us s).1 ∧ Below w.heap.size w w' := by
  have hb0 := bnew w (.cells #[.slice A n c, .slice D m d, .slice E q e'] 42)
  have hP : BlkIs (w.alloc (.cells #[.slice A n c, .slice D m d, .slice E q e'] 42)) w.heap.size 42 #[.slice A n c, .slice D m d, .slice E q e'] := blk_new _ _ _ _ rfl
  have HN := Lib.hid (h.next hb0 hB)
  have C0 := loopsOf_c A n c ts D m d xs E q e' B us _ (hT.next hb0) HN.out (Nat.le_trans hB hb0.size) hn
  have hlm : xs.length = m := h.2.1.1
  have hln : ts.length = n := h.1.1
  clear h hn
  obtain ⟨R, HR⟩ : ∃ R, Hid (startR ts xs us s = R) := ⟨_, rfl⟩
  rw [HR.out]
  cases hp : progB ts xs us with
  | false =>
    have HE : Hid (R = ([], false)) := HR.out.symm.trans (startR_no hp)
    rw [loopsR_no hp] at C0
    have HC := Lib.hid C0
    obtain rfl := HE.out
    clear C0 hp HR HE
    go_enter Tryd.func37, Tryd.ntmps37
    go_wp2_with fail
    generalize w.alloc (.cells #[.slice A n c, .slice D m d, .slice E q e'] 42) = W at hb0 hP HN HC ⊢
    refine HC.out.mono ?_
    rintro e w1 ⟨v, rfl, hown, hb1⟩
    go_wp2_with fail
    go_ret2
    exact ⟨none, 0, rfl, ownTS_nil _ _, bon hb0 hb1⟩
  | true =>
    obtain ⟨hpre, hall, _, h30⟩ := prog_parts hp
    rw [loopsR_yes hp] at C0
    have C1 : Calls Tryd.prog 35 #[.agg #[.slice A n c, .slice D m d, .slice E q e']] (w.alloc (.cells #[.slice A n c, .slice D m d, .slice E q e'] 42)) fun e w' => ∃ LA Lc, e = .returned (.tuple #[.slice LA (loopsU xs xs.length).length Lc, .bool true]) ∧ InL w' w'.heap.size LA (loopsU xs xs.length).length (loopsU xs xs.length) ∧ Below (w.alloc (.cells #[.slice A n c, .slice D m d, .slice E q e'] 42)).heap.size (w.alloc (.cells #[.slice A n c, .slice D m d, .slice E q e'] 42)) w' := by
      refine C0.mono ?_
      rintro e w1 ⟨v, rfl, hown, hb1⟩
      obtain ⟨A1, c1, rfl, _⟩ := own_slice hown
      exact ⟨A1, c1, rfl, (OwnL.of_own hown).all, hb1⟩
    have HC := Lib.hid C1
    have HL := loopsU_len xs xs.length
    by_cases h1 : s = -1
    · subst h1
      have HE : Hid (R = (ts, true)) := HR.out.symm.trans (startR_entry hp)
      obtain rfl := HE.out
      have hpp := overs_parts hpre
      have HPP := Lib.hid hpp.2
      have hn6 := hpp.1
      clear C0 C1 hp HR HE hall hpp
      generalize (loopsU xs xs.length) = ls at HC HL
      go_enter Tryd.func37, Tryd.ntmps37
      go_wp2_with fail
      generalize w.alloc (.cells #[.slice A n c, .slice D m d, .slice E q e'] 42) = W at hb0 hP HN HC ⊢
      have hs0 := hb0.size
      refine HC.out.mono ?_
      rintro e w1 ⟨LA, Lc, rfl, hIL, hb1⟩
      have hs1 := hb1.size
      have a0 : w1.cell? ⟨w.heap.size, 0, none⟩ = some (.slice A n c) := (hP.next hb1).cell 0
      have HEC := Lib.hid (eachCopy_o A n c B ts w1 (HN.out.1.next hb1 (by omega)) (by omega) (by omega) (fun t ht => by have := (HPP.out t ht).2; omega))
      clear hP HN HC hIL
      go_wp2_with fail
      refine HEC.out.mono ?_
      rintro e w2 ⟨VG, rfl, hf, hb2⟩
      go_wp2_with fail
      go_ret2
      exact ⟨some ⟨VG, 0, none⟩, n, by rw [hln]; exact rfl, by rw [hln]; exact hf.less (by omega), bon (bon hb0 hb1) hb2⟩
    · have q1 : (s == -1) = false := by simpa using h1
      have HKB := Lib.hid (fun W => isBetween_k s 0 (((loopsU xs xs.length).length : Int) - 1) W)
      by_cases hin : 0 ≤ s ∧ s < (loopsU xs xs.length).length
      · obtain ⟨h0, hlt⟩ := hin
        obtain ⟨k, rfl⟩ := Int.eq_ofNat_of_zero_le h0
        have hkl : k < (loopsU xs xs.length).length := by omega
        have HE : Hid (R = (factsAt xs k, true)) := HR.out.symm.trans (startR_loop hp hkl)
        obtain rfl := HE.out
        obtain ⟨i, x, hli, hxi, hfx, hil⟩ := factsAt_is hkl
        rw [hfx]
        have hxf := stmt_facts (hall x (List.mem_of_getElem? hxi))
        have HXF := Lib.hid hxf.2
        have hx6 := hxf.1
        have HKB2 : Hid (∀ W, Calls Tryd.prog 62 #[.int .i64 (k : Int), .int .i64 0, .int .i64 (((loopsU xs xs.length).length : Int) - 1)] W fun e w' => e = .returned (.bool true) ∧ W = w') := fun W => by
          have := HKB.out W
          rw [decide_eq_true ⟨h0, by omega⟩] at this
          exact this
        have HXI := Lib.hid hxi
        have HLI := Lib.hid hli
        clear C0 C1 hp HR HE hall HKB hxf hfx hxi hli
        generalize (loopsU xs xs.length) = ls at HC HL HKB2 HLI hkl hlt
        go_enter Tryd.func37, Tryd.ntmps37
        go_wp2_with fail
        generalize w.alloc (.cells #[.slice A n c, .slice D m d, .slice E q e'] 42) = W at hb0 hP HN HC ⊢
        have hs0 := hb0.size
        refine HC.out.mono ?_
        rintro e w1 ⟨LA, Lc, rfl, hIL, hb1⟩
        have hs1 := hb1.size
        have a1 : w1.cell? ⟨w.heap.size, 1, none⟩ = some (.slice D m d) := (hP.next hb1).cell 1
        obtain ⟨lb, lo, y, rfl, hlb, hy, hlc⟩ := hIL.2.int_at (k := k) hkl
        obtain rfl : y = (i : Int) := by rw [HLI.out] at hy; exact (Option.some.inj hy).symm
        have HIB := Lib.hid (HN.out.2.1.next hb1 (by omega))
        obtain ⟨bb, off, x', rfl, hbb, hx', As, ns, cs, Ai, ni, ci, Af, nf, cf, q0, q1', q2, q3, q4, q5, q6, q7, k1, k2, k3⟩ := HIB.out.at_ (k := i) (by omega)
        obtain rfl : x = x' := by rw [HXI.out] at hx'; exact Option.some.inj hx'
        have HEC := Lib.hid (eachCopy_o Af nf cf B x.f w1.drew (show InTS w1.drew B Af nf x.f from k3) (by show B ≤ w1.heap.size; omega) (by have := k3.1; omega) (fun t ht => by have := (HXF.out t ht).2; omega))
        have hnf := Lib.hid k3.1
        have hb01 := bon hb0 hb1
        clear hP HN HC hIL hy hx' HIB q0 q1' q2 q3 q4 q5 q6 k1 k2 k3
        go_wp2_with fail
        refine (HKB2.out _).mono ?_
        rintro e w9 ⟨rfl, rfl⟩
        go_wp2_with fail
        have hkm : (k : Int) < (ls.length : Int) := by omega
        have him : (i : Int) < (m : Int) := by omega
        go_region_held3 (fun w' => w'.cell? ⟨w.heap.size, 1, none⟩ = some (.slice (some ⟨bb, off, none⟩) m d) ∧ w'.cell? ⟨lb, lo + k, none⟩ = some (.int .i64 (i : Int)) ∧ w'.cell? ⟨bb, off + i * 8 + 7, none⟩ = some (.slice Af nf cf))
          (first | go_keep | exact ⟨cell_on a1 hb2, cell_on hlc hb2, cell_on q7 hb2⟩ | fail)
          (first | (go_at_call 69; refine HEC.out.mono ?_; rintro e w2 ⟨VG, rfl, hf, hb2⟩) | fail)
        go_wp2_with fail
        go_ret2
        exact ⟨some ⟨VG, 0, none⟩, nf, by rw [hnf.out]; exact rfl, by rw [hnf.out]; exact hf.less (show w.heap.size ≤ w1.heap.size by omega), bon hb01 (bstep hb2)⟩
      · have HE : Hid (R = ([], false)) := HR.out.symm.trans (startR_out (by omega))
        obtain rfl := HE.out
        have HKB2 : Hid (∀ W, Calls Tryd.prog 62 #[.int .i64 s, .int .i64 0, .int .i64 (((loopsU xs xs.length).length : Int) - 1)] W fun e w' => e = .returned (.bool false) ∧ W = w') := fun W => by
          have := HKB.out W
          rw [decide_eq_false (by omega)] at this
          exact this
        clear C0 C1 hp HR HE hall HKB hin
        generalize (loopsU xs xs.length) = ls at HC HL HKB2
        go_enter Tryd.func37, Tryd.ntmps37
        go_wp2_with fail
        generalize w.alloc (.cells #[.slice A n c, .slice D m d, .slice E q e'] 42) = W at hb0 hP HN HC ⊢
        refine HC.out.mono ?_
        rintro e w1 ⟨LA, Lc, rfl, hIL, hb1⟩
        clear hP HN HC hIL
        go_wp2_with fail
        refine (HKB2.out _).mono ?_
        rintro e w9 ⟨rfl, rfl⟩
        go_wp2_with fail
        go_ret2
        exact ⟨none, 0, rfl, ownTS_nil _ _, bon hb0 hb1⟩

/-- Marks that rise through a list of terms. -/
def riseT : Int → List (Int × List Int) → List (Int × List Int)
  | _, [] => []
  | k, t :: ts => (k, rise (k + 1) t.2.length) :: riseT (k + 1 + t.2.length) ts
theorem totT_cons (t : Int × List Int) (ts : List (Int × List Int)) : totT (t :: ts) = t.2.length + totT ts := by simp [totT]
theorem riseT_len : ∀ (k : Int) (ts : List (Int × List Int)), (riseT k ts).length = ts.length
  | _, [] => rfl
  | k, t :: ts => by simp [riseT, riseT_len]
theorem riseT_at : ∀ (k : Int) (ts : List (Int × List Int)) (j : Nat) (t : Int × List Int), ts[j]? = some t → (riseT k ts)[j]? = some (k + ((j + totT (ts.take j) : Nat) : Int), rise (k + ((j + totT (ts.take j) : Nat) : Int) + 1) t.2.length)
  | _, [], j, t, h => by simp at h
  | k, u :: ts, 0, t, h => by
    obtain rfl : u = t := by simpa using h
    simp [riseT, totT]
  | k, u :: ts, j + 1, t, h => by
    have ih := riseT_at (k + 1 + u.2.length) ts j t (by simpa using h)
    rw [riseT, List.getElem?_cons_succ, ih, List.take_succ_cons, totT_cons]
    have e : k + 1 + (u.2.length : Int) + ((j + totT (ts.take j) : Nat) : Int) = k + ((j + 1 + (u.2.length + totT (ts.take j)) : Nat) : Int) := by omega
    rw [e]
/-- Marks up to a place, and what was there behind it. -/
def mixT (k : Int) (ts : List (Int × List Int)) (j : Nat) : List (Int × List Int) := (riseT k ts).take j ++ ts.drop j
theorem mixT_zero (k : Int) (ts : List (Int × List Int)) : mixT k ts 0 = ts := by simp [mixT]
theorem mixT_end (k : Int) (ts : List (Int × List Int)) : mixT k ts ts.length = riseT k ts := by
  unfold mixT
  rw [List.take_of_length_le (by rw [riseT_len]; exact Nat.le_refl _)]; simp
theorem mixT_len (k : Int) (ts : List (Int × List Int)) {j : Nat} (h : j ≤ ts.length) : (mixT k ts j).length = ts.length := by
  unfold mixT
  rw [List.length_append, List.length_take, riseT_len, List.length_drop]; omega
theorem mixT_at (k : Int) {ts : List (Int × List Int)} {j : Nat} {t : Int × List Int} (h : ts[j]? = some t) : (mixT k ts j)[j]? = some t := by
  have hj := (List.getElem?_eq_some_iff.1 h).1
  have hl : ((riseT k ts).take j).length = j := by rw [List.length_take, riseT_len]; omega
  unfold mixT
  rw [List.getElem?_append_right (by omega), hl, Nat.sub_self, List.getElem?_drop]
  simpa using h
theorem mixT_next (k : Int) {ts : List (Int × List Int)} {j : Nat} {t : Int × List Int} (h : ts[j]? = some t) : mixT k ts (j + 1) = (mixT k ts j).set j (k + ((j + totT (ts.take j) : Nat) : Int), rise (k + ((j + totT (ts.take j) : Nat) : Int) + 1) t.2.length) := by
  have hj := (List.getElem?_eq_some_iff.1 h).1
  have hl : ((riseT k ts).take j).length = j := by rw [List.length_take, riseT_len]; omega
  unfold mixT
  rw [List.set_append_right _ _ (by omega), hl, Nat.sub_self, List.drop_eq_getElem_cons hj, List.set_cons_zero, List.take_add_one, riseT_at k ts j t h]
  simp

set_option maxRecDepth 100000 in
set_option maxHeartbeats 2000000 in
theorem markTermS_o (lo hi : Nat) (A : Option Addr) (n c : Nat) (ts : List (Int × List Int)) (k0 : Int) (w : World) (h : OwnTS w lo hi A n c ts) (hn : n ≤ 1048576) (he : totT ts ≤ 1048576) (hk1 : 0 ≤ k0) (hk2 : k0 ≤ 100000000) :
    Calls Tryd.prog 39 #[.slice A n c, .int .i64 k0] w fun e w' => e = .returned (.int .i64 (k0 + ((n + totT ts : Nat) : Int))) ∧ OwnTS w' lo hi A n c (riseT k0 ts) ∧ Out lo hi w w' := by
  have hlen := Lib.hid h.1
  have HR0 : Hid (OwnTS w lo hi A n c (mixT k0 ts 0)) := by show OwnTS w lo hi A n c (mixT k0 ts 0); rw [mixT_zero]; exact h
  clear h
  go_enter Tryd.func39, Tryd.ntmps39
  go_wp2_with fail
  go_loopw [1, 5] (fun kv i wr => ∃ j : Nat, j ≤ n ∧ i = .int .i64 j ∧ kv = .int .i64 (k0 + ((j + totT (ts.take j) : Nat) : Int)) ∧ Hid (OwnTS wr lo hi A n c (mixT k0 ts j)) ∧ Out lo hi w wr) (fun _ i _ => n - (intOf i).toNat)
  case atStart => exact ⟨0, Nat.zero_le _, rfl, by simp [totT], HR0, Out.refl _ _ _⟩
  case round =>
    clear HR0
    obtain ⟨j, hj, rfl, rfl, hR, hout⟩ := hrel
    by_cases hlt : j < n
    · obtain ⟨h1, h2, xs, e, h3, h4, h5, h6, h7⟩ := hR.out
      obtain ⟨t, ht⟩ : ∃ t, ts[j]? = some t := ⟨_, List.getElem?_eq_getElem (by have := hlen.out; omega)⟩
      obtain ⟨hxj, hxe, A', n', c', ee, hown⟩ := h5 j t (mixT_at k0 ht)
      have hxl := h3.1
      obtain ⟨g, rfl⟩ : ∃ g, A = some ⟨g, 0, none⟩ := by
        rcases h3.2 with h' | ⟨g, cap, cur, k1, _⟩
        · have := h'.2; omega
        · injection k1 with k1; exact ⟨g, k1⟩
      have hgl := h3.lt g rfl
      have hgh := h4 g rfl
      have hnl := Nat.le_trans (totT_mem (List.mem_of_getElem? ht)) he
      have hn' := hown.1
      have hts := totT_succ ht
      have htk := totT_take ts j
      have hnext := mixT_next k0 ht
      rw [hn'] at hnext
      obtain ⟨K, hK⟩ : ∃ K : Int, K = k0 + ((j + totT (ts.take j) : Nat) : Int) := ⟨_, rfl⟩
      have hKn : K + 1 + (n' : Int) = k0 + ((j + 1 + totT (ts.take (j + 1)) : Nat) : Int) := by rw [hts, hn', hK]; omega
      have hK1 : 0 ≤ K := by omega
      have hK2 : K ≤ 110000000 := by omega
      rw [← hK] at hnext ⊢
      have hst := h3.stored (j * 2) (.int .i64 K)
      have hfk := h3.frozenAt (j * 2)
      have hcl := h3.cellAt (j * 2) (by omega)
      rw [hxj] at hcl
      have hc1 := hst.1.cellAt (j * 2 + 1) (by omega)
      rw [List.getElem?_set_ne (by omega), hxe, ee] at hc1
      have hgr := hst.2
      have hs1 := hgr.size
      have hfar : ∀ i, i < n → ∀ A'' n'' c'' zs, e i = .slice A'' n'' c'' → OwnL wr lo hi A'' n'' c'' zs → OwnL (wr.setCell ⟨g, j * 2, none⟩ (.int .i64 K)) lo hi A'' n'' c'' zs := fun i hi A'' n'' c'' zs hee ho =>
        ho.far (fun q hq hql => hgr.block q hql (fun hh => h7 i hi q (by rw [hee]; exact hq) hh.symm)) hs1
      have hown1 := hfar j hlt A' n' c' t.2 ee hown
      have HM := Lib.hid (mark_c lo A' n' c' (t.2.map ic) (K + 1) _ hown1.2.1 (by omega) (by omega) (by omega))
      have hout1 : Out lo hi w (wr.setCell ⟨g, j * 2, none⟩ (.int .i64 K)) := hout.trans (Out.of_grown hgr (fun k hk => by injection hk with hk; omega))
      have hob := hown1.2.2.1
      have hol := fun q hq => (hown1.2.1.lt q hq).1
      have H := Lib.hid (And.intro h2 (And.intro h4 (And.intro h5 (And.intro h6 h7))))
      have HFAR := Lib.hid hfar
      have HRW := Lib.hid hst.1
      have EE := Lib.hid ee
      have HXE := Lib.hid hxe
      have HNX := Lib.hid hnext
      have HLN := Lib.hid h1
      have hxl2 := Lib.hid hxl
      clear hfar hst hown hown1 ht ee hR hts hxl h3 hK h1 h2 h4 h5 h6 h7 hxj hxe hnext
      go_wp2_with fail
      refine HM.out.mono ?_
      rintro e1 w2 ⟨rfl, hown2, hg2⟩
      have hs2 := hg2.size
      go_wp2_with fail
      go_roundw
      case rel =>
        obtain ⟨h2, h4, h5, h6, h7⟩ := H.out
        have hnot : ∀ v : Value, (∀ q, (e j).ownBlock = some q → v.ownBlock ≠ some q) → ∀ q, v.ownBlock = some q → q < (wr.setCell ⟨g, j * 2, none⟩ (.int .i64 K)).heap.size → w2.heap[q]? = (wr.setCell ⟨g, j * 2, none⟩ (.int .i64 K)).heap[q]? := fun v hv q hq hql =>
          hg2.block q hql (fun hr => hv q (by rw [EE.out]; exact hr.symm) hq)
        refine ⟨j + 1, by omega, by go_num, congrArg (Value.int .i64) (by omega), ?_, hout1.trans (Out.of_grown hg2 (fun q hq => ⟨hol q hq, hob q hq⟩))⟩
        show OwnTS w2 lo hi (some ⟨g, 0, none⟩) n c (mixT k0 ts (j + 1))
        rw [HNX.out]
        refine ⟨by rw [List.length_set]; exact HLN.out, by omega, xs.set (j * 2) (.int .i64 K), e, ⟨HRW.out.1, ?_⟩, h4, fun i u hu => ?_, h6, h7⟩
        · rcases HRW.out.2 with h' | ⟨g', cap, cur, k1, k2, k3, k4⟩
          · exact .inl h'
          · refine .inr ⟨g', cap, cur, k1, k2, ?_, k4⟩
            have hg : (Value.slice (some ⟨g, 0, none⟩) n c).ownBlock = some g' := by rw [k1]; rfl
            have hgg : g' = g := by have hg3 : some g = some g' := hg; injection hg3 with hg3; exact hg3.symm
            rw [hnot _ (fun q hq => h7 j hlt q hq) g' hg (by rw [hgg]; omega)]
            exact k3
        · have hil : i < n := by have := (List.getElem?_eq_some_iff.1 hu).1; rw [List.length_set] at this; have := HLN.out; omega
          by_cases e1 : i = j
          · subst e1
            rw [List.getElem?_set_self (by have := HLN.out; omega)] at hu
            obtain rfl := Option.some.inj hu
            refine ⟨?_, ?_, A', n', c', EE.out, rise_len _ _, hown2, hob, by omega⟩
            · rw [List.getElem?_set_self (by have := hxl2.out; omega)]
            · rw [List.getElem?_set_ne (by omega)]; exact HXE.out
          · rw [List.getElem?_set_ne (by omega)] at hu
            obtain ⟨a, b, A'', n'', c'', he', hown'⟩ := h5 i u hu
            refine ⟨?_, ?_, A'', n'', c'', he', (HFAR.out i hil A'' n'' c'' u.2 he' hown').far (hnot _ (fun q hq => by rw [← he']; exact h6 j i hlt hil (fun h => e1 h.symm) q hq)) hs2⟩
            · rw [List.getElem?_set_ne (by omega)]; exact a
            · rw [List.getElem?_set_ne (by omega)]; exact b
      case measure => simp [intOf]; omega
    · have e1 : j = n := by omega
      subst e1
      have e2 : totT (ts.take j) = totT ts := by rw [List.take_of_length_le (by have := hlen.out; omega)]
      have HF : Hid (OwnTS wr lo hi A j c (riseT k0 ts)) := by show OwnTS wr lo hi A j c (riseT k0 ts); have := hR.out; rw [← mixT_end]; rw [← hlen.out] at this ⊢; exact this
      rw [e2]
      clear e2 hR
      go_wp2_with fail
      go_ret
      exact ⟨rfl, HF.out, hout⟩

set_option maxRecDepth 100000 in
set_option maxHeartbeats 2000000 in
theorem heldTermS_k (A : Option Addr) (n c B : Nat) (ts : List (Int × List Int)) (k0 : Int) (w : World) (h : InTS w B A n (riseT k0 ts)) (hB : B ≤ w.heap.size) (hn : n ≤ 1048576) (he : totT ts ≤ 1048576) (hk1 : 0 ≤ k0) (hk2 : k0 ≤ 100000000) :
    Calls Tryd.prog 40 #[.slice A n c, .int .i64 k0] w fun e w' => e = .returned (.int .i64 (k0 + ((n + totT ts : Nat) : Int))) ∧ Below w.heap.size w w' := by
  have hlen : Hid (ts.length = n) := by show ts.length = n; rw [← riseT_len k0 ts]; exact h.1
  go_enter Tryd.func40, Tryd.ntmps40
  go_wp2_with fail
  go_loopw [1, 5] (fun kv i wr => ∃ j : Nat, j ≤ n ∧ i = .int .i64 j ∧ kv = .int .i64 (k0 + ((j + totT (ts.take j) : Nat) : Int)) ∧ Below w.heap.size w wr) (fun _ i _ => n - (intOf i).toNat)
  case atStart => exact ⟨0, Nat.zero_le _, rfl, by simp [totT], Below.refl _ _⟩
  case round =>
    obtain ⟨j, hj, rfl, rfl, hbel⟩ := hrel
    have hsz := hbel.size
    by_cases hlt : j < n
    · obtain ⟨t, ht⟩ : ∃ t, ts[j]? = some t := ⟨_, List.getElem?_eq_getElem (by have := hlen.out; omega)⟩
      obtain ⟨b, off, A', n', c', u, rfl, hb, hu, hc0, hc1, hin⟩ := (h.next hbel hB).at_ hlt
      have hr := riseT_at k0 ts j t ht
      rw [hu] at hr
      obtain rfl := Option.some.inj hr
      have hn' : t.2.length = n' := by have := hin.1; rw [rise_len] at this; exact this
      have hnl := Nat.le_trans (totT_mem (List.mem_of_getElem? ht)) he
      have hts := totT_succ ht
      have htk := totT_take ts j
      obtain ⟨K, hK⟩ : ∃ K : Int, K = k0 + ((j + totT (ts.take j) : Nat) : Int) := ⟨_, rfl⟩
      have hKn : K + 1 + (n' : Int) = k0 + ((j + 1 + totT (ts.take (j + 1)) : Nat) : Int) := by rw [hts, hn', hK]; omega
      rw [← hK] at hin hc0 ⊢
      rw [hn'] at hin
      have hK1 : 0 ≤ K := by omega
      have hK2 : K ≤ 110000000 := by omega
      have HH := Lib.hid (heldInt64S_k A' n' c' B (K + 1) wr hin (by omega) (by omega) (by omega))
      have q1 : (K != K) = false := by simp
      have q2 : ¬ K + 1 + (n' : Int) < 0 := by omega
      have HKN := Lib.hid hKn
      clear hin hu hr ht hts hK hKn
      go_wp2_with fail
      refine HH.out.mono ?_
      rintro e1 w2 ⟨rfl, hb2⟩
      go_wp2_with fail
      go_roundw
      case rel => exact ⟨j + 1, by omega, by go_num, congrArg (Value.int .i64) HKN.out, bon hbel hb2⟩
      case measure => simp [intOf]; omega
    · have e1 : j = n := by omega
      subst e1
      have e2 : totT (ts.take j) = totT ts := by rw [List.take_of_length_le (by have := hlen.out; omega)]
      rw [e2]
      clear e2
      go_wp2_with fail
      go_ret
      exact ⟨rfl, hbel⟩

set_option maxRecDepth 100000 in
set_option maxHeartbeats 2000000 in
theorem specStart_c (A : Option Addr) (n c : Nat) (ts : List (Int × List Int)) (D : Option Addr) (m d : Nat) (xs : List S8) (E : Option Addr) (q e' B : Nat) (us : List (Int × List Int)) (s : Int) (w : World) (h : PIn w B A n ts D m xs E q us) (hB : B ≤ w.heap.size)
    (hn : progN n ts m xs q us ≤ 1048576) :
    Calls Tryd.prog 36 #[.agg #[.slice A n c, .slice D m d, .slice E q e'], .int .i64 s] w fun e w' => ∃ VA Vc, e = .returned (.tuple #[.slice VA (startR ts xs us s).1.length Vc, .bool (startR ts xs us s).2]) ∧ InTS w' w'.heap.size VA (startR ts xs us s).1.length (startR ts xs us s).1 ∧ Below w.heap.size w w' := by
  have hb0 := bnew w (.cells #[.slice A n c, .slice D m d, .slice E q e'] 42)
  have hP : BlkIs (w.alloc (.cells #[.slice A n c, .slice D m d, .slice E q e'] 42)) w.heap.size 42 #[.slice A n c, .slice D m d, .slice E q e'] := blk_new _ _ _ _ rfl
  have HN := Lib.hid (h.next hb0 hB)
  have hmle : m ≤ 1048576 := by unfold progN at hn; omega
  have hlm : xs.length = m := h.2.1.1
  clear h
  obtain ⟨R, HR⟩ : ∃ R, Hid (startR ts xs us s = R) := ⟨_, rfl⟩
  rw [HR.out]
  go_enter Tryd.func36, Tryd.ntmps36
  go_wp2_with fail
  generalize w.alloc (.cells #[.slice A n c, .slice D m d, .slice E q e'] 42) = W at hb0 hP HN ⊢
  have hs0 := hb0.size
  have p0 : W.cell? ⟨w.heap.size, 0, none⟩ = some (.slice A n c) := hP.cell 0
  have p1 : W.cell? ⟨w.heap.size, 1, none⟩ = some (.slice D m d) := hP.cell 1
  have p2 : W.cell? ⟨w.heap.size, 2, none⟩ = some (.slice E q e') := hP.cell 2
  refine (l03Is_c w.heap.size A n c ts D m d xs E q e' B us W HN.out p0 p1 p2 hn).mono ?_
  rintro e9 w9 ⟨rfl, rfl⟩
  cases hp : progB ts xs us with
  | false =>
    have HE : Hid (R = ([], false)) := HR.out.symm.trans (startR_no hp)
    obtain rfl := HE.out
    clear HE HR hp hP
    go_wp2_with fail
    go_ret2
    exact ⟨none, ⟨0, rfl⟩, ⟨rfl, TRow.nil⟩, hb0⟩
  | true =>
    have HPP := Lib.hid hp
    clear hp
    have HC1 := Lib.hid (l04Start_c w.heap.size D m d xs B s W HN.out.2.1 (by omega) p1 hmle)
    obtain ⟨bb, HBB⟩ : ∃ x, Hid (decide (-1 ≤ s ∧ s < (loopsU xs m).length) = x) := ⟨_, rfl⟩
    rw [HBB.out] at HC1
    go_wp2_with fail
    refine HC1.out.mono ?_
    rintro e9 w1 ⟨rfl, hb1⟩
    have hs1 := hb1.size
    have hb01 := bon hb0 hb1
    cases bb with
    | false =>
      have HE : Hid (R = ([], false)) := HR.out.symm.trans (startR_out (by rw [hlm]; exact of_decide_eq_false HBB.out))
      obtain rfl := HE.out
      clear HE HR HC1 hP
      go_wp2_with fail
      go_ret2
      exact ⟨none, ⟨0, rfl⟩, ⟨rfl, TRow.nil⟩, hb01⟩
    | true =>
      have hrange : -1 ≤ s ∧ s < (loopsU xs m).length := of_decide_eq_true HBB.out
      have hok := startR_ok (us := us) HPP.out (show -1 ≤ s ∧ s < (loopsU xs xs.length).length by rw [hlm]; exact hrange)
      have p0' : w1.cell? ⟨w.heap.size, 0, none⟩ = some (.slice A n c) := (hP.next hb1).cell 0
      have p1' : w1.cell? ⟨w.heap.size, 1, none⟩ = some (.slice D m d) := (hP.next hb1).cell 1
      have hF := l04Facts_c w.heap.size A n c ts D m d xs E q e' B us s w1 (HN.out.next hb1 (by omega)) (by omega) p0' p1' HPP.out hrange
      rw [HR.out] at hF hok
      have HF := Lib.hid hF
      have HOK : Hid (R.2 = true) := hok
      clear hF hok HR HC1 hP HBB hrange p0 p1 p2
      go_wp2_with fail
      refine HF.out.mono ?_
      rintro e9 w2 ⟨v, rfl, hf, hb2⟩
      obtain ⟨VA, Vc, rfl, hin⟩ := hf.inn
      go_wp2_with fail
      go_ret2
      exact ⟨VA, Vc, by rw [HOK.out]; exact rfl, hin, bon hb01 hb2⟩
end Go.Proofs.YtpgbihiibdiohaaDoor
