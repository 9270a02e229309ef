/-
  The closure of classes: a row of numbers of kinds, added to the work list. Conditions: a policy with at most 1000 states.
-/
import Derived.Test.YtopijecdhjnipaaWorkR
import Derived.Test.YtopijecdhjnipaaAlikM
namespace Go.Proofs.Ytopijecdhjnipaa
set_option linter.unusedVariables false
open Go.RowKit

/-- A row is added, whether there are others or not. -/
theorem addR_any_c (g lo B : Nat) (A : Option Addr) (c : Nat) (mv : Option Nat) (L : List (List Int)) (x0 x1 x2 x3 : Int) (w : World) (h : WLR w g lo B A c mv L) (hn : mv = none → (Value.slice A 0 0).ownBlock = none ∧ w.heap.size + 1 < B) (hx : RowG [x0, x1, x2, x3]) (hL : L.length ≤ 1000) (hlo : lo ≤ w.heap.size) :
    Calls Try.prog 58 #[.pointer (some ⟨g, 0, none⟩), .agg #[.int .i64 x0, .int .i64 x1, .int .i64 x2, .int .i64 x3]] w fun e w' => ∃ A' c' b', e = .returned (.int .i64 ((addR [x0, x1, x2, x3] L).idxOf [x0, x1, x2, x3] : Int)) ∧ WLR w' g lo B A' c' (some b') (addR [x0, x1, x2, x3] L) ∧ Turns (wb g A mv) w w' ∧ ∀ k, wb g A' (some b') k → wb g A mv k ∨ w.heap.size ≤ k := by
  cases mv with
  | some b =>
    refine (addR_c g lo B A c b L x0 x1 x2 x3 w h hx hL hlo).mono ?_
    rintro e w' ⟨A', c', h1, h2, h3, h4⟩
    exact ⟨A', c', b, h1, h2, h3, h4⟩
  | none =>
    obtain ⟨n1, n2⟩ := hn rfl
    refine (addR_first_c g lo B A c L x0 x1 x2 x3 w h n1 hx hlo n2).mono ?_
    rintro e w' ⟨A', c', b', h1, h2, h3, h4⟩
    exact ⟨A', c', b', h1, h2, h3.more (fun k _ e => .inl e), fun k hk => (h4 k hk).imp .inl id⟩

/-- The numbers of the first j events, the others 0. -/
def bhJ (xs : List (List Int)) (cl : List Int) (s j : Nat) : List Int := (bhL xs cl s).take j ++ List.replicate (4 - j) 0
theorem bhL_at {xs : List (List Int)} {cl : List Int} {s j : Nat} (hj : j < 4) : (bhL xs cl s)[j]? = some (bh1 xs cl s j) := by
  have : j = 0 ∨ j = 1 ∨ j = 2 ∨ j = 3 := by omega
  rcases this with rfl | rfl | rfl | rfl <;> rfl
theorem bhJ_len {xs : List (List Int)} {cl : List Int} {s j : Nat} (hj : j ≤ 4) : (bhJ xs cl s j).length = 4 := by
  unfold bhJ
  rw [List.length_append, List.length_take, List.length_replicate]
  show min j 4 + (4 - j) = 4
  omega
theorem bhJ_set {xs : List (List Int)} {cl : List Int} {s j : Nat} (hj : j < 4) : (bhJ xs cl s j).set j (bh1 xs cl s j) = bhJ xs cl s (j + 1) := by
  unfold bhJ
  have h1 : ((bhL xs cl s).take j).length = j := by rw [List.length_take]; show min j 4 = j; omega
  rw [List.set_append_right _ _ (by omega), h1, Nat.sub_self, List.take_add_one, bhL_at hj]
  obtain ⟨m, hm⟩ : ∃ m, 4 - j = m + 1 := ⟨3 - j, by omega⟩
  rw [hm, List.replicate_succ, List.set_cons_zero, show 4 - (j + 1) = m by omega]
  simp
theorem bhJ_all (xs : List (List Int)) (cl : List Int) (s : Nat) : bhJ xs cl s 4 = bhL xs cl s := rfl
theorem bhL_good {xs : List (List Int)} (ok : RectP xs) {t : Nat} {cl : List Int} (h : ClsI xs t cl) (hn : xs.length ≤ 1000) {s : Nat} (hs : s < xs.length) : RowG (bhL xs cl s) := by
  refine ⟨rfl, fun x hx => ?_⟩
  have key : ∀ e, e < 4 → -1 ≤ bh1 xs cl s e ∧ bh1 xs cl s e ≤ 1000000 := fun e he => by
    by_cases hq : nxP xs s e < 0
    · rw [bh1_no hq]; omega
    · rw [bh1_yes hq]; have := h.num _ (ok.nx hs he hq); omega
  simp only [bhL, List.mem_cons, List.not_mem_nil, or_false] at hx
  rcases hx with rfl | rfl | rfl | rfl
  · exact key 0 (by omega)
  · exact key 1 (by omega)
  · exact key 2 (by omega)
  · exact key 3 (by omega)

set_option maxRecDepth 100000 in
set_option maxHeartbeats 4000000 in
theorem classes1_c (xs : List (List Int)) (t s : Nat) (cl : List Int) (bk g : Nat) (A0 : Option Addr) (c0 : Nat) (Ac : Option Addr) (n cc : Nat) (lo B B1 : Nat) (A : Option Addr) (c : Nat) (mv : Option Nat) (L : List (List Int)) (w : World)
    (ok : RectP xs) (hcl : ClsI xs t cl) (hxn : xs.length = n) (hn : n ≤ 1000) (hs : s < n) (hr : InL w B1 A0 4 (xs.getD s [])) (hk : BlkIs w bk 35 #[.slice Ac n cc]) (hc : InL w B1 Ac n cl) (hB1 : B1 ≤ w.heap.size)
    (hW : WLR w g lo B A c mv L) (hn0 : mv = none → (Value.slice A 0 0).ownBlock = none ∧ w.heap.size + 2 < B) (hL : L.length ≤ 1000) (hlo : lo ≤ w.heap.size) :
    Calls Try.prog 57 #[.slice A0 4 c0, .pointer (some ⟨bk, 0, none⟩), .pointer (some ⟨g, 0, none⟩)] w fun e w' => ∃ A' c' b', e = .returned (.int .i64 ((addR (bhL xs cl s) L).idxOf (bhL xs cl s) : Int)) ∧ WLR w' g lo B A' c' (some b') (addR (bhL xs cl s) L) ∧ Turns (wb g A mv) w w' ∧ ∀ k, wb g A' (some b') k → wb g A mv k ∨ w.heap.size ≤ k := by
  have hb0 := bnew w (.cells #[.int .i64 0, .int .i64 0, .int .i64 0, .int .i64 0] 81)
  have hG0 : BlkIs (w.alloc (.cells #[.int .i64 0, .int .i64 0, .int .i64 0, .int .i64 0] 81)) w.heap.size 81 ((bhJ xs cl s 0).map ic).toArray := blk_new _ _ _ _ rfl
  have hsz0 : (w.alloc (.cells #[.int .i64 0, .int .i64 0, .int .i64 0, .int .i64 0] 81)).heap.size = w.heap.size + 1 := by simp
  have HSZ0 := Lib.hid hsz0
  have HOK := Lib.hid ok
  have HCL := Lib.hid hcl
  have HRW := Lib.hid hr
  have HC := Lib.hid hc
  have HW := Lib.hid hW
  have hbk := hk.lt
  have hw_lt : ∀ k, wb g A mv k → k < w.heap.size := fun k h => (hW.ge h).2
  have HK := Lib.hid hk
  clear hsz0 ok hcl hr hc hW hk
  go_enter Try.func57, Try.ntmps57
  go_wp2_with fail
  obtain ⟨gB, hgB⟩ : ∃ gB, w.heap.size = gB := ⟨_, rfl⟩
  have HGB := Lib.hid hgB
  rw [hgB] at hG0 hbk ⊢
  clear hgB
  generalize w.alloc (.cells #[.int .i64 0, .int .i64 0, .int .i64 0, .int .i64 0] 81) = W0 at hb0 hG0 HSZ0 ⊢
  go_loopw [6, 7, 10] (fun _ _ i wr => ∃ j : Nat, j ≤ 4 ∧ i = .int .i64 j ∧ BlkIs wr gB 81 ((bhJ xs cl s j).map ic).toArray ∧ Turns (fun k => k = gB) W0 wr ∧ Hid (wr.heap.size = W0.heap.size)) (fun _ _ i _ => 4 - (intOf i).toNat)
  case atStart => exact ⟨0, by omega, rfl, hG0, Turns.refl _ _, rfl⟩
  case round =>
    clear hG0
    obtain ⟨j, hj, rfl, hG, hT, hS⟩ := hrel
    have hbw : Below w.heap.size w wr := hb0.trans (hT.below (fun k e => by have := HGB.out; omega) (by have := HSZ0.out; omega))
    have hlt := hG.lt
    by_cases hj4 : j < 4
    · obtain ⟨r, hr, hrl, hz, hlo1, hhi1⟩ := HOK.out.at_ (s := s) (e := j) (by omega) hj4
      obtain ⟨b3, off3, y, rfl, hb3, hy, hcy⟩ := (HRW.out.next hbw hB1).2.int_at (k := j) (by rw [HRW.out.1]; exact hj4)
      have hye : y = nxP xs s j := by
        rw [show xs.getD s [] = r by rw [List.getD, hr]; rfl, hz] at hy
        exact (Option.some.inj hy).symm
      subst hye
      have i1 : (j : Int) < 4 := by omega
      have hjl : j < (bhJ xs cl s j).length := by rw [bhJ_len hj]; exact hj4
      have z0 := hG.cell j
      have z1 := hG.frozen j
      have z2 : ∃ v0, wr.cell? ⟨gB, j, none⟩ = some (.int .i64 v0) := ⟨(bhJ xs cl s j)[j], by rw [z0]; simp [hjl, ic]⟩
      obtain ⟨v0, z3⟩ := z2
      by_cases hq : nxP xs s j < 0
      · have hm1 : nxP xs s j = -1 := by omega
        have HB1' := bh1_no (c := cl) hq
        rw [hm1] at hcy
        have hG2 : BlkIs (wr.setCell ⟨gB, j, none⟩ (.int .i64 (-1))) gB 81 ((bhJ xs cl s (j + 1)).map ic).toArray := by
          have h1 := hG.set j (.int .i64 (-1))
          rw [List.setIfInBounds_toArray] at h1
          rw [← bhJ_set hj4, HB1', List.map_set]
          exact h1
        have HG2 := Lib.hid hG2
        clear hy hz hr hm1 HB1' z0 hG2 hq hlo1 hhi1
        go_wp2_with fail
        go_roundw
        case rel => exact ⟨j + 1, by omega, by go_num, HG2.out, hT.set rfl, by show _ = _; rw [← hS.out]; simp⟩
        case measure => simp [intOf]; omega
      · obtain ⟨u, hu⟩ : ∃ u : Nat, nxP xs s j = u := ⟨(nxP xs s j).toNat, by omega⟩
        have hun := HOK.out.nx (s := s) (e := j) (by omega) hj4 hq
        have HB1' := bh1_yes (c := cl) hq
        rw [hu, Int.toNat_natCast] at hun HB1'
        rw [hu] at hcy
        have hlen := HCL.out.len
        have hget : cl[u]? = some (cl.getD u 0) := by rw [List.getD, List.getElem?_eq_getElem (by omega)]; rfl
        obtain ⟨z, hzz⟩ : ∃ z, cl.getD u 0 = z := ⟨_, rfl⟩
        rw [hzz] at HB1' hget
        have hset := (Turns.refl (fun k => k = gB) wr).set (g := gB) (i := j) (v := .int .i64 (-1)) rfl
        have hbs : Below w.heap.size w (wr.setCell ⟨gB, j, none⟩ (.int .i64 (-1))) := hbw.setCell (p := ⟨gB, j, none⟩) (by have := HGB.out; show w.heap.size ≤ gB; omega) _
        have hks := (HK.out.next hbw).far (g' := gB) (by omega) j (.int .i64 (-1))
        have k0 := hks.cell 0
        simp at k0
        obtain ⟨b5, off5, z5, rfl, hb5, hz5, hcz⟩ := (HC.out.next hbs hB1).2.int_at (k := u) (by omega)
        obtain rfl : z5 = z := by rw [hget] at hz5; exact (Option.some.inj hz5).symm
        have hG1 := hG.set j (.int .i64 (-1))
        have f1 := hG1.frozen j
        have e1 : (wr.setCell ⟨gB, j, none⟩ (.int .i64 (-1))).cell? ⟨gB, j, none⟩ = some (.int .i64 (-1)) := by
          rw [hG1.cell j, List.setIfInBounds_toArray]
          simp [hjl]
        have hG2 : BlkIs ((wr.setCell ⟨gB, j, none⟩ (.int .i64 (-1))).setCell ⟨gB, j, none⟩ (.int .i64 z5)) gB 81 ((bhJ xs cl s (j + 1)).map ic).toArray := by
          have h1 := hG1.set j (.int .i64 z5)
          rw [List.setIfInBounds_toArray, List.setIfInBounds_toArray, List.set_set] at h1
          rw [← bhJ_set hj4, HB1', List.map_set]
          exact h1
        have HG2 := Lib.hid hG2
        have i2 : (u : Int) < (n : Int) := by omega
        have q1 : ((u : Int) == -1) = false := by simp only [beq_eq_false_iff_ne, ne_eq]; omega
        have q2 : ¬ (u : Int) = -1 := by omega
        clear hy hz hr HB1' z0 hG2 hG1 hq hlo1 hhi1 hu hget hzz hz5 hks hset
        go_wp2_with fail
        go_roundw
        case rel => exact ⟨j + 1, by omega, by go_num, HG2.out, (hT.set rfl).set rfl, by show _ = _; rw [← hS.out]; simp⟩
        case measure => simp [intOf]; omega
    · obtain rfl : j = 4 := by omega
      rw [bhJ_all] at hG
      have hT2 : Turns (wb g A mv) w wr := (Turns.of_below (S := wb g A mv) hb0).trans hT (fun k hk e => by have := HGB.out; omega)
      have hWr := (HW.out.next (S := fun _ => False) (Turns.of_below hb0) (fun k _ e => e)).next hT (fun k hk e => by have := hw_lt k hk; have := HGB.out; omega)
      have HADD := Lib.hid (addR_any_c g lo B A c mv L (bh1 xs cl s 0) (bh1 xs cl s 1) (bh1 xs cl s 2) (bh1 xs cl s 3) wr hWr (fun e => ⟨(hn0 e).1, by have := (hn0 e).2; have := HSZ0.out; have := hS.out; omega⟩) (bhL_good HOK.out HCL.out (by omega) (by omega)) hL (Nat.le_trans hlo hbw.size))
      have e0 := hG.cell 0
      have e1 := hG.cell 1
      have e2 := hG.cell 2
      have e3 := hG.cell 3
      simp [bhL, ic] at e0 e1 e2 e3
      have HT2 := Lib.hid hT2
      have hsw := hbw.size
      have HBL : Hid (bhL xs cl s = [bh1 xs cl s 0, bh1 xs cl s 1, bh1 xs cl s 2, bh1 xs cl s 3]) := rfl
      generalize bh1 xs cl s 0 = v0 at HADD e0 HBL
      generalize bh1 xs cl s 1 = v1 at HADD e1 HBL
      generalize bh1 xs cl s 2 = v2 at HADD e2 HBL
      generalize bh1 xs cl s 3 = v3 at HADD e3 HBL
      clear hG hT hT2 hWr hbw
      go_wp2_with fail
      refine HADD.out.mono ?_
      rintro e w5 ⟨A', c', b', rfl, h1, h2, h3⟩
      have H1 := Lib.hid h1
      have H2 := Lib.hid h2
      have H3 := Lib.hid h3
      clear h1 h2 h3
      go_wp2_with fail
      go_ret
      exact ⟨A', c', b', by rw [HBL.out]; rfl, by rw [HBL.out]; exact H1.out, HT2.out.trans H2.out (fun k _ e => e), fun k hk => (H3.out k hk).imp id (fun h => by omega)⟩
end Go.Proofs.Ytopijecdhjnipaa
