/-
  The model's minimal policy. Conditions: a policy with at most 1000 states.
-/
import Derived.Test.YtpdgnmdjneakgaaMinC
namespace Go.Proofs.Ytpdgnmdjneakgaa
set_option linter.unusedVariables false
open Go.RowKit

set_option maxRecDepth 100000 in
set_option maxHeartbeats 4000000 in
theorem l10Minimal_c (b o : Nat) (A : Option Addr) (n c B : Nat) (xs : List (List Int)) (w : World) (p0 : w.cell? ⟨b, o, none⟩ = some (.slice A n c)) (h : InLL w B A n xs) (hB : B ≤ w.heap.size) (ok : RectP xs) (hn : n ≤ 1000) :
    Calls Try.prog 26 #[.pointer (some ⟨b, o, none⟩)] w fun e w' => ∃ A' c', e = .returned (.agg #[.slice A' (minL xs).length c']) ∧ (∃ rs, PolO w' w.heap.size A' c' (minL xs) rs) ∧ Below w.heap.size w w' := by
  obtain ⟨i0, hi, hz0, hz1, hz2⟩ := info_parts info64
  obtain ⟨i1, hi', hz0', hz1', hz2'⟩ := info_parts infoRow
  have hxn : xs.length = n := h.1
  have hst := stM_stays ok
  have h00 : (0 : Int) ≤ 0 ∧ (0 : Int) < (xs.length : Int) := by have := ok.lo; omega
  have hb0 := bnew w (.cells #[.slice none 0 0] 26)
  have hR0 : BlkIs (w.alloc (.cells #[.slice none 0 0] 26)) w.heap.size 26 #[.slice none 0 0] := blk_new _ _ _ _ rfl
  have HC := Lib.hid (l10Classes_c b o A n c B xs _ (cell_next p0 hb0) (h.next hb0 hB) (Nat.le_trans hB hb0.size) ok hn)
  obtain ⟨V, hV⟩ : ∃ V, minL xs = V := ⟨_, rfl⟩
  rw [hV]
  have HV := Lib.hid hV
  have HOK := Lib.hid ok
  have HX := Lib.hid h
  clear hV h ok
  go_enter Try.func26, Try.ntmps26
  go_wp2_with fail
  generalize w.alloc (.cells #[.slice none 0 0] 26) = W0 at hb0 hR0 HC ⊢
  refine HC.out.mono ?_
  rintro e wc ⟨Ac, cc, rfl, hcl, hbc⟩
  have hR := hR0.next hbc
  have hbw := bon hb0 hbc
  clear HC hR0
  obtain ⟨b4, o4, rfl, c0⟩ := rep_cell hcl (s := 0) (by omega)
  rw [rep_nil] at c0
  have c0' : wc.cell? ⟨b4, o4, none⟩ = some (.int .i64 0) := c0
  have c1 := cell_next c0' (bnew wc (.cells #[.int .i64 0] 2))
  clear c0
  have i2 : (0 : Int) < (n : Int) := by omega
  have hM0 := MinW.init wc
  have HCL := Lib.hid hcl
  clear hcl
  replace p0 := cell_next p0 hbw
  go_wp2_with fail
  generalize ((wc.alloc (.cells #[.int .i64 0] 2)).alloc (.cells #[.int .i64 0] 2)).alloc (.cells #[.slice none 0 0] 26) = W4 at hM0 ⊢
  generalize wc.heap.size + 1 + 1 = bO at hM0 ⊢
  clear c0' c1
  go_loopw [4, 5, 7, 8, 9, 10, 11, 12] (fun lv kv i _ _ _ _ _ wr => ∃ (k : Nat) (v : Value) (l L : List Int) (rs : List (Value × List Int)), i = .int .i64 k ∧ Hid (MinI xs l L) ∧ Hid (unf (stM xs) 0 k = (L, rs.map Prod.snd)) ∧ rs.length = k ∧ k ≤ L.length ∧ MinW wc bO ((lv, l) :: (kv, L) :: rs) v k (rs.map Prod.fst) wr) (fun _ _ i _ _ _ _ _ _ => n + 1 - (intOf i).toNat)
  case atStart => exact ⟨0, _, [0], [0], [], rfl, MinI.init HOK.out, rfl, rfl, Nat.zero_le _, hM0⟩
  case round =>
    clear hM0
    rename World => wa
    obtain ⟨k, v, l, L, rs, rfl, HMI, HU, hrs, hk, hM⟩ := hrel
    have o0 : wa.ownsRow wc.heap.size 2 1 _ l.length (l.map ic) := hM.rows.own 0 _ rfl
    have o1 : wa.ownsRow wc.heap.size 2 1 _ L.length (L.map ic) := hM.rows.own 1 _ rfl
    obtain ⟨Al, cl, rfl, _⟩ := own_slice o0
    obtain ⟨Ak, ck, rfl, _⟩ := own_slice o1
    have hll := HMI.out.len
    have hAm := unf_among hst h00 k
    rw [HU.out] at hAm
    have hLn := hAm.len
    by_cases hlt : k < L.length
    · obtain ⟨y0, hy0⟩ : ∃ y, l[k]? = some y := ⟨_, List.getElem?_eq_getElem (by omega)⟩
      have hyr := HMI.out.num k y0 hy0
      have hyL := HMI.out.like k y0 hy0
      obtain ⟨y, rfl⟩ : ∃ y : Nat, y0 = y := ⟨y0.toNat, by omega⟩
      rw [Int.toNat_natCast] at hyL
      have HNX := Lib.hid (unf_next (st := stM xs) (x0 := 0) (k := k) (x := (rep xs xs.length y : Int)) (by rw [HU.out]; exact hyL))
      have HY := Lib.hid hy0
      have HAM := Lib.hid hAm
      have hyn : y < n := by omega
      have hM1 : MinW wc bO ((.slice Al l.length cl, l) :: (.slice Ak L.length ck, L) :: (rs ++ [(.slice (some ⟨wa.heap.size, 0, none⟩) 0 0, [])])) v k (rs.map Prod.fst) (wa.alloc (.cells #[] 2)) := hM.snoc (bnew wa _) (own_empty wa _)
      have i3 : (k : Int) < (l.length : Int) := by omega
      clear o0 o1 hM hy0 hyL hyr
      obtain ⟨ln, hln⟩ : ∃ ln, l.length = ln := ⟨_, rfl⟩
      have HLN := Lib.hid hln
      rw [hln] at hll i3 ⊢
      clear hln
      go_wp2_with fail
      generalize wa.alloc (.cells #[] 2) = W1 at hM1 ⊢
      go_loopw [4, 5, 8, 9, 10, 11, 12] (fun lv kv r j _ _ _ wr => ∃ (m : Nat) (l' L' R4 : List Int) (Ar : Option Addr) (cr : Nat), j = .int .i64 m ∧ r = .slice Ar m cr ∧ m ≤ 4 ∧ Hid (MinI xs l' L') ∧ Hid (evT (stM xs) (rep xs xs.length y : Int) L m = (L', R4)) ∧ l'.length = L'.length ∧ Hid (l'[k]? = some (y : Int)) ∧ MinW wc bO ((lv, l') :: (kv, L') :: (rs ++ [(.slice Ar m cr, R4.take m)])) v k (rs.map Prod.fst) wr) (fun _ _ _ j _ _ _ _ => 4 - (intOf j).toNat)
      case atStart => exact ⟨0, l, L, [-1, -1, -1, -1], some ⟨wa.heap.size, 0, none⟩, 0, rfl, rfl, by omega, HMI, rfl, by have := HLN.out; omega, HY, by have := hM1; rw [HLN.out, hll] at this; exact this⟩
      case round =>
        clear hM1
        rename World => wi
        obtain ⟨m, l', L', R4, Ar', cr', rfl, rfl, hm, HMI', HE, hll', HY', hM⟩ := hrel
        obtain ⟨hR4, hR4'⟩ := evT_row (st := stM xs) (x := (rep xs xs.length y : Int)) (L := L) m hm
        rw [HE.out] at hR4 hR4'
        change R4.length = 4 at hR4
        have htk : (R4.take m).length = m := by rw [List.length_take]; omega
        have o0' : wi.ownsRow wc.heap.size 2 1 _ l'.length (l'.map ic) := hM.rows.own 0 _ rfl
        have o1' : wi.ownsRow wc.heap.size 2 1 _ L'.length (L'.map ic) := hM.rows.own 1 _ rfl
        obtain ⟨Al', cl', rfl, _⟩ := own_slice o0'
        obtain ⟨Ak', ck', rfl, _⟩ := own_slice o1'
        clear o0' o1'
        obtain ⟨q, hq⟩ : ∃ q, L'.length = q := ⟨_, rfl⟩
        have hlq : l'.length = q := by omega
        have HQ := Lib.hid hq
        have HLQ := Lib.hid hlq
        rw [hlq] at hM
        rw [hq] at hM
        try rw [hq]
        try rw [hlq]
        have o0 := hM.ownFst HLQ.out
        have o1 := hM.ownSnd HQ.out
        have o2 := hM.ownLast htk
        have HTK := Lib.hid htk
        have hsc : wc.heap.size ≤ wi.heap.size := hM.below.size
        have hkq : k < q := by have := (List.getElem?_eq_some_iff.1 HY'.out).1; omega
        have HM := Lib.hid hM
        have hbel := hM.below
        clear hM hq hlq htk hll'
        by_cases hm4 : m < 4
        · obtain ⟨b1, off1, A3, c3, b2, off2, rfl, q0, rfl, q1⟩ := ((HX.out.next hbw hB).next hbel (Nat.le_trans hB hbw.size)).cell_atR HOK.out (s := y) (e := m) hyn hm4
          have p1 := cell_next p0 hbel
          obtain ⟨gl, rfl⟩ : ∃ r, Al' = some ⟨r, 0, none⟩ := by
            rcases o0.2 with h' | ⟨r, cap, cur, e1, _⟩
            · have := h'.2; omega
            · injection e1 with e1; exact ⟨r, e1⟩
          have q2 : wi.cell? ⟨gl, k, none⟩ = some (.int .i64 (y : Int)) := by rw [o0.cellAt k (by omega), List.getElem?_map, HY'.out]; rfl
          have hLm : q ≤ n := by
            have h1 := (evT_among hst (x := (rep xs xs.length y : Int)) (by have := (rep_ok xs xs.length y).1; omega) HAM.out m (by omega)).1.len
            rw [HE.out] at h1
            have h2 : L'.length ≤ xs.length := h1
            have := HQ.out; omega
          have i4 : (k : Int) < (q : Int) := by omega
          have i5 : (y : Int) < (n : Int) := by omega
          have i6 : (m : Int) < 4 := by omega
          have HSM : Hid (stM xs (rep xs xs.length y : Int) m = stM xs (y : Int) m) := stM_same HOK.out (by have := (rep_ok xs xs.length y).1; omega) (by omega) hm4 (rep_ok xs xs.length y).2.1
          have hnx := HOK.out.nx (s := y) (e := m) (by omega) hm4
          by_cases hq : nxP xs y m < 0
          · obtain ⟨e1, e2⟩ := evT_no (st := stM xs) (x := (rep xs xs.length y : Int)) (L := L) hm4 (by rw [HSM.out, stM_no hq])
            rw [HE.out] at e1 e2
            have hq2 : decide (nxP xs y m < 0) = true := decide_eq_true hq
            have HE1 : Hid (evT (stM xs) (rep xs xs.length y : Int) L (m + 1) = (L', (evT (stM xs) (rep xs xs.length y : Int) L (m + 1)).2)) := Prod.ext e1 rfl
            have HE2 := Lib.hid e2
            generalize nxP xs y m = u at q1 hq hq2
            clear e1 e2 hnx
            go_wp2_with fail
            go_quiet (fail)
            go_wp2_with (at_builtin; refine wpList_append_sep rfl _ _ 29 rfl wc.heap.size 2 i0 (.int .i64 0) 1 8 Try.underlying29 hi hz0 hz1 hz2 rfl (by decide) _ _ _ rfl (by first | exact o2.alloc _ | exact (o2 : World.ownsRow _ _ _ _ _ _ _).alloc _) ⟨wi.heap.size, 0, none⟩ 1 1 [.int .i64 (-1)] rfl rfl (cell_one_new _ _ _) (by simp [Value.oneCell']) (by unfold maxLen; omega) (by omega) (by simp; omega) (by omega) ?_; intro g' cap' w4 hown4 hgrow4 hsep4)
            go_roundw
            case rel =>
              refine ⟨m + 1, l', L', _, some ⟨g', 0, none⟩, cap', by go_num, rfl, by omega, HMI', HE1, by have := HQ.out; have := HLQ.out; omega, HY', ?_⟩
              rw [HE2.out]
              exact HM.out.last HTK.out ((below_drewN (Below.refl _ _) _).alloc (Nat.le_refl _) _) hgrow4 hsep4 hown4
            case measure => simp [intOf]; omega
          · obtain ⟨u, hu⟩ : ∃ u : Nat, nxP xs y m = u := ⟨(nxP xs y m).toNat, by omega⟩
            have hun := hnx hq
            have hv2 : (stM xs (rep xs xs.length y : Int) m).2 = true := by rw [HSM.out, stM_yes hq]
            have hv1 : (stM xs (rep xs xs.length y : Int) m).1 = (rep xs xs.length u : Int) := by rw [HSM.out, stM_yes hq, hu, Int.toNat_natCast]
            obtain ⟨e1, e2⟩ := evT_yes (st := stM xs) (x := (rep xs xs.length y : Int)) (L := L) hm4 hv2
            rw [HE.out, hv1] at e1 e2
            rw [hu, Int.toNat_natCast] at hun
            rw [hu] at q1 hq
            have hq2 : decide ((u : Int) < 0) = false := decide_eq_false hq
            obtain ⟨b5, o5, e5, qz⟩ := rep_cell HCL.out (s := u) hun
            injection e5 with e5; injection e5 with e5 e6
            subst e5 e6
            replace qz := cell_next qz hbel
            have hMI2 := HMI'.out.snoc (y := u) hun
            have hnd : L'.Nodup := by
              have h1 := (evT_among hst (x := (rep xs xs.length y : Int)) (by have := (rep_ok xs xs.length y).1; omega) HAM.out m (by omega)).1.1
              rw [HE.out] at h1; exact h1
            rw [show rep xs n u = rep xs xs.length u by rw [hxn]] at qz
            obtain ⟨z, hz⟩ : ∃ z : Int, (rep xs xs.length u : Int) = z := ⟨_, rfl⟩
            rw [hz] at e1 e2 qz hMI2
            have HE1 : Hid (evT (stM xs) (rep xs xs.length y : Int) L (m + 1) = (addL z L', (evT (stM xs) (rep xs xs.length y : Int) L (m + 1)).2)) := Prod.ext e1 rfl
            have HE2 := Lib.hid e2
            have HND := Lib.hid hnd
            have HMI2 := Lib.hid hMI2
            have i7 : (u : Int) < (n : Int) := by omega
            have HS0 : Hid (SrcL L' z 0 (-1)) := .inl ⟨rfl, by simp⟩
            clear e1 e2 hnx hu hv1 hv2 hz hnd hMI2
            go_wp2_with fail
            go_quiet (fail)
            go_wp2_with fail
            go_loopw [11, 12] (fun at_ jx wr => ∃ (jj d : Nat) (a : Int), jj ≤ q ∧ jx = .int .i64 jj ∧ at_ = .int .i64 a ∧ wr = wi.drewN d ∧ Hid (SrcL L' z jj a) ∧ (a = -1 ∨ 0 ≤ a)) (fun _ jx _ => q - (intOf jx).toNat)
            case atStart => exact ⟨0, _, -1, Nat.zero_le _, rfl, rfl, rfl, HS0, .inl rfl⟩
            case round =>
              clear HS0
              obtain ⟨jj, d, a, hj, rfl, rfl, rfl, hS, ha⟩ := hrel
              by_cases hjq : jj < q
              · obtain ⟨x1, hx1⟩ : ∃ x, L'[jj]? = some x := ⟨_, List.getElem?_eq_getElem (by have := HQ.out; omega)⟩
                obtain ⟨gk, rfl⟩ : ∃ r, Ak' = some ⟨r, 0, none⟩ := by
                  rcases o1.2 with h' | ⟨r, cap, cur, e1, _⟩
                  · have := h'.2; omega
                  · injection e1 with e1; exact ⟨r, e1⟩
                have q3 : wi.cell? ⟨gk, jj, none⟩ = some (.int .i64 x1) := by rw [o1.cellAt jj (by omega), List.getElem?_map, hx1]; rfl
                have i8 : (jj : Int) < (q : Int) := by omega
                by_cases hxz : x1 = z
                · have HS : Hid (SrcL L' z (jj + 1) (jj : Int)) := .inr ⟨jj, rfl, by rw [← hxz]; exact hx1⟩
                  have r1 : (x1 == z) = true := by simpa using hxz
                  clear hx1 hxz
                  go_wp2_with fail
                  go_quiet (fail)
                  go_wp2_with fail
                  go_roundw
                  case rel => exact ⟨jj + 1, _, jj, by omega, by go_num, rfl, by first | rfl | exact (World.drewN_drewN _ _ _), HS, .inr (by omega)⟩
                  case measure => simp [intOf]; omega
                · have HS : Hid (SrcL L' z (jj + 1) a) := hS.out.more hx1 hxz
                  have r1 : (x1 == z) = false := by simpa using hxz
                  clear hx1 hxz
                  go_wp2_with fail
                  go_quiet (fail)
                  go_wp2_with fail
                  go_roundw
                  case rel => exact ⟨jj + 1, _, a, by omega, by go_num, rfl, by first | rfl | exact (World.drewN_drewN _ _ _), HS, ha⟩
                  case measure => simp [intOf]; omega
              · obtain rfl : q = jj := by omega
                have hS' := hS.out
                rw [← HQ.out] at hS'
                rcases ha with rfl | ha
                · have hz := hS'.end_no (by omega)
                  have HE1' := HE1.out
                  have HE2' := HE2.out
                  rw [addL_new hz] at HE1' HE2'
                  have hix : ((L' ++ [z]).idxOf z) = L'.length := by rw [List.idxOf_append, if_neg hz]; simp
                  rw [hix, HQ.out] at HE2'
                  have HE3 := Lib.hid HE1'
                  have HE4 := Lib.hid HE2'
                  clear hS' hz HE1' HE2' hix
                  go_wp2_with (first
                    | (at_builtin; refine wpList_append_sep rfl _ _ 29 rfl wc.heap.size 2 i0 (.int .i64 0) 1 8 Try.underlying29 hi hz0 hz1 hz2 rfl (by decide) _ _ _ rfl (by first | exact o1.alloc _ | exact (o1 : World.ownsRow _ _ _ _ _ _ _).alloc _) ⟨wi.heap.size, 0, none⟩ 1 1 [.int .i64 z] rfl rfl (cell_one_new _ _ _) (by simp [Value.oneCell']) (by unfold maxLen; omega) (by omega) (by simp; omega) (by omega) ?_; intro g4 cap4 w4 hown4 hgrow4 hsep4; have hM2 := HM.out.snd HQ.out ((below_drewN (Below.refl _ _) _).alloc (Nat.le_refl _) _) hgrow4 hsep4 hown4; have o0b := hM2.ownFst HLQ.out; have hs4 := hM2.below.size)
                    | (at_builtin; refine wpList_append_sep rfl _ _ 29 rfl wc.heap.size 2 i0 (.int .i64 0) 1 8 Try.underlying29 hi hz0 hz1 hz2 rfl (by decide) _ _ _ rfl (by first | exact o0b.alloc _ | exact (o0b : World.ownsRow _ _ _ _ _ _ _).alloc _) ⟨w4.heap.size, 0, none⟩ 1 1 [.int .i64 (u : Int)] rfl rfl (cell_one_new _ _ _) (by simp [Value.oneCell']) (by unfold maxLen; omega) (by omega) (by simp; omega) (by omega) ?_; intro g5 cap5 w5 hown5 hgrow5 hsep5; have hM3 := hM2.fst HLQ.out (bnew _ _) hgrow5 hsep5 hown5; have o2b := hM3.ownLast HTK.out; have hs5 := hM3.below.size)
                    | (at_builtin; refine wpList_append_sep rfl _ _ 29 rfl wc.heap.size 2 i0 (.int .i64 0) 1 8 Try.underlying29 hi hz0 hz1 hz2 rfl (by decide) _ _ _ rfl (by first | exact o2b.alloc _ | exact (o2b : World.ownsRow _ _ _ _ _ _ _).alloc _) ⟨w5.heap.size, 0, none⟩ 1 1 [.int .i64 (q : Int)] rfl rfl (cell_one_new _ _ _) (by simp [Value.oneCell']) (by unfold maxLen; omega) (by omega) (by simp; omega) (by omega) ?_; intro g6 cap6 w6 hown6 hgrow6 hsep6; have hM4 := hM3.last HTK.out (bnew _ _) hgrow6 hsep6 hown6))
                  go_roundw
                  case rel =>
                    refine ⟨m + 1, l' ++ [(u : Int)], L' ++ [z], _, some ⟨g6, 0, none⟩, cap6, by go_num, rfl, by omega, HMI2, HE3, by have := HQ.out; have := HLQ.out; simp; omega, ?_, ?_⟩
                    · show (l' ++ [(u : Int)])[k]? = _
                      rw [List.getElem?_append_left (by have := HLQ.out; omega)]; exact HY'.out
                    · rw [HE4.out]
                      exact hM4
                  case measure => simp [intOf]; omega
                · obtain ⟨hz, hy⟩ := SrcL.end_yes HND.out hS' (by omega)
                  have HE1' := HE1.out
                  have HE2' := HE2.out
                  rw [addL_old hz] at HE1' HE2'
                  rw [← hy] at HE2'
                  have HE3 := Lib.hid HE1'
                  have HE4 := Lib.hid HE2'
                  have k1 : ¬ a < 0 := by omega
                  have k2 : decide (a < 0) = false := decide_eq_false k1
                  clear hS' hz HE1' HE2' hy
                  go_wp2_with (at_builtin; refine wpList_append_sep rfl _ _ 29 rfl wc.heap.size 2 i0 (.int .i64 0) 1 8 Try.underlying29 hi hz0 hz1 hz2 rfl (by decide) _ _ _ rfl (by first | exact o2.alloc _ | exact (o2 : World.ownsRow _ _ _ _ _ _ _).alloc _) ⟨wi.heap.size, 0, none⟩ 1 1 [.int .i64 a] rfl rfl (cell_one_new _ _ _) (by simp [Value.oneCell']) (by unfold maxLen; omega) (by omega) (by simp; omega) (by omega) ?_; intro g' cap' w4 hown4 hgrow4 hsep4)
                  go_roundw
                  case rel =>
                    refine ⟨m + 1, l', L', _, some ⟨g', 0, none⟩, cap', by go_num, rfl, by omega, HMI', HE3, by have := HQ.out; have := HLQ.out; omega, HY', ?_⟩
                    rw [HE4.out]
                    exact HM.out.last HTK.out ((below_drewN (Below.refl _ _) _).alloc (Nat.le_refl _) _) hgrow4 hsep4 hown4
                  case measure => simp [intOf]; omega
        · obtain rfl : m = 4 := by omega
          have hM := HM.out
          obtain ⟨Av, cv, rfl, _⟩ := own_slice hM.out
          have ho := hM.out
          have v0 := hM.box.cell 0
          simp at v0
          have hbl := hM.box.lt
          have hlo := hM.lo
          have hLk : k ≤ 1000 := by omega
          have hR4e : R4.take 4 = R4 := List.take_of_length_le (by omega)
          have hNU : Hid (unf (stM xs) 0 (k + 1) = (L', (rs ++ [((Value.slice Ar' 4 cr', R4) : Value × List Int)]).map Prod.snd)) := by
            show _ = _
            rw [HNX.out, HU.out]
            show ((evT (stM xs) _ L 4).1, rs.map Prod.snd ++ [(evT (stM xs) _ L 4).2]) = _
            rw [HE.out, List.map_append]; rfl
          clear hM
          go_wp2_with (at_builtin; refine wpList_append_sep rfl _ _ 24 rfl wc.heap.size 29 i1 (.slice none 0 0) 1 24 Try.underlying24 hi' hz0' hz1' hz2' rfl (by decide) _ _ _ rfl (ho.alloc _) ⟨wi.heap.size, 0, none⟩ 1 1 [.slice Ar' 4 cr'] rfl rfl (cell_one_new _ _ _) (by simp [Value.oneCell']) (by unfold maxLen; omega) (by omega) (by simp; omega) (by omega) ?_; intro g' cap' w4 hown4 hgrow4 hsep4; have B2 := (HM.out.box.next (bnew wi (.cells #[.slice Ar' 4 cr'] 29))).by_grown hgrow4 (own_ne_blk HM.out.out HM.out.box (by decide)); have e0 := B2.cell 0; have f0 := B2.frozen 0; simp at e0)
          have hM5 := HM.out.row (bnew _ _) hgrow4 hown4 (fun g hg e => by
            obtain rfl : g' = g := Option.some.inj hg
            rcases hsep4 with h' | h'
            · exact own_ne_blk HM.out.out HM.out.box (by decide) (h'.symm.trans (congrArg some e))
            · simp at h'; omega)
          go_roundw
          case rel =>
            refine ⟨k + 1, .slice (some ⟨g', 0, none⟩) (k + 1) cap', l', L', rs ++ [(.slice Ar' 4 cr', R4)], by go_num, HMI', hNU, by simp [hrs], by have := HQ.out; omega, ?_⟩
            rw [List.map_append]
            rw [hR4e] at hM5
            exact hM5
          case measure => simp [intOf]; omega
    · obtain rfl : k = L.length := by omega
      have HF : rs.map Prod.snd = V := by rw [← HV.out]; exact minL_is HOK.out ⟨L.length, HU.out, rfl⟩
      have hvl : V.length = L.length := by rw [← HF, List.length_map, hrs]
      obtain ⟨Av, cv, rfl, _⟩ := own_slice hM.out
      have hRW := hR.next hM.below
      have v0 := hM.box.cell 0
      simp at v0
      have r0 := hRW.cell 0
      have r1 := hRW.frozen 0
      simp at r0
      have i3 : ¬ (L.length : Int) < (l.length : Int) := by omega
      have HM := Lib.hid hM
      clear hM o0 o1 HU
      go_wp2_with fail
      have r2 : (wa.setCell ⟨w.heap.size, 0, none⟩ (.slice Av L.length cv)).cell? ⟨w.heap.size, 0, none⟩ = some (.slice Av L.length cv) := by
        have := (hRW.set 0 (.slice Av L.length cv)).cell 0
        simpa using this
      have hrows := HM.out.rows.other (only_set (w := wa) (g := w.heap.size) (i := 0) (x := .slice Av L.length cv)) (fun i p hp g hg e => by
        obtain rfl : w.heap.size = g := Option.some.inj e
        exact own_ne_blk (HM.out.rows.own i p hp) hRW (by decide) hg)
      have hout := HM.out.out.kept (only_set (w := wa) (g := w.heap.size) (i := 0) (x := .slice Av L.length cv)) (.inr (own_ne_blk HM.out.out hRW (by decide)))
      refine bodyPost_ret (v := .agg #[.slice Av L.length cv]) (by simp [results, Try.results26, go_sem, r2]) rfl ?_
      refine ⟨Av, cv, rfl, ⟨rs, HF, hrows.tail.tail.less hbw.size, ?_⟩, (bon hbw HM.out.below).setCell (p := ⟨w.heap.size, 0, none⟩) (Nat.le_refl _) _⟩
      rw [hvl]
      exact own_less hout hbw.size
end Go.Proofs.Ytpdgnmdjneakgaa
