/-
  The model's search for the least numbers that refute. Conditions: a valid sequent, reach at most 4.
-/
import Derived.Test.YtapndnkcmmpdjaaSearch
import Derived.Test.YtapndnkcmmpdjaaTriv
namespace Go.Proofs.Ytapndnkcmmpdjaa
open Go.RowKit
set_option linter.unusedVariables false

theorem putV_snoc (x : Int) : ∀ (M : List Nat) (s : Nat) (vs : List Int), putV x (M ++ [s]) vs = putV x M (vs.set s x)
  | [], s, vs => rfl
  | t :: M, s, vs => by
    show (putV x (M ++ [s]) vs).set t x = (putV x M (vs.set s x)).set t x
    rw [putV_snoc x M s vs]
theorem putV_more {x : Int} {L : List Nat} {k s : Nat} (hd : L.Nodup) (hs : L[k]? = some s) (vs : List Int) : putV x (L.take (k + 1)) vs = (putV x (L.take k) vs).set s x := by
  rw [take_more hs, putV_snoc, putV_set]
  intro h
  have e : L.take (k + 1) = L.take k ++ [s] := take_more hs
  have hd' : (L.take (k + 1)).Nodup := hd.sublist (List.take_sublist _ _)
  rw [e] at hd'
  exact (List.nodup_append.1 hd').2.2 s h s (by simp) rfl
theorem drop_at {L : List Nat} {k s : Nat} (hs : L[k]? = some s) : L.drop k = s :: L.drop (k + 1) := by
  obtain ⟨h, e⟩ := List.getElem?_eq_some_iff.1 hs
  rw [← e, List.drop_eq_getElem_cons h]
theorem not_drop {L : List Nat} {k s : Nat} (hd : L.Nodup) (hs : L[k]? = some s) : s ∉ L.drop (k + 1) := by
  have hd' : (L.drop k).Nodup := hd.sublist (List.drop_sublist _ _)
  rw [drop_at hs] at hd'
  exact (List.nodup_cons.1 hd').1
theorem putV_valsB {r : Int} (h0 : 0 ≤ r) (h4 : r ≤ 4) : ∀ {L : List Nat} {vs : List Int}, valsB vs = true → valsB (putV (-r) L vs) = true
  | [], _, h => h
  | s :: L, vs, h => valsB_set (putV_valsB h0 h4 h) (by omega) (by omega)
/-- The ten numbers of a row. -/
def readV (w : World) (g : Nat) : List Int := (List.range 10).map fun j => intOf ((w.cell? ⟨g, j, none⟩).getD undef)
theorem readV_is {w : World} {lo g cv : Nat} {cs : List Int} (h : w.ownsRow lo 2 1 (.slice (some ⟨g, 0, none⟩) 10 cv) 10 (cs.map ic)) : readV w g = cs := by
  have hl : cs.length = 10 := by have := h.1; simpa using this
  refine List.ext_getElem? fun j => ?_
  unfold readV
  by_cases hj : j < 10
  · have hc := h.cellAt j hj
    rw [List.getElem?_map, List.getElem?_range hj]
    simp only [Option.map_some, hc]
    rw [List.getElem?_map, List.getElem?_eq_getElem (by omega)]
    rfl
  · rw [List.getElem?_eq_none (by simp; omega), List.getElem?_eq_none (by omega)]
def leastO (p : List Int → Bool) (r : Int) (L : List Nat) : Option (List Int) := leastV p r L (List.replicate 10 0)
theorem valsB_zero : valsB (List.replicate 10 0) = true := by decide
theorem leastO_len {p : List Int → Bool} {r : Int} {L : List Nat} {v : List Int} (h : leastO p r L = some v) : v.length = 10 := by
  have := allV_len (List.mem_of_find?_eq_some h)
  simpa using this
theorem leastO_rest {p : List Int → Bool} {r : Int} {L : List Nat} (hr : 0 ≤ r) (hd : L.Nodup) (hL : ∀ s ∈ L, s < 10) : leastO p r L = (restV r L (putV (-r) L (List.replicate 10 0))).find? p := by
  unfold leastO leastV
  rw [allV_rest hr hd (fun s hs => by simp; exact hL s hs)]
theorem putV_btw {r : Int} : ∀ {L : List Nat} {vs : List Int} {s : Nat}, s ∈ L → (∀ t ∈ L, t < vs.length) → (putV (-r) L vs).getD s 0 = -r
  | t :: L, vs, s, h, hl => by
    by_cases e : t = s
    · subst e
      unfold putV
      rw [List.getD_eq_getElem?_getD, List.getElem?_set_self (by rw [putV_len]; exact hl t (by simp))]; rfl
    · have h' : s ∈ L := by rcases List.mem_cons.1 h with h' | h'; exact absurd h'.symm e; exact h'
      have ih := putV_btw (r := r) (vs := vs) h' (fun t ht => hl t (by simp [ht]))
      unfold putV
      rw [List.getD_eq_getElem?_getD] at ih ⊢
      rw [List.getElem?_set_ne e]
      exact ih

theorem restV_head (r : Int) : ∀ (L : List Nat) (cs : List Int), ∃ R, restV r L cs = cs :: R
  | [], cs => ⟨[], rfl⟩
  | s :: L, cs => by
    obtain ⟨R, h⟩ := restV_head r L cs
    exact ⟨_, by unfold restV; rw [h]; rfl⟩
theorem getD_set_ne' {s t : Nat} {v : List Int} {x : Int} (h : s ≠ t) : (v.set s x).getD t 0 = v.getD t 0 := by
  rw [List.getD_eq_getElem?_getD, List.getD_eq_getElem?_getD, List.getElem?_set_ne h]
theorem offV_getD {M : List Nat} {a b : List Int} {t : Nat} (h : OffV M a b) (ht : t ∉ M) : a.getD t 0 = b.getD t 0 := by
  rw [List.getD_eq_getElem?_getD, List.getD_eq_getElem?_getD, h.2 t ht]
theorem step_ok {r : Int} {L : List Nat} {k s : Nat} {cs : List Int} (hr0 : 0 ≤ r) (hd : L.Nodup) (hL : ∀ s ∈ L, s < 10) (hc : cs.length = 10) (hs : L[k]? = some s) (hall : ∀ t ∈ L.drop (k + 1), cs.getD t 0 = r) (hx : cs.getD s 0 < r) (hbt : ∀ t ∈ L, -r ≤ cs.getD t 0 ∧ cs.getD t 0 ≤ r) :
    restV r L cs = cs :: restV r L ((putV (-r) (L.drop (k + 1)) cs).set s (cs.getD s 0 + 1)) ∧ ∀ t ∈ L, -r ≤ ((putV (-r) (L.drop (k + 1)) cs).set s (cs.getD s 0 + 1)).getD t 0 ∧ ((putV (-r) (L.drop (k + 1)) cs).set s (cs.getD s 0 + 1)).getD t 0 ≤ r := by
  have e : L = L.take k ++ s :: L.drop (k + 1) := by rw [← drop_at hs, List.take_append_drop]
  have hsL : s ∈ L := List.mem_of_getElem? hs
  constructor
  · have h := restV_step (r := r) (L1 := L.take k) (L2 := L.drop (k + 1)) (s := s) (vs := cs) hr0 (by rw [← e]; exact hd) (by rw [← e, hc]; exact hL) hall hx
    rw [← e] at h
    exact h
  · intro t ht
    by_cases hts : s = t
    · subst hts
      rw [List.getD_eq_getElem?_getD, List.getElem?_set_self (by rw [putV_len, hc]; exact hL _ hsL)]
      show -r ≤ cs.getD s 0 + 1 ∧ cs.getD s 0 + 1 ≤ r
      have := hbt s hsL
      omega
    · rw [getD_set_ne' hts]
      by_cases hd2 : t ∈ L.drop (k + 1)
      · rw [putV_btw hd2 (fun u hu => by rw [hc]; exact hL u (List.mem_of_mem_drop hu))]
        omega
      · rw [offV_getD (putV_off _ _ _) hd2]
        exact hbt t ht
theorem find_skip {p : List Int → Bool} {x : List Int} {R : List (List Int)} (h : p x = false) : (x :: R).find? p = R.find? p := by rw [List.find?_cons, h]
theorem find_this {p : List Int → Bool} {x : List Int} {R : List (List Int)} (h : p x = true) : (x :: R).find? p = some x := by rw [List.find?_cons, h]

set_option maxRecDepth 100000 in
set_option maxHeartbeats 1000000 in
theorem l02Least_c (b : Nat) (c0 r : Int) (A : Option Addr) (n c B : Nat) (ts : List (Int × List Int)) (D : Option Addr) (m d : Nat) (zs : List Int) (S : Option Addr) (sc : Nat) (L : List Nat) (w : World)
    (hlb : b < B) (q0 : w.cell? ⟨b, 0, none⟩ = some (.slice A n c)) (q1 : w.cell? ⟨b, 1, none⟩ = some (.int .i64 c0)) (q2 : w.cell? ⟨b, 2, none⟩ = some (.slice D m d)) (h : InTS w B A n ts) (hl : InL w B D m zs) (hS : InL w B S L.length (natI L)) (hB : B ≤ w.heap.size)
    (hn : n ≤ 1048576) (hts : ∀ t ∈ ts, tmB t = true) (hg : tmB (c0, zs) = true) (hr0 : 0 ≤ r) (hr4 : r ≤ 4) (hd : L.Nodup) (hL : ∀ s ∈ L, s < 10) (hL20 : L.length ≤ 20) :
    Calls Try.prog 46 #[.pointer (some ⟨b, 0, none⟩), .slice S L.length sc, .int .i64 r] w fun e w' => ∃ A' c', e = .returned (.tuple #[.slice A' ((leastO (refB ts (c0, zs)) r L).getD []).length c', .bool (leastO (refB ts (c0, zs)) r L).isSome]) ∧ OwnL w' w.heap.size w'.heap.size A' ((leastO (refB ts (c0, zs)) r L).getD []).length c' ((leastO (refB ts (c0, zs)) r L).getD []) ∧ Below w.heap.size w w' := by
  have hmk1 := fun q (hq : q ≤ 20) => run_make_row' (P := Try.prog) 24 2 (.int .i64 0) 8 Try.underlying24 info64 rfl .i64 .i64 q (by omega) (by omega)
  have hmk := hmk1 10 (by omega)
  simp only [show ((10 : Nat) : Int) = 10 from rfl] at hmk
  have HD := Lib.hid hd
  have HL := Lib.hid hL
  have HIN := Lib.hid h
  have HIL := Lib.hid hl
  have HSY := Lib.hid hS
  have HQ := Lib.hid (And.intro q0 (And.intro q1 q2))
  have hbr := bnew w (.cells (madeCells #[.int .i64 0] 10) 2)
  have hown0 : (w.alloc (.cells (madeCells #[.int .i64 0] 10) 2)).ownsRow w.heap.size 2 1 (.slice (some ⟨w.heap.size, 0, none⟩) 10 10) 10 ((putV (-r) (L.take 0) (List.replicate 10 0)).map ic) := by
    have := own_zerosN (m := 10) (lo := w.heap.size) (heap_alloc_new w _) (Nat.le_refl _) (by omega)
    simpa [putV, ic] using this
  obtain ⟨F, hF⟩ : ∃ F, F = leastO (refB ts (c0, zs)) r L := ⟨_, rfl⟩
  rw [← hF]
  have HF0 := Lib.hid (hF.trans (leastO_rest hr0 hd hL))
  clear hd hL h hl hS q0 q1 q2 hmk1 hF
  go_enter Try.func46, Try.ntmps46
  go_wp2_with fail
  obtain ⟨W, hW⟩ : ∃ z, z = w.alloc (.cells (madeCells #[.int .i64 0] 10) 2) := ⟨_, rfl⟩
  have hz6 : W.heap.size = w.heap.size + 1 := by rw [hW, World.size_alloc]
  rw [← hW] at hbr hown0 ⊢
  clear hW
  go_loopw [9] (fun i wr => ∃ k : Nat, k ≤ L.length ∧ i = .int .i64 k ∧ wr.ownsRow w.heap.size 2 1 (.slice (some ⟨w.heap.size, 0, none⟩) 10 10) 10 ((putV (-r) (L.take k) (List.replicate 10 0)).map ic) ∧ W.grownBy wr (some w.heap.size)) (fun i _ => L.length - (intOf i).toNat)
  case atStart => exact ⟨0, Nat.zero_le _, rfl, hown0, only_refl _ _⟩
  case round =>
    clear hown0
    obtain ⟨k, hk, rfl, hown, hgr⟩ := hrel
    have hgz := hgr.size
    have hbB : Below B w wr := (hbr.mono hB).trans (only_below hgr hB (by omega))
    by_cases hlt : k < L.length
    · obtain ⟨s, hs⟩ : ∃ s, L[k]? = some s := ⟨_, List.getElem?_eq_getElem hlt⟩
      have hsn := HL.out s (List.mem_of_getElem? hs)
      obtain ⟨b2, off, rfl, hb2, hy⟩ := (HSY.out.next hbB (Nat.le_refl _)).2 k (by simp [natI]; omega)
      have hy1 : wr.cell? ⟨b2, off + k, none⟩ = some (.int .i64 (s : Nat)) := by simpa [natI, ic, hs] using hy
      have hs1 : (0 : Int) ≤ (s : Int) := by omega
      have hs2 : (s : Int) < 10 := by omega
      obtain ⟨u, hu⟩ : ∃ u, ((putV (-r) (L.take k) (List.replicate 10 0)).map ic)[s]? = some u := ⟨_, List.getElem?_eq_getElem (by rw [List.length_map, putV_len]; simp; omega)⟩
      have hcl := hown.cellAt s hsn
      rw [hu] at hcl
      have hfz := hown.frozenAt s
      have hst := hown.stored s (.int .i64 (-r))
      rw [show ((putV (-r) (L.take k) (List.replicate 10 0)).map ic).set s (.int .i64 (-r)) = (putV (-r) (L.take (k + 1)) (List.replicate 10 0)).map ic by rw [putV_more HD.out hs, List.map_set]; rfl] at hst
      have HST := Lib.hid hst
      clear hst hown hu hs hy
      go_wp2_with fail
      go_roundw
      case rel => exact ⟨k + 1, by omega, by go_num, HST.out.1, only_trans hgr HST.out.2⟩
      case measure => simp [intOf]; omega
    · have e : k = L.length := by omega
      rw [e, List.take_length] at hown
      clear e
      go_wp2_with fail
      have HF1 := HF0.out
      obtain ⟨V0, hV0⟩ : ∃ V0, V0 = putV (-r) L (List.replicate 10 0) := ⟨_, rfl⟩
      rw [← hV0] at hown HF1
      have hvb0 : valsB V0 = true := by rw [hV0]; exact putV_valsB hr0 hr4 valsB_zero
      have hbt0 : ∀ s ∈ L, -r ≤ V0.getD s 0 ∧ V0.getD s 0 ≤ r := fun s hs => by rw [hV0, putV_btw hs (fun t ht => by simp; exact HL.out t ht)]; omega
      have HBT0 := Lib.hid hbt0
      have HF2 := Lib.hid HF1
      clear hV0 hbt0 HF1 hlt hk
      go_loopw [10] (fun _ wr => ∃ cs : List Int, wr.ownsRow w.heap.size 2 1 (.slice (some ⟨w.heap.size, 0, none⟩) 10 10) 10 (cs.map ic) ∧ valsB cs = true ∧ Hid (∀ s ∈ L, -r ≤ cs.getD s 0 ∧ cs.getD s 0 ≤ r) ∧ Hid (F = (restV r L cs).find? (refB ts (c0, zs))) ∧ W.grownBy wr (some w.heap.size)) (fun _ wr => (restV r L (readV wr w.heap.size)).length)
      case atStart => exact ⟨V0, hown, hvb0, HBT0, HF2, hgr⟩
      case round =>
        clear hown hvb0 HBT0 HF2 hgr hgz hbB HF0
        obtain ⟨cs, hown, hvb, HBT, HF, hgr⟩ := hrel
        have hgz := hgr.size
        have hbB : Below w.heap.size w wr := hbr.trans (only_below hgr (Nat.le_refl _) (by omega))
        have HR := Lib.hid (readV_is hown)
        have HC := Lib.hid (l02Counter_c b 0 c0 A n c wr.heap.size ts D m d zs (some ⟨w.heap.size, 0, none⟩) 10 10 cs wr (by omega) (cell_next HQ.out.1 hbB) (cell_next HQ.out.2.1 hbB) (cell_next HQ.out.2.2 hbB) ((HIN.out.next hbB hB).more (by omega)) ((HIL.out.next hbB hB).more (by omega)) (OwnL.of_own hown).all (Nat.le_refl _) hn hts hg hvb)
        have HOWN := Lib.hid hown
        clear hown
        cases hp : refB ts (c0, zs) cs with
        | true =>
          rw [hp] at HC
          have HP := Lib.hid hp
          clear hp
          go_wp2_with fail
          refine HC.out.mono ?_
          rintro e w1 ⟨rfl, hb1⟩
          go_wp2_with fail
          have h10 := valsB_10 hvb
          obtain ⟨R, hR⟩ := restV_head r L cs
          have HFS := Lib.hid (HF.out.trans (by rw [hR, find_this HP.out]))
          have hin := OwnL.of_own (own_below HOWN.out hb1)
          have hbe := bon hbB hb1
          clear HR hR
          go_ret2
          rw [HFS.out]
          simp only [Option.getD_some, h10, Option.isSome_some]
          exact ⟨_, _, rfl, hin, hbe⟩
        | false =>
          rw [hp] at HC
          have HP := Lib.hid hp
          clear hp
          go_wp2_with fail
          refine HC.out.mono ?_
          rintro e w1 ⟨rfl, hb1⟩
          have hz1 := hb1.size
          have hgw1 : W.grownBy w1 (some w.heap.size) := only_trans hgr (grown_of hb1)
          have hown1 := own_below HOWN.out hb1
          have HW1 := Lib.hid hgw1
          clear HOWN
          go_wp2_with fail
          go_loopw [10] (fun i wr => ∃ (j : Nat) (x : Int), j ≤ L.length ∧ i = .int .i64 x ∧ x = (j : Int) - 1 ∧ wr.ownsRow w.heap.size 2 1 (.slice (some ⟨w.heap.size, 0, none⟩) 10 10) 10 ((putV (-r) (L.drop j) cs).map ic) ∧ Hid (∀ t ∈ L.drop j, cs.getD t 0 = r) ∧ w1.grownBy wr (some w.heap.size)) (fun i _ => (intOf i + 1).toNat)
          case atStart => exact ⟨L.length, _, Nat.le_refl _, rfl, rfl, by rw [List.drop_length]; exact hown1, Lib.hid (fun t ht => by rw [List.drop_length] at ht; cases ht), only_refl _ _⟩
          case round =>
            clear hown1
            obtain ⟨j, x, hj, rfl, hxj, hown, HALL, hg2⟩ := hrel
            have hgz2 := hg2.size
            have hg3 := only_trans HW1.out hg2
            have hb3 : Below w.heap.size w wr := hbr.trans (only_below hg3 (Nat.le_refl _) (by omega))
            by_cases hj0 : j = 0
            · obtain rfl : x = -1 := by omega
              have HFN : Hid (F = none) := HF.out.trans (by rw [restV_end (fun t ht => HALL.out t (by rw [hj0]; exact ht)), find_skip HP.out]; rfl)
              clear hown hj0 hxj hj HR
              go_wp2_with fail
              go_ret2
              rw [HFN.out]
              exact ⟨none, 0, rfl, own_nil _ _, hb3⟩
            · obtain ⟨k, rfl⟩ : ∃ k, j = k + 1 := ⟨j - 1, by omega⟩
              obtain rfl : x = (k : Int) := by omega
              clear hxj hj0
              obtain ⟨s, hs⟩ : ∃ s, L[k]? = some s := ⟨_, List.getElem?_eq_getElem (by omega)⟩
              have hsn := HL.out s (List.mem_of_getElem? hs)
              obtain ⟨b2, off, rfl, hb2, hy⟩ := (HSY.out.next hb3 hB).2 k (by simp [natI]; omega)
              have hy1 : wr.cell? ⟨b2, off + k, none⟩ = some (.int .i64 (s : Nat)) := by simpa [natI, ic, hs] using hy
              have hs1 : (0 : Int) ≤ (s : Int) := by omega
              have hs2 : (s : Int) < 10 := by omega
              have hk0 : (0 : Int) ≤ (k : Int) := by omega
              have hkl : (k : Int) < (L.length : Int) := by omega
              obtain ⟨y, hyd⟩ : ∃ y, y = cs.getD s 0 := ⟨_, rfl⟩
              have hcl := hown.cellAt s hsn
              rw [show ((putV (-r) (L.drop (k + 1)) cs).map ic)[s]? = some (.int .i64 y) by
                rw [List.getElem?_map, (putV_off _ _ _).2 s (not_drop HD.out hs), hyd, List.getD_eq_getElem?_getD, List.getElem?_eq_getElem (by rw [valsB_10 hvb]; exact hsn)]; rfl] at hcl
              have hfz := hown.frozenAt s
              have hyb := HBT.out s (List.mem_of_getElem? hs)
              rw [← hyd] at hyb
              have HS := Lib.hid hs
              clear hy
              by_cases hyr : y = r
              · rw [hyr] at hcl
                have hst := hown.stored s (.int .i64 (-r))
                rw [show ((putV (-r) (L.drop (k + 1)) cs).map ic).set s (.int .i64 (-r)) = (putV (-r) (L.drop k) cs).map ic by rw [drop_at hs]; show _ = ((putV (-r) (L.drop (k + 1)) cs).set s (-r)).map ic; rw [List.map_set]; rfl] at hst
                have HST := Lib.hid hst
                have HALL2 : Hid (∀ t ∈ L.drop k, cs.getD t 0 = r) := Lib.hid (fun t ht => by
                  rw [drop_at HS.out] at ht
                  rcases List.mem_cons.1 ht with rfl | h'
                  · rw [← hyd]; exact hyr
                  · exact HALL.out t h')
                clear hst hown hs hyd hyr
                go_wp2_with fail
                go_roundw
                case rel => exact ⟨k, (k : Int) - 1, by omega, by go_num, rfl, HST.out.1, HALL2, only_trans hg2 HST.out.2⟩
                case measure => simp [intOf]
              · have hyq : (y == r) = false := by simp [hyr]
                have hyr2 : y < r := by omega
                have hst := hown.stored s (.int .i64 (y + 1))
                rw [show ((putV (-r) (L.drop (k + 1)) cs).map ic).set s (.int .i64 (y + 1)) = ((putV (-r) (L.drop (k + 1)) cs).set s (y + 1)).map ic by rw [List.map_set]; rfl] at hst
                have hok := step_ok hr0 HD.out HL.out (valsB_10 hvb) hs HALL.out (by rw [← hyd]; exact hyr2) HBT.out
                rw [← hyd] at hok
                have HOK := Lib.hid hok
                have HST := Lib.hid hst
                have HVB := Lib.hid (valsB_set (putV_valsB (L := L.drop (k + 1)) hr0 hr4 hvb) (s := s) (n := y + 1) (by omega) (by omega))
                have HF3 := Lib.hid (HF.out.trans (by rw [hok.1, find_skip HP.out]))
                clear hst hown hs hyd hyr hok
                go_wp2_with fail
                go_roundw
                case rel => exact ⟨_, HST.out.1, HVB.out, HOK.out.2, HF3.out, only_trans hg3 HST.out.2⟩
                case measure =>
                  rw [readV_is HST.out.1, HR.out, HOK.out.1]
                  simp
end Go.Proofs.Ytapndnkcmmpdjaa
