/-
  The program's search for the least numbers that refute. Conditions: a valid sequent, reach at most 4.
-/
import Derived.Test.YtapndnkcmmpdjaaOdo
namespace Go.Proofs.Ytapndnkcmmpdjaa
open Go.RowKit
set_option linter.unusedVariables false

def natI (L : List Nat) : List Int := L.map fun s => ((s : Nat) : Int)
theorem natI_len (L : List Nat) : (natI L).length = L.length := by simp [natI]
theorem inL_tail {w : World} {B b off n : Nat} {x : Int} {zs : List Int} (h : InL w B (some ⟨b, off, none⟩) (n + 1) (x :: zs)) : InL w B (some ⟨b, off + 1, none⟩) n zs := by
  refine ⟨by have := h.1; simpa using this, fun j hj => ?_⟩
  obtain ⟨b', off', e, hb, hc⟩ := h.2 (j + 1) (by simp at hj ⊢; omega)
  cases e
  refine ⟨_, _, rfl, hb, ?_⟩
  rw [show off + 1 + j = off + (j + 1) by omega, hc]
  simp
theorem valsB_set {vs : List Int} (h : valsB vs = true) {s : Nat} {n : Int} (h1 : -4 ≤ n) (h2 : n ≤ 4) : valsB (vs.set s n) = true := by
  unfold valsB btw at h ⊢
  simp only [Bool.and_eq_true, decide_eq_true_eq, List.length_set] at h ⊢
  refine ⟨h.1, fun z hz => ?_⟩
  rcases List.mem_or_eq_of_mem_set hz with h' | rfl
  · exact h.2 z h'
  · omega
theorem valsB_10 {vs : List Int} (h : valsB vs = true) : vs.length = 10 := by
  unfold valsB at h
  simp only [Bool.and_eq_true, decide_eq_true_eq] at h
  exact h.1
theorem grown_of {w w' : World} {r : Option Nat} (h : Below w.heap.size w w') : w.grownBy w' r := ⟨h.os, h.tape, h.output, h.size, fun k hk _ => h.block k hk⟩
theorem grown_undrew {w w' : World} {r : Option Nat} (h : w.drew.grownBy w' r) : w.grownBy w' r := ⟨h.os, h.tape, h.output, h.size, h.block⟩
theorem keep_cell {w w' : World} {b o g : Nat} {v : Value} (hc : w.cell? ⟨b, o, none⟩ = some v) (h : w.drew.grownBy w' (some g)) (hn : b ≠ g) : w'.cell? ⟨b, o, none⟩ = some v := (World.cell?_of_block (a := ⟨b, o, none⟩) ((grown_undrew h).block b (cell_lt hc) (fun e => hn (by injection e)))).trans hc
theorem leastV_cons (p : List Int → Bool) (r : Int) (s : Nat) (L : List Nat) (vs : List Int) : leastV p r (s :: L) vs = ((upto r (-r)).flatMap fun n => allV r L (vs.set s n)).find? p := rfl
theorem find_up {p : List Int → Bool} {r k : Int} {s : Nat} {L : List Nat} {vs cs : List Int} (h : k ≤ r) (ho : OffV (s :: L) cs vs) :
    ((upto r k).flatMap fun n => allV r L (vs.set s n)).find? p = (leastV p r L (cs.set s k)).or (((upto r (k + 1)).flatMap fun n => allV r L (vs.set s n)).find? p) := by
  rw [upto_some h, List.flatMap_cons, List.find?_append]
  unfold leastV
  rw [allV_off (OffV.set (n := k) ho)]

set_option maxRecDepth 100000 in
set_option maxHeartbeats 400000 in
theorem search_c (c0 r : Int) (zs : List Int) (ts : List (Int × List Int)) (hr0 : 0 ≤ r) (hr4 : r ≤ 4) (hts : ∀ t ∈ ts, tmB t = true) (hg : tmB (c0, zs) = true) (lo g cv B : Nat) (hBg : B ≤ g) : ∀ (L : List Nat) (A : Option Addr) (n c : Nat) (D : Option Addr) (m d : Nat) (S : Option Addr) (sc : Nat) (vs : List Int) (w : World)
    (h : InTS w B A n ts) (hl : InL w B D m zs) (hS : InL w B S L.length (natI L)) (hsc : L.length ≤ sc) (hV : w.ownsRow lo 2 1 (.slice (some ⟨g, 0, none⟩) 10 cv) 10 (vs.map ic)) (hn : n ≤ 1048576) (hvs : valsB vs = true) (hL : ∀ s ∈ L, s < 10),
    Calls Try.prog 49 #[.agg #[.slice A n c, .int .i64 c0, .slice D m d], .slice S L.length sc, .int .i64 r, .slice (some ⟨g, 0, none⟩) 10 cv] w fun e w' => ∃ v', e = .returned (.bool (leastV (refB ts (c0, zs)) r L vs).isSome) ∧ w'.ownsRow lo 2 1 (.slice (some ⟨g, 0, none⟩) 10 cv) 10 (v'.map ic) ∧ OffV L v' vs ∧ valsB v' = true ∧ Hid (∀ v, leastV (refB ts (c0, zs)) r L vs = some v → v' = v) ∧ w.grownBy w' (some g) := by
  intro L
  induction L with
  | nil =>
    intro A n c D m d S sc vs w h hl hS hsc hV hn hvs hL
    have hgl := (hV.lt g rfl).2
    have hb0 := bnew w (.cells #[.slice A n c, .int .i64 c0, .slice D m d] 43)
    have hP : BlkIs (w.alloc (.cells #[.slice A n c, .int .i64 c0, .slice D m d] 43)) w.heap.size 43 #[.slice A n c, .int .i64 c0, .slice D m d] := blk_new _ _ _ _ rfl
    have p0 := hP.cell 0
    have p1 := hP.cell 1
    have p2 := hP.cell 2
    simp at p0 p1 p2
    have HI := h.next hb0 (by omega)
    have HD := hl.next hb0 (by omega)
    have HV := own_below hV hb0
    have hz := hb0.size
    have HC := Lib.hid (refutes_c c0 A n c (w.alloc (.cells #[.slice A n c, .int .i64 c0, .slice D m d] 43)).heap.size ts D m d zs (some ⟨g, 0, none⟩) 10 cv vs _ (HI.more (by omega)) (HD.more (by omega)) (OwnL.of_own HV).all (Nat.le_refl _) hn hts hg hvs)
    have HV' := Lib.hid HV
    have HF : Hid ((leastV (refB ts (c0, zs)) r [] vs).isSome = refB ts (c0, zs) vs ∧ ∀ v, leastV (refB ts (c0, zs)) r [] vs = some v → vs = v) := by
      show _ ∧ _
      unfold leastV allV
      rw [List.find?_cons]
      cases refB ts (c0, zs) vs
      · exact ⟨rfl, fun v hv => by simp at hv⟩
      · exact ⟨rfl, fun v hv => by simpa using hv⟩
    clear h hl hS HI HD HV hV
    go_enter Try.func49, Try.ntmps49
    go_wp2_with fail
    refine HC.out.mono ?_
    rintro e w1 ⟨rfl, hb1⟩
    go_wp2_with fail
    go_ret
    exact ⟨vs, ret_bool HF.out.1.symm, own_below HV'.out hb1, OffV.refl _ _, hvs, HF.out.2, grown_of (bon hb0 hb1)⟩
  | cons s L ih =>
    intro A n c D m d S sc vs w h hl hS hsc hV hn hvs hL
    have hgl := (hV.lt g rfl).2
    have hb0 := bnew w (.cells #[.slice A n c, .int .i64 c0, .slice D m d] 43)
    have hP : BlkIs (w.alloc (.cells #[.slice A n c, .int .i64 c0, .slice D m d] 43)) w.heap.size 43 #[.slice A n c, .int .i64 c0, .slice D m d] := blk_new _ _ _ _ rfl
    have HI := Lib.hid (h.next hb0 (by omega))
    have HD := Lib.hid (hl.next hb0 (by omega))
    have HV := own_below hV hb0
    have hz := hb0.size
    have HSY := Lib.hid (hS.next hb0 (by omega))
    have ih' := Lib.hid ih
    have hs10 := hL s (by simp)
    have HL' := Lib.hid (fun t (ht : t ∈ L) => hL t (by simp [ht]))
    have hnl : (L.length + 1 : Nat) ≤ sc := hsc
    obtain ⟨F, hF⟩ : ∃ F, F = leastV (refB ts (c0, zs)) r (s :: L) vs := ⟨_, rfl⟩
    rw [← hF]
    have HF0 := Lib.hid (hF.trans (leastV_cons _ _ _ _ _))
    have hz0 : (((L.length : Int) + 1) == 0) = false := by simp; omega
    clear h hl hS hV ih hF
    go_enter Try.func49, Try.ntmps49
    go_wp2_with fail
    generalize w.alloc (.cells #[.slice A n c, .int .i64 c0, .slice D m d] 43) = W at hb0 hP HI HD HV hz HSY ⊢
    go_loopw [9] (fun i wr => ∃ (k : Int) (cs : List Int), -r ≤ k ∧ k ≤ r + 1 ∧ i = .int .i64 k ∧ wr.ownsRow lo 2 1 (.slice (some ⟨g, 0, none⟩) 10 cv) 10 (cs.map ic) ∧ OffV (s :: L) cs vs ∧ valsB cs = true ∧ W.grownBy wr (some g) ∧ Hid (F = ((upto r k).flatMap fun n => allV r L (vs.set s n)).find? (refB ts (c0, zs)))) (fun i _ => (r + 1 - intOf i).toNat)
    case atStart => exact ⟨-r, vs, by omega, by omega, rfl, HV, OffV.refl _ _, hvs, only_refl _ _, HF0.out⟩
    case round =>
      clear HV HF0 hvs
      obtain ⟨k, cs, hk1, hk2, rfl, hown, hoff, hcs, hgr, HF⟩ := hrel
      have hbr : Below B W wr := only_below hgr hBg (by omega)
      have hgz := hgr.size
      by_cases hk : k ≤ r
      · have HSI := Lib.hid (HSY.out.next hbr (Nat.le_refl _))
        obtain ⟨b, off, rfl, hbB, hy⟩ := HSI.out.2 0 (by simp [natI])
        have hy1 : wr.cell? ⟨b, off, none⟩ = some (.int .i64 (s : Nat)) := by simpa [natI, ic] using hy
        have hs1 : (0 : Int) ≤ (s : Int) := by omega
        have hs2 : (s : Int) < 10 := by omega
        obtain ⟨u, hu⟩ : ∃ u, (cs.map ic)[s]? = some u := ⟨_, List.getElem?_eq_getElem (by rw [List.length_map, valsB_10 hcs]; exact hs10)⟩
        have hcl := hown.cellAt s hs10
        rw [hu] at hcl
        have hfz := hown.frozenAt s
        have hst := hown.stored s (.int .i64 k)
        rw [show (cs.map ic).set s (.int .i64 k) = (cs.set s k).map ic by rw [List.map_set]; rfl] at hst
        have HST := Lib.hid hst
        have HOFF := Lib.hid (hoff.set (n := k))
        have HVB := Lib.hid (valsB_set hcs (s := s) (n := k) (by omega) (by omega))
        have HFU := Lib.hid (HF.out.trans (find_up (p := refB ts (c0, zs)) hk hoff))
        have hne : w.heap.size ≠ g := by omega
        have hPw : BlkIs (wr.setCell ⟨g, s, none⟩ (.int .i64 k)) w.heap.size 43 #[.slice A n c, .int .i64 c0, .slice D m d] := BlkIs.far ((hgr.block _ hP.lt (fun e => hne (by injection e))).trans hP) hne _ _
        have q0 : (wr.setCell ⟨g, s, none⟩ (.int .i64 k)).cell? ⟨w.heap.size, 0, none⟩ = some (.slice A n c) := hPw.cell 0
        have q1 : (wr.setCell ⟨g, s, none⟩ (.int .i64 k)).cell? ⟨w.heap.size, 1, none⟩ = some (.int .i64 c0) := hPw.cell 1
        have q2 : (wr.setCell ⟨g, s, none⟩ (.int .i64 k)).cell? ⟨w.heap.size, 2, none⟩ = some (.slice D m d) := hPw.cell 2
        have HOC := Lib.hid hoff
        clear hst hown hu hcs hoff hy HF
        have hnx := natI_len L
        have hb1 : (1 : Int) ≤ (L.length : Int) + 1 := by omega
        have hgw := HST.out.2
        have hgrw := only_trans hgr hgw
        have hbw : Below B wr (wr.setCell ⟨g, s, none⟩ (.int .i64 k)).drew := (only_below hgw hBg (by omega)).drew
        by_cases hsc1 : sc = 1
        · subst hsc1
          obtain rfl : L = [] := List.length_eq_zero_iff.1 (by omega)
          clear hsc hnl hnx hb1
          have HS1 : Hid (InL wr B (some ⟨b, off, none⟩) 0 []) := Lib.hid ⟨rfl, fun j hj => by simp at hj⟩
          have HC0 := (ih'.out A n c D m d (some ⟨b, off, none⟩) 0 (cs.set s k) (wr.setCell ⟨g, s, none⟩ (.int .i64 k)).drew ((HI.out.next hbr (Nat.le_refl _)).next hbw (Nat.le_refl _)) ((HD.out.next hbr (Nat.le_refl _)).next hbw (Nat.le_refl _)) (HS1.out.next hbw (Nat.le_refl _)) (Nat.le_refl _) HST.out.1 hn HVB.out (fun t ht => by simp at ht))
          rw [List.length_nil] at HC0
          have HC := Lib.hid HC0
          clear HC0
          have HGW := Lib.hid hgrw
          obtain ⟨G, hG⟩ : ∃ G, G = leastV (refB ts (c0, zs)) r [] (cs.set s k) := ⟨_, rfl⟩
          rw [← hG] at HFU HC
          clear hG hgw hgrw hbw hPw
          cases G with
          | some v =>
            have HFS : Hid (F = some v) := HFU.out.trans rfl
            go_wp2_with fail
            go_region_held3 (fun w' => w'.cell? ⟨w.heap.size, 0, none⟩ = some (.slice A n c) ∧ w'.cell? ⟨w.heap.size, 1, none⟩ = some (.int .i64 c0) ∧ w'.cell? ⟨w.heap.size, 2, none⟩ = some (.slice D m d))
              (first | go_keep | exact ⟨q0, q1, q2⟩ | exact ⟨keep_cell q0 hg2 hne, keep_cell q1 hg2 hne, keep_cell q2 hg2 hne⟩)
              (first | (go_at_call 49; refine HC.out.mono ?_; rintro e w2 ⟨v2, rfl, hr2, ho2, hv2, HE2, hg2⟩))
            go_wp2_with fail
            go_ret
            refine ⟨v2, ret_bool (by rw [HFS.out]; rfl), ?_⟩
            rw [HFS.out]
            exact ⟨hr2, (ho2.more (fun t ht => List.mem_cons_of_mem _ ht)).trans (((offV_set s cs k).more (fun t ht => by simp at ht; simp [ht])).trans HOC.out), hv2, (fun u hu => by injection hu with hu; rw [← hu]; exact HE2.out v rfl), only_trans (only_trans (grown_of hb0) HGW.out) (grown_undrew hg2)⟩
          | none =>
            have HFN : Hid (F = ((upto r (k + 1)).flatMap fun n => allV r [] (vs.set s n)).find? (refB ts (c0, zs))) := HFU.out.trans (Option.none_or)
            go_wp2_with fail
            go_region_held3 (fun w' => w'.cell? ⟨w.heap.size, 0, none⟩ = some (.slice A n c) ∧ w'.cell? ⟨w.heap.size, 1, none⟩ = some (.int .i64 c0) ∧ w'.cell? ⟨w.heap.size, 2, none⟩ = some (.slice D m d))
              (first | go_keep | exact ⟨q0, q1, q2⟩ | exact ⟨keep_cell q0 hg2 hne, keep_cell q1 hg2 hne, keep_cell q2 hg2 hne⟩)
              (first | (go_at_call 49; refine HC.out.mono ?_; rintro e w2 ⟨v2, rfl, hr2, ho2, hv2, HE2, hg2⟩))
            go_wp2_with fail
            go_roundw
            case rel => exact ⟨_, _, _, _, _, _, _, _, _, _, _, _, _, _, _, _, _, _, _, ⟨k + 1, v2, by omega, by omega, by go_num, hr2, (ho2.more (fun t ht => List.mem_cons_of_mem _ ht)).trans (((offV_set s cs k).more (fun t ht => by simp at ht; simp [ht])).trans HOC.out), hv2, only_trans HGW.out (grown_undrew hg2), HFN.out⟩, rfl⟩
            case measure => simp [intOf]; omega
        · have HC := Lib.hid (ih'.out A n c D m d (some ⟨b, off + 1, none⟩) (sc - 1) (cs.set s k) (wr.setCell ⟨g, s, none⟩ (.int .i64 k)).drew ((HI.out.next hbr (Nat.le_refl _)).next hbw (Nat.le_refl _)) ((HD.out.next hbr (Nat.le_refl _)).next hbw (Nat.le_refl _)) ((inL_tail HSI.out).next hbw (Nat.le_refl _)) (by omega) HST.out.1 hn HVB.out HL'.out)
          have HGW := Lib.hid hgrw
          obtain ⟨G, hG⟩ : ∃ G, G = leastV (refB ts (c0, zs)) r L (cs.set s k) := ⟨_, rfl⟩
          rw [← hG] at HFU HC
          clear hG hgw hgrw hbw hPw
          cases G with
          | some v =>
            have HFS : Hid (F = some v) := HFU.out.trans rfl
            go_wp2_with fail
            go_region_held3 (fun w' => w'.cell? ⟨w.heap.size, 0, none⟩ = some (.slice A n c) ∧ w'.cell? ⟨w.heap.size, 1, none⟩ = some (.int .i64 c0) ∧ w'.cell? ⟨w.heap.size, 2, none⟩ = some (.slice D m d))
              (first | go_keep | exact ⟨q0, q1, q2⟩ | exact ⟨keep_cell q0 hg2 hne, keep_cell q1 hg2 hne, keep_cell q2 hg2 hne⟩)
              (first | (go_at_call 49; refine HC.out.mono ?_; rintro e w2 ⟨v2, rfl, hr2, ho2, hv2, HE2, hg2⟩))
            go_wp2_with fail
            go_ret
            refine ⟨v2, ret_bool (by rw [HFS.out]; rfl), ?_⟩
            rw [HFS.out]
            exact ⟨hr2, (ho2.more (fun t ht => List.mem_cons_of_mem _ ht)).trans (((offV_set s cs k).more (fun t ht => by simp at ht; simp [ht])).trans HOC.out), hv2, (fun u hu => by injection hu with hu; rw [← hu]; exact HE2.out v rfl), only_trans (only_trans (grown_of hb0) HGW.out) (grown_undrew hg2)⟩
          | none =>
            have HFN : Hid (F = ((upto r (k + 1)).flatMap fun n => allV r L (vs.set s n)).find? (refB ts (c0, zs))) := HFU.out.trans (Option.none_or)
            go_wp2_with fail
            go_region_held3 (fun w' => w'.cell? ⟨w.heap.size, 0, none⟩ = some (.slice A n c) ∧ w'.cell? ⟨w.heap.size, 1, none⟩ = some (.int .i64 c0) ∧ w'.cell? ⟨w.heap.size, 2, none⟩ = some (.slice D m d))
              (first | go_keep | exact ⟨q0, q1, q2⟩ | exact ⟨keep_cell q0 hg2 hne, keep_cell q1 hg2 hne, keep_cell q2 hg2 hne⟩)
              (first | (go_at_call 49; refine HC.out.mono ?_; rintro e w2 ⟨v2, rfl, hr2, ho2, hv2, HE2, hg2⟩))
            go_wp2_with fail
            go_roundw
            case rel => exact ⟨k + 1, v2, by omega, by omega, by go_num, hr2, (ho2.more (fun t ht => List.mem_cons_of_mem _ ht)).trans (((offV_set s cs k).more (fun t ht => by simp at ht; simp [ht])).trans HOC.out), hv2, only_trans HGW.out (grown_undrew hg2), HFN.out⟩
            case measure => simp [intOf]; omega
      · have e : k = r + 1 := by omega
        have HFN : Hid (F = none) := HF.out.trans (by rw [upto_none (by omega)]; rfl)
        clear HF
        go_wp2_with fail
        go_ret
        refine ⟨ret_bool (by rw [HFN.out]; rfl), cs, ?_⟩
        rw [HFN.out]
        exact ⟨hown, hoff, hcs, (fun u hu => by cases hu), only_trans (grown_of hb0) hgr⟩
end Go.Proofs.Ytapndnkcmmpdjaa
