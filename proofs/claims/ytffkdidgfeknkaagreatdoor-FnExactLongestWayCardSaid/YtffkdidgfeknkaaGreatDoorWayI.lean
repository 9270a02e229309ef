/-
  The program's LongestWay. Conditions: at most 2^20 elements and numbers; the program's own error and the library's table lie in their variables.
-/
import Derived.Test.YtffkdidgfeknkaaGreatDoorBunL
import Derived.Test.YtffkdidgfeknkaaGreatDoorSetA
import Derived.Test.YtffkdidgfeknkaaGreatDoorBunN
import Derived.Test.YtffkdidgfeknkaaGreatDoorCirc
import Derived.Test.YtffkdidgfeknkaaGreatDoorBunF
namespace Go.Proofs.YtffkdidgfeknkaaGreatDoor
set_option linter.unusedVariables false
open Go.RowKit

theorem wayR_len (t0 t1 : List (Int × List Int)) (xs : List (Int × Int)) (ps : List P2) : True := trivial

set_option maxRecDepth 100000 in
set_option maxHeartbeats 16000000 in
theorem implWay_c (tp : TypeId) (pv : Value) (A0 : Option Addr) (n0 c0 : Nat) (t0 : List (Int × List Int)) (A1 : Option Addr) (n1 c1 : Nat) (t1 : List (Int × List Int)) (A2 : Option Addr) (n2 c2 : Nat) (t2 : List (Int × Int)) (A3 : Option Addr) (n3 c3 : Nat) (t3 : List P2) (w : World) (h0 : InTS w w.heap.size A0 n0 t0) (h1 : InTS w w.heap.size A1 n1 t1) (h2 : InC w w.heap.size A2 n2 t2) (h3 : InP2 w w.heap.size A3 n3 t3) (hn0 : n0 ≤ 1048576) (he0 : totT t0 ≤ 1048576) (hn1 : n1 ≤ 1048576) (he1 : totT t1 ≤ 1048576) (hn2 : n2 ≤ 1048576) (hn3 : n3 ≤ 1048576) (he3 : totP2 t3 ≤ 1048576) (hs : Stuck tp pv w) (hT : TabZ w) :
    Calls Tryz.prog 18 #[.agg #[.slice A0 n0 c0, .slice A1 n1 c1, .slice A2 n2 c2, .slice A3 n3 c3]] w fun e w' => e = .returned (.tuple #[.int .i64 (wayR t0 t1 t2 t3).1, .bool (wayR t0 t1 t2 t3).2]) ∧ Below w.heap.size w w' := by
  have hb0 := bnew w (.cells #[.slice A0 n0 c0, .slice A1 n1 c1, .slice A2 n2 c2, .slice A3 n3 c3] 35)
  have hP : BlkIs (w.alloc (.cells #[.slice A0 n0 c0, .slice A1 n1 c1, .slice A2 n2 c2, .slice A3 n3 c3] 35)) w.heap.size 35 #[.slice A0 n0 c0, .slice A1 n1 c1, .slice A2 n2 c2, .slice A3 n3 c3] := blk_new _ _ _ _ rfl
  have HGT := Lib.hid (implHgo_c tp pv A0 n0 c0 t0 A1 n1 c1 t1 A2 n2 c2 t2 A3 n3 c3 t3 _ ((h0.next hb0 (Nat.le_refl _)).more hb0.size) ((h1.next hb0 (Nat.le_refl _)).more hb0.size) ((h2.next hb0 (Nat.le_refl _)).more hb0.size) ((h3.next hb0 (Nat.le_refl _)).more hb0.size) hn0 he0 hn1 he1 hn2 hn3 he3 (hs.next hb0))
  have p0 : (w.alloc (.cells #[.slice A0 n0 c0, .slice A1 n1 c1, .slice A2 n2 c2, .slice A3 n3 c3] 35)).cell? ⟨w.heap.size, 0, none⟩ = some (.slice A0 n0 c0) := hP.cell 0
  have p1 : (w.alloc (.cells #[.slice A0 n0 c0, .slice A1 n1 c1, .slice A2 n2 c2, .slice A3 n3 c3] 35)).cell? ⟨w.heap.size, 1, none⟩ = some (.slice A1 n1 c1) := hP.cell 1
  have p2 : (w.alloc (.cells #[.slice A0 n0 c0, .slice A1 n1 c1, .slice A2 n2 c2, .slice A3 n3 c3] 35)).cell? ⟨w.heap.size, 2, none⟩ = some (.slice A2 n2 c2) := hP.cell 2
  have p3 : (w.alloc (.cells #[.slice A0 n0 c0, .slice A1 n1 c1, .slice A2 n2 c2, .slice A3 n3 c3] 35)).cell? ⟨w.heap.size, 3, none⟩ = some (.slice A3 n3 c3) := hP.cell 3
  obtain ⟨R, HR⟩ : ∃ R, Hid (wayR t0 t1 t2 t3 = R) := ⟨_, rfl⟩
  rw [HR.out]
  have hpar := fun h => hgoR_parts (t0 := t0) (t1 := t1) (xs := t2) (ps := t3) h
  have hwno := fun h => wayR_no (t0 := t0) (t1 := t1) (xs := t2) (ps := t3) h
  have hwyes := fun m h1 h2 h3 => wayR_yes (t0 := t0) (t1 := t1) (xs := t2) (ps := t3) (m := m) h1 h2 h3
  rw [HR.out] at hwno hwyes
  obtain ⟨⟨L, ok⟩, HG⟩ : ∃ T, Hid (hgoR t0 t1 t2 t3 = T) := ⟨_, rfl⟩
  rw [HG.out] at HGT hpar hwno hwyes
  dsimp only at HGT hpar hwno hwyes
  have HPAR := Lib.hid hpar
  have HNO := Lib.hid hwno
  have HYES := Lib.hid hwyes
  have HX := Lib.hid hP
  have HI := Lib.hid (And.intro h2 h3)
  clear hP hpar hwno hwyes h0 h1 h2 h3 hs
  obtain ⟨ll, hll⟩ : ∃ ll, Hid (L.length = ll) := ⟨_, rfl⟩
  rw [hll.out] at HGT
  go_enter Tryz.func18, Tryz.ntmps18
  go_wp2_with fail
  generalize w.alloc (.cells #[.slice A0 n0 c0, .slice A1 n1 c1, .slice A2 n2 c2, .slice A3 n3 c3] 35) = W at hb0 HX HGT p0 p1 p2 p3 ⊢
  obtain ⟨b, hbb⟩ : ∃ b, Hid (w.heap.size = b) := ⟨_, rfl⟩
  rw [hbb.out] at HX p0 p1 p2 p3
  rw [show (.pointer (some ⟨w.heap.size, 0, none⟩) : Value) = .pointer (some ⟨b, 0, none⟩) by rw [hbb.out]]
  refine HGT.out.mono ?_
  rintro e w1 ⟨AL, cL, rfl, _, hb1⟩
  have HB1 := Lib.hid (bon hb0 hb1)
  have HX1 := Lib.hid (HX.out.next hb1)
  clear hb0 hb1 HX HGT p0 p1 p2 p3
  cases ok with
  | false =>
    have HE := Lib.hid (HNO.out rfl)
    go_wp2_with fail
    go_ret2
    rw [HE.out]
    exact ⟨rfl, HB1.out⟩
  | true =>
  obtain ⟨hann, hlst⟩ := HPAR.out rfl
  have hcb := (annB_parts hann).1
  have hlen : t2.length = n2 := HI.out.1.1
  have hn80 : 1 ≤ n2 ∧ n2 ≤ 80 := by have := codeB_parts hcb; omega
  obtain ⟨ms, hms⟩ := marks_exist t2 (fun t => t = 0)
  have HLEN := Lib.hid hlen
  have HANN := Lib.hid hann
  have HCB := Lib.hid hcb
  have HIN : Hid (∀ i, RchN t2 i → i < t2.length) := fun i hr => by have := (hlst.good.reach hcb _ hr).1; omega
  have HGL := Lib.hid (gN_lt (xs := t2) (by omega) (atsP t3))
  have p2 : w1.cell? ⟨b, 2, none⟩ = some (.slice A2 n2 c2) := HX1.out.cell 2
  have HRC := implReach_c A2 n2 c2 w.heap.size t2 ms w1 (HI.out.1.next HB1.out (Nat.le_refl _)) HB1.out.size hn2 hms
  rw [show rchR t2 ms = (lstM ms t2.length, true) from if_pos hcb, hlen] at HRC
  dsimp only at HRC
  have HRC := Lib.hid HRC
  have HMS : Hid (∀ k : Nat, k < n2 → ((k : Int) ∈ lstM ms n2 ↔ RchN t2 k)) := fun k hk => by have := mem_reached hms (k := k) (by omega); rwa [hlen] at this
  have hrl := lstM_len ms n2
  have hrb : ∀ z ∈ lstM ms n2, 0 ≤ z ∧ z < n2 := fun z hz => by
    unfold lstM at hz
    obtain ⟨j, hj, rfl⟩ := List.mem_map.1 hz
    have := List.mem_range.1 (List.mem_filter.1 hj).1
    omega
  obtain ⟨rs, hrs⟩ : ∃ rs, Hid (lstM ms n2 = rs) := ⟨_, rfl⟩
  rw [hrs.out] at HRC HMS hrl hrb
  have HRB := Lib.hid hrb
  clear hann hlst hcb hlen hms hrb
  go_wp2_with fail
  refine HRC.out.mono ?_
  rintro e w2 ⟨AR, cR, rfl, hor, hb2⟩
  have HB2 := Lib.hid (bon HB1.out hb2)
  have hX2 := HX1.out.next hb2
  have p0 : w2.cell? ⟨b, 0, none⟩ = some (.slice A0 n0 c0) := hX2.cell 0
  have p1 : w2.cell? ⟨b, 1, none⟩ = some (.slice A1 n1 c1) := hX2.cell 1
  have p2 : w2.cell? ⟨b, 2, none⟩ = some (.slice A2 n2 c2) := hX2.cell 2
  have p3 : w2.cell? ⟨b, 3, none⟩ = some (.slice A3 n3 c3) := hX2.cell 3
  have HGR := Lib.hid (graphOf_c A0 n0 c0 t0 A1 n1 c1 t1 A2 n2 c2 w.heap.size t2 A3 n3 c3 t3 w2 (HI.out.1.next HB2.out (Nat.le_refl _)) (HI.out.2.next HB2.out (Nat.le_refl _)) HB2.out.size HANN.out)
  have HOR := Lib.hid (fun W3 (h : Below w2.heap.size w2 W3) => (hor.all.next h (Nat.le_refl _)).more h.size)
  clear hor hb2 hX2 HX1 HRC
  go_wp2_with fail
  refine HGR.out.mono ?_
  rintro e w3 ⟨gb, rfl, hgb, hG, hb3⟩
  have HB3 := Lib.hid (bon HB2.out hb3)
  obtain ⟨G, hGG⟩ : ∃ G, Hid (gN t2 (atsP t3) = G) := ⟨_, rfl⟩
  rw [hGG.out] at hG HGL HYES
  have HGA := Lib.hid hG
  have HPL := Lib.hid (placesOf_c AR rs.length cR w3.heap.size rs w3 (HOR.out w3 hb3) (Nat.le_refl _) (by omega) (fun z hz => by have := HRB.out z hz; omega))
  obtain ⟨S0, hS0⟩ : ∃ S0, Hid (putsS 0 rs = S0) := ⟨_, rfl⟩
  have hS128 : S0 < 2 ^ 128 := by rw [← hS0.out]; exact putsS_lt (by decide) (fun z hz => by have := HRB.out z hz; omega)
  have hSb : ∀ i : Nat, S0.testBit i = true ↔ RchN t2 i := fun i => by
    rw [← hS0.out, putsS_bit]
    simp only [Nat.zero_testBit, Bool.false_eq_true, false_or]
    constructor
    · rintro ⟨z, hz, e⟩
      have h1 := HRB.out z hz
      have : z = (i : Int) := by omega
      subst this
      exact (HMS.out i (by omega)).1 hz
    · intro hr
      exact ⟨i, (HMS.out i (by have := HIN.out i hr; have := HLEN.out; omega)).2 hr, by simp⟩
  rw [hS0.out] at HPL
  have HS128 := Lib.hid hS128
  have HSB := Lib.hid hSb
  clear hG hb3 hgb hS128 hSb p0 p1 p2 p3 HGR HOR
  go_wp2_with fail
  refine HPL.out.mono ?_
  rintro e w4 ⟨rfl, hb4⟩
  have hb5 := bnew w4 (.cells #[.int .u64 (loW S0 : Nat), .int .u64 (hiW S0 : Nat)] 68)
  have hszw : w.heap.size ≤ w4.heap.size := Nat.le_trans HB3.out.size hb4.size
  have hgb4 : gb < w4.heap.size := cell_lt ((HGA.out.next hb4) 0 (by omega)).1
  have hBX : BlkIs (w4.alloc (.cells #[.int .u64 (loW S0 : Nat), .int .u64 (hiW S0 : Nat)] 68)) w4.heap.size 68 #[.int .u64 (loW S0 : Nat), .int .u64 (hiW S0 : Nat)] := blk_new _ _ _ _ rfl
  have HG5 := Lib.hid ((HGA.out.next hb4).next hb5)
  have HB5 := Lib.hid (bon (bon HB3.out hb4) hb5)
  have HBX := Lib.hid hBX
  clear hb4 hb5 hBX HPL HGA
  go_upto_region 7 with fail
  generalize w4.alloc (.cells #[.int .u64 (loW S0 : Nat), .int .u64 (hiW S0 : Nat)] 68) = w5 at HG5 HB5 HBX ⊢
  obtain ⟨sb, hsb⟩ : ∃ sb, Hid (w4.heap.size = sb) := ⟨_, rfl⟩
  rw [hsb.out] at HBX
  rw [show (.pointer (some ⟨w4.heap.size, 0, none⟩) : Value) = .pointer (some ⟨sb, 0, none⟩) by rw [hsb.out]]
  have hdr : Below w5.heap.size w5 w5.drew := (Below.refl _ _).drew
  have HG5 := Lib.hid (HG5.out.next hdr)
  have HB5 := Lib.hid (bon HB5.out hdr)
  have HBX := Lib.hid (HBX.out.next hdr)
  have hsbl : w.heap.size ≤ sb := by rw [← hsb.out]; exact hszw
  have hgsb : gb ≠ sb := by rw [← hsb.out]; omega
  clear hszw hgb4
  have y0 := And.intro (show w5.drew.cell? ⟨sb, 0, none⟩ = some (.int .u64 (loW S0 : Nat)) from HBX.out.cell 0) (show w5.drew.cell? ⟨sb, 1, none⟩ = some (.int .u64 (hiW S0 : Nat)) from HBX.out.cell 1)
  obtain ⟨C, hC⟩ : ∃ C, Hid (cirN (wmN G n2 n2) n2 = C) := ⟨_, rfl⟩
  have HCI := circles_c gb n2 n2 G w5.drew HG5.out HGL.out hn80
  rw [hC.out] at HCI
  have HCI := Lib.hid HCI
  have HC128 : Hid (C < 2 ^ 128) := by show _; rw [← hC.out]; exact cirN_lt _ _ (by omega)
  have HA128 : Hid (C &&& S0 < 2 ^ 128) := Nat.lt_of_le_of_lt Nat.and_le_left HC128.out
  have HCB2 : Hid (∀ i : Nat, C.testBit i = true ↔ i < t2.length ∧ OnC t2 t3 i) := fun i => by
    rw [← hC.out, cirN_bit, ← hGG.out]
    constructor
    · rintro ⟨h1, h2⟩
      have hi : i < t2.length := by have := HLEN.out; omega
      have h3 := (wmN_is (n := n2) (fun k t h => by have := gN_in HCB.out t3 k t h; have := HLEN.out; omega) h1).1 h2
      exact ⟨hi, (onC_iff HCB.out hi).2 h3⟩
    · rintro ⟨hi, ho⟩
      have h1 : i < n2 := by have := HLEN.out; omega
      exact ⟨h1, (wmN_is (n := n2) (fun k t h => by have := gN_in HCB.out t3 k t h; have := HLEN.out; omega) h1).2 ((onC_iff HCB.out hi).1 ho)⟩
  refine wp_region_held_drew (S := fun W9 => W9.cell? ⟨sb, 0, none⟩ = some (.int .u64 (loW S0 : Nat)) ∧ W9.cell? ⟨sb, 1, none⟩ = some (.int .u64 (hiW S0 : Nat))) (by kernel_rfl) y0 ?_
  intro hHeld0
  refine wpAnyH_take (i := 0) (v := ?_) rfl (by kernel_rfl) (by kernel_rfl) (by kernel_rfl) (fun _ _ _ h => h) (Or.inl ⟨by kernel_rfl, ?_⟩) (by assumption) ?_
  rotate_left
  · intro w9 hS9; (try dsimp only at hS9); go_simp; (try with_reducible rfl)
  set_option linter.unusedSimpArgs false in try simp only [Act.put, List.getElem_toArray, List.getElem_cons_succ, List.getElem_cons_zero, List.setIfInBounds_toArray, List.set_cons_zero, List.set_cons_succ]
  refine wpAnyH_take (i := 2) (v := ?_) rfl (by kernel_rfl) (by kernel_rfl) (by kernel_rfl) (fun _ _ _ h => h) (Or.inl ⟨by kernel_rfl, ?_⟩) (by assumption) ?_
  rotate_left
  · intro w9 hS9; (try dsimp only at hS9); go_simp; (try with_reducible rfl)
  set_option linter.unusedSimpArgs false in try simp only [Act.put, List.getElem_toArray, List.getElem_cons_succ, List.getElem_cons_zero, List.setIfInBounds_toArray, List.set_cons_zero, List.set_cons_succ]
  refine wpAnyH_ready (rs := [1]) (by kernel_rfl) (by simp) ?_
  refine AllReadyH.cons rfl (fun K hK => ?_) (AllReadyH.nil)
  go_simp
  go_wp2_with (go_at_call 38; refine HCI.out.mono ?_; rintro e w7 ⟨rfl, hb7⟩)
  have k7 := HBX.out.next hb7
  have y7 := And.intro (show w7.cell? ⟨sb, 0, none⟩ = some (.int .u64 (loW S0 : Nat)) from k7.cell 0) (show w7.cell? ⟨sb, 1, none⟩ = some (.int .u64 (hiW S0 : Nat)) from k7.cell 1)
  refine hK.out _ _ y7 (fun hHeld1 => ?_)
  clear hK K hHeld0
  set_option linter.unusedSimpArgs false in try simp only [Act.put, List.getElem_toArray, List.getElem_cons_succ, List.getElem_cons_zero, List.setIfInBounds_toArray, List.set_cons_zero, List.set_cons_succ]
  refine wpAnyH_ready (rs := [3]) (by kernel_rfl) (by simp) ?_
  refine AllReadyH.cons rfl (fun K hK => ?_) (AllReadyH.nil)
  go_simp
  go_wp2_with (go_at_call 45; refine (and_c C S0 w7 HC128.out HS128.out).mono ?_; rintro e w8 ⟨rfl, hb8⟩)
  have k8 := k7.next hb8
  have y8 := And.intro (show w8.cell? ⟨sb, 0, none⟩ = some (.int .u64 (loW S0 : Nat)) from k8.cell 0) (show w8.cell? ⟨sb, 1, none⟩ = some (.int .u64 (hiW S0 : Nat)) from k8.cell 1)
  refine hK.out _ _ y8 (fun hHeld2 => ?_)
  clear hK K hHeld1
  set_option linter.unusedSimpArgs false in try simp only [Act.put, List.getElem_toArray, List.getElem_cons_succ, List.getElem_cons_zero, List.setIfInBounds_toArray, List.set_cons_zero, List.set_cons_succ]
  refine wpAnyH_ready (rs := [4]) (by kernel_rfl) (by simp) ?_
  refine AllReadyH.cons rfl (fun K hK => ?_) (AllReadyH.nil)
  go_simp
  go_wp2_with (go_at_call 46; refine (isEmpty_c (C &&& S0) w8 HA128.out).mono ?_; rintro e w9 ⟨rfl, hb9⟩)
  have k9 := k8.next hb9
  have y9 := And.intro (show w9.cell? ⟨sb, 0, none⟩ = some (.int .u64 (loW S0 : Nat)) from k9.cell 0) (show w9.cell? ⟨sb, 1, none⟩ = some (.int .u64 (hiW S0 : Nat)) from k9.cell 1)
  refine hK.out _ _ y9 (fun hHeld3 => ?_)
  clear hK K hHeld2
  set_option linter.unusedSimpArgs false in try simp only [Act.put, List.getElem_toArray, List.getElem_cons_succ, List.getElem_cons_zero, List.setIfInBounds_toArray, List.set_cons_zero, List.set_cons_succ]
  refine wpAnyH_take (i := 5) (v := ?_) rfl (by kernel_rfl) (by kernel_rfl) (by kernel_rfl) (fun _ _ _ h => h) (Or.inl ⟨by kernel_rfl, ?_⟩) (by assumption) ?_
  rotate_left
  · intro w9 hS9; (try dsimp only at hS9); go_simp; (try with_reducible rfl)
  set_option linter.unusedSimpArgs false in try simp only [Act.put, List.getElem_toArray, List.getElem_cons_succ, List.getElem_cons_zero, List.setIfInBounds_toArray, List.set_cons_zero, List.set_cons_succ]
  refine wpAnyH_done (by kernel_rfl) ?_ _
  have HK9 := Lib.hid k9
  have HG9 := Lib.hid (HG5.out.next (bon hb7 (bon hb8 hb9)))
  have HB9 := Lib.hid (bon HB5.out (bon hb7 (bon hb8 hb9)))
  clear y7 y8 y9 y0 k7 k8 k9 hb7 hb8 hb9
  by_cases hz : C &&& S0 = 0
  · have hna : ∀ i, i < t2.length → OnC t2 t3 i → ¬ RchN t2 i := fun i hi ho hr => by
      have h1 := (HCB2.out i).2 ⟨hi, ho⟩
      have h2 := (HSB.out i).2 hr
      have h3 : (C &&& S0).testBit i = true := by rw [Nat.testBit_and, h1, h2]; rfl
      rw [hz, Nat.zero_testBit] at h3
      cases h3
    have HNA := Lib.hid hna
    have hzd : decide (C &&& S0 = 0) = true := decide_eq_true hz
    rw [hzd]
    clear hna hzd hz
    have HGB : Hid (∀ k t, (G k).testBit t = true → t < n2) := fun k t h => by rw [← hGG.out] at h; have := gN_in HCB.out t3 k t h; have := HLEN.out; omega
    have HLB : Hid (∀ k i, (lastS G S0 k).testBit i = true → i < n2) := fun k i h => by
      cases k with
      | zero => have := HIN.out i ((HSB.out i).1 h); have := HLEN.out; omega
      | succ k =>
        change (allS G (bitsL (lastS G S0 k))).testBit i = true at h
        obtain ⟨s, _, e⟩ := (allS_bit _ _ _).1 h
        exact HGB.out s i e
    have HLE : Hid (∀ k, lastS G S0 k ≠ 0 → k + 1 ≤ n2) := fun k h => by
      obtain ⟨i, hi, hw⟩ := last_some HGL.out HS128.out h
      have hr := (HSB.out i).1 hi
      have := way_le HCB.out HNA.out (HIN.out i hr) hr (by rw [hGG.out]; exact hw)
      have := HLEN.out; omega
    go_wp2_with fail
    go_loopw [10] (fun l wr => ∃ k : Nat, l = .int .i64 k ∧ k ≤ n2 ∧ Hid (∀ j, j < k → lastS G S0 j ≠ 0) ∧ Hid (BlkIs wr sb 68 #[.int .u64 (loW (lastS G S0 k) : Nat), .int .u64 (hiW (lastS G S0 k) : Nat)]) ∧ Hid (GrAt wr gb n2 G) ∧ Hid (Below w.heap.size w wr)) (fun l _ => (n2 + 1 - intOf l).toNat)
    case atStart => exact ⟨0, rfl, Nat.zero_le _, Lib.hid (fun j hj => absurd hj (Nat.not_lt_zero _)), HK9, HG9, HB9⟩
    case round =>
      clear HK9 HG9 HB9
      rename World => wr
      obtain ⟨k, rfl, hk, hne, HK, HGw, HW⟩ := hrel
      have hl128 := lastS_lt HGL.out HS128.out k
      obtain ⟨S, hS⟩ : ∃ S, Hid (lastS G S0 k = S) := ⟨_, rfl⟩
      rw [hS.out] at HK hl128
      have c0 : wr.cell? ⟨sb, 0, none⟩ = some (.int .u64 (loW S : Nat)) := HK.out.cell 0
      have c1 : wr.cell? ⟨sb, 1, none⟩ = some (.int .u64 (hiW S : Nat)) := HK.out.cell 1
      have HEM := Lib.hid (isEmpty_c S wr hl128)
      go_wp2_with fail
      refine HEM.out.mono ?_
      rintro e w6 ⟨rfl, hb6⟩
      have HK6 := Lib.hid (HK.out.next hb6)
      have HG6 := Lib.hid (HGw.out.next hb6)
      have HW6 := Lib.hid (bon HW.out hb6)
      clear c0 c1 HK HGw HW hb6 HEM
      by_cases hs0 : S = 0
      · have hE : R = ((k : Int), true) := HYES.out k (by first | rfl | trivial) HNA.out (by
          have := last_len HGL.out HS128.out (k := k) (by rw [hS.out]; exact hs0) hne.out
          exact ⟨fun m i hr hw => this.1 m i ((HSB.out i).2 hr) hw, fun h => by obtain ⟨i, h1, h2⟩ := this.2 h; exact ⟨i, (HSB.out i).1 h1, h2⟩⟩)
        have HE := Lib.hid hE
        rw [decide_eq_true hs0]
        clear hs0 hE
        go_wp2_with fail
        go_ret2
        rw [HE.out]
        exact ⟨rfl, HW6.out⟩
      · have hkn := HLE.out k (by rw [hS.out]; exact hs0)
        have hne2 : ∀ j, j < k + 1 → lastS G S0 j ≠ 0 := fun j hj => by
          by_cases e : j = k
          · subst e; rw [hS.out]; exact hs0
          · exact hne.out j (by omega)
        have HNE := Lib.hid hne2
        rw [decide_eq_false hs0]
        clear hne2 hs0 hne
        have c0 : w6.cell? ⟨sb, 0, none⟩ = some (.int .u64 (loW S : Nat)) := HK6.out.cell 0
        have c1 : w6.cell? ⟨sb, 1, none⟩ = some (.int .u64 (hiW S : Nat)) := HK6.out.cell 1
        have HBE := behind_c gb n2 n2 S G w6 HG6.out HGL.out hl128 (fun i h => HLB.out k i (by rw [hS.out]; exact h)) (hT.next HW6.out) (by omega)
        obtain ⟨S2, hS2⟩ : ∃ S2, Hid (lastS G S0 (k + 1) = S2) := ⟨_, rfl⟩
        rw [show allS G (bitsL S) = S2 by rw [← hS2.out, ← hS.out]; rfl] at HBE
        have HBE := Lib.hid HBE
        go_wp2_with fail
        refine HBE.out.mono ?_
        rintro e w7 ⟨rfl, hb7⟩
        have hK7 := HK6.out.next hb7
        have q0 := hK7.frozen 0
        have q1 := hK7.frozen 1
        have c0 : w7.cell? ⟨sb, 0, none⟩ = some (.int .u64 (loW S : Nat)) := hK7.cell 0
        have c1 : w7.cell? ⟨sb, 1, none⟩ = some (.int .u64 (hiW S : Nat)) := hK7.cell 1
        have hK8 := (hK7.set 0 (.int .u64 (loW S2 : Nat))).set 1 (.int .u64 (hiW S2 : Nat))
        simp at hK8
        have HK8 : Hid (BlkIs ((w7.setCell ⟨sb, 0, none⟩ (.int .u64 (loW S2 : Nat))).setCell ⟨sb, 1, none⟩ (.int .u64 (hiW S2 : Nat))) sb 68 #[.int .u64 (loW (lastS G S0 (k + 1)) : Nat), .int .u64 (hiW (lastS G S0 (k + 1)) : Nat)]) := by show _; rw [hS2.out]; exact hK8
        have hgne : gb ≠ sb := hgsb
        have HG8 : Hid (GrAt ((w7.setCell ⟨sb, 0, none⟩ (.int .u64 (loW S2 : Nat))).setCell ⟨sb, 1, none⟩ (.int .u64 (hiW S2 : Nat))) gb n2 G) := fun i hi => ⟨set_farB hgne (set_farB hgne (HG6.out.next hb7 i hi).1), set_farB hgne (set_farB hgne (HG6.out.next hb7 i hi).2)⟩
        have HW8 := Lib.hid (((bon HW6.out hb7).setCell (p := ⟨sb, 0, none⟩) (by show w.heap.size ≤ sb; omega) (.int .u64 (loW S2 : Nat))).setCell (p := ⟨sb, 1, none⟩) (by show w.heap.size ≤ sb; omega) (.int .u64 (hiW S2 : Nat)))
        clear hK7 hK8 hb7 HK6 HG6 HW6 HBE
        go_wp2_with fail
        go_roundw
        case rel => first | exact ⟨k + 1, by go_num, by omega, HNE, HK8, HG8, HW8⟩ | exact ⟨_, _, _, _, _, _, _, _, _, ⟨k + 1, by go_num, by omega, HNE, HK8, HG8, HW8⟩, rfl⟩
        case measure => simp [intOf]; omega
  · have hzd : decide (C &&& S0 = 0) = false := decide_eq_false hz
    obtain ⟨i, hi⟩ := bit_of_ne hz
    rw [Nat.testBit_and, Bool.and_eq_true] at hi
    obtain ⟨h1, h2⟩ := (HCB2.out i).1 hi.1
    have HE : Hid (R = (0, false)) := by show R = _; rw [← HR.out]; exact wayR_open h1 h2 ((HSB.out i).1 hi.2)
    rw [hzd]
    clear hzd hz hi h1 h2
    go_wp2_with fail
    go_ret2
    rw [HE.out]
    exact ⟨rfl, HB9.out⟩
end Go.Proofs.YtffkdidgfeknkaaGreatDoor

