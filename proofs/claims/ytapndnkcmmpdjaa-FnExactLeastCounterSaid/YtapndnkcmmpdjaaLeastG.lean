/-
  The model's LeastCounter. Conditions: at most 2^20 terms and coefficients.
-/
import Derived.Test.YtapndnkcmmpdjaaLeastS
import Derived.Test.YtapndnkcmmpdjaaSyms
import Derived.Test.YtapndnkcmmpdjaaCtx
namespace Go.Proofs.Ytapndnkcmmpdjaa
open Go.RowKit
set_option linter.unusedVariables false

theorem l00In_l (n a c : Int) (w : World) : Calls Try.prog 44 #[.int .i64 n, .int .i64 a, .int .i64 c] w fun e w' => e = .returned (.bool (decide (a ≤ n ∧ n ≤ c))) ∧ w = w' := by
  by_cases h1 : a ≤ n
  · by_cases h2 : n ≤ c
    · rw [decide_eq_true ⟨h1, h2⟩]
      go_enter Try.func44, Try.ntmps44
      go_wp2_with fail
      go_ret
      exact ⟨rfl, rfl⟩
    · rw [decide_eq_false (fun h => h2 h.2)]
      go_enter Try.func44, Try.ntmps44
      go_wp2_with fail
      go_ret
      exact ⟨rfl, rfl⟩
  · rw [decide_eq_false (fun h => h1 h.1)]
    go_enter Try.func44, Try.ntmps44
    go_wp2_with fail
    go_ret
    exact ⟨rfl, rfl⟩
def symN (ts : List (Int × List Int)) : List Nat := (List.range 10).filter (hasS ts ts.length 0)
theorem symN_is (ts : List (Int × List Int)) : symL ts = natI (symN ts) := rfl
theorem symN_len (ts : List (Int × List Int)) : (symL ts).length = (symN ts).length := by rw [symN_is, natI_len]
theorem symN_nodup (ts : List (Int × List Int)) : (symN ts).Nodup := List.nodup_range.sublist List.filter_sublist
theorem symN_lt (ts : List (Int × List Int)) : ∀ s ∈ symN ts, s < 10 := fun s hs => List.mem_range.1 (List.mem_filter.1 hs).1
theorem symN_le (ts : List (Int × List Int)) : (symN ts).length ≤ 10 := by
  have := List.length_filter_le (hasS ts ts.length 0) (List.range 10)
  simpa [symN] using this
def lcO (ts : List (Int × List Int)) (g : Int × List Int) (r : Int) : Option (List Int) := if (symN (ts ++ [g])).length ≤ 4 then leastO (refB ts g) r (symN (ts ++ [g])) else none
def lcR (ts : List (Int × List Int)) (g : Int × List Int) (r : Int) : List Int × Bool := if seqB ts g = true ∧ 0 ≤ r ∧ r ≤ 4 then ((lcO ts g r).getD [], (lcO ts g r).isSome) else ([], false)
theorem lcR_no0 {ts : List (Int × List Int)} {g : Int × List Int} {r : Int} (h : seqB ts g = false) : lcR ts g r = ([], false) := if_neg (by rw [h]; simp)
theorem lcR_no1 {ts : List (Int × List Int)} {g : Int × List Int} {r : Int} (h : ¬ (0 ≤ r ∧ r ≤ 4)) : lcR ts g r = ([], false) := if_neg (fun k => h k.2)
theorem lcR_yes {ts : List (Int × List Int)} {g : Int × List Int} {r : Int} (h : seqB ts g = true) (k : 0 ≤ r ∧ r ≤ 4) : lcR ts g r = ((lcO ts g r).getD [], (lcO ts g r).isSome) := if_pos ⟨h, k⟩
theorem lcO_no {ts : List (Int × List Int)} {g : Int × List Int} {r : Int} (h : ¬ (symN (ts ++ [g])).length ≤ 4) : lcO ts g r = none := if_neg h
theorem lcO_yes {ts : List (Int × List Int)} {g : Int × List Int} {r : Int} (h : (symN (ts ++ [g])).length ≤ 4) : lcO ts g r = leastO (refB ts g) r (symN (ts ++ [g])) := if_pos h
theorem lcR_small (ts : List (Int × List Int)) (g : Int × List Int) (r : Int) : (lcR ts g r).1.length ≤ 10 := by
  unfold lcR
  split
  · show ((lcO ts g r).getD []).length ≤ 10
    cases h : lcO ts g r with
    | none => simp
    | some v =>
      by_cases k : (symN (ts ++ [g])).length ≤ 4
      · rw [lcO_yes k] at h
        show v.length ≤ 10
        rw [leastO_len h]; omega
      · rw [lcO_no k] at h; cases h
  · simp
theorem seqB_all {ts : List (Int × List Int)} {g : Int × List Int} (h : seqB ts g = true) : ∀ t ∈ ts ++ [g], tmB t = true := fun t ht => by
  rcases List.mem_append.1 ht with h' | h'
  · exact (seqB_parts h).1 t h'
  · obtain rfl : t = g := by simpa using h'
    exact (seqB_parts h).2
/-- A term of the caller's behind one's own. -/
theorem push_in {w w' : World} {base n B : Nat} {v : Value} {ts : List (Int × List Int)} {t : Int × List Int} {A : Option Addr} {k c g cap : Nat} {xs : List Value} (hl : ts.length = n) (hi : InL w B A k t.2) (hB : B ≤ base) (hBw : base ≤ w.heap.size) (hx : w.ownsRow base 41 2 v n xs)
    (hxs : ∀ j t, ts[j]? = some t → xs[j * 2]? = some (.int .i64 t.1) ∧ ∃ A' n' c', xs[j * 2 + 1]? = some (.slice A' n' c') ∧ IntL w A' n' t.2)
    (hr : w'.ownsRow base 41 2 (.slice (some ⟨g, 0, none⟩) (n + 1) cap) (n + 1) (xs ++ [.int .i64 t.1, .slice A k c])) (hg : w.grownBy w' v.ownBlock) : InTS w' w'.heap.size (some ⟨g, 0, none⟩) (n + 1) (ts ++ [t]) := by
  have hno := own_noInts hx
  have hxl := hx.1
  have hrl := hr.1
  have hsz := hg.size
  have hbb : Below B w w' := (Below.refl B w).grown hg (by omega) (fun j hj => by have := (hx.lt j hj).1; omega)
  refine ⟨by simp [hl], fun j u hj => ?_⟩
  have hjl := (List.getElem?_eq_some_iff.1 hj).1
  simp at hjl
  by_cases hjn : j < ts.length
  · rw [List.getElem?_append_left hjn] at hj
    obtain ⟨a, A', n', c', b, cc⟩ := hxs j u hj
    have ck := cc.kept hg hno
    refine ⟨g, 0, A', n', c', rfl, (hr.lt g rfl).2, ?_, ?_, ck.1, ck.inn.2⟩
    · rw [Nat.zero_add, hr.cellAt (j * 2) (by omega), List.getElem?_append_left (by omega), a]
    · rw [Nat.zero_add, hr.cellAt (j * 2 + 1) (by omega), List.getElem?_append_left (by omega), b]
  · have hje : j = ts.length := by omega
    subst hje
    rw [List.getElem?_append_right (Nat.le_refl _), Nat.sub_self] at hj
    obtain rfl : t = u := by simpa using hj
    have hi' := (hi.next hbb (Nat.le_refl _)).more (show B ≤ w'.heap.size by omega)
    refine ⟨g, 0, A, k, c, rfl, (hr.lt g rfl).2, ?_, ?_, hi'.1, hi'.2⟩
    · rw [Nat.zero_add, hr.cellAt (ts.length * 2) (by omega), List.getElem?_append_right (by omega), show ts.length * 2 - xs.length = 0 by omega]; rfl
    · rw [Nat.zero_add, hr.cellAt (ts.length * 2 + 1) (by omega), List.getElem?_append_right (by omega), show ts.length * 2 + 1 - xs.length = 1 by omega]; rfl

set_option maxRecDepth 100000 in
set_option maxHeartbeats 1000000 in
theorem specLeast_c (c0 r : Int) (A : Option Addr) (n c B : Nat) (ts : List (Int × List Int)) (D : Option Addr) (m d : Nat) (zs : List Int) (w : World) (h : InTS w B A n ts) (hl : InL w B D m zs) (hB : B ≤ w.heap.size)
    (hn : n ≤ 1048576) (he : totT ts ≤ 1048576) (hm : m ≤ 1048576) :
    Calls Try.prog 23 #[.agg #[.slice A n c, .int .i64 c0, .slice D m d], .int .i64 r] w fun e w' => ∃ A' c', e = .returned (.tuple #[.slice A' (lcR ts (c0, zs) r).1.length c', .bool (lcR ts (c0, zs) r).2]) ∧ OwnL w' w.heap.size w'.heap.size A' (lcR ts (c0, zs) r).1.length c' (lcR ts (c0, zs) r).1 ∧ Below w.heap.size w w' := by
  obtain ⟨i0, hi, hz0, hz1, hz2⟩ := info_parts infoTerm2
  have hb0 := bnew w (.cells #[.slice A n c, .int .i64 c0, .slice D m d] 43)
  have hP : BlkIs (w.alloc (.cells #[.slice A n c, .int .i64 c0, .slice D m d] 43)) w.heap.size 43 #[.slice A n c, .int .i64 c0, .slice D m d] := blk_new _ _ _ _ rfl
  have q0 : (w.alloc (.cells #[.slice A n c, .int .i64 c0, .slice D m d] 43)).cell? ⟨w.heap.size, 0, none⟩ = some (.slice A n c) := hP.cell 0
  have q1 : (w.alloc (.cells #[.slice A n c, .int .i64 c0, .slice D m d] 43)).cell? ⟨w.heap.size, 1, none⟩ = some (.int .i64 c0) := hP.cell 1
  have q2 : (w.alloc (.cells #[.slice A n c, .int .i64 c0, .slice D m d] 43)).cell? ⟨w.heap.size, 2, none⟩ = some (.slice D m d) := hP.cell 2
  have h1 := h.next hb0 hB
  have h2 := hl.next hb0 hB
  have hlt := hP.lt
  have HS := Lib.hid (l02Sequent_c w.heap.size 0 c0 A n c B ts D m d zs _ q0 q1 q2 h1 h2 hn he hm)
  have hlen := Lib.hid h.1
  cases hv : seqB ts (c0, zs) with
  | false =>
    rw [hv] at HS
    have HX := Lib.hid (lcR_no0 (r := r) hv)
    rw [HX.out]
    clear h h1 h2 hv hl q0 q1 q2 hP
    go_enter Try.func23, Try.ntmps23
    go_wp2_with fail
    refine HS.out.mono ?_
    rintro e w1 ⟨rfl, rfl⟩
    go_wp2_with fail
    go_ret2
    exact ⟨none, 0, rfl, own_nil _ _, hb0⟩
  | true =>
    rw [hv] at HS
    have hpv := seqB_parts hv
    have hn13 : n ≤ 13 := by
      have h13 : ts.length ≤ 13 := by unfold seqB at hv; exact (allT_parts (Bool.and_eq_true _ _ ▸ hv).1).2
      have := h.1
      omega
    have HE := Lib.hid (fun t (ht : t ∈ ts) => (tmB_parts (hpv.1 t ht)).1)
    have HV := Lib.hid hv
    have HBT := Lib.hid (l00In_l r 0 4 (w.alloc (.cells #[.slice A n c, .int .i64 c0, .slice D m d] 43)))
    by_cases hr : 0 ≤ r ∧ r ≤ 4
    · rw [decide_eq_true hr] at HBT
      have HX := Lib.hid (lcR_yes hv hr)
      rw [HX.out]
      obtain ⟨O, hO⟩ : ∃ O, Hid (lcO ts (c0, zs) r = O) := ⟨_, rfl⟩
      rw [hO.out]
      obtain ⟨hr0, hr4⟩ := hr
      have HALL := Lib.hid (seqB_all hv)
      have HPV := Lib.hid hpv
      have HI2 := Lib.hid h1
      have HZ2 := Lib.hid h2
      clear h h1 h2 hv hl hP HX hpv
      go_enter Try.func23, Try.ntmps23
      go_wp2_with fail
      refine HS.out.mono ?_
      rintro e w1 ⟨rfl, rfl⟩
      go_wp2_with fail
      refine HBT.out.mono ?_
      rintro e w1 ⟨rfl, rfl⟩
      go_wp2_with fail
      generalize w.alloc (.cells #[.slice A n c, .int .i64 c0, .slice D m d] 43) = W at hb0 q0 q1 q2 HI2 HZ2 hlt ⊢
      clear HS HBT
      have hsW := hb0.size
      have hBW : B ≤ W.heap.size := by omega
      have HO : Hid (∀ (x : World), Below W.drew.heap.size W.drew x → Calls Try.prog 45 #[.slice A n c] x fun e w' => ∃ v, e = .returned v ∧ FRow w' W.heap.size v n ts ∧ Below x.heap.size x w') := fun x hx => (l02OwnAll_c A n c B ts x (HI2.out.next (bstep hx) (by omega)) (Nat.le_trans (by omega) (bstep hx).size) (by omega) (fun t ht => by have := HE.out t ht; omega)).mono fun e w' ⟨v, he, hf, hb⟩ => ⟨v, he, frow_less hf (bstep hx).size, hb⟩
      go_region_held3 (fun w' => w'.cell? ⟨w.heap.size, 0, none⟩ = some (.slice A n c) ∧ w'.cell? ⟨w.heap.size, 1, none⟩ = some (.int .i64 c0) ∧ w'.cell? ⟨w.heap.size, 2, none⟩ = some (.slice D m d))
        (first | go_keep | exact ⟨cell_on q0 hbx, cell_on q1 hbx, cell_on q2 hbx⟩ | (go_split_ands; refine ⟨?_, ?_, ?_⟩; (rw [hgrow3.cell_far _ (by first | (show w.heap.size < _; omega) | (simp; omega)) (fun e' => by have hle : W.heap.size ≤ w.heap.size := (fr.lt _ e'.symm).1; omega)]; assumption); (rw [hgrow3.cell_far _ (by first | (show w.heap.size < _; omega) | (simp; omega)) (fun e' => by have hle : W.heap.size ≤ w.heap.size := (fr.lt _ e'.symm).1; omega)]; assumption); (rw [hgrow3.cell_far _ (by first | (show w.heap.size < _; omega) | (simp; omega)) (fun e' => by have hle : W.heap.size ≤ w.heap.size := (fr.lt _ e'.symm).1; omega)]; assumption)) | exact ⟨cell_next (by assumption) hb4, cell_next (by assumption) hb4, cell_next (by assumption) hb4⟩ | (go_split_ands; exact ⟨cell_next (by assumption) hb4, cell_next (by assumption) hb4, cell_next (by assumption) hb4⟩) | fail)
        (first
          | (go_at_call 45; refine (HO.out _ (by first | exact Below.refl _ _ | exact bel_ad _ _ | exact bnew _ _ | fail)).mono ?_; rintro e w2 ⟨v, rfl, hf, hb2⟩; have hbx := bon (show Below W.drew.heap.size W.drew _ from by first | exact Below.refl _ _ | exact bel_ad _ _ | exact bnew _ _ | fail) hb2; have hs2 := (bstep hbx).size; (try have hN2 := (hb2.block W.heap.size (by show W.heap.size < (W.alloc _).heap.size; simp)).trans (heap_alloc_new W (.cells #[.int .i64 c0, .slice D m d] 41))))
          | (obtain ⟨fl, xs, fr, fx⟩ := hf; refine step_append_lies _ rfl (.tmp 16) (.tmp 19) 27 rfl W.heap.size 41 i0 (.agg #[.int .i64 0, .slice none 0 0]) 2 32 Try.underlying27 hi hz0 hz1 hz2 rfl (by decide) _ _ _ rfl fr ⟨W.heap.size, 0, none⟩ 1 1 [.int .i64 c0, .slice D m d] rfl rfl (World.news_of_block (cs := #[.int .i64 c0, .slice D m d]) hN2) (two_one rfl rfl) (by omega) (by unfold maxLen; omega) (by omega) (by have := (bstep hbx).size; omega) _ rfl ?_; intro gg cap w3 hown3 hgrow3 hat hlt)
          | (obtain ⟨fl, xs, fr, fx⟩ := hf.next (bnew w2 (.cells #[.int .i64 c0, .slice D m d] 41)); refine step_append_lies _ rfl (.tmp 16) (.tmp 19) 27 rfl W.heap.size 41 i0 (.agg #[.int .i64 0, .slice none 0 0]) 2 32 Try.underlying27 hi hz0 hz1 hz2 rfl (by decide) _ _ _ rfl fr ⟨w2.heap.size, 0, none⟩ 1 1 [.int .i64 c0, .slice D m d] rfl rfl (World.news_of_block (cs := #[.int .i64 c0, .slice D m d]) (heap_alloc_new w2 _)) (two_one rfl rfl) (by omega) (by unfold maxLen; omega) (by omega) (by have := (bstep hbx).size; simp; omega) _ rfl ?_; intro gg cap w3 hown3 hgrow3 hat hlt)
          | (go_at_call 32; refine (l02Symbols_c _ (n + 1) _ w3.heap.size (ts ++ [(c0, zs)]) w3 (by first | exact push_in (t := (c0, zs)) fl ((HZ2.out.next (bstep hbx) hBW).next (bnew _ _) (Nat.le_trans hBW (bstep hbx).size)) hBW (by have := (bstep hbx).size; simp; omega) fr fx hown3 hgrow3 | exact push_in (t := (c0, zs)) fl (HZ2.out.next (bstep hbx) hBW) hBW (bstep hbx).size fr fx hown3 hgrow3 | fail) (Nat.le_refl _) (by omega) HALL.out).mono ?_; rintro e w4 ⟨v4, rfl, hown4, hb4⟩)
          | fail)
      all_goals
        rename_i hHeld
        have hbW4 : Below W.heap.size W w4 := by
          first
            | exact bon ((bon (bstep hbx) (bnew w2 _)).grown hgrow3 (by simp; omega) (fun j hj => (fr.lt j hj).1)) hb4
            | exact bon ((bstep hbx).grown hgrow3 (by omega) (fun j hj => (fr.lt j hj).1)) hb4
            | fail
        have hs4 := hbW4.size
        obtain ⟨s0, s1, s2⟩ := hHeld
        rw [symN_len, symN_is] at hown4
        obtain ⟨L, hL⟩ : ∃ L, Hid (L = symN (ts ++ [(c0, zs)])) := ⟨_, rfl⟩
        rw [← hL.out] at hown4
        obtain ⟨A4, c4, rfl, _⟩ := own_slice hown4
        have HLE := Lib.hid (l02Least_c w.heap.size c0 r A n c w4.heap.size ts D m d zs A4 c4 L w4 (by omega) s0 s1 s2 ((HI2.out.next hbW4 hBW).more (by omega)) ((HZ2.out.next hbW4 hBW).more (by omega)) (OwnL.of_own hown4).all (Nat.le_refl _) hn HPV.out.1 HPV.out.2 hr0 hr4 (by rw [hL.out]; exact symN_nodup _) (by rw [hL.out]; exact symN_lt _) (by rw [hL.out]; have := symN_le (ts ++ [(c0, zs)]); omega))
        clear fl xs fr fx hown3 hgrow3 hat hlt hb4 hown4 hbx hs2 hb2 HO q0 q1 q2 s0 s1 s2
        by_cases h4 : L.length ≤ 4
        · have HO4 : Hid (lcO ts (c0, zs) r = leastO (refB ts (c0, zs)) r L) := Lib.hid (by rw [hL.out] at h4 ⊢; exact lcO_yes h4)
          have HO5 := Lib.hid (hO.out.symm.trans HO4.out)
          go_wp2_with fail
          refine HLE.out.mono ?_
          rintro e w5 ⟨A5, c5, rfl, hin5, hb5⟩
          go_wp2_with fail
          go_ret2
          rw [HO5.out]
          exact ⟨A5, c5, rfl, hin5.less (by omega), bon hb0 (bon hbW4 hb5)⟩
        · have HO4 : Hid (lcO ts (c0, zs) r = none) := Lib.hid (by rw [hL.out] at h4; exact lcO_no h4)
          have HO5 := Lib.hid (hO.out.symm.trans HO4.out)
          go_wp2_with fail
          go_ret2
          rw [HO5.out]
          exact ⟨none, 0, rfl, own_nil _ _, bon hb0 hbW4⟩
    · rw [decide_eq_false hr] at HBT
      have HX := Lib.hid (lcR_no1 (ts := ts) (g := (c0, zs)) hr)
      rw [HX.out]
      clear h h1 h2 hv hl hP HX hpv hr
      go_enter Try.func23, Try.ntmps23
      go_wp2_with fail
      refine HS.out.mono ?_
      rintro e w1 ⟨rfl, rfl⟩
      go_wp2_with fail
      refine HBT.out.mono ?_
      rintro e w1 ⟨rfl, rfl⟩
      go_wp2_with fail
      go_ret2
      exact ⟨none, 0, rfl, own_nil _ _, hb0⟩
end Go.Proofs.Ytapndnkcmmpdjaa
