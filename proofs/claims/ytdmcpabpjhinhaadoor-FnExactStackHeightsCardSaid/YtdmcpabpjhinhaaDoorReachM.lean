/-
  What is reached over code: the model's search and its list. Conditions: at most 2^20 instructions.
-/
import Derived.Test.YtdmcpabpjhinhaaDoorReachP
import Derived.Test.YtdmcpabpjhinhaaDoorQue
import Derived.Test.YtdmcpabpjhinhaaDoorTarg
namespace Go.Proofs.YtdmcpabpjhinhaaDoor
set_option linter.unusedVariables false
open Go.RowKit

theorem infoBR : (Tryd.prog.info? 4).map (fun i => (i.zero, i.size, i.bytes)) = some (some (.bool false), 1, 1) := by kernel_rfl
/-- The marks that are missing, as memory tells. -/
def missB (w : World) (g : Nat) : Nat := match w.heap[g]? with
  | some (.cells cs _ _) => (cs.toList.filter fun u => match u with | .bool b => !b | _ => false).length
  | _ => 0
theorem missB_is {W : World} {lo g n : Nat} {ms : List Bool} (h : W.ownsRow lo 4 1 (.slice (some ⟨g, 0, none⟩) n n) n (ms.map Value.bool)) : missB W g = missing ms := by
  rcases h.2 with ⟨h', _⟩ | ⟨g', c', cur, h', hb, hg, hnc, hcm, hcs, htake⟩
  · simp at h'
  · simp only [Value.slice.injEq, Option.some.injEq, Addr.mk.injEq, and_true, true_and] at h'
    obtain ⟨rfl, rfl⟩ := h'
    rw [Nat.mul_one] at hcs htake
    rw [List.take_of_length_le (by rw [Array.length_toList]; omega)] at htake
    unfold missB missing
    rw [hg]
    show (cur.toList.filter _).length = _
    rw [htake, List.filter_map, List.length_map]
    rfl
def lenQ : Value → Nat
  | .slice _ n _ => n
  | _ => 0
/-- The model's search in memory. -/
structure SrchW (wc : World) (gs n : Nat) (xs : List (Int × Int)) (S : Int → Prop) (ms : List Bool) (q : List Int) (v : Value) (W : World) : Prop where
  srch : Srch xs S ms q
  que : Que W wc.heap.size v q
  marks : W.ownsRow wc.heap.size 4 1 (.slice (some ⟨gs, 0, none⟩) n n) n (ms.map Value.bool)
  apart : v.ownBlock ≠ some gs
  size : 3 * missing ms + q.length ≤ 400
  below : Below wc.heap.size wc W
/-- An instruction is marked, and the places behind it are appended. -/
theorem missing_le (ms : List Bool) : missing ms ≤ ms.length := List.length_filter_le _ _
theorem SrchW.mark {wc W W1 W2 : World} {gs n k : Nat} {xs : List (Int × Int)} {S : Int → Prop} {ms : List Bool} {q : List Int} {v v' : Value} (h : SrchW wc gs n xs S ms ((k : Int) :: q) v W) {v0 : Value}
    (hq : Que W wc.heap.size v0 q) (h0 : v0.ownBlock = v.ownBlock) (hk : k < xs.length) (hf : ms[k]? = some false) (hb : Below (W.setCell ⟨gs, k, none⟩ (.bool true)).heap.size (W.setCell ⟨gs, k, none⟩ (.bool true)) W1)
    (hq' : Que W2 wc.heap.size v' (q ++ tgtN xs k)) (hg : W1.grownBy W2 v0.ownBlock) (hv : v'.ownBlock = v0.ownBlock ∨ ∃ j, v'.ownBlock = some j ∧ W1.heap.size ≤ j) : SrchW wc gs n xs S (ms.set k true) (q ++ tgtN xs k) v' W2 := by
  have hm := h.marks
  have s1 := (hm.stored k (.bool true)).1
  have s2 := own_below s1 hb
  have s3 := s2.kept hg (.inr (fun e => h.apart (by rw [← h0, ← e]; rfl)))
  have hgs := hm.lt gs rfl
  refine ⟨h.srch.mark hk, hq', ?_, ?_, ?_, ?_⟩
  · rw [← List.map_set] at s3; exact s3
  · rcases hv with e | ⟨j, e, hj⟩
    · rw [e, h0]; exact h.apart
    · rw [e]; intro e'
      obtain rfl := Option.some.inj e'
      have h1 := hgs.2
      have h2 := hb.size
      simp at h2
      omega
  · have := missing_set hf
    have h1 := h.size
    have h2 := tgt_len (xs.getD k (0, 0)).1 (xs.getD k (0, 0)).2 k
    rw [List.length_append]
    unfold tgtN
    rw [List.length_cons] at h1
    omega
  · have b1 : Below wc.heap.size wc (W.setCell ⟨gs, k, none⟩ (.bool true)) := h.below.setCell (p := ⟨gs, k, none⟩) hgs.1 _
    refine (bon b1 hb).grown hg (Nat.le_trans b1.size hb.size) (fun j hj => ?_)
    obtain ⟨b, e, h1, _⟩ := hq.lt
    rw [e] at hj
    rw [← Option.some.inj hj]; exact h1
theorem SrchW.pop {wc W : World} {gs n : Nat} {t : Int} {xs : List (Int × Int)} {S : Int → Prop} {ms : List Bool} {q : List Int} {v v0 : Value} (h : SrchW wc gs n xs S ms (t :: q) v W)
    (hq : Que W wc.heap.size v0 q) (h0 : v0.ownBlock = v.ownBlock) (ht : (xs.length : Int) ≤ t ∨ ms[t.toNat]? = some true) : SrchW wc gs n xs S ms q v0 W :=
  ⟨h.srch.skip ht, hq, h.marks, by rw [h0]; exact h.apart, by have := h.size; rw [List.length_cons] at this; omega, h.below⟩

set_option maxRecDepth 100000 in
set_option maxHeartbeats 4000000 in
theorem l07Reached_c (A : Option Addr) (n c B : Nat) (xs : List (Int × Int)) (w : World) (h : InC w B A n xs) (hB : B ≤ w.heap.size) (hv : codeB xs = true) :
    Calls Tryd.prog 17 #[.slice A n c] w fun e w' => ∃ g ms, e = .returned (.slice (some ⟨g, 0, none⟩) n n) ∧ MarksOf xs (fun t => t = 0) ms ∧ w'.ownsRow w.heap.size 4 1 (.slice (some ⟨g, 0, none⟩) n n) n (ms.map Value.bool) ∧ Below w.heap.size w w' := by
  obtain ⟨i0, hi, hz0, hz1, hz2⟩ := info_parts infoBR
  have hxn : xs.length = n := h.1
  have hp := codeB_parts hv
  have hn80 : 1 ≤ n ∧ n ≤ 80 := by omega
  have HI := Lib.hid h
  have HT := Lib.hid (tgt_in hv)
  have HV := Lib.hid hv
  clear h hp hv
  go_enter Tryd.func17, Tryd.ntmps17
  go_wp2_with (at_make; refine wpList_make_full _ rfl _ _ 35 rfl w.heap.size 4 i0 (.bool false) 1 Tryd.underlying35 hi hz0 hz1 .i64 .i64 _ _ n rfl rfl rfl rfl (by rw [hz2]; omega) (by unfold maxLen; omega) (Nat.le_refl _) ?_; intro w1 hown hgrow)
  have hb1 := (Below.refl w.heap.size w).grown hgrow (Nat.le_refl _) (fun _ h => by cases h)
  obtain ⟨gs, hgs⟩ : ∃ gs, w.heap.size = gs := ⟨_, rfl⟩
  have hs0 : w1.ownsRow w.heap.size 4 1 (.slice (some ⟨gs, 0, none⟩) n n) n ((List.replicate n false).map Value.bool) := by
    rw [List.map_replicate, ← hgs]
    have e2 := hown
    rw [show (Value.bool false).cells = #[Value.bool false] from rfl, toList_madeCells_one, Nat.mul_one] at e2
    exact e2
  have hlt := (hs0.lt gs rfl).2
  have hb2 := bnew w1 (.cells #[.int .i64 0] 2)
  have hS0 : SrchW w gs n xs (fun t => t = 0) (List.replicate n false) [0] (.slice (some ⟨w1.heap.size, 0, none⟩) 1 1) (w1.alloc (.cells #[.int .i64 0] 2)) := by
    refine ⟨by rw [← hxn]; exact Srch.init (fun t => by simp), Que.of_own (n := 1) (own_less (own_one w1 0) hb1.size) rfl, own_below hs0 hb2, ?_, ?_, bon hb1 hb2⟩
    · intro e; have e' : w1.heap.size = gs := Option.some.inj e; omega
    · have := missing_le (List.replicate n false); rw [List.length_replicate] at this; simp; omega
  clear hown hgrow
  rw [hgs]
  go_wp2_with fail
  generalize w1.alloc (.cells #[.int .i64 0] 2) = W at hS0 ⊢
  go_loopw [4, 5] (fun v _ wr => ∃ ms q, SrchW w gs n xs (fun t => t = 0) ms q v wr) (fun v _ wr => 3 * missB wr gs + lenQ v)
  case atStart => exact ⟨_, _, hS0⟩
  case round =>
    clear hS0 hs0 hb1 hb2
    obtain ⟨ms, q, hS⟩ := hrel
    cases q with
    | nil =>
      obtain ⟨b, off, cq, rfl, _⟩ := hS.que
      go_wp2_with fail
      go_ret
      exact ⟨gs, ms, rfl, hS.srch.done, hS.marks, hS.below⟩
    | cons t q =>
      have hql := hS.que
      obtain ⟨b, off, cq, rfl, _⟩ := hS.que
      obtain ⟨f1, f2, f3, f4, f5, f6⟩ := hql.front
      have hq0 := hql.tailI
      have ho0 : (Value.slice (if cq = 1 then some ⟨b, off, none⟩ else some ⟨b, off + 1, none⟩) q.length (cq - 1)).ownBlock = some b := ownBlock_if
      have hmiss := missB_is hS.marks
      have ht0 : 0 ≤ t := RchP_ge (S := fun t => t = 0) (fun t h => by omega) (fun k x hx e => by have := instrB_parts (codeB_at HV.out hx); unfold loB at this; rcases e with e | e <;> (rw [e] at this; simp at this; omega)) t (hS.srch.ok t (List.mem_cons_self ..))
      have hc1 := hS.size
      rw [List.length_cons] at hc1
      go_upto_region 6 with fail
      generalize (if cq = 1 then some (⟨b, off, none⟩ : Addr) else some ⟨b, off + 1, none⟩) = A0 at hq0 ho0 ⊢
      clear hql f6
      by_cases ht : (xs.length : Int) ≤ t
      · have hn' : (n : Int) ≤ t := by omega
        have hP := Lib.hid (hS.pop hq0 (by rw [ho0]; rfl) (.inl ht))
        clear hS hq0 ht
        go_wp2_with fail
        go_roundw
        case rel => exact ⟨ms, q, hP.out⟩
        case measure => rw [hmiss]; show 3 * missing ms + q.length < 3 * missing ms + (t :: q).length; simp
      · obtain ⟨k, rfl⟩ : ∃ k : Nat, t = (k : Int) := ⟨t.toNat, by omega⟩
        have hk : k < xs.length := by omega
        have hkn : (k : Int) < (n : Int) := by omega
        have hc := hS.marks.cellAt k (by omega)
        obtain ⟨bk, hbk⟩ : ∃ bk, ms[k]? = some bk := ⟨ms[k]'(by have := hS.srch.len; omega), List.getElem?_eq_getElem _⟩
        rw [List.getElem?_map, hbk] at hc
        cases bk with
        | true =>
          have hc' : wr.cell? ⟨gs, k, none⟩ = some (.bool true) := hc
          have hP := Lib.hid (hS.pop hq0 (by rw [ho0]; rfl) (.inr (by rw [Int.toNat_natCast]; exact hbk)))
          clear hS hq0 ht hc hbk
          go_wp2_with fail
          go_roundw
          case rel => exact ⟨ms, q, hP.out⟩
          case measure => rw [hmiss]; show 3 * missing ms + q.length < 3 * missing ms + ((k : Int) :: q).length; simp
        | false =>
          have hc' : wr.cell? ⟨gs, k, none⟩ = some (.bool false) := hc
          have hfz := hS.marks.frozenAt k
          have hx : xs[k]? = some xs[k] := List.getElem?_eq_getElem hk
          have hbw : Below w.heap.size w (wr.setCell ⟨gs, k, none⟩ (.bool true)) := hS.below.setCell (p := ⟨gs, k, none⟩) (hS.marks.lt gs rfl).1 _
          have hT := Lib.hid (l07Targets_c A n c B xs k xs[k] (wr.setCell ⟨gs, k, none⟩ (.bool true)) (HI.out.next hbw hB) (Nat.le_trans hB hbw.size) hx (by omega))
          have hq1 := hq0.kept (only_set (w := wr) (g := gs) (i := k) (x := .bool true)) (by rw [ho0]; intro e; exact hS.apart (by rw [← e]; rfl))
          have HS := Lib.hid hS
          have HQ := Lib.hid hq0
          have HK := Lib.hid hbk
          clear hS hq0 hc hbk hbw
          go_wp2_with fail
          generalize hW1 : wr.setCell ⟨gs, k, none⟩ (.bool true) = W1 at hT hq1 ⊢
          refine hT.out.mono ?_
          rintro e w2 ⟨A', c', rfl, hown, hb2⟩
          have hq2 := hq1.next hb2
          have hcap := own_capQ hown
          have hall := hown.all
          have htl := tgt_len xs[k].1 xs[k].2 k
          have hlo := Nat.le_trans HS.out.below.size (by rw [← hW1] at hb2; have := hb2.size; simpa using this)
          clear hq1 hT
          have htg : tgtN xs k = tgt1 xs[k].1 xs[k].2 k := by unfold tgtN; rw [List.getD_eq_getElem?_getD, hx]; rfl
          have HTG := Lib.hid htg
          clear htg hx
          generalize tgt1 xs[k].1 xs[k].2 k = ys at hown hcap hall htl HTG ⊢
          go_wp2_with (at_builtin; refine wpList_append_q rfl _ _ rfl rfl hq2 hlo A' ys.length c' rfl w2.heap.size hall hcap (by omega) ?_; intro v' w3 hq3 hg3 hv3)
          obtain ⟨b3, off3, c3, hv3e, _⟩ := id hq3
          subst hv3e
          go_roundw
          case rel =>
            have := HS.out.mark HQ.out (by rw [ho0]; rfl) hk HK.out (W1 := w2) (by rw [hW1]; exact hb2) (by rw [HTG.out]; exact hq3) hg3 hv3
            exact ⟨_, _, this⟩
          case measure =>
            have h1 := HS.out.mark HQ.out (by rw [ho0]; rfl) hk HK.out (W1 := w2) (by rw [hW1]; exact hb2) (by rw [HTG.out]; exact hq3) hg3 hv3
            rw [hmiss, missB_is h1.marks]
            have h2 := missing_set HK.out
            show 3 * missing (ms.set k true) + (q ++ ys).length < 3 * missing ms + ((k : Int) :: q).length
            rw [List.length_append, List.length_cons]
            omega
end Go.Proofs.YtdmcpabpjhinhaaDoor
