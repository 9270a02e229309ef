/-
  How the law overwrites lists of terms that came back or were handed over. Conditions: at most 2^20 terms and coefficients.
-/
import Derived.Test.YtffkdidgfeknkaaGreatDoorTermsC
namespace Go.Proofs.YtffkdidgfeknkaaGreatDoor
open Go.RowKit

theorem OwnL.far {w w' : World} {lo hi : Nat} {A : Option Addr} {n c : Nat} {zs : List Int} (h : OwnL w lo hi A n c zs) (hb : ∀ q, (Value.slice A n c).ownBlock = some q → q < w.heap.size → w'.heap[q]? = w.heap[q]?) (hs : w.heap.size ≤ w'.heap.size) : OwnL w' lo hi A n c zs := by
  obtain ⟨h1, h2, h3, h4⟩ := h
  refine ⟨h1, ⟨h2.1, ?_⟩, h3, Nat.le_trans h4 hs⟩
  rcases h2.2 with h' | ⟨g, cap, cur, k1, k2, k3, k4⟩
  · exact .inl h'
  · refine .inr ⟨g, cap, cur, k1, k2, ?_, k4⟩
    have hg : (Value.slice A n c).ownBlock = some g := by rw [k1]; rfl
    rw [hb g hg (Nat.lt_of_lt_of_le (h3 g hg) h4)]
    exact k3
theorem OwnL.tight {w : World} {lo hi : Nat} {A : Option Addr} {n c : Nat} {zs : List Int} (h : OwnL w lo hi A n c zs) : ∃ lo' hi', OwnL w lo' hi' A n c zs ∧ (∀ w' w'', Out lo' hi' w' w'' → Out lo hi w' w'') ∧ ∀ q, lo' ≤ q → q < hi' → (Value.slice A n c).ownBlock = some q := by
  obtain ⟨h1, h2, h3, h4⟩ := h
  rcases h2.2 with h' | ⟨g, cap, cur, k1, k2, k3, k4⟩
  · refine ⟨0, 0, ⟨h1, ⟨h2.1, .inl h'⟩, fun k hk => ?_, Nat.zero_le _⟩, fun w' w'' ho => ⟨ho.os, ho.tape, ho.output, ho.size, fun k hk _ => ho.block k hk (by omega)⟩, fun q h1 h2 => by omega⟩
    rw [h'.1] at hk; cases hk
  · have hg : (Value.slice A n c).ownBlock = some g := by rw [k1]; rfl
    refine ⟨g, g + 1, ⟨h1, ⟨h2.1, .inr ⟨g, cap, cur, k1, Nat.le_refl _, k3, k4⟩⟩, fun k hk => ?_, Nat.lt_of_lt_of_le (h3 g hg) h4⟩, fun w' w'' ho => ho.wide k2 (h3 g hg), fun q a b => ?_⟩
    · rw [hg] at hk; injection hk with hk; omega
    · have : q = g := by omega
      rw [this]; exact hg

def RestTS (wr : World) (lo hi : Nat) (A : Option Addr) (n c : Nat) (ts : List (Int × List Int)) (e : Nat → Value) (j : Nat) : Prop :=
  hi ≤ wr.heap.size ∧ (∃ xs, wr.ownsRow lo 93 2 (.slice A n c) n xs ∧ ∀ i, j ≤ i → i < n → xs[i * 2 + 1]? = some (e i)) ∧ ∀ i t, j ≤ i → ts[i]? = some t → ∃ A' n' c', e i = .slice A' n' c' ∧ OwnL wr lo hi A' n' c' t.2

set_option maxRecDepth 100000 in
set_option maxHeartbeats 1000000 in
theorem markTermS_w (lo hi : Nat) (A : Option Addr) (n c : Nat) (ts : List (Int × List Int)) (k0 : Int) (w : World) (h : OwnTS w lo hi A n c ts) (hn : n ≤ 1048576) (he : totT ts ≤ 1048576) (hk1 : 0 ≤ k0) (hk2 : k0 ≤ 100000000) :
    Calls Tryz.prog 32 #[.slice A n c, .int .i64 k0] w fun e w' => e = .returned (.int .i64 (k0 + ((n + totT ts : Nat) : Int))) ∧ True ∧ Out lo hi w w' := by
  obtain ⟨h1, h2, xs, e, h3, h4, h5, h6, h7⟩ := h
  have hlen := Lib.hid h1
  have H4 := Lib.hid h4
  have H6 := Lib.hid h6
  have H7 := Lib.hid h7
  have HR0 : Hid (RestTS w lo hi A n c ts e 0) := ⟨h2, ⟨xs, h3, fun i _ hi => by
    obtain ⟨t, ht⟩ : ∃ t, ts[i]? = some t := ⟨_, List.getElem?_eq_getElem (by omega)⟩
    exact (h5 i t ht).2.1⟩, fun i t _ ht => (h5 i t ht).2.2⟩
  clear h1 h2 h3 h4 h5 h6 h7
  go_enter Tryz.func32, Tryz.ntmps32
  go_wp2_with fail
  go_loopw [1, 5] (fun kv i wr => ∃ j : Nat, j ≤ n ∧ i = .int .i64 j ∧ kv = .int .i64 (k0 + ((j + totT (ts.take j) : Nat) : Int)) ∧ Hid (RestTS wr lo hi A n c ts e j) ∧ Out lo hi w wr) (fun _ i _ => n - (intOf i).toNat)
  case atStart => exact ⟨0, Nat.zero_le _, rfl, by simp [totT], HR0, Out.refl _ _ _⟩
  case round =>
    clear HR0
    obtain ⟨j, hj, rfl, rfl, hR, hout⟩ := hrel
    by_cases hlt : j < n
    · obtain ⟨hhi, ⟨xs, hrow, hxs⟩, hrest⟩ := hR.out
      obtain ⟨t, ht⟩ : ∃ t, ts[j]? = some t := ⟨_, List.getElem?_eq_getElem (by have := hlen.out; omega)⟩
      obtain ⟨A', n', c', ee, hown⟩ := hrest j t (Nat.le_refl _) ht
      have hxl := hrow.1
      obtain ⟨g, rfl⟩ : ∃ g, A = some ⟨g, 0, none⟩ := by
        rcases hrow.2 with h' | ⟨g, cap, cur, k1, _⟩
        · have := h'.2; omega
        · injection k1 with k1; exact ⟨g, k1⟩
      have hgl := hrow.lt g rfl
      have hnl := Nat.le_trans (totT_mem (List.mem_of_getElem? ht)) he
      have hn' := hown.1
      have hts := totT_succ ht
      have htk := totT_take ts j
      obtain ⟨K, hK⟩ : ∃ K : Int, K = k0 + ((j + totT (ts.take j) : Nat) : Int) := ⟨_, rfl⟩
      have hKn : K + 1 + (n' : Int) = k0 + ((j + 1 + totT (ts.take (j + 1)) : Nat) : Int) := by rw [hts, hn', hK]; omega
      have hK1 : 0 ≤ K := by omega
      have hK2 : K ≤ 110000000 := by omega
      rw [← hK]
      have hst := hrow.stored (j * 2) (.int .i64 K)
      have hfk := hrow.frozenAt (j * 2)
      have hcl := hrow.cellAt (j * 2) (by omega)
      obtain ⟨u, hu⟩ : ∃ u, xs[j * 2]? = some u := ⟨_, List.getElem?_eq_getElem (by omega)⟩
      rw [hu] at hcl
      have hc1 := hst.1.cellAt (j * 2 + 1) (by omega)
      rw [List.getElem?_set_ne (by omega), hxs j (Nat.le_refl _) hlt, ee] at hc1
      have hgr := hst.2
      have hs1 := hgr.size
      have hfar : ∀ i, i < n → ∀ A'' n'' c'' zs, e i = .slice A'' n'' c'' → OwnL wr lo hi A'' n'' c'' zs → OwnL (wr.setCell ⟨g, j * 2, none⟩ (.int .i64 K)) lo hi A'' n'' c'' zs := fun i hi A'' n'' c'' zs hee ho =>
        ho.far (fun q hq hql => hgr.block q hql (fun hh => H7.out i hi q (by rw [hee]; exact hq) hh.symm)) hs1
      obtain ⟨lo', hi', hown1, hwide, hin⟩ := (hfar j hlt A' n' c' t.2 ee hown).tight
      have HM := Lib.hid (markInt64S_k lo' hi' A' n' c' t.2 (K + 1) _ hown1 (by omega) (by omega) (by omega))
      have HREST := Lib.hid hrest
      have HXS := Lib.hid hxs
      have HFAR := Lib.hid hfar
      have HRW := Lib.hid hst.1
      have HIN := Lib.hid hin
      have HWD := Lib.hid hwide
      have hout1 : Out lo hi w (wr.setCell ⟨g, j * 2, none⟩ (.int .i64 K)) := hout.trans (Out.of_grown hgr (fun k hk => by injection hk with hk; have := H4.out g rfl; omega))
      have EE := Lib.hid ee
      have hxl2 := Lib.hid hxl
      clear hrest hxs hfar hst hin hwide hu hown hown1 ht ee hR hts hxl hrow hK
      go_wp2_with fail
      refine HM.out.mono ?_
      rintro e1 w2 ⟨rfl, _, ho⟩
      have hs2 := ho.size
      go_wp2_with fail
      go_roundw
      case rel =>
        have hnot : ∀ v : Value, (∀ q, (e j).ownBlock = some q → v.ownBlock ≠ some q) → ∀ q, v.ownBlock = some q → q < (wr.setCell ⟨g, j * 2, none⟩ (.int .i64 K)).heap.size → w2.heap[q]? = (wr.setCell ⟨g, j * 2, none⟩ (.int .i64 K)).heap[q]? := fun v hv q hq hql =>
          ho.block q hql (fun hr => hv q (by rw [EE.out]; exact HIN.out q hr.1 hr.2) hq)
        refine ⟨j + 1, by omega, by go_num, congrArg (Value.int .i64) (by omega), ⟨by omega, ⟨xs.set (j * 2) (.int .i64 K), ⟨HRW.out.1, ?_⟩, fun i h1 h2 => ?_⟩, fun i t' h1 h2 => ?_⟩, hout1.trans (HWD.out _ _ ho)⟩
        · rcases HRW.out.2 with h' | ⟨g', cap, cur, k1, k2, k3, k4⟩
          · exact .inl h'
          · refine .inr ⟨g', cap, cur, k1, k2, ?_, k4⟩
            have hg : (Value.slice (some ⟨g, 0, none⟩) n c).ownBlock = some g' := by rw [k1]; rfl
            have hgg : g' = g := by have hg2 : some g = some g' := hg; injection hg2 with hg2; exact hg2.symm
            rw [hnot _ (fun q hq => H7.out j hlt q hq) g' hg (by rw [hgg]; omega)]
            exact k3
        · rw [List.getElem?_set_ne (by omega)]
          exact HXS.out i (by omega) h2
        · have hil : i < n := by have := (List.getElem?_eq_some_iff.1 h2).1; have := hlen.out; omega
          obtain ⟨A'', n'', c'', he', hown'⟩ := HREST.out i t' (by omega) h2
          exact ⟨A'', n'', c'', he', (HFAR.out i hil A'' n'' c'' t'.2 he' hown').far (hnot _ (fun q hq => by rw [← he']; exact H6.out j i hlt hil (by omega) q hq)) hs2⟩
      case measure => simp [intOf]; omega
    · have e1 : j = n := by omega
      subst e1
      have e2 : totT (ts.take j) = totT ts := by rw [List.take_of_length_le (by have := hlen.out; omega)]
      rw [e2]
      clear e2
      go_wp2_with fail
      go_ret
      exact ⟨rfl, True.intro, hout⟩
end Go.Proofs.YtffkdidgfeknkaaGreatDoor
