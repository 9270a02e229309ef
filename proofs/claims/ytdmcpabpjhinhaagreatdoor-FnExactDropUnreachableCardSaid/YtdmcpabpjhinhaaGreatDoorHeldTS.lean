/-
  The marks that the law writes into a list of terms, told by their numbers, and what it reads of them again. Conditions: at most 2^20 terms and coefficients.
-/
import Derived.Test.YtdmcpabpjhinhaaGreatDoorMarkTS
import Derived.Test.YtdmcpabpjhinhaaGreatDoorCopyO
namespace Go.Proofs.YtdmcpabpjhinhaaGreatDoor
set_option linter.unusedVariables false
open Go.RowKit

/-- Marks that rise through a list of terms. -/
def riseT : Int → List (Int × List Int) → List (Int × List Int)
  | _, [] => []
  | k, t :: ts => (k, rise (k + 1) t.2.length) :: riseT (k + 1 + t.2.length) ts
theorem totT_cons (t : Int × List Int) (ts : List (Int × List Int)) : totT (t :: ts) = t.2.length + totT ts := by simp [totT]
theorem riseT_len : ∀ (k : Int) (ts : List (Int × List Int)), (riseT k ts).length = ts.length
  | _, [] => rfl
  | k, t :: ts => by simp [riseT, riseT_len]
theorem riseT_at : ∀ (k : Int) (ts : List (Int × List Int)) (j : Nat) (t : Int × List Int), ts[j]? = some t → (riseT k ts)[j]? = some (k + ((j + totT (ts.take j) : Nat) : Int), rise (k + ((j + totT (ts.take j) : Nat) : Int) + 1) t.2.length)
  | _, [], j, t, h => by simp at h
  | k, u :: ts, 0, t, h => by
    obtain rfl : u = t := by simpa using h
    simp [riseT, totT]
  | k, u :: ts, j + 1, t, h => by
    have ih := riseT_at (k + 1 + u.2.length) ts j t (by simpa using h)
    rw [riseT, List.getElem?_cons_succ, ih, List.take_succ_cons, totT_cons]
    have e : k + 1 + (u.2.length : Int) + ((j + totT (ts.take j) : Nat) : Int) = k + ((j + 1 + (u.2.length + totT (ts.take j)) : Nat) : Int) := by omega
    rw [e]
/-- Marks up to a place, and what was there behind it. -/
def mixT (k : Int) (ts : List (Int × List Int)) (j : Nat) : List (Int × List Int) := (riseT k ts).take j ++ ts.drop j
theorem mixT_zero (k : Int) (ts : List (Int × List Int)) : mixT k ts 0 = ts := by simp [mixT]
theorem mixT_end (k : Int) (ts : List (Int × List Int)) : mixT k ts ts.length = riseT k ts := by
  unfold mixT
  rw [List.take_of_length_le (by rw [riseT_len]; exact Nat.le_refl _)]; simp
theorem mixT_len (k : Int) (ts : List (Int × List Int)) {j : Nat} (h : j ≤ ts.length) : (mixT k ts j).length = ts.length := by
  unfold mixT
  rw [List.length_append, List.length_take, riseT_len, List.length_drop]; omega
theorem mixT_at (k : Int) {ts : List (Int × List Int)} {j : Nat} {t : Int × List Int} (h : ts[j]? = some t) : (mixT k ts j)[j]? = some t := by
  have hj := (List.getElem?_eq_some_iff.1 h).1
  have hl : ((riseT k ts).take j).length = j := by rw [List.length_take, riseT_len]; omega
  unfold mixT
  rw [List.getElem?_append_right (by omega), hl, Nat.sub_self, List.getElem?_drop]
  simpa using h
theorem mixT_next (k : Int) {ts : List (Int × List Int)} {j : Nat} {t : Int × List Int} (h : ts[j]? = some t) : mixT k ts (j + 1) = (mixT k ts j).set j (k + ((j + totT (ts.take j) : Nat) : Int), rise (k + ((j + totT (ts.take j) : Nat) : Int) + 1) t.2.length) := by
  have hj := (List.getElem?_eq_some_iff.1 h).1
  have hl : ((riseT k ts).take j).length = j := by rw [List.length_take, riseT_len]; omega
  unfold mixT
  rw [List.set_append_right _ _ (by omega), hl, Nat.sub_self, List.drop_eq_getElem_cons hj, List.set_cons_zero, List.take_add_one, riseT_at k ts j t h]
  simp

set_option maxRecDepth 100000 in
set_option maxHeartbeats 2000000 in
theorem markTermS_o (lo hi : Nat) (A : Option Addr) (n c : Nat) (ts : List (Int × List Int)) (k0 : Int) (w : World) (h : OwnTS w lo hi A n c ts) (hn : n ≤ 1048576) (he : totT ts ≤ 1048576) (hk1 : 0 ≤ k0) (hk2 : k0 ≤ 100000000) :
    Calls Tryz.prog 29 #[.slice A n c, .int .i64 k0] w fun e w' => e = .returned (.int .i64 (k0 + ((n + totT ts : Nat) : Int))) ∧ OwnTS w' lo hi A n c (riseT k0 ts) ∧ Out lo hi w w' := by
  have hlen := Lib.hid h.1
  have HR0 : Hid (OwnTS w lo hi A n c (mixT k0 ts 0)) := by show OwnTS w lo hi A n c (mixT k0 ts 0); rw [mixT_zero]; exact h
  clear h
  go_enter Tryz.func29, Tryz.ntmps29
  go_wp2_with fail
  go_loopw [1, 5] (fun kv i wr => ∃ j : Nat, j ≤ n ∧ i = .int .i64 j ∧ kv = .int .i64 (k0 + ((j + totT (ts.take j) : Nat) : Int)) ∧ Hid (OwnTS wr lo hi A n c (mixT k0 ts j)) ∧ Out lo hi w wr) (fun _ i _ => n - (intOf i).toNat)
  case atStart => exact ⟨0, Nat.zero_le _, rfl, by simp [totT], HR0, Out.refl _ _ _⟩
  case round =>
    clear HR0
    obtain ⟨j, hj, rfl, rfl, hR, hout⟩ := hrel
    by_cases hlt : j < n
    · obtain ⟨h1, h2, xs, e, h3, h4, h5, h6, h7⟩ := hR.out
      obtain ⟨t, ht⟩ : ∃ t, ts[j]? = some t := ⟨_, List.getElem?_eq_getElem (by have := hlen.out; omega)⟩
      obtain ⟨hxj, hxe, A', n', c', ee, hown⟩ := h5 j t (mixT_at k0 ht)
      have hxl := h3.1
      obtain ⟨g, rfl⟩ : ∃ g, A = some ⟨g, 0, none⟩ := by
        rcases h3.2 with h' | ⟨g, cap, cur, k1, _⟩
        · have := h'.2; omega
        · injection k1 with k1; exact ⟨g, k1⟩
      have hgl := h3.lt g rfl
      have hgh := h4 g rfl
      have hnl := Nat.le_trans (totT_mem (List.mem_of_getElem? ht)) he
      have hn' := hown.1
      have hts := totT_succ ht
      have htk := totT_take ts j
      have hnext := mixT_next k0 ht
      rw [hn'] at hnext
      obtain ⟨K, hK⟩ : ∃ K : Int, K = k0 + ((j + totT (ts.take j) : Nat) : Int) := ⟨_, rfl⟩
      have hKn : K + 1 + (n' : Int) = k0 + ((j + 1 + totT (ts.take (j + 1)) : Nat) : Int) := by rw [hts, hn', hK]; omega
      have hK1 : 0 ≤ K := by omega
      have hK2 : K ≤ 110000000 := by omega
      rw [← hK] at hnext ⊢
      have hst := h3.stored (j * 2) (.int .i64 K)
      have hfk := h3.frozenAt (j * 2)
      have hcl := h3.cellAt (j * 2) (by omega)
      rw [hxj] at hcl
      have hc1 := hst.1.cellAt (j * 2 + 1) (by omega)
      rw [List.getElem?_set_ne (by omega), hxe, ee] at hc1
      have hgr := hst.2
      have hs1 := hgr.size
      have hfar : ∀ i, i < n → ∀ A'' n'' c'' zs, e i = .slice A'' n'' c'' → OwnL wr lo hi A'' n'' c'' zs → OwnL (wr.setCell ⟨g, j * 2, none⟩ (.int .i64 K)) lo hi A'' n'' c'' zs := fun i hi A'' n'' c'' zs hee ho =>
        ho.far (fun q hq hql => hgr.block q hql (fun hh => h7 i hi q (by rw [hee]; exact hq) hh.symm)) hs1
      have hown1 := hfar j hlt A' n' c' t.2 ee hown
      have HM := Lib.hid (mark_c lo A' n' c' (t.2.map ic) (K + 1) _ hown1.2.1 (by omega) (by omega) (by omega))
      have hout1 : Out lo hi w (wr.setCell ⟨g, j * 2, none⟩ (.int .i64 K)) := hout.trans (Out.of_grown hgr (fun k hk => by injection hk with hk; omega))
      have hob := hown1.2.2.1
      have hol := fun q hq => (hown1.2.1.lt q hq).1
      have H := Lib.hid (And.intro h2 (And.intro h4 (And.intro h5 (And.intro h6 h7))))
      have HFAR := Lib.hid hfar
      have HRW := Lib.hid hst.1
      have EE := Lib.hid ee
      have HXE := Lib.hid hxe
      have HNX := Lib.hid hnext
      have HLN := Lib.hid h1
      have hxl2 := Lib.hid hxl
      clear hfar hst hown hown1 ht ee hR hts hxl h3 hK h1 h2 h4 h5 h6 h7 hxj hxe hnext
      go_wp2_with fail
      refine HM.out.mono ?_
      rintro e1 w2 ⟨rfl, hown2, hg2⟩
      have hs2 := hg2.size
      go_wp2_with fail
      go_roundw
      case rel =>
        obtain ⟨h2, h4, h5, h6, h7⟩ := H.out
        have hnot : ∀ v : Value, (∀ q, (e j).ownBlock = some q → v.ownBlock ≠ some q) → ∀ q, v.ownBlock = some q → q < (wr.setCell ⟨g, j * 2, none⟩ (.int .i64 K)).heap.size → w2.heap[q]? = (wr.setCell ⟨g, j * 2, none⟩ (.int .i64 K)).heap[q]? := fun v hv q hq hql =>
          hg2.block q hql (fun hr => hv q (by rw [EE.out]; exact hr.symm) hq)
        refine ⟨j + 1, by omega, by go_num, congrArg (Value.int .i64) (by omega), ?_, hout1.trans (Out.of_grown hg2 (fun q hq => ⟨hol q hq, hob q hq⟩))⟩
        show OwnTS w2 lo hi (some ⟨g, 0, none⟩) n c (mixT k0 ts (j + 1))
        rw [HNX.out]
        refine ⟨by rw [List.length_set]; exact HLN.out, by omega, xs.set (j * 2) (.int .i64 K), e, ⟨HRW.out.1, ?_⟩, h4, fun i u hu => ?_, h6, h7⟩
        · rcases HRW.out.2 with h' | ⟨g', cap, cur, k1, k2, k3, k4⟩
          · exact .inl h'
          · refine .inr ⟨g', cap, cur, k1, k2, ?_, k4⟩
            have hg : (Value.slice (some ⟨g, 0, none⟩) n c).ownBlock = some g' := by rw [k1]; rfl
            have hgg : g' = g := by have hg3 : some g = some g' := hg; injection hg3 with hg3; exact hg3.symm
            rw [hnot _ (fun q hq => h7 j hlt q hq) g' hg (by rw [hgg]; omega)]
            exact k3
        · have hil : i < n := by have := (List.getElem?_eq_some_iff.1 hu).1; rw [List.length_set] at this; have := HLN.out; omega
          by_cases e1 : i = j
          · subst e1
            rw [List.getElem?_set_self (by have := HLN.out; omega)] at hu
            obtain rfl := Option.some.inj hu
            refine ⟨?_, ?_, A', n', c', EE.out, rise_len _ _, hown2, hob, by omega⟩
            · rw [List.getElem?_set_self (by have := hxl2.out; omega)]
            · rw [List.getElem?_set_ne (by omega)]; exact HXE.out
          · rw [List.getElem?_set_ne (by omega)] at hu
            obtain ⟨a, b, A'', n'', c'', he', hown'⟩ := h5 i u hu
            refine ⟨?_, ?_, A'', n'', c'', he', (HFAR.out i hil A'' n'' c'' u.2 he' hown').far (hnot _ (fun q hq => by rw [← he']; exact h6 j i hlt hil (fun h => e1 h.symm) q hq)) hs2⟩
            · rw [List.getElem?_set_ne (by omega)]; exact a
            · rw [List.getElem?_set_ne (by omega)]; exact b
      case measure => simp [intOf]; omega
    · have e1 : j = n := by omega
      subst e1
      have e2 : totT (ts.take j) = totT ts := by rw [List.take_of_length_le (by have := hlen.out; omega)]
      have HF : Hid (OwnTS wr lo hi A j c (riseT k0 ts)) := by show OwnTS wr lo hi A j c (riseT k0 ts); have := hR.out; rw [← mixT_end]; rw [← hlen.out] at this ⊢; exact this
      rw [e2]
      clear e2 hR
      go_wp2_with fail
      go_ret
      exact ⟨rfl, HF.out, hout⟩

set_option maxRecDepth 100000 in
set_option maxHeartbeats 2000000 in
theorem heldTermS_k (A : Option Addr) (n c B : Nat) (ts : List (Int × List Int)) (k0 : Int) (w : World) (h : InTS w B A n (riseT k0 ts)) (hB : B ≤ w.heap.size) (hn : n ≤ 1048576) (he : totT ts ≤ 1048576) (hk1 : 0 ≤ k0) (hk2 : k0 ≤ 100000000) :
    Calls Tryz.prog 31 #[.slice A n c, .int .i64 k0] w fun e w' => e = .returned (.int .i64 (k0 + ((n + totT ts : Nat) : Int))) ∧ Below w.heap.size w w' := by
  have hlen : Hid (ts.length = n) := by show ts.length = n; rw [← riseT_len k0 ts]; exact h.1
  go_enter Tryz.func31, Tryz.ntmps31
  go_wp2_with fail
  go_loopw [1, 5] (fun kv i wr => ∃ j : Nat, j ≤ n ∧ i = .int .i64 j ∧ kv = .int .i64 (k0 + ((j + totT (ts.take j) : Nat) : Int)) ∧ Below w.heap.size w wr) (fun _ i _ => n - (intOf i).toNat)
  case atStart => exact ⟨0, Nat.zero_le _, rfl, by simp [totT], Below.refl _ _⟩
  case round =>
    obtain ⟨j, hj, rfl, rfl, hbel⟩ := hrel
    have hsz := hbel.size
    by_cases hlt : j < n
    · obtain ⟨t, ht⟩ : ∃ t, ts[j]? = some t := ⟨_, List.getElem?_eq_getElem (by have := hlen.out; omega)⟩
      obtain ⟨b, off, A', n', c', u, rfl, hb, hu, hc0, hc1, hin⟩ := (h.next hbel hB).at_ hlt
      have hr := riseT_at k0 ts j t ht
      rw [hu] at hr
      obtain rfl := Option.some.inj hr
      have hn' : t.2.length = n' := by have := hin.1; rw [rise_len] at this; exact this
      have hnl := Nat.le_trans (totT_mem (List.mem_of_getElem? ht)) he
      have hts := totT_succ ht
      have htk := totT_take ts j
      obtain ⟨K, hK⟩ : ∃ K : Int, K = k0 + ((j + totT (ts.take j) : Nat) : Int) := ⟨_, rfl⟩
      have hKn : K + 1 + (n' : Int) = k0 + ((j + 1 + totT (ts.take (j + 1)) : Nat) : Int) := by rw [hts, hn', hK]; omega
      rw [← hK] at hin hc0 ⊢
      rw [hn'] at hin
      have hK1 : 0 ≤ K := by omega
      have hK2 : K ≤ 110000000 := by omega
      have HH := Lib.hid (heldInt64S_k A' n' c' B (K + 1) wr hin (by omega) (by omega) (by omega))
      have q1 : (K != K) = false := by simp
      have q2 : ¬ K + 1 + (n' : Int) < 0 := by omega
      have HKN := Lib.hid hKn
      clear hin hu hr ht hts hK hKn
      go_wp2_with fail
      refine HH.out.mono ?_
      rintro e1 w2 ⟨rfl, hb2⟩
      go_wp2_with fail
      go_roundw
      case rel => exact ⟨j + 1, by omega, by go_num, congrArg (Value.int .i64) HKN.out, bon hbel hb2⟩
      case measure => simp [intOf]; omega
    · have e1 : j = n := by omega
      subst e1
      have e2 : totT (ts.take j) = totT ts := by rw [List.take_of_length_le (by have := hlen.out; omega)]
      rw [e2]
      clear e2
      go_wp2_with fail
      go_ret
      exact ⟨rfl, hbel⟩
end Go.Proofs.YtdmcpabpjhinhaaGreatDoor
