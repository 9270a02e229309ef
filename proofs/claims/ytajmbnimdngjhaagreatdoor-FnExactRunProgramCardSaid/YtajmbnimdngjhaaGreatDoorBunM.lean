/-
  Several texts in one: MarkTS, Mono, StmtM, MarkSM, Loops, PgmM, RoadP, MarkSt, BoxA, BoxC. Conditions: as each says.
-/
import Derived.Test.YtajmbnimdngjhaaGreatDoorTermsC
import Derived.Test.YtajmbnimdngjhaaGreatDoorBase
import Derived.Test.YtajmbnimdngjhaaGreatDoorStmtO
import Derived.Test.YtajmbnimdngjhaaGreatDoorPgmK
import Derived.Test.YtajmbnimdngjhaaGreatDoorPgmV
import Derived.Test.YtajmbnimdngjhaaGreatDoorAppend
import Derived.Deep.Cut
import Derived.Test.YtajmbnimdngjhaaGreatDoorStK
import Derived.Test.YtajmbnimdngjhaaGreatDoorTermK
import Derived.Test.YtajmbnimdngjhaaGreatDoorBlk
import Derived.Test.YtajmbnimdngjhaaGreatDoorOwn
import Derived.Test.YtajmbnimdngjhaaGreatDoorSz

/-! How the law overwrites lists of terms that came back or were handed over. Conditions: at most 2^20 terms and coefficients. -/
namespace Go.Proofs.YtajmbnimdngjhaaGreatDoor
open Go.RowKit

theorem OwnL.far {w w' : World} {lo hi : Nat} {A : Option Addr} {n c : Nat} {zs : List Int} (h : OwnL w lo hi A n c zs) (hb : ∀ q, (Value.slice A n c).ownBlock = some q → q < w.heap.size → w'.heap[q]? = w.heap[q]?) (hs : w.heap.size ≤ w'.heap.size) : OwnL w' lo hi A n c zs := by
  obtain ⟨h1, h2, h3, h4⟩ := h
  refine ⟨h1, ⟨h2.1, ?_⟩, h3, Nat.le_trans h4 hs⟩
  rcases h2.2 with h' | ⟨g, cap, cur, k1, k2, k3, k4⟩
  · exact .inl h'
  · refine .inr ⟨g, cap, cur, k1, k2, ?_, k4⟩
    have hg : (Value.slice A n c).ownBlock = some g := by rw [k1]; rfl
    rw [hb g hg (Nat.lt_of_lt_of_le (h3 g hg) h4)]
    exact k3
theorem OwnL.tight {w : World} {lo hi : Nat} {A : Option Addr} {n c : Nat} {zs : List Int} (h : OwnL w lo hi A n c zs) : ∃ lo' hi', OwnL w lo' hi' A n c zs ∧ (∀ w' w'', Out lo' hi' w' w'' → Out lo hi w' w'') ∧ ∀ q, lo' ≤ q → q < hi' → (Value.slice A n c).ownBlock = some q := by
  obtain ⟨h1, h2, h3, h4⟩ := h
  rcases h2.2 with h' | ⟨g, cap, cur, k1, k2, k3, k4⟩
  · refine ⟨0, 0, ⟨h1, ⟨h2.1, .inl h'⟩, fun k hk => ?_, Nat.zero_le _⟩, fun w' w'' ho => ⟨ho.os, ho.tape, ho.output, ho.size, fun k hk _ => ho.block k hk (by omega)⟩, fun q h1 h2 => by omega⟩
    rw [h'.1] at hk; cases hk
  · have hg : (Value.slice A n c).ownBlock = some g := by rw [k1]; rfl
    refine ⟨g, g + 1, ⟨h1, ⟨h2.1, .inr ⟨g, cap, cur, k1, Nat.le_refl _, k3, k4⟩⟩, fun k hk => ?_, Nat.lt_of_lt_of_le (h3 g hg) h4⟩, fun w' w'' ho => ho.wide k2 (h3 g hg), fun q a b => ?_⟩
    · rw [hg] at hk; injection hk with hk; omega
    · have : q = g := by omega
      rw [this]; exact hg

def RestTS (wr : World) (lo hi : Nat) (A : Option Addr) (n c : Nat) (ts : List (Int × List Int)) (e : Nat → Value) (j : Nat) : Prop :=
  hi ≤ wr.heap.size ∧ (∃ xs, wr.ownsRow lo 81 2 (.slice A n c) n xs ∧ ∀ i, j ≤ i → i < n → xs[i * 2 + 1]? = some (e i)) ∧ ∀ i t, j ≤ i → ts[i]? = some t → ∃ A' n' c', e i = .slice A' n' c' ∧ OwnL wr lo hi A' n' c' t.2

set_option maxRecDepth 100000 in
set_option maxHeartbeats 1000000 in
theorem markTermS_w (lo hi : Nat) (A : Option Addr) (n c : Nat) (ts : List (Int × List Int)) (k0 : Int) (w : World) (h : OwnTS w lo hi A n c ts) (hn : n ≤ 1048576) (he : totT ts ≤ 1048576) (hk1 : 0 ≤ k0) (hk2 : k0 ≤ 100000000) :
    Calls Tryz.prog 44 #[.slice A n c, .int .i64 k0] w fun e w' => e = .returned (.int .i64 (k0 + ((n + totT ts : Nat) : Int))) ∧ True ∧ Out lo hi w w' := by
  obtain ⟨h1, h2, xs, e, h3, h4, h5, h6, h7⟩ := h
  have hlen := Lib.hid h1
  have H4 := Lib.hid h4
  have H6 := Lib.hid h6
  have H7 := Lib.hid h7
  have HR0 : Hid (RestTS w lo hi A n c ts e 0) := ⟨h2, ⟨xs, h3, fun i _ hi => by
    obtain ⟨t, ht⟩ : ∃ t, ts[i]? = some t := ⟨_, List.getElem?_eq_getElem (by omega)⟩
    exact (h5 i t ht).2.1⟩, fun i t _ ht => (h5 i t ht).2.2⟩
  clear h1 h2 h3 h4 h5 h6 h7
  go_enter Tryz.func44, Tryz.ntmps44
  go_wp2_with fail
  go_loopw [1, 5] (fun kv i wr => ∃ j : Nat, j ≤ n ∧ i = .int .i64 j ∧ kv = .int .i64 (k0 + ((j + totT (ts.take j) : Nat) : Int)) ∧ Hid (RestTS wr lo hi A n c ts e j) ∧ Out lo hi w wr) (fun _ i _ => n - (intOf i).toNat)
  case atStart => exact ⟨0, Nat.zero_le _, rfl, by simp [totT], HR0, Out.refl _ _ _⟩
  case round =>
    clear HR0
    obtain ⟨j, hj, rfl, rfl, hR, hout⟩ := hrel
    by_cases hlt : j < n
    · obtain ⟨hhi, ⟨xs, hrow, hxs⟩, hrest⟩ := hR.out
      obtain ⟨t, ht⟩ : ∃ t, ts[j]? = some t := ⟨_, List.getElem?_eq_getElem (by have := hlen.out; omega)⟩
      obtain ⟨A', n', c', ee, hown⟩ := hrest j t (Nat.le_refl _) ht
      have hxl := hrow.1
      obtain ⟨g, rfl⟩ : ∃ g, A = some ⟨g, 0, none⟩ := by
        rcases hrow.2 with h' | ⟨g, cap, cur, k1, _⟩
        · have := h'.2; omega
        · injection k1 with k1; exact ⟨g, k1⟩
      have hgl := hrow.lt g rfl
      have hnl := Nat.le_trans (totT_mem (List.mem_of_getElem? ht)) he
      have hn' := hown.1
      have hts := totT_succ ht
      have htk := totT_take ts j
      obtain ⟨K, hK⟩ : ∃ K : Int, K = k0 + ((j + totT (ts.take j) : Nat) : Int) := ⟨_, rfl⟩
      have hKn : K + 1 + (n' : Int) = k0 + ((j + 1 + totT (ts.take (j + 1)) : Nat) : Int) := by rw [hts, hn', hK]; omega
      have hK1 : 0 ≤ K := by omega
      have hK2 : K ≤ 110000000 := by omega
      rw [← hK]
      have hst := hrow.stored (j * 2) (.int .i64 K)
      have hfk := hrow.frozenAt (j * 2)
      have hcl := hrow.cellAt (j * 2) (by omega)
      obtain ⟨u, hu⟩ : ∃ u, xs[j * 2]? = some u := ⟨_, List.getElem?_eq_getElem (by omega)⟩
      rw [hu] at hcl
      have hc1 := hst.1.cellAt (j * 2 + 1) (by omega)
      rw [List.getElem?_set_ne (by omega), hxs j (Nat.le_refl _) hlt, ee] at hc1
      have hgr := hst.2
      have hs1 := hgr.size
      have hfar : ∀ i, i < n → ∀ A'' n'' c'' zs, e i = .slice A'' n'' c'' → OwnL wr lo hi A'' n'' c'' zs → OwnL (wr.setCell ⟨g, j * 2, none⟩ (.int .i64 K)) lo hi A'' n'' c'' zs := fun i hi A'' n'' c'' zs hee ho =>
        ho.far (fun q hq hql => hgr.block q hql (fun hh => H7.out i hi q (by rw [hee]; exact hq) hh.symm)) hs1
      obtain ⟨lo', hi', hown1, hwide, hin⟩ := (hfar j hlt A' n' c' t.2 ee hown).tight
      have HM := Lib.hid (markInt64S_k lo' hi' A' n' c' t.2 (K + 1) _ hown1 (by omega) (by omega) (by omega))
      have HREST := Lib.hid hrest
      have HXS := Lib.hid hxs
      have HFAR := Lib.hid hfar
      have HRW := Lib.hid hst.1
      have HIN := Lib.hid hin
      have HWD := Lib.hid hwide
      have hout1 : Out lo hi w (wr.setCell ⟨g, j * 2, none⟩ (.int .i64 K)) := hout.trans (Out.of_grown hgr (fun k hk => by injection hk with hk; have := H4.out g rfl; omega))
      have EE := Lib.hid ee
      have hxl2 := Lib.hid hxl
      clear hrest hxs hfar hst hin hwide hu hown hown1 ht ee hR hts hxl hrow hK
      go_wp2_with fail
      refine HM.out.mono ?_
      rintro e1 w2 ⟨rfl, _, ho⟩
      have hs2 := ho.size
      go_wp2_with fail
      go_roundw
      case rel =>
        have hnot : ∀ v : Value, (∀ q, (e j).ownBlock = some q → v.ownBlock ≠ some q) → ∀ q, v.ownBlock = some q → q < (wr.setCell ⟨g, j * 2, none⟩ (.int .i64 K)).heap.size → w2.heap[q]? = (wr.setCell ⟨g, j * 2, none⟩ (.int .i64 K)).heap[q]? := fun v hv q hq hql =>
          ho.block q hql (fun hr => hv q (by rw [EE.out]; exact HIN.out q hr.1 hr.2) hq)
        refine ⟨j + 1, by omega, by go_num, congrArg (Value.int .i64) (by omega), ⟨by omega, ⟨xs.set (j * 2) (.int .i64 K), ⟨HRW.out.1, ?_⟩, fun i h1 h2 => ?_⟩, fun i t' h1 h2 => ?_⟩, hout1.trans (HWD.out _ _ ho)⟩
        · rcases HRW.out.2 with h' | ⟨g', cap, cur, k1, k2, k3, k4⟩
          · exact .inl h'
          · refine .inr ⟨g', cap, cur, k1, k2, ?_, k4⟩
            have hg : (Value.slice (some ⟨g, 0, none⟩) n c).ownBlock = some g' := by rw [k1]; rfl
            have hgg : g' = g := by have hg2 : some g = some g' := hg; injection hg2 with hg2; exact hg2.symm
            rw [hnot _ (fun q hq => H7.out j hlt q hq) g' hg (by rw [hgg]; omega)]
            exact k3
        · rw [List.getElem?_set_ne (by omega)]
          exact HXS.out i (by omega) h2
        · have hil : i < n := by have := (List.getElem?_eq_some_iff.1 h2).1; have := hlen.out; omega
          obtain ⟨A'', n'', c'', he', hown'⟩ := HREST.out i t' (by omega) h2
          exact ⟨A'', n'', c'', he', (HFAR.out i hil A'' n'' c'' t'.2 he' hown').far (hnot _ (fun q hq => by rw [← he']; exact H6.out j i hlt hil (by omega) q hq)) hs2⟩
      case measure => simp [intOf]; omega
    · have e1 : j = n := by omega
      subst e1
      have e2 : totT (ts.take j) = totT ts := by rw [List.take_of_length_le (by have := hlen.out; omega)]
      rw [e2]
      clear e2
      go_wp2_with fail
      go_ret
      exact ⟨rfl, True.intro, hout⟩
end Go.Proofs.YtajmbnimdngjhaaGreatDoor

/-! A rising function of numbers. No conditions. -/
namespace Go.Proofs.YtajmbnimdngjhaaGreatDoor
theorem mono_le {f : Nat → Nat} {n : Nat} (h : ∀ i, i < n → f i ≤ f (i + 1)) : ∀ {i j : Nat}, i ≤ j → j ≤ n → f i ≤ f j
  | i, 0, hij, _ => by have : i = 0 := by omega
                       subst this; exact Nat.le_refl _
  | i, j + 1, hij, hj => by
    by_cases e : i = j + 1
    · subst e; exact Nat.le_refl _
    · exact Nat.le_trans (mono_le h (by omega) (by omega)) (h j (by omega))
end Go.Proofs.YtajmbnimdngjhaaGreatDoor

/-! Elements of bodies in rows of one's own, each element's rows apart from the others'; the copy that the law makes. Conditions: at most 2^20 elements, terms and coefficients. -/
namespace Go.Proofs.YtajmbnimdngjhaaGreatDoor
set_option linter.unusedVariables false
open Go.RowKit

/-- What lies at the places from f on, element by element. -/
def PartM (w : World) (xs : List Value) (f : Nat → Nat) (j : Nat) (t : S8) : Prop := ∃ As ns cs Ai ni ci Af nf cf m1 m2, (xs[j * 8]? = some (.int .i64 t.k) ∧ xs[j * 8 + 1]? = some (.int .i64 t.v) ∧ xs[j * 8 + 2]? = some (.int .i64 t.e) ∧ xs[j * 8 + 3]? = some (.int .i64 t.s.1) ∧ xs[j * 8 + 4]? = some (.slice As ns cs) ∧ xs[j * 8 + 5]? = some (.int .i64 t.i.1) ∧ xs[j * 8 + 6]? = some (.slice Ai ni ci) ∧ xs[j * 8 + 7]? = some (.slice Af nf cf)) ∧
  OwnL w (f j) m1 As ns cs t.s.2 ∧ OwnL w m1 m2 Ai ni ci t.i.2 ∧ OwnTS w m2 (f (j + 1)) Af nf cf t.f ∧ f j ≤ m1 ∧ m1 ≤ m2 ∧ m2 ≤ f (j + 1)
/-- Elements in memory of the call's own, between two blocks; each element's rows lie between two blocks of its own. -/
def OwnSM (w : World) (lo hi : Nat) (A : Option Addr) (n c : Nat) (ts : List S8) : Prop :=
  ts.length = n ∧ hi ≤ w.heap.size ∧ ∃ (xs : List Value) (f : Nat → Nat), w.ownsRow lo 83 8 (.slice A n c) n xs ∧ (∀ k, (Value.slice A n c).ownBlock = some k → k < f 0) ∧ lo ≤ f 0 ∧ (∀ i, i < n → f i ≤ f (i + 1)) ∧ f n ≤ hi ∧ ∀ j t, ts[j]? = some t → PartM w xs f j t
theorem OwnSM.own {w : World} {lo hi : Nat} {A : Option Addr} {n c : Nat} {ts : List S8} (h : OwnSM w lo hi A n c ts) : OwnST w lo hi A n c ts := by
  obtain ⟨h1, h2, xs, f, h3, h4, h5, h6, h7, h8⟩ := h
  have hf : f 0 ≤ f n := mono_le h6 (Nat.zero_le _) (Nat.le_refl _)
  refine ⟨h1, h2, fun k hk => by have := h4 k hk; omega, xs, h3, fun j t hj => ?_⟩
  have hjl : j < ts.length := (List.getElem?_eq_some_iff.1 hj).1
  obtain ⟨As, ns, cs, Ai, ni, ci, Af, nf, cf, m1, m2, q, k1, k2, k3, e1, e2, e3⟩ := h8 j t hj
  have ha : f 0 ≤ f j := mono_le h6 (Nat.zero_le _) (by omega)
  have hb : f (j + 1) ≤ f n := mono_le h6 (by omega) (Nat.le_refl _)
  exact ⟨As, ns, cs, Ai, ni, ci, Af, nf, cf, q, (k1.less (by omega)).wide (by omega) h2, (k2.less (by omega)).wide (by omega) h2, (k3.less (by omega)).wide (by omega) h2⟩
section
variable {w w' : World} {lo hi lo' hi' : Nat} {A : Option Addr} {n c : Nat} {ts : List S8}
theorem OwnSM.next (h : OwnSM w lo hi A n c ts) (hb : Below w.heap.size w w') : OwnSM w' lo hi A n c ts := by
  obtain ⟨h1, h2, xs, f, h3, h4, h5, h6, h7, h8⟩ := h
  refine ⟨h1, Nat.le_trans h2 hb.size, xs, f, own_below h3 hb, h4, h5, h6, h7, fun j t hj => ?_⟩
  obtain ⟨As, ns, cs, Ai, ni, ci, Af, nf, cf, m1, m2, q, k1, k2, k3, e⟩ := h8 j t hj
  exact ⟨As, ns, cs, Ai, ni, ci, Af, nf, cf, m1, m2, q, k1.next hb, k2.next hb, k3.next hb, e⟩
theorem OwnSM.out (h : OwnSM w lo hi A n c ts) (ho : Out lo' hi' w w') (hd : hi' ≤ lo ∨ hi ≤ lo') : OwnSM w' lo hi A n c ts := by
  obtain ⟨h1, h2, xs, f, h3, h4, h5, h6, h7, h8⟩ := h
  have hf : f 0 ≤ f n := mono_le h6 (Nat.zero_le _) (Nat.le_refl _)
  refine ⟨h1, Nat.le_trans h2 ho.size, xs, f, ⟨h3.1, ?_⟩, h4, h5, h6, h7, fun j t hj => ?_⟩
  · rcases h3.2 with h' | ⟨g, cap, cur, k1, k2, k3, k4⟩
    · exact .inl h'
    · refine .inr ⟨g, cap, cur, k1, k2, ?_, k4⟩
      have hg : g < f 0 := h4 g (by rw [k1]; rfl)
      rw [ho.block g (by omega) (by omega)]
      exact k3
  · have hjl : j < ts.length := (List.getElem?_eq_some_iff.1 hj).1
    obtain ⟨As, ns, cs, Ai, ni, ci, Af, nf, cf, m1, m2, q, k1, k2, k3, e1, e2, e3⟩ := h8 j t hj
    have ha : f 0 ≤ f j := mono_le h6 (Nat.zero_le _) (by omega)
    have hb : f (j + 1) ≤ f n := mono_le h6 (by omega) (Nat.le_refl _)
    exact ⟨As, ns, cs, Ai, ni, ci, Af, nf, cf, m1, m2, q, k1.out ho (by omega), k2.out ho (by omega), k3.out ho (by omega), e1, e2, e3⟩
theorem OwnSM.less (h : OwnSM w lo hi A n c ts) (hl : lo' ≤ lo) : OwnSM w lo' hi A n c ts := by
  obtain ⟨h1, h2, xs, f, h3, h4, h5, h6⟩ := h
  exact ⟨h1, h2, xs, f, own_less h3 hl, h4, by omega, h6⟩
theorem OwnSM.wide (h : OwnSM w lo hi A n c ts) (hl : hi ≤ hi') (hs : hi' ≤ w.heap.size) : OwnSM w lo hi' A n c ts := by
  obtain ⟨h1, h2, xs, f, h3, h4, h5, h6, h7, h8⟩ := h
  exact ⟨h1, hs, xs, f, h3, h4, h5, h6, by omega, h8⟩
end

set_option maxRecDepth 100000 in
set_option maxHeartbeats 4000000 in
theorem toStmt_m (x : S8) (As : Option Addr) (ns c1 : Nat) (Ai : Option Addr) (ni c2 : Nat) (Af : Option Addr) (nf c3 B : Nat) (w : World) (hs : InL w B As ns x.s.2) (hi : InL w B Ai ni x.i.2) (hf : InTS w B Af nf x.f) (hB : B ≤ w.heap.size) (hn1 : ns ≤ 1048576) (hn2 : ni ≤ 1048576) (hn3 : nf ≤ 1048576) (hn4 : totT x.f ≤ 1048576) :
    Calls Tryz.prog 74 #[.agg (x.val As ns c1 Ai ni c2 Af nf c3)] w fun e w' => ∃ g1 g2 g3 m1 m2, e = .returned (.agg (x.val (some ⟨g1, 0, none⟩) ns ns (some ⟨g2, 0, none⟩) ni ni (some ⟨g3, 0, none⟩) nf nf)) ∧
      OwnL w' w.heap.size m1 (some ⟨g1, 0, none⟩) ns ns x.s.2 ∧ OwnL w' m1 m2 (some ⟨g2, 0, none⟩) ni ni x.i.2 ∧ OwnTS w' m2 w'.heap.size (some ⟨g3, 0, none⟩) nf nf x.f ∧ (w.heap.size ≤ m1 ∧ m1 ≤ m2 ∧ m2 ≤ w'.heap.size) ∧ Below w.heap.size w w' := by
  have hb0 : Below w.heap.size w (((w.alloc (.cells #[.int .i64 x.k, .int .i64 x.v, .int .i64 x.e, .int .i64 x.s.1, .slice As ns c1, .int .i64 x.i.1, .slice Ai ni c2, .slice Af nf c3] 109)).alloc (.cells #[.int .i64 0, .int .i64 0, .int .i64 0, .int .i64 0, .slice none 0 0, .int .i64 0, .slice none 0 0, .slice none 0 0] 83)).alloc (.cells #[.int .i64 x.k, .int .i64 x.v, .int .i64 x.e, .int .i64 0, .slice none 0 0, .int .i64 0, .slice none 0 0, .slice none 0 0] 83)) := bon (bon (bnew _ _) (bnew _ _)) (bnew _ _)
  have hsz : (((w.alloc (.cells #[.int .i64 x.k, .int .i64 x.v, .int .i64 x.e, .int .i64 x.s.1, .slice As ns c1, .int .i64 x.i.1, .slice Ai ni c2, .slice Af nf c3] 109)).alloc (.cells #[.int .i64 0, .int .i64 0, .int .i64 0, .int .i64 0, .slice none 0 0, .int .i64 0, .slice none 0 0, .slice none 0 0] 83)).alloc (.cells #[.int .i64 x.k, .int .i64 x.v, .int .i64 x.e, .int .i64 0, .slice none 0 0, .int .i64 0, .slice none 0 0, .slice none 0 0] 83)).heap.size = w.heap.size + 3 := by simp
  have hP : BlkIs (((w.alloc (.cells #[.int .i64 x.k, .int .i64 x.v, .int .i64 x.e, .int .i64 x.s.1, .slice As ns c1, .int .i64 x.i.1, .slice Ai ni c2, .slice Af nf c3] 109)).alloc (.cells #[.int .i64 0, .int .i64 0, .int .i64 0, .int .i64 0, .slice none 0 0, .int .i64 0, .slice none 0 0, .slice none 0 0] 83)).alloc (.cells #[.int .i64 x.k, .int .i64 x.v, .int .i64 x.e, .int .i64 0, .slice none 0 0, .int .i64 0, .slice none 0 0, .slice none 0 0] 83)) w.heap.size 109 #[.int .i64 x.k, .int .i64 x.v, .int .i64 x.e, .int .i64 x.s.1, .slice As ns c1, .int .i64 x.i.1, .slice Ai ni c2, .slice Af nf c3] := ((blk_new w _ _ _ rfl).next (bnew _ _)).next (bnew _ _)
  have hR : BlkIs (((w.alloc (.cells #[.int .i64 x.k, .int .i64 x.v, .int .i64 x.e, .int .i64 x.s.1, .slice As ns c1, .int .i64 x.i.1, .slice Ai ni c2, .slice Af nf c3] 109)).alloc (.cells #[.int .i64 0, .int .i64 0, .int .i64 0, .int .i64 0, .slice none 0 0, .int .i64 0, .slice none 0 0, .slice none 0 0] 83)).alloc (.cells #[.int .i64 x.k, .int .i64 x.v, .int .i64 x.e, .int .i64 0, .slice none 0 0, .int .i64 0, .slice none 0 0, .slice none 0 0] 83)) (w.heap.size + 1) 83 #[.int .i64 0, .int .i64 0, .int .i64 0, .int .i64 0, .slice none 0 0, .int .i64 0, .slice none 0 0, .slice none 0 0] := (blk_new _ _ _ _ (by simp)).next (bnew _ _)
  have hO : BlkIs (((w.alloc (.cells #[.int .i64 x.k, .int .i64 x.v, .int .i64 x.e, .int .i64 x.s.1, .slice As ns c1, .int .i64 x.i.1, .slice Ai ni c2, .slice Af nf c3] 109)).alloc (.cells #[.int .i64 0, .int .i64 0, .int .i64 0, .int .i64 0, .slice none 0 0, .int .i64 0, .slice none 0 0, .slice none 0 0] 83)).alloc (.cells #[.int .i64 x.k, .int .i64 x.v, .int .i64 x.e, .int .i64 0, .slice none 0 0, .int .i64 0, .slice none 0 0, .slice none 0 0] 83)) (w.heap.size + 1 + 1) 83 #[.int .i64 x.k, .int .i64 x.v, .int .i64 x.e, .int .i64 0, .slice none 0 0, .int .i64 0, .slice none 0 0, .slice none 0 0] := blk_new _ _ _ _ (by simp)
  have h1 := Lib.hid (hs.next hb0 hB)
  have h2 := Lib.hid (hi.next hb0 hB)
  have h3 := Lib.hid (hf.next hb0 hB)
  clear hs hi hf
  unfold S8.val
  go_enter Tryz.func74, Tryz.ntmps74
  go_wp2_with fail
  generalize (((w.alloc (.cells #[.int .i64 x.k, .int .i64 x.v, .int .i64 x.e, .int .i64 x.s.1, .slice As ns c1, .int .i64 x.i.1, .slice Ai ni c2, .slice Af nf c3] 109)).alloc (.cells #[.int .i64 0, .int .i64 0, .int .i64 0, .int .i64 0, .slice none 0 0, .int .i64 0, .slice none 0 0, .slice none 0 0] 83)).alloc (.cells #[.int .i64 x.k, .int .i64 x.v, .int .i64 x.e, .int .i64 0, .slice none 0 0, .int .i64 0, .slice none 0 0, .slice none 0 0] 83)) = W at hb0 hsz h1 h2 h3 hP hR hO ⊢
  refine (toTerm_k x.s.1 As ns c1 B x.s.2 W h1.out (by omega) hn1).mono ?_
  rintro e w1 ⟨a1, rfl, ho1, hb1⟩
  have hs1 := hb1.size
  have hP1 := hP.next hb1
  have hR1 := hR.next hb1
  have hO1 := hO.next hb1
  have p5 := hP1.cell 5
  have p6 := hP1.cell 6
  have o3 := hO1.cell 3
  have o4 := hO1.cell 4
  have f3 := hO1.frozen 3
  have f4 := hO1.frozen 4
  simp at p5 p6 o3 o4
  go_wp2_with fail
  have hst : Out (w.heap.size + 1) (w.heap.size + 3) w1 ((w1.setCell ⟨w.heap.size + 1 + 1, 3, none⟩ (.int .i64 x.s.1)).setCell ⟨w.heap.size + 1 + 1, 4, none⟩ (.slice (some ⟨a1, 0, none⟩) ns ns)) := out_set (out_set (Out.refl _ _ _) (by omega)) (by omega)
  have hP2 := (hP1.far (g' := w.heap.size + 1 + 1) (by omega) 3 (.int .i64 x.s.1)).far (g' := w.heap.size + 1 + 1) (by omega) 4 (.slice (some ⟨a1, 0, none⟩) ns ns)
  have hR2 := (hR1.far (g' := w.heap.size + 1 + 1) (by omega) 3 (.int .i64 x.s.1)).far (g' := w.heap.size + 1 + 1) (by omega) 4 (.slice (some ⟨a1, 0, none⟩) ns ns)
  have hO2 := (hO1.set 3 (.int .i64 x.s.1)).set 4 (.slice (some ⟨a1, 0, none⟩) ns ns)
  simp at hO2
  have hb11 := hb0.trans (hb1.mono (by omega))
  have h21 := Lib.hid ((h2.out.next hb1 (by omega)).next (hst.below (by omega) (by omega)) hB)
  have h31 := Lib.hid ((h3.out.next hb1 (by omega)).next (hst.below (by omega) (by omega)) hB)
  clear p5 p6 o3 o4 f3 f4 h2 h3 hP1 hR1 hO1 hP hR hO
  generalize (w1.setCell ⟨w.heap.size + 1 + 1, 3, none⟩ (.int .i64 x.s.1)).setCell ⟨w.heap.size + 1 + 1, 4, none⟩ (.slice (some ⟨a1, 0, none⟩) ns ns) = w2 at hst hP2 hR2 hO2 h21 h31 ⊢
  have hs2 := hst.size
  have ho2 := ho1.out hst (by omega)
  have hb2 : Below w.heap.size w w2 := hb11.trans (hst.below (by omega) (by omega))
  refine (toTerm_k x.i.1 Ai ni c2 B x.i.2 w2 h21.out (by omega) hn2).mono ?_
  rintro e w3 ⟨a2, rfl, hi3, hb3⟩
  have hs3 := hb3.size
  have hP3 := hP2.next hb3
  have hR3 := hR2.next hb3
  have hO3 := hO2.next hb3
  have p7 := hP3.cell 7
  have o5 := hO3.cell 5
  have o6 := hO3.cell 6
  have f5 := hO3.frozen 5
  have f6 := hO3.frozen 6
  simp at p7 o5 o6
  go_wp2_with fail
  have hst2 : Out (w.heap.size + 1) (w.heap.size + 3) w3 ((w3.setCell ⟨w.heap.size + 1 + 1, 5, none⟩ (.int .i64 x.i.1)).setCell ⟨w.heap.size + 1 + 1, 6, none⟩ (.slice (some ⟨a2, 0, none⟩) ni ni)) := out_set (out_set (Out.refl _ _ _) (by omega)) (by omega)
  have hP4 := (hP3.far (g' := w.heap.size + 1 + 1) (by omega) 5 (.int .i64 x.i.1)).far (g' := w.heap.size + 1 + 1) (by omega) 6 (.slice (some ⟨a2, 0, none⟩) ni ni)
  have hR4 := (hR3.far (g' := w.heap.size + 1 + 1) (by omega) 5 (.int .i64 x.i.1)).far (g' := w.heap.size + 1 + 1) (by omega) 6 (.slice (some ⟨a2, 0, none⟩) ni ni)
  have hO4 := (hO3.set 5 (.int .i64 x.i.1)).set 6 (.slice (some ⟨a2, 0, none⟩) ni ni)
  simp at hO4
  have ho3 := ho2.next (hb3.mono (by omega))
  have hb33 := hb2.trans (hb3.mono (by omega))
  have h32 := Lib.hid ((h31.out.next hb3 (by omega)).next (hst2.below (by omega) (by omega)) hB)
  clear p7 o5 o6 f5 f6 h31 hP3 hR3 hO3 hP2 hR2 hO2
  generalize (w3.setCell ⟨w.heap.size + 1 + 1, 5, none⟩ (.int .i64 x.i.1)).setCell ⟨w.heap.size + 1 + 1, 6, none⟩ (.slice (some ⟨a2, 0, none⟩) ni ni) = w4 at hst2 hP4 hR4 hO4 h32 ⊢
  have hs4 := hst2.size
  have ho4 := ho3.out hst2 (by omega)
  have hi4 := hi3.out hst2 (by omega)
  have hb4 : Below w.heap.size w w4 := hb33.trans (hst2.below (by omega) (by omega))
  refine (toTermS_k Af nf c3 B x.f w4 h32.out (by omega) hn3 hn4).mono ?_
  rintro e w5 ⟨a3, rfl, hf5, hb5⟩
  have hs5 := hb5.size
  have hR5 := hR4.next hb5
  have hO5 := hO4.next hb5
  have hb55 := hb4.trans (hb5.mono (by omega))
  have ho5 := ho4.next hb5
  have hi5 := hi4.next hb5
  have q0 := hO5.cell 0
  have q1 := hO5.cell 1
  have q2 := hO5.cell 2
  have q3 := hO5.cell 3
  have q4 := hO5.cell 4
  have q5 := hO5.cell 5
  have q6 := hO5.cell 6
  have q7 := hO5.cell 7
  have k7 := hO5.frozen 7
  have r0 := hR5.cell 0
  have r1 := hR5.cell 1
  have r2 := hR5.cell 2
  have r3 := hR5.cell 3
  have r4 := hR5.cell 4
  have r5 := hR5.cell 5
  have r6 := hR5.cell 6
  have r7 := hR5.cell 7
  have m0 := hR5.frozen 0
  have m1 := hR5.frozen 1
  have m2 := hR5.frozen 2
  have m3 := hR5.frozen 3
  have m4 := hR5.frozen 4
  have m5 := hR5.frozen 5
  have m6 := hR5.frozen 6
  have m7 := hR5.frozen 7
  simp at q0 q1 q2 q3 q4 q5 q6 q7 r0 r1 r2 r3 r4 r5 r6 r7
  clear hP4 hR4 hO4 hR5 hO5 h1 h21 h32
  go_wp2_with fail
  refine bodyPost_ret (v := .agg #[.int .i64 x.k, .int .i64 x.v, .int .i64 x.e, .int .i64 x.s.1, .slice (some ⟨a1, 0, none⟩) ns ns, .int .i64 x.i.1, .slice (some ⟨a2, 0, none⟩) ni ni, .slice (some ⟨a3, 0, none⟩) nf nf]) (by simp [results, Tryz.results74, go_sem, r0, r1, r2, r3, r4, r5, r6, r7]) rfl ?_
  have ho : Out (w.heap.size + 1) (w.heap.size + 3) w5 (((((((((w5.setCell ⟨w.heap.size + 1 + 1, 7, none⟩ (.slice (some ⟨a3, 0, none⟩) nf nf)).setCell ⟨w.heap.size + 1, 0, none⟩ (.int .i64 x.k)).setCell ⟨w.heap.size + 1, 1, none⟩ (.int .i64 x.v)).setCell ⟨w.heap.size + 1, 2, none⟩ (.int .i64 x.e)).setCell ⟨w.heap.size + 1, 3, none⟩ (.int .i64 x.s.1)).setCell ⟨w.heap.size + 1, 4, none⟩ (.slice (some ⟨a1, 0, none⟩) ns ns)).setCell ⟨w.heap.size + 1, 5, none⟩ (.int .i64 x.i.1)).setCell ⟨w.heap.size + 1, 6, none⟩ (.slice (some ⟨a2, 0, none⟩) ni ni)).setCell ⟨w.heap.size + 1, 7, none⟩ (.slice (some ⟨a3, 0, none⟩) nf nf)) :=
    out_set (out_set (out_set (out_set (out_set (out_set (out_set (out_set (out_set (Out.refl _ _ _) (by omega)) (by omega)) (by omega)) (by omega)) (by omega)) (by omega)) (by omega)) (by omega)) (by omega)
  have hso := ho.size
  refine ⟨a1, a2, a3, w2.heap.size, w4.heap.size, rfl, ?_, ?_, ?_, ⟨by omega, by omega, by omega⟩, hb55.trans (ho.below (by omega) (by omega))⟩
  · exact ((ho5.out ho (by omega)).less (by omega)).wide (by omega) (by omega)
  · exact (hi5.out ho (by omega)).wide (by omega) (by omega)
  · exact ((hf5.out ho (by omega)).less (by omega)).wide (by omega) (Nat.le_refl _)


/-- What the copy holds when k elements have been laid. -/
def LaidM (wr : World) (B n k : Nat) (ts : List S8) : Prop :=
  ∃ (xs : List Value) (f : Nat → Nat), wr.ownsRow B 83 8 (.slice (some ⟨B, 0, none⟩) n n) n xs ∧ B + 1 ≤ f 0 ∧ (∀ i, i < k → f i ≤ f (i + 1)) ∧ f k ≤ wr.heap.size ∧ ∀ j, j < k → ∀ t, ts[j]? = some t → PartM wr xs f j t
theorem laidM_own {wr : World} {B n : Nat} {ts : List S8} (h : LaidM wr B n n ts) (hl : ts.length = n) (hB : B < wr.heap.size) : OwnSM wr B wr.heap.size (some ⟨B, 0, none⟩) n n ts := by
  obtain ⟨xs, f, h1, h2, h3, h4, h5⟩ := h
  exact ⟨hl, Nat.le_refl _, xs, f, h1, fun k hk => by have hk' : some B = some k := hk; injection hk' with hk'; omega, by omega, h3, h4, fun j t hj => h5 j (by have := (List.getElem?_eq_some_iff.1 hj).1; omega) t hj⟩
theorem laidM_step {wr w1 : World} {B n k : Nat} {ts : List S8} {t : S8} {As : Option Addr} {ns cs : Nat} {Ai : Option Addr} {ni ci : Nat} {Af : Option Addr} {nf cf : Nat} (h : LaidM wr B n k ts) (ht : ts[k]? = some t) (hk : k < n) (hB : B < wr.heap.size)
    (hb : Below wr.heap.size wr w1) {m1 m2 : Nat} (o1 : OwnL w1 wr.heap.size m1 As ns cs t.s.2) (o2 : OwnL w1 m1 m2 Ai ni ci t.i.2) (o3 : OwnTS w1 m2 w1.heap.size Af nf cf t.f) (hm : wr.heap.size ≤ m1 ∧ m1 ≤ m2 ∧ m2 ≤ w1.heap.size) :
    LaidM ((((((((w1.setCell ⟨B, k * 8, none⟩ (.int .i64 t.k)).setCell ⟨B, k * 8 + 1, none⟩ (.int .i64 t.v)).setCell ⟨B, k * 8 + 2, none⟩ (.int .i64 t.e)).setCell ⟨B, k * 8 + 3, none⟩ (.int .i64 t.s.1)).setCell ⟨B, k * 8 + 4, none⟩ (.slice As ns cs)).setCell ⟨B, k * 8 + 5, none⟩ (.int .i64 t.i.1)).setCell ⟨B, k * 8 + 6, none⟩ (.slice Ai ni ci)).setCell ⟨B, k * 8 + 7, none⟩ (.slice Af nf cf)) B n (k + 1) ts := by
  obtain ⟨xs, f, h1, hf0, hf1, hf2, h2⟩ := h
  obtain ⟨hm1, hm2, hm3⟩ := hm
  have h1' := own_below h1 hb
  have s0 := (h1'.stored (k * 8) (.int .i64 t.k)).1
  have s1 := (s0.stored (k * 8 + 1) (.int .i64 t.v)).1
  have s2 := (s1.stored (k * 8 + 2) (.int .i64 t.e)).1
  have s3 := (s2.stored (k * 8 + 3) (.int .i64 t.s.1)).1
  have s4 := (s3.stored (k * 8 + 4) (.slice As ns cs)).1
  have s5 := (s4.stored (k * 8 + 5) (.int .i64 t.i.1)).1
  have s6 := (s5.stored (k * 8 + 6) (.slice Ai ni ci)).1
  have s7 := (s6.stored (k * 8 + 7) (.slice Af nf cf)).1
  have hxl : xs.length = n * 8 := h1.1
  have ho : Out B (B + 1) w1 ((((((((w1.setCell ⟨B, k * 8, none⟩ (.int .i64 t.k)).setCell ⟨B, k * 8 + 1, none⟩ (.int .i64 t.v)).setCell ⟨B, k * 8 + 2, none⟩ (.int .i64 t.e)).setCell ⟨B, k * 8 + 3, none⟩ (.int .i64 t.s.1)).setCell ⟨B, k * 8 + 4, none⟩ (.slice As ns cs)).setCell ⟨B, k * 8 + 5, none⟩ (.int .i64 t.i.1)).setCell ⟨B, k * 8 + 6, none⟩ (.slice Ai ni ci)).setCell ⟨B, k * 8 + 7, none⟩ (.slice Af nf cf)) := out_set (out_set (out_set (out_set (out_set (out_set (out_set (out_set (Out.refl _ _ _) (by omega)) (by omega)) (by omega)) (by omega)) (by omega)) (by omega)) (by omega)) (by omega)
  generalize ((((((((w1.setCell ⟨B, k * 8, none⟩ (.int .i64 t.k)).setCell ⟨B, k * 8 + 1, none⟩ (.int .i64 t.v)).setCell ⟨B, k * 8 + 2, none⟩ (.int .i64 t.e)).setCell ⟨B, k * 8 + 3, none⟩ (.int .i64 t.s.1)).setCell ⟨B, k * 8 + 4, none⟩ (.slice As ns cs)).setCell ⟨B, k * 8 + 5, none⟩ (.int .i64 t.i.1)).setCell ⟨B, k * 8 + 6, none⟩ (.slice Ai ni ci)).setCell ⟨B, k * 8 + 7, none⟩ (.slice Af nf cf)) = w9 at s7 ho ⊢
  clear s0 s1 s2 s3 s4 s5 s6
  have hos := ho.size
  have hbs := hb.size
  obtain ⟨F, hF1, hF2⟩ : ∃ F : Nat → Nat, (∀ i, i ≤ k → F i = f i) ∧ F (k + 1) = w1.heap.size := ⟨fun i => if i ≤ k then f i else w1.heap.size, fun i hi => if_pos hi, if_neg (by omega)⟩
  refine ⟨_, F, s7, by rw [hF1 0 (by omega)]; exact hf0, fun i hi => ?_, by rw [hF2]; omega, fun j hj u hu => ?_⟩
  · by_cases hi2 : i + 1 ≤ k
    · rw [hF1 i (by omega), hF1 _ hi2]; exact hf1 i (by omega)
    · have hik : i = k := by omega
      subst hik
      rw [hF1 _ (Nat.le_refl _), hF2]; omega
  by_cases e1 : j = k
  · subst e1
    rw [ht] at hu
    obtain rfl := Option.some.inj hu
    unfold PartM
    rw [hF1 _ (Nat.le_refl _), hF2]
    refine ⟨As, ns, cs, Ai, ni, ci, Af, nf, cf, m1, m2, ⟨?_, ?_, ?_, ?_, ?_, ?_, ?_, ?_⟩, (o1.out ho (by omega)).less (by omega), o2.out ho (by omega), o3.out ho (by omega), by omega, by omega, by omega⟩
    · rw [List.getElem?_set_ne (by omega), List.getElem?_set_ne (by omega), List.getElem?_set_ne (by omega), List.getElem?_set_ne (by omega), List.getElem?_set_ne (by omega), List.getElem?_set_ne (by omega), List.getElem?_set_ne (by omega), List.getElem?_set_self (by (try simp only [List.length_set]); omega)]
    · rw [List.getElem?_set_ne (by omega), List.getElem?_set_ne (by omega), List.getElem?_set_ne (by omega), List.getElem?_set_ne (by omega), List.getElem?_set_ne (by omega), List.getElem?_set_ne (by omega), List.getElem?_set_self (by (try simp only [List.length_set]); omega)]
    · rw [List.getElem?_set_ne (by omega), List.getElem?_set_ne (by omega), List.getElem?_set_ne (by omega), List.getElem?_set_ne (by omega), List.getElem?_set_ne (by omega), List.getElem?_set_self (by (try simp only [List.length_set]); omega)]
    · rw [List.getElem?_set_ne (by omega), List.getElem?_set_ne (by omega), List.getElem?_set_ne (by omega), List.getElem?_set_ne (by omega), List.getElem?_set_self (by (try simp only [List.length_set]); omega)]
    · rw [List.getElem?_set_ne (by omega), List.getElem?_set_ne (by omega), List.getElem?_set_ne (by omega), List.getElem?_set_self (by (try simp only [List.length_set]); omega)]
    · rw [List.getElem?_set_ne (by omega), List.getElem?_set_ne (by omega), List.getElem?_set_self (by (try simp only [List.length_set]); omega)]
    · rw [List.getElem?_set_ne (by omega), List.getElem?_set_self (by (try simp only [List.length_set]); omega)]
    · rw [List.getElem?_set_self (by (try simp only [List.length_set]); omega)]
  · obtain ⟨As', ns', cs', Ai', ni', ci', Af', nf', cf', n1, n2, ⟨q0, q1, q2, q3, q4, q5, q6, q7⟩, k1, k2, k3, e2, e3, e4⟩ := h2 j (by omega) u hu
    have hfj : f 0 ≤ f j := mono_le hf1 (by omega) (by omega)
    unfold PartM
    rw [hF1 _ (by omega), hF1 _ (by omega)]
    refine ⟨As', ns', cs', Ai', ni', ci', Af', nf', cf', n1, n2, ⟨?_, ?_, ?_, ?_, ?_, ?_, ?_, ?_⟩, (k1.next hb).out ho (by omega), (k2.next hb).out ho (by omega), (k3.next hb).out ho (by omega), e2, e3, e4⟩
    · rw [List.getElem?_set_ne (by omega), List.getElem?_set_ne (by omega), List.getElem?_set_ne (by omega), List.getElem?_set_ne (by omega), List.getElem?_set_ne (by omega), List.getElem?_set_ne (by omega), List.getElem?_set_ne (by omega), List.getElem?_set_ne (by omega)]; exact q0
    · rw [List.getElem?_set_ne (by omega), List.getElem?_set_ne (by omega), List.getElem?_set_ne (by omega), List.getElem?_set_ne (by omega), List.getElem?_set_ne (by omega), List.getElem?_set_ne (by omega), List.getElem?_set_ne (by omega), List.getElem?_set_ne (by omega)]; exact q1
    · rw [List.getElem?_set_ne (by omega), List.getElem?_set_ne (by omega), List.getElem?_set_ne (by omega), List.getElem?_set_ne (by omega), List.getElem?_set_ne (by omega), List.getElem?_set_ne (by omega), List.getElem?_set_ne (by omega), List.getElem?_set_ne (by omega)]; exact q2
    · rw [List.getElem?_set_ne (by omega), List.getElem?_set_ne (by omega), List.getElem?_set_ne (by omega), List.getElem?_set_ne (by omega), List.getElem?_set_ne (by omega), List.getElem?_set_ne (by omega), List.getElem?_set_ne (by omega), List.getElem?_set_ne (by omega)]; exact q3
    · rw [List.getElem?_set_ne (by omega), List.getElem?_set_ne (by omega), List.getElem?_set_ne (by omega), List.getElem?_set_ne (by omega), List.getElem?_set_ne (by omega), List.getElem?_set_ne (by omega), List.getElem?_set_ne (by omega), List.getElem?_set_ne (by omega)]; exact q4
    · rw [List.getElem?_set_ne (by omega), List.getElem?_set_ne (by omega), List.getElem?_set_ne (by omega), List.getElem?_set_ne (by omega), List.getElem?_set_ne (by omega), List.getElem?_set_ne (by omega), List.getElem?_set_ne (by omega), List.getElem?_set_ne (by omega)]; exact q5
    · rw [List.getElem?_set_ne (by omega), List.getElem?_set_ne (by omega), List.getElem?_set_ne (by omega), List.getElem?_set_ne (by omega), List.getElem?_set_ne (by omega), List.getElem?_set_ne (by omega), List.getElem?_set_ne (by omega), List.getElem?_set_ne (by omega)]; exact q6
    · rw [List.getElem?_set_ne (by omega), List.getElem?_set_ne (by omega), List.getElem?_set_ne (by omega), List.getElem?_set_ne (by omega), List.getElem?_set_ne (by omega), List.getElem?_set_ne (by omega), List.getElem?_set_ne (by omega), List.getElem?_set_ne (by omega)]; exact q7

set_option maxRecDepth 100000 in
set_option maxHeartbeats 4000000 in
theorem toStmtS_m (A : Option Addr) (n c B : Nat) (ts : List S8) (w : World) (h : InST w B A n ts) (hB : B ≤ w.heap.size) (hn : n ≤ 1048576) (he : totS ts ≤ 1048576) :
    Calls Tryz.prog 39 #[.slice A n c] w fun e w' => ∃ g, e = .returned (.slice (some ⟨g, 0, none⟩) n n) ∧ OwnSM w' w.heap.size w'.heap.size (some ⟨g, 0, none⟩) n n ts ∧ Below w.heap.size w w' := by
  obtain ⟨i0, hi, hz0, hz1, hz2⟩ := info_parts infoStmt
  go_enter Tryz.func39, Tryz.ntmps39
  go_wp2_with (at_make; refine wpList_make_full _ rfl _ _ 35 rfl w.heap.size 83 i0 (.agg #[.int .i64 0, .int .i64 0, .int .i64 0, .int .i64 0, .slice none 0 0, .int .i64 0, .slice none 0 0, .slice none 0 0]) 8 Tryz.underlying35 hi hz0 hz1 .i64 .i64 _ _ n rfl rfl rfl rfl (by rw [hz2]; omega) (by unfold maxLen; omega) (Nat.le_refl _) ?_; intro w1 hown hgrow)
  have hb1 := (Below.refl w.heap.size w).grown hgrow (Nat.le_refl _) (fun _ h => by cases h)
  have hlt0 : w.heap.size < w1.heap.size := (hown.lt w.heap.size rfl).2
  have hl0 : LaidM w1 w.heap.size n 0 ts := ⟨_, fun _ => w.heap.size + 1, hown, Nat.le_refl _, fun i hi => by omega, hlt0, fun j hj => by omega⟩
  clear hgrow hown
  go_loopw [4] (fun i wr => ∃ k : Nat, k ≤ n ∧ i = .int .i64 k ∧ LaidM wr w.heap.size n k ts ∧ w.heap.size < wr.heap.size ∧ Below w.heap.size w wr) (fun i _ => n - (intOf i).toNat)
  case atStart => exact ⟨0, Nat.zero_le _, rfl, hl0, hlt0, hb1⟩
  case round =>
    clear hl0 hlt0 hb1
    obtain ⟨k, hk, rfl, hl, hlt0, hbel⟩ := hrel
    by_cases hlt : k < n
    · obtain ⟨b, off, t, rfl, hb, ht, As, ns, cs, Ai, ni, ci, Af, nf, cf, q0, q1, q2, q3, q4, q5, q6, q7, k1, k2, k3⟩ := (h.next hbel hB).at_ hlt
      have hmx := totS_mem (List.mem_of_getElem? ht)
      unfold S8.tot at hmx
      rw [k1.1, k2.1, k3.1] at hmx
      have HI := Lib.hid (toStmt_m t As ns cs Ai ni ci Af nf cf B wr k1 k2 k3 (by omega) (by omega) (by omega) (by omega) (by omega))
      unfold S8.val at HI
      have HT := Lib.hid ht
      clear k1 k2 k3 ht
      go_wp2_with fail
      refine HI.out.mono ?_
      rintro e w2 ⟨g1, g2, g3, m1, m2, rfl, o1, o2, o3, hmm, hb2⟩
      have HL := Lib.hid (laidM_step hl HT.out hlt hlt0 hb2 o1 o2 o3 hmm)
      have hs2 := hb2.size
      obtain ⟨xs, _, hox, _⟩ := hl
      have hox2 := own_below hox hb2
      have hxl : xs.length = n * 8 := hox.1
      have c0 := hox2.cellAt (k * 8) (by omega)
      have c1 := hox2.cellAt (k * 8 + 1) (by omega)
      have c2 := hox2.cellAt (k * 8 + 2) (by omega)
      have c3 := hox2.cellAt (k * 8 + 3) (by omega)
      have c4 := hox2.cellAt (k * 8 + 4) (by omega)
      have c5 := hox2.cellAt (k * 8 + 5) (by omega)
      have c6 := hox2.cellAt (k * 8 + 6) (by omega)
      have c7 := hox2.cellAt (k * 8 + 7) (by omega)
      rw [List.getElem?_eq_getElem (by omega)] at c0 c1 c2 c3 c4 c5 c6 c7
      have f0 := hox2.frozenAt (k * 8)
      have f1 := hox2.frozenAt (k * 8 + 1)
      have f2 := hox2.frozenAt (k * 8 + 2)
      have f3 := hox2.frozenAt (k * 8 + 3)
      have f4 := hox2.frozenAt (k * 8 + 4)
      have f5 := hox2.frozenAt (k * 8 + 5)
      have f6 := hox2.frozenAt (k * 8 + 6)
      have f7 := hox2.frozenAt (k * 8 + 7)
      have hb3 := ((((((((hbel.trans (hb2.mono (by omega))).setCell (p := ⟨w.heap.size, k * 8, none⟩) (Nat.le_refl _) (.int .i64 t.k)).setCell (p := ⟨w.heap.size, k * 8 + 1, none⟩) (Nat.le_refl _) (.int .i64 t.v)).setCell (p := ⟨w.heap.size, k * 8 + 2, none⟩) (Nat.le_refl _) (.int .i64 t.e)).setCell (p := ⟨w.heap.size, k * 8 + 3, none⟩) (Nat.le_refl _) (.int .i64 t.s.1)).setCell (p := ⟨w.heap.size, k * 8 + 4, none⟩) (Nat.le_refl _) (.slice (some ⟨g1, 0, none⟩) ns ns)).setCell (p := ⟨w.heap.size, k * 8 + 5, none⟩) (Nat.le_refl _) (.int .i64 t.i.1)).setCell (p := ⟨w.heap.size, k * 8 + 6, none⟩) (Nat.le_refl _) (.slice (some ⟨g2, 0, none⟩) ni ni)).setCell (p := ⟨w.heap.size, k * 8 + 7, none⟩) (Nat.le_refl _) (.slice (some ⟨g3, 0, none⟩) nf nf)
      clear hox hox2 o1 o2 o3 q0 q1 q2 q3 q4 q5 q6 q7
      go_wp2_with fail
      go_roundw
      case rel => exact ⟨k + 1, by omega, by go_num, HL.out, by simp; omega, hb3⟩
      case measure => simp [intOf]; omega
    · have e : k = n := by omega
      subst e
      go_wp2_with fail
      go_ret
      exact ⟨_, rfl, laidM_own hl h.1 hlt0, hbel⟩
end Go.Proofs.YtajmbnimdngjhaaGreatDoor

/-! The marks that the law writes into the elements of a body and into a program; the copy of a program whose elements' rows lie apart. Conditions: at most 2^20 elements, terms and coefficients. -/
namespace Go.Proofs.YtajmbnimdngjhaaGreatDoor
set_option linter.unusedVariables false
open Go.RowKit

/-- The row of the elements, whose headers are as they were. -/
def HdM (w : World) (lo : Nat) (A : Option Addr) (n c : Nat) (xs : List Value) : Prop :=
  ∃ ys, w.ownsRow lo 83 8 (.slice A n c) n ys ∧ ∀ i, ys[i * 8 + 4]? = xs[i * 8 + 4]? ∧ ys[i * 8 + 6]? = xs[i * 8 + 6]? ∧ ys[i * 8 + 7]? = xs[i * 8 + 7]?
theorem HdM.set {w : World} {lo g n c : Nat} {xs : List Value} (h : HdM w lo (some ⟨g, 0, none⟩) n c xs) (o : Nat) (ho : ∀ i, o ≠ i * 8 + 4 ∧ o ≠ i * 8 + 6 ∧ o ≠ i * 8 + 7) (v : Value) : HdM (w.setCell ⟨g, o, none⟩ v) lo (some ⟨g, 0, none⟩) n c xs := by
  obtain ⟨ys, h1, h2⟩ := h
  refine ⟨_, (h1.stored o v).1, fun i => ?_⟩
  obtain ⟨a, b, d⟩ := h2 i
  obtain ⟨n1, n2, n3⟩ := ho i
  rw [List.getElem?_set_ne (by omega), List.getElem?_set_ne (by omega), List.getElem?_set_ne (by omega)]
  exact ⟨a, b, d⟩
theorem HdM.out {w w' : World} {lo g n c lo' hi' : Nat} {xs : List Value} (h : HdM w lo (some ⟨g, 0, none⟩) n c xs) (ho : Out lo' hi' w w') (hg : g < lo' ∨ hi' ≤ g) : HdM w' lo (some ⟨g, 0, none⟩) n c xs := by
  obtain ⟨ys, h1, h2⟩ := h
  refine ⟨ys, ⟨h1.1, ?_⟩, h2⟩
  rcases h1.2 with h' | ⟨g', cap, cur, k1, k2, k3, k4⟩
  · exact .inl h'
  · refine .inr ⟨g', cap, cur, k1, k2, ?_, k4⟩
    have e : g = g' := by injection k1 with e1; injection e1 with e2; injection e2
    subst e
    have hlt : g < w.heap.size := (h1.lt g rfl).2
    rw [ho.block g (by omega) (by omega)]
    exact k3
theorem HdM.cell {w : World} {lo g n c : Nat} {xs : List Value} (h : HdM w lo (some ⟨g, 0, none⟩) n c xs) (o : Nat) (ho : o < n * 8) : (∃ u, w.cell? ⟨g, o, none⟩ = some u) ∧ w.frozen? ⟨g, o, none⟩ = false := by
  obtain ⟨ys, h1, h2⟩ := h
  have hl := h1.1
  refine ⟨⟨ys[o]'(by omega), ?_⟩, h1.frozenAt o⟩
  rw [h1.cellAt o (by omega), List.getElem?_eq_getElem (by omega)]
theorem HdM.head {w : World} {lo g n c : Nat} {xs : List Value} (h : HdM w lo (some ⟨g, 0, none⟩) n c xs) (i : Nat) (hi : i < n) : w.cell? ⟨g, i * 8 + 4, none⟩ = xs[i * 8 + 4]? ∧ w.cell? ⟨g, i * 8 + 6, none⟩ = xs[i * 8 + 6]? ∧ w.cell? ⟨g, i * 8 + 7, none⟩ = xs[i * 8 + 7]? := by
  obtain ⟨ys, h1, h2⟩ := h
  obtain ⟨a, b, d⟩ := h2 i
  have hl := h1.1
  rw [h1.cellAt _ (by omega), h1.cellAt _ (by omega), h1.cellAt _ (by omega)]
  exact ⟨a, b, d⟩
/-- An element's rows. -/
def RowsM (w : World) (xs : List Value) (f : Nat → Nat) (j : Nat) (t : S8) : Prop := ∃ As ns cs Ai ni ci Af nf cf m1 m2, (xs[j * 8 + 4]? = some (.slice As ns cs) ∧ xs[j * 8 + 6]? = some (.slice Ai ni ci) ∧ xs[j * 8 + 7]? = some (.slice Af nf cf)) ∧
  OwnL w (f j) m1 As ns cs t.s.2 ∧ OwnL w m1 m2 Ai ni ci t.i.2 ∧ OwnTS w m2 (f (j + 1)) Af nf cf t.f ∧ f j ≤ m1 ∧ m1 ≤ m2 ∧ m2 ≤ f (j + 1)
theorem RowsM.out {w w' : World} {xs : List Value} {f : Nat → Nat} {j lo' hi' : Nat} {t : S8} (h : RowsM w xs f j t) (ho : Out lo' hi' w w') (hd : hi' ≤ f j ∨ f (j + 1) ≤ lo') : RowsM w' xs f j t := by
  obtain ⟨As, ns, cs, Ai, ni, ci, Af, nf, cf, m1, m2, q, k1, k2, k3, e1, e2, e3⟩ := h
  exact ⟨As, ns, cs, Ai, ni, ci, Af, nf, cf, m1, m2, q, k1.out ho (by omega), k2.out ho (by omega), k3.out ho (by omega), e1, e2, e3⟩

set_option maxRecDepth 100000 in
set_option maxHeartbeats 8000000 in
theorem markStmtS_w (lo hi : Nat) (A : Option Addr) (n c : Nat) (ts : List S8) (k0 : Int) (w : World) (h : OwnSM w lo hi A n c ts) (hn : n ≤ 1048576) (he : totS ts ≤ 1048576) (hk1 : 0 ≤ k0) (hk2 : k0 ≤ 10000000) :
    Calls Tryz.prog 45 #[.slice A n c, .int .i64 k0] w fun e w' => e = .returned (.int .i64 (k0 + ((5 * n + totS ts : Nat) : Int))) ∧ Out lo hi w w' := by
  obtain ⟨h1, h2, xs, f, h3, h4, h5, h6, h7, h8⟩ := h
  have hlen := Lib.hid h1
  have H4 := Lib.hid h4
  have H6 := Lib.hid h6
  have HR0 : Hid (HdM w lo A n c xs ∧ ∀ j t, 0 ≤ j → ts[j]? = some t → RowsM w xs f j t) := ⟨⟨xs, h3, fun i => ⟨rfl, rfl, rfl⟩⟩, fun j t _ hj => by
    obtain ⟨As, ns, cs, Ai, ni, ci, Af, nf, cf, m1, m2, q, k⟩ := h8 j t hj
    exact ⟨As, ns, cs, Ai, ni, ci, Af, nf, cf, m1, m2, ⟨q.2.2.2.2.1, q.2.2.2.2.2.2.1, q.2.2.2.2.2.2.2⟩, k⟩⟩
  clear h1 h3 h4 h6 h8
  go_enter Tryz.func45, Tryz.ntmps45
  go_wp2_with fail
  go_loopw [1, 5] (fun kv i wr => ∃ j : Nat, j ≤ n ∧ i = .int .i64 j ∧ kv = .int .i64 (k0 + ((5 * j + totS (ts.take j) : Nat) : Int)) ∧ Hid (HdM wr lo A n c xs ∧ ∀ i t, j ≤ i → ts[i]? = some t → RowsM wr xs f i t) ∧ Out lo hi w wr) (fun _ i _ => n - (intOf i).toNat)
  case atStart => exact ⟨0, Nat.zero_le _, rfl, by simp [totS], HR0, Out.refl _ _ _⟩
  case round =>
    clear HR0
    obtain ⟨j, hj, rfl, rfl, hR, hout⟩ := hrel
    by_cases hlt : j < n
    · obtain ⟨hd, hrest⟩ := hR.out
      obtain ⟨t, ht⟩ : ∃ t, ts[j]? = some t := ⟨_, List.getElem?_eq_getElem (by have := hlen.out; omega)⟩
      obtain ⟨As, ns, cs, Ai, ni, ci, Af, nf, cf, m1, m2, ⟨q4, q6, q7⟩, o1, o2, o3, e1, e2, e3⟩ := hrest j t (Nat.le_refl _) ht
      obtain ⟨g, rfl⟩ : ∃ g, A = some ⟨g, 0, none⟩ := by
        obtain ⟨ys, hr, _⟩ := hd
        rcases hr.2 with h' | ⟨g, cap, cur, k1, _⟩
        · have := h'.2; omega
        · injection k1 with k1; exact ⟨g, k1⟩
      have hg0 : g < f 0 := H4.out g rfl
      have hlg : lo ≤ g := by obtain ⟨ys, hr, _⟩ := hd; exact (hr.lt g rfl).1
      have hfj : f 0 ≤ f j := mono_le H6.out (Nat.zero_le _) (by omega)
      have hfn : f (j + 1) ≤ f n := mono_le H6.out (by omega) (Nat.le_refl _)
      have hmem := totS_mem (List.mem_of_getElem? ht)
      have hts := totS_succ ht
      have htk := totS_take ts j
      have htk1 := totS_take ts (j + 1)
      have htt : t.tot = ns + (ni + (nf + totT t.f)) := by unfold S8.tot; rw [o1.1, o2.1, o3.1]
      obtain ⟨K, hK⟩ : ∃ K : Int, K = k0 + ((5 * j + totS (ts.take j) : Nat) : Int) := ⟨_, rfl⟩
      have hKn : K + 5 + (ns : Int) + (ni : Int) + ((nf + totT t.f : Nat) : Int) = k0 + ((5 * (j + 1) + totS (ts.take (j + 1)) : Nat) : Int) := by rw [hts, htt, hK]; omega
      have hK1 : 0 ≤ K := by omega
      have hK2 : K ≤ 30000000 := by omega
      rw [← hK]
      obtain ⟨a4, a6, a7⟩ := hd.head j hlt
      rw [q4] at a4
      obtain ⟨⟨u0, c0⟩, z0⟩ := hd.cell (j * 8) (by omega)
      obtain ⟨⟨u1, c1⟩, z1⟩ := hd.cell (j * 8 + 1) (by omega)
      obtain ⟨⟨u2, c2⟩, z2⟩ := hd.cell (j * 8 + 2) (by omega)
      obtain ⟨⟨u3, c3⟩, z3⟩ := hd.cell (j * 8 + 3) (by omega)
      have HD1 : Hid (∀ v0 v1 v2 v3, HdM ((((wr.setCell ⟨g, j * 8, none⟩ v0).setCell ⟨g, j * 8 + 1, none⟩ v1).setCell ⟨g, j * 8 + 2, none⟩ v2).setCell ⟨g, j * 8 + 3, none⟩ v3) lo (some ⟨g, 0, none⟩) n c xs) := fun v0 v1 v2 v3 => (((hd.set (j * 8) (fun i => by omega) v0).set (j * 8 + 1) (fun i => by omega) v1).set (j * 8 + 2) (fun i => by omega) v2).set (j * 8 + 3) (fun i => by omega) v3
      have HO1 : Hid (∀ v0 v1 v2 v3, Out g (g + 1) wr ((((wr.setCell ⟨g, j * 8, none⟩ v0).setCell ⟨g, j * 8 + 1, none⟩ v1).setCell ⟨g, j * 8 + 2, none⟩ v2).setCell ⟨g, j * 8 + 3, none⟩ v3)) := fun v0 v1 v2 v3 => out_set (out_set (out_set (out_set (Out.refl _ _ _) (by omega)) (by omega)) (by omega)) (by omega)
      have HM1 := Lib.hid (fun (W : World) (kk : Int) (ho : Out g (g + 1) wr W) (h0 : 0 ≤ kk) (h1 : kk ≤ 100000000) => markInt64S_k (f j) m1 As ns cs t.s.2 kk W (o1.out ho (by omega)) (by omega) h0 (by omega))
      have HQ := Lib.hid (And.intro q6 q7)
      have HREST := Lib.hid hrest
      have HOW := Lib.hid (And.intro o2 o3)
      clear hd hrest hR o1 o2 o3 q4 q6 q7 a6 a7 ht hts htt hmem htk
      go_wp2_with fail
      refine (HM1.out _ _ (HO1.out _ _ _ _) (by omega) (by omega)).mono ?_
      rintro e9 w2 ⟨rfl, _, ho1⟩
      have hd2 := (HD1.out _ _ _ _).out ho1 (.inl (by omega))
      have hoA := ((HO1.out _ _ _ _).wide (lo' := lo) (hi' := f n) hlg (by omega)).trans (ho1.wide (lo' := lo) (hi' := f n) (by omega) (by omega))
      have hs2 := ho1.size
      have hsA := hoA.size
      have HO2 := Lib.hid (And.intro ((HOW.out.1.out (HO1.out _ _ _ _) (by omega)).out ho1 (by omega)) ((HOW.out.2.out (HO1.out _ _ _ _) (by omega)).out ho1 (by omega)))
      have HR2 : Hid (∀ i t, j + 1 ≤ i → ts[i]? = some t → RowsM w2 xs f i t) := fun i t hi ht => by
        have hfi : f (j + 1) ≤ f i := mono_le H6.out (by omega) (by have := (List.getElem?_eq_some_iff.1 ht).1; have := hlen.out; omega)
        exact ((HREST.out i t (by omega) ht).out (HO1.out _ _ _ _) (by omega)).out ho1 (by omega)
      obtain ⟨b4, b6, b7⟩ := hd2.head j hlt
      rw [HQ.out.1] at b6
      obtain ⟨⟨u5, c5⟩, z5⟩ := hd2.cell (j * 8 + 5) (by omega)
      have HD3 : Hid (∀ v, HdM (w2.setCell ⟨g, j * 8 + 5, none⟩ v) lo (some ⟨g, 0, none⟩) n c xs) := fun v => hd2.set (j * 8 + 5) (fun i => by omega) v
      have HO3 : Hid (∀ v, Out g (g + 1) w2 (w2.setCell ⟨g, j * 8 + 5, none⟩ v)) := fun v => out_set (Out.refl _ _ _) (by omega)
      have HM2 := Lib.hid (fun (W : World) (kk : Int) (ho : Out g (g + 1) w2 W) (h0 : 0 ≤ kk) (h1 : kk ≤ 100000000) => markInt64S_k m1 m2 Ai ni ci t.i.2 kk W (HO2.out.1.out ho (by omega)) (by omega) h0 (by omega))
      have HOA := Lib.hid hoA
      clear b4 b7 hd2 HM1 HD1 HREST HOW ho1 hoA a4 z0 c0 z1 c1 z2 c2 z3 c3 HO1
      go_wp2_with fail
      refine (HM2.out _ _ (HO3.out _) (by omega) (by omega)).mono ?_
      rintro e9 w3 ⟨rfl, _, ho3⟩
      have hd3 := (HD3.out _).out ho3 (.inl (by omega))
      have hoB := (HOA.out.trans ((HO3.out _).wide (lo' := lo) (hi' := f n) hlg (by omega))).trans (ho3.wide (lo' := lo) (hi' := f n) (by omega) (by omega))
      have hs3 := ho3.size
      have HO4 := Lib.hid ((HO2.out.2.out (HO3.out _) (by omega)).out ho3 (by omega))
      have HR3 : Hid (∀ i t, j + 1 ≤ i → ts[i]? = some t → RowsM w3 xs f i t) := fun i t hi ht => by
        have hfi : f (j + 1) ≤ f i := mono_le H6.out (by omega) (by have := (List.getElem?_eq_some_iff.1 ht).1; have := hlen.out; omega)
        exact ((HR2.out i t hi ht).out (HO3.out _) (by omega)).out ho3 (by omega)
      obtain ⟨b4, b6', b7⟩ := hd3.head j hlt
      rw [HQ.out.2] at b7
      have HM3 := Lib.hid (fun (kk : Int) (h0 : 0 ≤ kk) (h1 : kk ≤ 100000000) => markTermS_w m2 (f (j + 1)) Af nf cf t.f kk w3 HO4.out (by omega) (by omega) h0 h1)
      have HOB := Lib.hid hoB
      have HD4 := Lib.hid hd3
      clear b4 b6' b6 hd3 HM2 HD3 HR2 HO2 ho3 hoB z5 c5 HOA HO3
      go_wp2_with fail
      refine (HM3.out _ (by omega) (by omega)).mono ?_
      rintro e9 w4 ⟨rfl, _, ho4⟩
      have hs4 := ho4.size
      go_wp2_with fail
      go_roundw
      case rel =>
        refine ⟨j + 1, by omega, by go_num, congrArg (Value.int .i64) (by omega), ⟨HD4.out.out ho4 (.inl (by omega)), fun i t hi ht => ?_⟩, hout.trans ((HOB.out.trans (ho4.wide (lo' := lo) (hi' := f n) (by omega) (by omega))).wide (Nat.le_refl _) h7)⟩
        have hfi : f (j + 1) ≤ f i := mono_le H6.out (by omega) (by have := (List.getElem?_eq_some_iff.1 ht).1; have := hlen.out; omega)
        exact (HR3.out i t hi ht).out ho4 (by omega)
      case measure => simp [intOf]; omega
    · have e1 : j = n := by omega
      subst e1
      have e2 : totS (ts.take j) = totS ts := by rw [List.take_of_length_le (by have := hlen.out; omega)]
      rw [e2]
      clear e2
      go_wp2_with fail
      go_ret
      exact ⟨rfl, hout⟩

set_option maxRecDepth 100000 in
set_option maxHeartbeats 4000000 in
theorem toProgram_m (A : Option Addr) (n c : Nat) (ts : List (Int × List Int)) (D : Option Addr) (m d : Nat) (xs : List S8) (E : Option Addr) (q e' B : Nat) (us : List (Int × List Int)) (w : World) (h : PIn w B A n ts D m xs E q us) (hB : B ≤ w.heap.size)
    (hn : progN n ts m xs q us ≤ 1048576) :
    Calls Tryz.prog 10 #[.agg #[.slice A n c, .slice D m d, .slice E q e']] w fun e w' => ∃ g1 g2 g3 m1 m2, e = .returned (.agg #[.slice (some ⟨g1, 0, none⟩) n n, .slice (some ⟨g2, 0, none⟩) m m, .slice (some ⟨g3, 0, none⟩) q q]) ∧
      OwnTS w' w.heap.size m1 (some ⟨g1, 0, none⟩) n n ts ∧ OwnSM w' m1 m2 (some ⟨g2, 0, none⟩) m m xs ∧ OwnTS w' m2 w'.heap.size (some ⟨g3, 0, none⟩) q q us ∧ (w.heap.size ≤ m1 ∧ m1 ≤ m2 ∧ m2 ≤ w'.heap.size) ∧ Below w.heap.size w w' := by
  unfold progN at hn
  have hb0 : Below w.heap.size w (((w.alloc (.cells #[.slice A n c, .slice D m d, .slice E q e'] 25)).alloc (.cells #[.slice none 0 0, .slice none 0 0, .slice none 0 0] 37)).alloc (.cells #[.slice none 0 0, .slice none 0 0, .slice none 0 0] 37)) := bon (bon (bnew _ _) (bnew _ _)) (bnew _ _)
  have hsz : (((w.alloc (.cells #[.slice A n c, .slice D m d, .slice E q e'] 25)).alloc (.cells #[.slice none 0 0, .slice none 0 0, .slice none 0 0] 37)).alloc (.cells #[.slice none 0 0, .slice none 0 0, .slice none 0 0] 37)).heap.size = w.heap.size + 3 := by simp
  have H1 := Lib.hid (h.1.next hb0 hB)
  have H2 := Lib.hid (h.2.1.next hb0 hB)
  have H3 := Lib.hid (h.2.2.next hb0 hB)
  clear h
  have hP : BlkIs (((w.alloc (.cells #[.slice A n c, .slice D m d, .slice E q e'] 25)).alloc (.cells #[.slice none 0 0, .slice none 0 0, .slice none 0 0] 37)).alloc (.cells #[.slice none 0 0, .slice none 0 0, .slice none 0 0] 37)) w.heap.size 25 #[.slice A n c, .slice D m d, .slice E q e'] := ((blk_new w _ _ _ rfl).next (bnew _ _)).next (bnew _ _)
  have hR : BlkIs (((w.alloc (.cells #[.slice A n c, .slice D m d, .slice E q e'] 25)).alloc (.cells #[.slice none 0 0, .slice none 0 0, .slice none 0 0] 37)).alloc (.cells #[.slice none 0 0, .slice none 0 0, .slice none 0 0] 37)) (w.heap.size + 1) 37 #[.slice none 0 0, .slice none 0 0, .slice none 0 0] := (blk_new _ _ _ _ (by simp)).next (bnew _ _)
  have hO : BlkIs (((w.alloc (.cells #[.slice A n c, .slice D m d, .slice E q e'] 25)).alloc (.cells #[.slice none 0 0, .slice none 0 0, .slice none 0 0] 37)).alloc (.cells #[.slice none 0 0, .slice none 0 0, .slice none 0 0] 37)) (w.heap.size + 1 + 1) 37 #[.slice none 0 0, .slice none 0 0, .slice none 0 0] := blk_new _ _ _ _ (by simp)
  go_enter Tryz.func10, Tryz.ntmps10
  go_wp2_with fail
  generalize ((w.alloc (.cells #[.slice A n c, .slice D m d, .slice E q e'] 25)).alloc (.cells #[.slice none 0 0, .slice none 0 0, .slice none 0 0] 37)).alloc (.cells #[.slice none 0 0, .slice none 0 0, .slice none 0 0] 37) = W at hb0 hsz H1 H2 H3 hP hR hO ⊢
  refine (toTermS_k A n c B ts W H1.out (by omega) (by omega) (by omega)).mono ?_
  rintro e w1 ⟨g1, rfl, o1, hb1⟩
  have hs1 := hb1.size
  have hP1 := hP.next hb1
  have hR1 := hR.next hb1
  have hO1 := hO.next hb1
  have p1 := hP1.cell 1
  have o0 := hO1.cell 0
  have f0 := hO1.frozen 0
  simp at p1 o0
  go_wp2_with fail
  have hset : Out (w.heap.size + 1) (w.heap.size + 3) w1 (w1.setCell ⟨w.heap.size + 1 + 1, 0, none⟩ (.slice (some ⟨g1, 0, none⟩) n n)) := out_set (Out.refl _ _ _) (by omega)
  have hP2 := hP1.far (g' := w.heap.size + 1 + 1) (by omega) 0 (.slice (some ⟨g1, 0, none⟩) n n)
  have hR2 := hR1.far (g' := w.heap.size + 1 + 1) (by omega) 0 (.slice (some ⟨g1, 0, none⟩) n n)
  have hO2 := hO1.set 0 (.slice (some ⟨g1, 0, none⟩) n n)
  simp at hO2
  clear p1 o0 f0 hP1 hR1 hO1 hP hR hO
  generalize w1.setCell ⟨w.heap.size + 1 + 1, 0, none⟩ (.slice (some ⟨g1, 0, none⟩) n n) = w2 at hset hP2 hR2 hO2 ⊢
  have hs2 := hset.size
  have o12 := o1.out hset (by omega)
  have hb02 : Below w.heap.size w w2 := (hb0.trans (hb1.mono (by omega))).trans (hset.below (by omega) (by omega))
  have H22 := Lib.hid ((H2.out.next hb1 (by omega)).next (hset.below (Nat.le_succ _) (by omega)) hB)
  have H32 := Lib.hid ((H3.out.next hb1 (by omega)).next (hset.below (Nat.le_succ _) (by omega)) hB)
  refine (toStmtS_m D m d B xs w2 H22.out (by omega) (by omega) (by omega)).mono ?_
  rintro e w3 ⟨g2, rfl, o2, hb3⟩
  have hs3 := hb3.size
  have hP3 := hP2.next hb3
  have hR3 := hR2.next hb3
  have hO3 := hO2.next hb3
  have p2 := hP3.cell 2
  have o1' := hO3.cell 1
  have f1 := hO3.frozen 1
  simp at p2 o1'
  have o13 := o12.next hb3
  have hb03 := hb02.trans (hb3.mono hb02.size)
  go_wp2_with fail
  have hset3 : Out (w.heap.size + 1) (w.heap.size + 3) w3 (w3.setCell ⟨w.heap.size + 1 + 1, 1, none⟩ (.slice (some ⟨g2, 0, none⟩) m m)) := out_set (Out.refl _ _ _) (by omega)
  have hR4 := hR3.far (g' := w.heap.size + 1 + 1) (by omega) 1 (.slice (some ⟨g2, 0, none⟩) m m)
  have hO4 := hO3.set 1 (.slice (some ⟨g2, 0, none⟩) m m)
  simp at hO4
  clear p2 o1' f1 hP3 hR3 hO3 hP2 hR2 hO2
  generalize w3.setCell ⟨w.heap.size + 1 + 1, 1, none⟩ (.slice (some ⟨g2, 0, none⟩) m m) = w4 at hset3 hR4 hO4 ⊢
  have hs4 := hset3.size
  have o14 := o13.out hset3 (by omega)
  have o24 := o2.out hset3 (by omega)
  have hb04 : Below w.heap.size w w4 := hb03.trans (hset3.below (by omega) (by omega))
  have H34 := Lib.hid ((H32.out.next hb3 (by omega)).next (hset3.below (Nat.le_succ _) (by omega)) hB)
  refine (toTermS_k E q e' B us w4 H34.out (by omega) (by omega) (by omega)).mono ?_
  rintro e w5 ⟨g3, rfl, o3, hb5⟩
  have hs5 := hb5.size
  have hR5 := hR4.next hb5
  have hO5 := hO4.next hb5
  have r0 := hR5.cell 0
  have r1 := hR5.cell 1
  have r2 := hR5.cell 2
  have q0 := hO5.cell 0
  have q1 := hO5.cell 1
  have q2 := hO5.cell 2
  have f2 := hO5.frozen 2
  have k0 := hR5.frozen 0
  have k1 := hR5.frozen 1
  have k2 := hR5.frozen 2
  simp at r0 r1 r2 q0 q1 q2
  have o15 := o14.next hb5
  have o25 := o24.next hb5
  have hb05 := hb04.trans (hb5.mono hb04.size)
  go_wp2_with fail
  refine bodyPost_ret (v := .agg #[.slice (some ⟨g1, 0, none⟩) n n, .slice (some ⟨g2, 0, none⟩) m m, .slice (some ⟨g3, 0, none⟩) q q]) (by simp [results, Tryz.results10, go_sem, r0, r1, r2]) rfl ?_
  have ho : Out (w.heap.size + 1) (w.heap.size + 3) w5 ((((w5.setCell ⟨w.heap.size + 1 + 1, 2, none⟩ (.slice (some ⟨g3, 0, none⟩) q q)).setCell ⟨w.heap.size + 1, 0, none⟩ (.slice (some ⟨g1, 0, none⟩) n n)).setCell ⟨w.heap.size + 1, 1, none⟩ (.slice (some ⟨g2, 0, none⟩) m m)).setCell ⟨w.heap.size + 1, 2, none⟩ (.slice (some ⟨g3, 0, none⟩) q q)) :=
    out_set (out_set (out_set (out_set (Out.refl _ _ _) (by omega)) (by omega)) (by omega)) (by omega)
  have hso := ho.size
  refine ⟨g1, g2, g3, w2.heap.size, w4.heap.size, rfl, ?_, ?_, ?_, ⟨by omega, by omega, by omega⟩, hb05.trans (ho.below (by omega) (by omega))⟩
  · exact ((o15.out ho (by omega)).less (by omega)).wide (by omega) (by omega)
  · exact (o25.out ho (by omega)).wide (by omega) (by omega)
  · exact ((o3.out ho (by omega)).less (by omega)).wide hso (Nat.le_refl _)

end Go.Proofs.YtajmbnimdngjhaaGreatDoor

/-! The loops of a body: what the model's l04Loops and the program's LoopsOf give. Conditions: at most 2^20 elements, terms and coefficients; the table elementForms holds what the program's text lays. -/
namespace Go.Proofs.YtajmbnimdngjhaaGreatDoor
set_option linter.unusedVariables false
open Go.RowKit

/-- The indices of the loops among the first j elements. -/
def loopsU (xs : List S8) (j : Nat) : List Int := ((List.range j).filter fun i => (xs[i]?.map S8.k) == some 8).map fun i => ((i : Nat) : Int)
theorem loopsU_yes {xs : List S8} {j : Nat} {x : S8} (hx : xs[j]? = some x) (hk : x.k = 8) : loopsU xs (j + 1) = loopsU xs j ++ [(j : Int)] := by
  unfold loopsU
  rw [List.range_succ, List.filter_append, List.map_append]
  simp [hx, hk]
theorem loopsU_no {xs : List S8} {j : Nat} {x : S8} (hx : xs[j]? = some x) (hk : ¬ x.k = 8) : loopsU xs (j + 1) = loopsU xs j := by
  unfold loopsU
  rw [List.range_succ, List.filter_append, List.map_append]
  simp [hx, hk]
theorem loopsU_len (xs : List S8) (j : Nat) : (loopsU xs j).length ≤ j := by
  unfold loopsU
  rw [List.length_map]
  exact Nat.le_trans (List.length_filter_le _ _) (by simp)
theorem loopsU_in {xs : List S8} {j : Nat} {z : Int} (h : z ∈ loopsU xs j) : ∃ i : Nat, z = i ∧ i < j ∧ ∃ x, xs[i]? = some x ∧ x.k = 8 := by
  unfold loopsU at h
  obtain ⟨i, hi, rfl⟩ := List.mem_map.1 h
  obtain ⟨h1, h2⟩ := List.mem_filter.1 hi
  refine ⟨i, rfl, by simpa using h1, ?_⟩
  cases hx : xs[i]? with
  | none => rw [hx] at h2; simp at h2
  | some x => rw [hx] at h2; exact ⟨x, rfl, by simpa using h2⟩
theorem loop_step {base : Nat} {v' : Value} {w1 : World} {zs : List Int} {x : Int} (h : w1.ownsRow base 2 1 v' (zs.length + 1) (zs.map ic ++ [Value.int .i64 x])) :
    w1.ownsRow base 2 1 v' (zs ++ [x]).length ((zs ++ [x]).map ic) := by
  simpa [ic] using h

/-- The loops of a program, and whether it is valid. -/
def loopsR (ts : List (Int × List Int)) (xs : List S8) (us : List (Int × List Int)) : List Int × Bool := if progB ts xs us = true then (loopsU xs xs.length, true) else ([], false)
theorem loopsR_yes {ts us : List (Int × List Int)} {xs : List S8} (h : progB ts xs us = true) : loopsR ts xs us = (loopsU xs xs.length, true) := if_pos h
theorem loopsR_no {ts us : List (Int × List Int)} {xs : List S8} (h : progB ts xs us = false) : loopsR ts xs us = ([], false) := if_neg (by rw [h]; simp)

end Go.Proofs.YtajmbnimdngjhaaGreatDoor

/-! The marks that the law writes into a program; LoopsOf of the model. Conditions: at most 2^20 elements, terms and coefficients. -/
namespace Go.Proofs.YtajmbnimdngjhaaGreatDoor
set_option linter.unusedVariables false
open Go.RowKit

set_option maxRecDepth 100000 in
set_option maxHeartbeats 2000000 in
theorem markProgram_w (lo k1 k2 hi : Nat) (A : Option Addr) (n c : Nat) (ts : List (Int × List Int)) (D : Option Addr) (m d : Nat) (xs : List S8) (E : Option Addr) (q e' : Nat) (us : List (Int × List Int)) (k0 : Int) (w : World)
    (h1 : OwnTS w lo k1 A n c ts) (h2 : OwnSM w k1 k2 D m d xs) (h3 : OwnTS w k2 hi E q e' us) (hk : lo ≤ k1 ∧ k1 ≤ k2 ∧ k2 ≤ hi) (hn : progN n ts m xs q us ≤ 1048576) (hk1 : 0 ≤ k0) (hk2 : k0 ≤ 1000) :
    Calls Tryz.prog 16 #[.agg #[.slice A n c, .slice D m d, .slice E q e'], .int .i64 k0] w fun e w' => (∃ r : Int, e = .returned (.int .i64 r) ∧ 0 ≤ r) ∧ Out lo hi w w' := by
  unfold progN at hn
  obtain ⟨e1, e2, e3⟩ := hk
  have hb0 := bnew w (.cells #[.slice A n c, .slice D m d, .slice E q e'] 37)
  have hP : BlkIs (w.alloc (.cells #[.slice A n c, .slice D m d, .slice E q e'] 37)) w.heap.size 37 #[.slice A n c, .slice D m d, .slice E q e'] := blk_new _ _ _ _ rfl
  have hsz3 : hi ≤ w.heap.size := h3.2.1
  have C1 := Lib.hid (markTermS_w lo k1 A n c ts k0 _ (h1.next hb0) (by omega) (by omega) hk1 (by omega))
  have H2 := Lib.hid (h2.next hb0)
  have H3 := Lib.hid (h3.next hb0)
  clear h1 h2 h3
  go_enter Tryz.func16, Tryz.ntmps16
  go_wp2_with fail
  generalize w.alloc (.cells #[.slice A n c, .slice D m d, .slice E q e'] 37) = W at hb0 hP C1 H2 H3 ⊢
  have hs0 := hb0.size
  have ho0 : Out lo hi w W := Out.of_below hb0
  refine C1.out.mono ?_
  rintro e9 w1 ⟨rfl, _, ho1⟩
  have hs1 := ho1.size
  have p1 : w1.cell? ⟨w.heap.size, 1, none⟩ = some (.slice D m d) := ho1.cell (hP.cell 1) (by omega)
  have p2 : w1.cell? ⟨w.heap.size, 2, none⟩ = some (.slice E q e') := ho1.cell (hP.cell 2) (by omega)
  have C2 := Lib.hid (markStmtS_w k1 k2 D m d xs (k0 + ((n + totT ts : Nat) : Int)) w1 (H2.out.out ho1 (by omega)) (by omega) (by omega) (by omega) (by omega))
  have H31 := Lib.hid (H3.out.out ho1 (by omega))
  clear C1 H2 H3
  go_wp2_with fail
  refine C2.out.mono ?_
  rintro e9 w2 ⟨rfl, ho2⟩
  have hs2 := ho2.size
  replace p2 := ho2.cell p2 (by omega)
  have C3 := Lib.hid (markTermS_w k2 hi E q e' us (k0 + ((n + totT ts : Nat) : Int) + ((5 * m + totS xs : Nat) : Int)) w2 (H31.out.out ho2 (by omega)) (by omega) (by omega) (by omega) (by omega))
  clear C2 H31 p1
  go_wp2_with fail
  refine C3.out.mono ?_
  rintro e9 w3 ⟨rfl, _, ho3⟩
  go_wp2_with fail
  go_ret
  exact ⟨⟨_, rfl, by omega⟩, ((ho0.trans (ho1.wide (Nat.le_refl _) (by omega))).trans (ho2.wide (by omega) (by omega))).trans (ho3.wide (by omega) (Nat.le_refl _))⟩

end Go.Proofs.YtajmbnimdngjhaaGreatDoor

/-! Programs as arguments of a law's own text: the forms that the roads ask for. Conditions: at most 2^20 of everything. -/
namespace Go.Proofs.YtajmbnimdngjhaaGreatDoor
set_option linter.unusedVariables false
open Go.RowKit

abbrev InSM (w : World) (B : Nat) (A : Option Addr) (n : Nat) (xs : List S8) : Prop := InST w B A n xs
theorem InST.out {w w' : World} {B lo hi n : Nat} {A : Option Addr} {xs : List S8} (h : InST w B A n xs) (ho : Out lo hi w w') (hB : B ≤ lo) (hs : B ≤ w.heap.size) : InST w' B A n xs := h.next (ho.below hB hs) (Nat.le_refl _)
theorem InST.drew {w : World} {B n : Nat} {A : Option Addr} {xs : List S8} (h : InST w B A n xs) : InST w.drew B A n xs := h
theorem InST.call {w w1 : World} {B n : Nat} {A : Option Addr} {xs : List S8} (h : InST w B A n xs) (hB : B ≤ w.heap.size) (hb : Below w.drew.heap.size w.drew w1) : InST w1 B A n xs := h.next (bstep hb) hB
theorem OwnSM.inn {w : World} {lo hi n c : Nat} {A : Option Addr} {xs : List S8} (h : OwnSM w lo hi A n c xs) : InST w hi A n xs := h.own.inn
theorem OwnSM.all {w : World} {lo hi n c : Nat} {A : Option Addr} {xs : List S8} (h : OwnSM w lo hi A n c xs) : InST w w.heap.size A n xs := h.own.all
theorem toProgram_r (A : Option Addr) (n c : Nat) (ts : List (Int × List Int)) (D : Option Addr) (m d : Nat) (xs : List S8) (E : Option Addr) (q e' : Nat) (us : List (Int × List Int)) (B : Nat) (w : World) (h1 : InTS w B A n ts) (h2 : InST w B D m xs) (h3 : InTS w B E q us) (hB : B ≤ w.heap.size)
    (hn : progN n ts m xs q us ≤ 1048576) :
    Calls Tryz.prog 10 #[.agg #[.slice A n c, .slice D m d, .slice E q e']] w fun e w' => ∃ g1 g2 g3 m1 m2, e = .returned (.agg #[.slice (some ⟨g1, 0, none⟩) n n, .slice (some ⟨g2, 0, none⟩) m m, .slice (some ⟨g3, 0, none⟩) q q]) ∧
      OwnTS w' w.heap.size m1 (some ⟨g1, 0, none⟩) n n ts ∧ OwnSM w' m1 m2 (some ⟨g2, 0, none⟩) m m xs ∧ OwnTS w' m2 w'.heap.size (some ⟨g3, 0, none⟩) q q us ∧ (w.heap.size ≤ m1 ∧ m1 ≤ m2 ∧ m2 ≤ w'.heap.size) ∧ Below w.heap.size w w' :=
  toProgram_m A n c ts D m d xs E q e' B us w ⟨h1, h2, h3⟩ hB hn
theorem eqProgram_r (A : Option Addr) (n c : Nat) (ts : List (Int × List Int)) (D : Option Addr) (m d : Nat) (xs : List S8) (E : Option Addr) (q e : Nat) (us : List (Int × List Int)) (A' : Option Addr) (c' : Nat) (D' : Option Addr) (d' : Nat) (E' : Option Addr) (e' B B' : Nat) (w : World)
    (h1 : InTS w B A n ts) (h2 : InST w B D m xs) (h3 : InTS w B E q us) (k1 : InTS w B' A' n ts) (k2 : InST w B' D' m xs) (k3 : InTS w B' E' q us) (hB : B ≤ w.heap.size) (hB' : B' ≤ w.heap.size) (hn : progN n ts m xs q us ≤ 1048576) :
    Calls Tryz.prog 15 #[.agg #[.slice A n c, .slice D m d, .slice E q e], .agg #[.slice A' n c', .slice D' m d', .slice E' q e']] w fun e w' => e = .returned (.bool true) ∧ Below w.heap.size w w' :=
  eqProgram_k A A' n c c' ts D D' m d d' xs E E' q e e' us B B' w ⟨h1, h2, h3⟩ ⟨k1, k2, k3⟩ hB hB' hn

set_option maxRecDepth 100000 in
set_option maxHeartbeats 2000000 in
theorem markProgram_x (lo k1 k2 hi : Nat) (A : Option Addr) (n c : Nat) (ts : List (Int × List Int)) (D : Option Addr) (m d : Nat) (xs : List S8) (E : Option Addr) (q e' : Nat) (us : List (Int × List Int)) (k0 : Int) (w : World)
    (h1 : OwnTS w lo k1 A n c ts) (h2 : OwnSM w k1 k2 D m d xs) (h3 : OwnTS w k2 hi E q e' us) (hk : lo ≤ k1 ∧ k1 ≤ k2 ∧ k2 ≤ hi) (hn : progN n ts m xs q us ≤ 1048576) (hk1 : 0 ≤ k0) (hk2 : k0 ≤ 1000) :
    Calls Tryz.prog 16 #[.agg #[.slice A n c, .slice D m d, .slice E q e'], .int .i64 k0] w fun e w' => e = .returned (.int .i64 (k0 + ((n + totT ts : Nat) : Int) + ((5 * m + totS xs : Nat) : Int) + ((q + totT us : Nat) : Int))) ∧ Out lo hi w w' := by
  unfold progN at hn
  obtain ⟨e1, e2, e3⟩ := hk
  have hb0 := bnew w (.cells #[.slice A n c, .slice D m d, .slice E q e'] 37)
  have hP : BlkIs (w.alloc (.cells #[.slice A n c, .slice D m d, .slice E q e'] 37)) w.heap.size 37 #[.slice A n c, .slice D m d, .slice E q e'] := blk_new _ _ _ _ rfl
  have hsz3 : hi ≤ w.heap.size := h3.2.1
  have C1 := Lib.hid (markTermS_w lo k1 A n c ts k0 _ (h1.next hb0) (by omega) (by omega) hk1 (by omega))
  have H2 := Lib.hid (h2.next hb0)
  have H3 := Lib.hid (h3.next hb0)
  clear h1 h2 h3
  go_enter Tryz.func16, Tryz.ntmps16
  go_wp2_with fail
  generalize w.alloc (.cells #[.slice A n c, .slice D m d, .slice E q e'] 37) = W at hb0 hP C1 H2 H3 ⊢
  have hs0 := hb0.size
  have ho0 : Out lo hi w W := Out.of_below hb0
  refine C1.out.mono ?_
  rintro e9 w1 ⟨rfl, _, ho1⟩
  have hs1 := ho1.size
  have p1 : w1.cell? ⟨w.heap.size, 1, none⟩ = some (.slice D m d) := ho1.cell (hP.cell 1) (by omega)
  have p2 : w1.cell? ⟨w.heap.size, 2, none⟩ = some (.slice E q e') := ho1.cell (hP.cell 2) (by omega)
  have C2 := Lib.hid (markStmtS_w k1 k2 D m d xs (k0 + ((n + totT ts : Nat) : Int)) w1 (H2.out.out ho1 (by omega)) (by omega) (by omega) (by omega) (by omega))
  have H31 := Lib.hid (H3.out.out ho1 (by omega))
  clear C1 H2 H3
  go_wp2_with fail
  refine C2.out.mono ?_
  rintro e9 w2 ⟨rfl, ho2⟩
  have hs2 := ho2.size
  replace p2 := ho2.cell p2 (by omega)
  have C3 := Lib.hid (markTermS_w k2 hi E q e' us (k0 + ((n + totT ts : Nat) : Int) + ((5 * m + totS xs : Nat) : Int)) w2 (H31.out.out ho2 (by omega)) (by omega) (by omega) (by omega) (by omega))
  clear C2 H31 p1
  go_wp2_with fail
  refine C3.out.mono ?_
  rintro e9 w3 ⟨rfl, _, ho3⟩
  go_wp2_with fail
  go_ret
  exact ⟨rfl, ((ho0.trans (ho1.wide (Nat.le_refl _) (by omega))).trans (ho2.wide (by omega) (by omega))).trans (ho3.wide (by omega) (Nat.le_refl _))⟩
end Go.Proofs.YtajmbnimdngjhaaGreatDoor

/-! The marks that the law writes into a state, and whether they are still there. Conditions: at most 2^20 numbers. -/
namespace Go.Proofs.YtajmbnimdngjhaaGreatDoor
set_option linter.unusedVariables false
open Go.RowKit

set_option maxRecDepth 100000 in
set_option maxHeartbeats 2000000 in
theorem markState_k (lo mid hi : Nat) (A : Option Addr) (n c : Nat) (zs : List Int) (A' : Option Addr) (m c' : Nat) (ys : List Int) (k : Int) (w : World) (h : OwnL w lo mid A n c zs) (h' : OwnL w mid hi A' m c' ys) (h1 : lo ≤ mid) (h2 : mid ≤ hi)
    (hn : n ≤ 1048576) (hm : m ≤ 1048576) (hk1 : 0 ≤ k) (hk2 : k ≤ 100000000) :
    Calls Tryz.prog 17 #[.agg #[.slice A n c, .slice A' m c'], .int .i64 k] w fun e w' => e = .returned (.int .i64 (k + n + m)) ∧ OwnL w' lo mid A n c (rise k n) ∧ OwnL w' mid hi A' m c' (rise (k + n) m) ∧ Out lo hi w w' := by
  have hb0 := bnew w (.cells #[.slice A n c, .slice A' m c'] 31)
  have hP : BlkIs (w.alloc (.cells #[.slice A n c, .slice A' m c'] 31)) w.heap.size 31 #[.slice A n c, .slice A' m c'] := blk_new _ _ _ _ rfl
  have p0 : (w.alloc (.cells #[.slice A n c, .slice A' m c'] 31)).cell? ⟨w.heap.size, 0, none⟩ = some (.slice A n c) := hP.cell 0
  have p1 : (w.alloc (.cells #[.slice A n c, .slice A' m c'] 31)).cell? ⟨w.heap.size, 1, none⟩ = some (.slice A' m c') := hP.cell 1
  have HM := Lib.hid (markInt64S_k lo mid A n c zs k _ (h.next hb0) (by omega) hk1 (by omega))
  have HL := Lib.hid (h'.next hb0)
  have hs := hb0.size
  have hhi := h'.2.2.2
  clear h h' hP
  go_enter Tryz.func17, Tryz.ntmps17
  go_wp2_with fail
  generalize w.alloc (.cells #[.slice A n c, .slice A' m c'] 31) = W at hb0 p0 p1 HM HL hs ⊢
  refine HM.out.mono ?_
  rintro e w1 ⟨rfl, ow1, ho⟩
  have hs1 := ho.size
  have r1 := ho.cell p1 (by omega)
  have HT := Lib.hid (markInt64S_k mid hi A' m c' ys (k + n) w1 (HL.out.out ho (by omega)) (by omega) (by omega) (by omega))
  have HO := Lib.hid ow1
  clear HM HL p0 p1 ow1
  go_wp2_with fail
  refine HT.out.mono ?_
  rintro e w2 ⟨rfl, ow2, ho2⟩
  have HO2 := Lib.hid ow2
  clear HT ow2
  go_wp2_with fail
  go_ret
  exact ⟨rfl, HO.out.out ho2 (by omega), HO2.out, ((Out.of_below hb0).trans (ho.wide (Nat.le_refl _) h2)).trans (ho2.wide h1 (Nat.le_refl _))⟩
set_option maxRecDepth 100000 in
set_option maxHeartbeats 2000000 in
theorem heldState_k (A : Option Addr) (n c : Nat) (A' : Option Addr) (m c' B : Nat) (k : Int) (w : World) (h : InL w B A n (rise k n)) (h' : InL w B A' m (rise (k + n) m)) (hB : B ≤ w.heap.size)
    (hn : n ≤ 1048576) (hm : m ≤ 1048576) (hk1 : 0 ≤ k) (hk2 : k ≤ 100000000) :
    Calls Tryz.prog 19 #[.agg #[.slice A n c, .slice A' m c'], .int .i64 k] w fun e w' => e = .returned (.int .i64 (k + n + m)) ∧ Below w.heap.size w w' := by
  have hb0 := bnew w (.cells #[.slice A n c, .slice A' m c'] 31)
  have hP : BlkIs (w.alloc (.cells #[.slice A n c, .slice A' m c'] 31)) w.heap.size 31 #[.slice A n c, .slice A' m c'] := blk_new _ _ _ _ rfl
  have HM := Lib.hid (heldInt64S_k A n c B k _ (h.next hb0 hB) (by omega) hk1 (by omega))
  have HL := Lib.hid (h'.next hb0 hB)
  have hs := hb0.size
  clear h h'
  go_enter Tryz.func19, Tryz.ntmps19
  go_wp2_with fail
  generalize w.alloc (.cells #[.slice A n c, .slice A' m c'] 31) = W at hb0 hP HM HL hs ⊢
  refine HM.out.mono ?_
  rintro e w1 ⟨rfl, hb1⟩
  have hP1 := hP.next hb1
  have p1 : w1.cell? ⟨w.heap.size, 1, none⟩ = some (.slice A' m c') := hP1.cell 1
  have hk3 : 0 ≤ k + (n : Int) := by omega
  have HT := Lib.hid (heldInt64S_k A' m c' B (k + n) w1 (HL.out.next hb1 (by omega)) (by omega) (by omega) (by omega))
  clear HM HL
  go_wp2_with fail
  refine HT.out.mono ?_
  rintro e w2 ⟨rfl, hb2⟩
  have hk4 : 0 ≤ k + (n : Int) + (m : Int) := by omega
  go_wp2_with fail
  go_ret
  exact ⟨rfl, bon (bon hb0 hb1) hb2⟩
end Go.Proofs.YtajmbnimdngjhaaGreatDoor

/-! A new box beside a call: what the law holds of it while the region runs. No conditions. -/
namespace Go.Proofs.YtajmbnimdngjhaaGreatDoor
open Go.RowKit

theorem blk_call {D y v : World} {cs : Array Value} {t : TypeId} (hb : Below (y.alloc (.cells cs t)).heap.size (y.alloc (.cells cs t)) v) (h : Below D.heap.size D y) :
    BlkIs v y.heap.size t cs ∧ y.heap.size < (y.alloc (.cells cs t)).heap.size ∧ D.heap.size ≤ y.heap.size :=
  ⟨(blk_new y t cs _ rfl).next hb, by simp, h.size⟩
theorem blk_step {D x x0 v : World} {g : Nat} {cs : Array Value} {t : TypeId} (h : BlkIs x g t cs ∧ g < x0.heap.size ∧ D.heap.size ≤ g) (hb : Below x.heap.size x v) :
    BlkIs v g t cs ∧ g < x.heap.size ∧ D.heap.size ≤ g :=
  ⟨h.1.next hb, h.1.lt, h.2.2⟩
theorem below_set {D x : World} {g i : Nat} {v : Value} (hb : Below D.heap.size D x) (h : D.heap.size ≤ g) : Below D.heap.size D (x.setCell ⟨g, i, none⟩ v) := hb.setCell (p := ⟨g, i, none⟩) h v
theorem bel_ad (w : World) (o : Obj) : Below w.drew.heap.size w.drew (w.alloc o).drew := ⟨rfl, rfl, rfl, (bnew w o).size, (bnew w o).block⟩
theorem blk_call_d {y v : World} {cs : Array Value} {t : TypeId} (hb : Below (y.alloc (.cells cs t)).drew.heap.size (y.alloc (.cells cs t)).drew v) :
    BlkIs v y.heap.size t cs ∧ y.heap.size < (y.alloc (.cells cs t)).drew.heap.size ∧ y.drew.heap.size ≤ y.heap.size :=
  ⟨(blk_new y t cs _ rfl).next (bstep hb), by show _ < (y.alloc (.cells cs t)).heap.size; simp, Nat.le_refl _⟩
end Go.Proofs.YtajmbnimdngjhaaGreatDoor

/-! A new box of a state or a config beside a call's result: what the law holds of it. No conditions. -/
namespace Go.Proofs.YtajmbnimdngjhaaGreatDoor
set_option linter.unusedVariables false
open Go.RowKit

section
variable {w w1 w2 WX : World} {A1 A2 A3 : Option Addr} {n1 n2 n3 c1 c2 c3 l1 l2 l3 h1 h2 h3 g : Nat} {z1 z2 z3 : List Int}
theorem boxc_own {lo hi : Nat} {A : Option Addr} {n c : Nat} {zs : List Int} (hb : Below w.heap.size w w1) (hb2 : Below w1.heap.size w1 w2) (o : OwnL w2 lo hi A n c zs) (i : w1.heap.size ≤ lo ∧ lo ≤ hi)
    (ho : Out g (g + 1) w2 WX) (hg1 : g < w1.heap.size ∨ w2.heap.size ≤ g) : OwnL WX lo hi A n c zs ∧ (w.heap.size ≤ lo ∧ lo ≤ hi ∧ hi ≤ WX.heap.size) := by
  have h4 := o.2.2.2
  have hs := hb.size
  have hs2 := ho.size
  exact ⟨o.out ho (by omega), by omega, i.2, by omega⟩
theorem boxc_bel (hb : Below w.heap.size w w1) (hb2 : Below w1.heap.size w1 w2) (ho : Out g (g + 1) w2 WX) (hg : w.heap.size ≤ g) : Below w.heap.size w WX :=
  (bon hb hb2).trans (ho.below hg (bon hb hb2).size)
/-- Three rows and a box that is changed or new. -/
theorem boxc_tail3 (hb : Below w.heap.size w w1) (hb2 : Below w1.heap.size w1 w2) (o1 : OwnL w2 l1 h1 A1 n1 c1 z1) (i1 : w1.heap.size ≤ l1 ∧ l1 ≤ h1) (o2 : OwnL w2 l2 h2 A2 n2 c2 z2) (i2 : w1.heap.size ≤ l2 ∧ l2 ≤ h2)
    (o3 : OwnL w2 l3 h3 A3 n3 c3 z3) (i3 : w1.heap.size ≤ l3 ∧ l3 ≤ h3) (ho : Out g (g + 1) w2 WX) (hg : w.heap.size ≤ g) (hg1 : g < w1.heap.size ∨ w2.heap.size ≤ g) :
    OwnL WX l1 h1 A1 n1 c1 z1 ∧ (w.heap.size ≤ l1 ∧ l1 ≤ h1 ∧ h1 ≤ WX.heap.size) ∧ OwnL WX l2 h2 A2 n2 c2 z2 ∧ (w.heap.size ≤ l2 ∧ l2 ≤ h2 ∧ h2 ≤ WX.heap.size) ∧ OwnL WX l3 h3 A3 n3 c3 z3 ∧ (w.heap.size ≤ l3 ∧ l3 ≤ h3 ∧ h3 ≤ WX.heap.size) ∧ Below w.heap.size w WX := by
  obtain ⟨a1, a2⟩ := boxc_own hb hb2 o1 i1 ho hg1
  obtain ⟨b1, b2⟩ := boxc_own hb hb2 o2 i2 ho hg1
  obtain ⟨d1, d2⟩ := boxc_own hb hb2 o3 i3 ho hg1
  exact ⟨a1, a2, b1, b2, d1, d2, boxc_bel hb hb2 ho hg⟩
end
theorem out_new (w : World) (o : Obj) (g : Nat) : Out g (g + 1) w (w.alloc o) := Out.of_below (bnew w o)
section
variable {w w1 w2 : World} {A1 A2 A3 : Option Addr} {n1 n2 n3 c1 c2 c3 l1 l2 l3 h1 h2 h3 g : Nat} {z1 z2 z3 : List Int} {t : TypeId} {a b c d x0 x1 x2 x3 : Value}
/-- A box of four cells that is filled behind the call. -/
theorem fin_box4 (hb : Below w.heap.size w w1) (bk : BlkIs w2 g t #[x0, x1, x2, x3] ∧ g < w1.heap.size ∧ w.heap.size ≤ g) (hb2 : Below w1.heap.size w1 w2)
    (o1 : OwnL w2 l1 h1 A1 n1 c1 z1) (i1 : w1.heap.size ≤ l1 ∧ l1 ≤ h1) (o2 : OwnL w2 l2 h2 A2 n2 c2 z2) (i2 : w1.heap.size ≤ l2 ∧ l2 ≤ h2) (o3 : OwnL w2 l3 h3 A3 n3 c3 z3) (i3 : w1.heap.size ≤ l3 ∧ l3 ≤ h3) :
    ((((w2.setCell ⟨g, 0, none⟩ a).setCell ⟨g, 1, none⟩ b).setCell ⟨g, 2, none⟩ c).setCell ⟨g, 3, none⟩ d).cell? ⟨g, 0, none⟩ = some a ∧ ((((w2.setCell ⟨g, 0, none⟩ a).setCell ⟨g, 1, none⟩ b).setCell ⟨g, 2, none⟩ c).setCell ⟨g, 3, none⟩ d).cell? ⟨g, 1, none⟩ = some b ∧
    ((((w2.setCell ⟨g, 0, none⟩ a).setCell ⟨g, 1, none⟩ b).setCell ⟨g, 2, none⟩ c).setCell ⟨g, 3, none⟩ d).cell? ⟨g, 2, none⟩ = some c ∧ ((((w2.setCell ⟨g, 0, none⟩ a).setCell ⟨g, 1, none⟩ b).setCell ⟨g, 2, none⟩ c).setCell ⟨g, 3, none⟩ d).cell? ⟨g, 3, none⟩ = some d ∧
    g < ((((w2.setCell ⟨g, 0, none⟩ a).setCell ⟨g, 1, none⟩ b).setCell ⟨g, 2, none⟩ c).setCell ⟨g, 3, none⟩ d).heap.size ∧ w.heap.size ≤ g ∧
    OwnL ((((w2.setCell ⟨g, 0, none⟩ a).setCell ⟨g, 1, none⟩ b).setCell ⟨g, 2, none⟩ c).setCell ⟨g, 3, none⟩ d) l1 h1 A1 n1 c1 z1 ∧ (w.heap.size ≤ l1 ∧ l1 ≤ h1 ∧ h1 ≤ ((((w2.setCell ⟨g, 0, none⟩ a).setCell ⟨g, 1, none⟩ b).setCell ⟨g, 2, none⟩ c).setCell ⟨g, 3, none⟩ d).heap.size) ∧
    OwnL ((((w2.setCell ⟨g, 0, none⟩ a).setCell ⟨g, 1, none⟩ b).setCell ⟨g, 2, none⟩ c).setCell ⟨g, 3, none⟩ d) l2 h2 A2 n2 c2 z2 ∧ (w.heap.size ≤ l2 ∧ l2 ≤ h2 ∧ h2 ≤ ((((w2.setCell ⟨g, 0, none⟩ a).setCell ⟨g, 1, none⟩ b).setCell ⟨g, 2, none⟩ c).setCell ⟨g, 3, none⟩ d).heap.size) ∧
    OwnL ((((w2.setCell ⟨g, 0, none⟩ a).setCell ⟨g, 1, none⟩ b).setCell ⟨g, 2, none⟩ c).setCell ⟨g, 3, none⟩ d) l3 h3 A3 n3 c3 z3 ∧ (w.heap.size ≤ l3 ∧ l3 ≤ h3 ∧ h3 ≤ ((((w2.setCell ⟨g, 0, none⟩ a).setCell ⟨g, 1, none⟩ b).setCell ⟨g, 2, none⟩ c).setCell ⟨g, 3, none⟩ d).heap.size) ∧
    Below w.heap.size w ((((w2.setCell ⟨g, 0, none⟩ a).setCell ⟨g, 1, none⟩ b).setCell ⟨g, 2, none⟩ c).setCell ⟨g, 3, none⟩ d) := by
  have hB := ((((bk.1.set 0 a).set 1 b).set 2 c).set 3 d)
  have h0 := hB.cell 0
  have h1 := hB.cell 1
  have h2 := hB.cell 2
  have h3 := hB.cell 3
  simp at h0 h1 h2 h3
  have ho : Out g (g + 1) w2 ((((w2.setCell ⟨g, 0, none⟩ a).setCell ⟨g, 1, none⟩ b).setCell ⟨g, 2, none⟩ c).setCell ⟨g, 3, none⟩ d) := out_set (out_set (out_set (out_set (Out.refl _ _ _) (by omega)) (by omega)) (by omega)) (by omega)
  exact ⟨h0, h1, h2, h3, hB.lt, bk.2.2, boxc_tail3 hb hb2 o1 i1 o2 i2 o3 i3 ho bk.2.2 (.inl bk.2.1)⟩
theorem fin_new4 (hb : Below w.heap.size w w1) (hb2 : Below w1.heap.size w1 w2)
    (o1 : OwnL w2 l1 h1 A1 n1 c1 z1) (i1 : w1.heap.size ≤ l1 ∧ l1 ≤ h1) (o2 : OwnL w2 l2 h2 A2 n2 c2 z2) (i2 : w1.heap.size ≤ l2 ∧ l2 ≤ h2) (o3 : OwnL w2 l3 h3 A3 n3 c3 z3) (i3 : w1.heap.size ≤ l3 ∧ l3 ≤ h3) :
    (w2.alloc (.cells #[a, b, c, d] t)).cell? ⟨w2.heap.size, 0, none⟩ = some a ∧ (w2.alloc (.cells #[a, b, c, d] t)).cell? ⟨w2.heap.size, 1, none⟩ = some b ∧ (w2.alloc (.cells #[a, b, c, d] t)).cell? ⟨w2.heap.size, 2, none⟩ = some c ∧ (w2.alloc (.cells #[a, b, c, d] t)).cell? ⟨w2.heap.size, 3, none⟩ = some d ∧
    w2.heap.size < (w2.alloc (.cells #[a, b, c, d] t)).heap.size ∧ w.heap.size ≤ w2.heap.size ∧
    OwnL (w2.alloc (.cells #[a, b, c, d] t)) l1 h1 A1 n1 c1 z1 ∧ (w.heap.size ≤ l1 ∧ l1 ≤ h1 ∧ h1 ≤ (w2.alloc (.cells #[a, b, c, d] t)).heap.size) ∧
    OwnL (w2.alloc (.cells #[a, b, c, d] t)) l2 h2 A2 n2 c2 z2 ∧ (w.heap.size ≤ l2 ∧ l2 ≤ h2 ∧ h2 ≤ (w2.alloc (.cells #[a, b, c, d] t)).heap.size) ∧
    OwnL (w2.alloc (.cells #[a, b, c, d] t)) l3 h3 A3 n3 c3 z3 ∧ (w.heap.size ≤ l3 ∧ l3 ≤ h3 ∧ h3 ≤ (w2.alloc (.cells #[a, b, c, d] t)).heap.size) ∧
    Below w.heap.size w (w2.alloc (.cells #[a, b, c, d] t)) := by
  have hB := blk_new w2 t #[a, b, c, d] _ rfl
  exact ⟨hB.cell 0, hB.cell 1, hB.cell 2, hB.cell 3, hB.lt, (bon hb hb2).size, boxc_tail3 hb hb2 o1 i1 o2 i2 o3 i3 (out_new w2 _ w2.heap.size) (bon hb hb2).size (.inr (Nat.le_refl _))⟩
/-- A box of two cells that is filled behind the call, and three rows. -/
theorem fin_box2 (hb : Below w.heap.size w w1) (bk : BlkIs w2 g t #[x0, x1] ∧ g < w1.heap.size ∧ w.heap.size ≤ g) (hb2 : Below w1.heap.size w1 w2)
    (o1 : OwnL w2 l1 h1 A1 n1 c1 z1) (i1 : w1.heap.size ≤ l1 ∧ l1 ≤ h1) (o2 : OwnL w2 l2 h2 A2 n2 c2 z2) (i2 : w1.heap.size ≤ l2 ∧ l2 ≤ h2) (o3 : OwnL w2 l3 h3 A3 n3 c3 z3) (i3 : w1.heap.size ≤ l3 ∧ l3 ≤ h3) :
    ((w2.setCell ⟨g, 0, none⟩ a).setCell ⟨g, 1, none⟩ b).cell? ⟨g, 0, none⟩ = some a ∧ ((w2.setCell ⟨g, 0, none⟩ a).setCell ⟨g, 1, none⟩ b).cell? ⟨g, 1, none⟩ = some b ∧
    g < ((w2.setCell ⟨g, 0, none⟩ a).setCell ⟨g, 1, none⟩ b).heap.size ∧ w.heap.size ≤ g ∧
    OwnL ((w2.setCell ⟨g, 0, none⟩ a).setCell ⟨g, 1, none⟩ b) l1 h1 A1 n1 c1 z1 ∧ (w.heap.size ≤ l1 ∧ l1 ≤ h1 ∧ h1 ≤ ((w2.setCell ⟨g, 0, none⟩ a).setCell ⟨g, 1, none⟩ b).heap.size) ∧
    OwnL ((w2.setCell ⟨g, 0, none⟩ a).setCell ⟨g, 1, none⟩ b) l2 h2 A2 n2 c2 z2 ∧ (w.heap.size ≤ l2 ∧ l2 ≤ h2 ∧ h2 ≤ ((w2.setCell ⟨g, 0, none⟩ a).setCell ⟨g, 1, none⟩ b).heap.size) ∧
    OwnL ((w2.setCell ⟨g, 0, none⟩ a).setCell ⟨g, 1, none⟩ b) l3 h3 A3 n3 c3 z3 ∧ (w.heap.size ≤ l3 ∧ l3 ≤ h3 ∧ h3 ≤ ((w2.setCell ⟨g, 0, none⟩ a).setCell ⟨g, 1, none⟩ b).heap.size) ∧
    Below w.heap.size w ((w2.setCell ⟨g, 0, none⟩ a).setCell ⟨g, 1, none⟩ b) := by
  have hB := (bk.1.set 0 a).set 1 b
  have h0 := hB.cell 0
  have h1 := hB.cell 1
  simp at h0 h1
  have ho : Out g (g + 1) w2 ((w2.setCell ⟨g, 0, none⟩ a).setCell ⟨g, 1, none⟩ b) := out_set (out_set (Out.refl _ _ _) (by omega)) (by omega)
  exact ⟨h0, h1, hB.lt, bk.2.2, boxc_tail3 hb hb2 o1 i1 o2 i2 o3 i3 ho bk.2.2 (.inl bk.2.1)⟩
theorem fin_new2 (hb : Below w.heap.size w w1) (hb2 : Below w1.heap.size w1 w2)
    (o1 : OwnL w2 l1 h1 A1 n1 c1 z1) (i1 : w1.heap.size ≤ l1 ∧ l1 ≤ h1) (o2 : OwnL w2 l2 h2 A2 n2 c2 z2) (i2 : w1.heap.size ≤ l2 ∧ l2 ≤ h2) (o3 : OwnL w2 l3 h3 A3 n3 c3 z3) (i3 : w1.heap.size ≤ l3 ∧ l3 ≤ h3) :
    (w2.alloc (.cells #[a, b] t)).cell? ⟨w2.heap.size, 0, none⟩ = some a ∧ (w2.alloc (.cells #[a, b] t)).cell? ⟨w2.heap.size, 1, none⟩ = some b ∧
    w2.heap.size < (w2.alloc (.cells #[a, b] t)).heap.size ∧ w.heap.size ≤ w2.heap.size ∧
    OwnL (w2.alloc (.cells #[a, b] t)) l1 h1 A1 n1 c1 z1 ∧ (w.heap.size ≤ l1 ∧ l1 ≤ h1 ∧ h1 ≤ (w2.alloc (.cells #[a, b] t)).heap.size) ∧
    OwnL (w2.alloc (.cells #[a, b] t)) l2 h2 A2 n2 c2 z2 ∧ (w.heap.size ≤ l2 ∧ l2 ≤ h2 ∧ h2 ≤ (w2.alloc (.cells #[a, b] t)).heap.size) ∧
    OwnL (w2.alloc (.cells #[a, b] t)) l3 h3 A3 n3 c3 z3 ∧ (w.heap.size ≤ l3 ∧ l3 ≤ h3 ∧ h3 ≤ (w2.alloc (.cells #[a, b] t)).heap.size) ∧
    Below w.heap.size w (w2.alloc (.cells #[a, b] t)) := by
  have hB := blk_new w2 t #[a, b] _ rfl
  exact ⟨hB.cell 0, hB.cell 1, hB.lt, (bon hb hb2).size, boxc_tail3 hb hb2 o1 i1 o2 i2 o3 i3 (out_new w2 _ w2.heap.size) (bon hb hb2).size (.inr (Nat.le_refl _))⟩
end
end Go.Proofs.YtajmbnimdngjhaaGreatDoor
