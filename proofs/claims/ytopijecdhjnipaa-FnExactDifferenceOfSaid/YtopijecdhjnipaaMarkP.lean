/-
  The marks of a policy whose rows lie anywhere. Conditions: at most 2^20 rows and numbers.
-/
import Derived.Test.YtopijecdhjnipaaRowsO
import Derived.Test.YtopijecdhjnipaaPol
namespace Go.Proofs.Ytopijecdhjnipaa
set_option linter.unusedVariables false
open Go.RowKit

/-- A row between two blocks that are its own alone. -/
theorem own_span {w : World} {lo n : Nat} {v : Value} {r : List Int} (h : w.ownsRow lo 2 1 v n (r.map ic)) (hl : lo ≤ w.heap.size) : ∃ A0 c0 a b, v = .slice A0 n c0 ∧ OwnL w a b A0 n c0 r ∧ lo ≤ a ∧ a ≤ b ∧ b ≤ w.heap.size ∧ (∀ k, a ≤ k → k < b → v.ownBlock = some k) ∧ (b ≤ lo ∨ ∃ g, v.ownBlock = some g ∧ b = g + 1) := by
  obtain ⟨A0, c0, rfl, _⟩ := own_slice h
  have hrl : r.length = n := by have := h.1; simpa using this
  rcases h.2 with ⟨h1, h2⟩ | ⟨g, cap, cur, h1, h2, h3, h4⟩
  · injection h1 with h1 h5 h6
    subst h1 h6
    exact ⟨none, 0, lo, lo, by rw [h2], ⟨hrl, ⟨h.1, .inl ⟨by rw [h2], h2⟩⟩, (fun k hk => by cases hk), hl⟩, Nat.le_refl _, Nat.le_refl _, hl, (fun k h1 h2 => by omega), .inl (Nat.le_refl _)⟩
  · injection h1 with h1 h5 h6
    subst h1 h6
    have hg := (h.lt g rfl).2
    exact ⟨some ⟨g, 0, none⟩, c0, g, g + 1, rfl, ⟨hrl, ⟨h.1, .inr ⟨g, c0, cur, rfl, Nat.le_refl _, h3, h4⟩⟩, (fun k hk => by have e : g = k := Option.some.inj hk; omega), hg⟩, h2, by omega, hg, (fun k h1 h2 => by rw [show k = g by omega]; rfl), .inr ⟨g, rfl, rfl⟩⟩
theorem own_out {w w' : World} {lo a b n : Nat} {e : TypeId} {v : Value} {xs : List Value} (h : w.ownsRow lo e 1 v n xs) (ho : Out a b w w') (hn : ∀ k, v.ownBlock = some k → k < a ∨ b ≤ k) : w'.ownsRow lo e 1 v n xs := by
  refine ⟨h.1, ?_⟩
  rcases h.2 with h' | ⟨g, cap, cur, h1, h2, h3, h4⟩
  · exact .inl h'
  · refine .inr ⟨g, cap, cur, h1, h2, ?_, h4⟩
    have hg : g < w.heap.size := (h.lt g (by rw [h1]; rfl)).2
    rw [ho.block g hg (by have := hn g (by rw [h1]; rfl); omega)]
    exact h3
/-- A row has been written. -/
theorem PolO.marked {w w' : World} {lo a b j : Nat} {A A0 : Option Addr} {c n0 c0 : Nat} {R : List (List Int)} {rs : List (Value × List Int)} {r r' : List Int} (h : PolO w lo A c R rs) (hj : rs[j]? = some (.slice A0 n0 c0, r)) (hlo : lo ≤ a) (ho : Out a b w w') (hown : OwnL w' a b A0 n0 c0 r')
    (hl : r'.length = n0) (hb : ∀ k, a ≤ k → k < b → (Value.slice A0 n0 c0).ownBlock = some k) : PolO w' lo A c (R.set j r') (rs.set j (.slice A0 n0 c0, r')) := by
  have hjl := (List.getElem?_eq_some_iff.1 hj).1
  have hkeep : ∀ (v : Value), (∀ k, (Value.slice A0 n0 c0).ownBlock = some k → v.ownBlock ≠ some k) → ∀ k, v.ownBlock = some k → k < a ∨ b ≤ k := fun v hv k hk => by
    rcases Nat.lt_or_ge k a with h1 | h1
    · exact .inl h1
    · rcases Nat.lt_or_ge k b with h2 | h2
      · exact absurd hk (hv k (hb k h1 h2))
      · exact .inr h2
  have hown' := h.rows.own j _ hj
  refine ⟨by rw [← h.eq, List.map_set], ⟨fun i p hp => ?_, fun i k p q hik hp hq g hg => ?_⟩, ?_⟩
  · by_cases e : j = i
    · subst e
      rw [List.getElem?_set_self hjl] at hp
      obtain rfl := Option.some.inj hp
      show w'.ownsRow lo 2 1 (.slice A0 n0 c0) r'.length (r'.map ic)
      rw [hl]
      exact own_less hown.2.1 hlo
    · rw [List.getElem?_set_ne e] at hp
      exact own_out (h.rows.own i p hp) ho (hkeep _ (fun k hk => h.rows.ne j i _ _ e hj hp k hk))
  · have tag : ∀ (i : Nat) (p : Value × List Int), (rs.set j (.slice A0 n0 c0, r'))[i]? = some p → ∃ p', rs[i]? = some p' ∧ p'.1 = p.1 := fun i p hp => by
      by_cases e : j = i
      · subst e
        rw [List.getElem?_set_self hjl] at hp
        obtain rfl := Option.some.inj hp
        exact ⟨_, hj, rfl⟩
      · rw [List.getElem?_set_ne e] at hp
        exact ⟨p, hp, rfl⟩
    obtain ⟨p', hp', e1⟩ := tag i p hp
    obtain ⟨q', hq', e2⟩ := tag k q hq
    rw [← e1] at hg
    rw [← e2]
    exact h.rows.ne i k p' q' hik hp' hq' g hg
  · rw [List.length_set]
    have e : (rs.set j (Value.slice A0 n0 c0, r')).map Prod.fst = rs.map Prod.fst := by
      rw [List.map_set]
      show (rs.map Prod.fst).set j (Value.slice A0 n0 c0) = _
      apply List.ext_getElem?
      intro i
      by_cases e : j = i
      · subst e
        rw [List.getElem?_set_self (by simpa using hjl), List.getElem?_map, hj]; rfl
      · rw [List.getElem?_set_ne e]
    rw [e]
    exact own_out h.out ho (hkeep _ (fun k hk => own_ne_own hown' h.out (by decide) k hk))

/-- A list of lists in rows of the call's own, all between two sizes, in any order. -/
def OwnLO (w : World) (lo hi : Nat) (A : Option Addr) (n c : Nat) (R : List (List Int)) : Prop :=
  R.length = n ∧ lo ≤ hi ∧ hi ≤ w.heap.size ∧ ∃ rs, PolO w lo A c R rs ∧ (∀ (i : Nat) (p : Value × List Int), rs[i]? = some p → ∀ k, p.1.ownBlock = some k → k < hi) ∧ ∀ k, (Value.slice A R.length c).ownBlock = some k → k < hi
section
variable {w w' : World} {lo hi lo' hi' n c : Nat} {A : Option Addr} {R : List (List Int)}
theorem OwnLO.of {rs : List (Value × List Int)} (h : PolO w lo A c R rs) (hl : lo ≤ w.heap.size) : OwnLO w lo w.heap.size A R.length c R :=
  ⟨rfl, hl, Nat.le_refl _, rs, h, fun i p hp k hk => ((h.rows.own i p hp).lt k hk).2, fun k hk => (h.out.lt k hk).2⟩
theorem OwnLO.next (h : OwnLO w lo hi A n c R) (hb : Below w.heap.size w w') : OwnLO w' lo hi A n c R := by
  obtain ⟨h1, h2, h3, rs, h4, h5, h6⟩ := h
  exact ⟨h1, h2, Nat.le_trans h3 hb.size, rs, h4.keep hb, h5, h6⟩
theorem OwnLO.out (h : OwnLO w lo hi A n c R) (ho : Out lo' hi' w w') (hd : hi' ≤ lo ∨ hi ≤ lo') : OwnLO w' lo hi A n c R := by
  obtain ⟨h1, h2, h3, rs, h4, h5, h6⟩ := h
  refine ⟨h1, h2, Nat.le_trans h3 ho.size, rs, ⟨h4.eq, ⟨fun i p hp => own_out (h4.rows.own i p hp) ho fun k hk => ?_, h4.rows.ne⟩, own_out h4.out ho fun k hk => ?_⟩, h5, h6⟩
  · have a := ((h4.rows.own i p hp).lt k hk).1
    have b := h5 i p hp k hk
    omega
  · have a := (h4.out.lt k hk).1
    have b := h6 k hk
    omega
theorem OwnLO.inn (h : OwnLO w lo hi A n c R) : InLL w w.heap.size A n R := by
  obtain ⟨rfl, h2, h3, rs, h4, _⟩ := h
  exact h4.inn
theorem OwnLO.all (h : OwnLO w lo hi A n c R) : InLL w w.heap.size A n R := h.inn
theorem OwnLO.len (h : OwnLO w lo hi A n c R) : R.length = n := h.1
end

theorem fin_boxP {w w1 w2 : World} {g : Nat} {t : TypeId} {a x : Value} {A : Option Addr} {k c : Nat} {zs : List (List Int)} (hb : Below w.heap.size w w1) (bk : BlkIs w2 g t #[x] ∧ g < w1.heap.size ∧ w.heap.size ≤ g)
    (hown : OwnLO w2 w1.heap.size w2.heap.size A k c zs) (hb2 : Below w1.heap.size w1 w2) :
    (w2.setCell ⟨g, 0, none⟩ a).cell? ⟨g, 0, none⟩ = some a ∧ g < (w2.setCell ⟨g, 0, none⟩ a).heap.size ∧ w.heap.size ≤ g ∧
      OwnLO (w2.setCell ⟨g, 0, none⟩ a) w1.heap.size w2.heap.size A k c zs ∧ (w.heap.size ≤ w1.heap.size ∧ w1.heap.size ≤ w2.heap.size ∧ w2.heap.size ≤ (w2.setCell ⟨g, 0, none⟩ a).heap.size) ∧
      Below w.heap.size w (w2.setCell ⟨g, 0, none⟩ a) := by
  have hB := bk.1.set 0 a
  have h0 := hB.cell 0
  simp at h0
  have hlt := hB.lt
  have ho : Out g (g + 1) w2 (w2.setCell ⟨g, 0, none⟩ a) := out_set (Out.refl _ _ _) (by omega)
  exact ⟨h0, hlt, bk.2.2, hown.out ho (by have := bk.2.1; omega), ⟨hb.size, hb2.size, ho.size⟩, (bon hb hb2).setCell (p := ⟨g, 0, none⟩) bk.2.2 a⟩
theorem fin_newP {w w1 w2 : World} {t : TypeId} {a : Value} {A : Option Addr} {k c : Nat} {zs : List (List Int)} (hb : Below w.heap.size w w1)
    (hown : OwnLO w2 w1.heap.size w2.heap.size A k c zs) (hb2 : Below w1.heap.size w1 w2) :
    (w2.alloc (.cells #[a] t)).cell? ⟨w2.heap.size, 0, none⟩ = some a ∧ w2.heap.size < (w2.alloc (.cells #[a] t)).heap.size ∧ w.heap.size ≤ w2.heap.size ∧
      OwnLO (w2.alloc (.cells #[a] t)) w1.heap.size w2.heap.size A k c zs ∧ (w.heap.size ≤ w1.heap.size ∧ w1.heap.size ≤ w2.heap.size ∧ w2.heap.size ≤ (w2.alloc (.cells #[a] t)).heap.size) ∧
      Below w.heap.size w (w2.alloc (.cells #[a] t)) :=
  ⟨(blk_new w2 t #[a] _ rfl).cell 0, by simp, Nat.le_trans hb.size hb2.size, hown.next (bnew _ _), ⟨hb.size, hb2.size, (bnew _ _).size⟩, bon (bon hb hb2) (bnew _ _)⟩

set_option maxRecDepth 100000 in
set_option maxHeartbeats 4000000 in
theorem markInt64SS_p (lo hi : Nat) (A : Option Addr) (c : Nat) (R : List (List Int)) (rs0 : List (Value × List Int)) (k0 : Int) (w : World) (h : PolO w lo A c R rs0) (hlo : lo ≤ hi) (hhi : hi ≤ w.heap.size) (hbl0 : ∀ (i : Nat) (p : Value × List Int), rs0[i]? = some p → ∀ k, p.1.ownBlock = some k → k < hi) (hn : R.length ≤ 1048576) (he : totLL R ≤ 1048576) (hk1 : 0 ≤ k0) (hk2 : k0 ≤ 100000000) :
    Calls Try.prog 30 #[.slice A R.length c, .int .i64 k0] w fun e w' => e = .returned (.int .i64 (k0 + ((totLL R : Nat) : Int))) ∧ (∃ rs, PolO w' lo A c (riseLL k0 R) rs ∧ rs.map Prod.fst = rs0.map Prod.fst) ∧ Out lo hi w w' := by
  have HR0 : Hid (∃ rs, PolO w lo A c (mixLL k0 R 0) rs ∧ rs.map Prod.fst = rs0.map Prod.fst) := by show ∃ rs, _; rw [mixLL_zero]; exact ⟨_, h, rfl⟩
  have HBL : Hid (∀ (i : Nat) (v : Value), (rs0.map Prod.fst)[i]? = some v → ∀ k, v.ownBlock = some k → k < hi) := fun i v hv k hk => by
    rw [List.getElem?_map] at hv
    cases e : rs0[i]? with
    | none => rw [e] at hv; cases hv
    | some p => rw [e] at hv; obtain rfl := Option.some.inj hv; exact hbl0 i p e k hk
  obtain ⟨n, hnn⟩ : ∃ n, R.length = n := ⟨_, rfl⟩
  have hlen := Lib.hid hnn
  rw [hnn] at hn ⊢
  clear h hnn hbl0
  go_enter Try.func30, Try.ntmps30
  go_wp2_with fail
  go_loopw [1, 5] (fun kv i wr => ∃ j : Nat, j ≤ n ∧ i = .int .i64 j ∧ kv = .int .i64 (k0 + ((totLL (R.take j) : Nat) : Int)) ∧ Hid (∃ rs, PolO wr lo A c (mixLL k0 R j) rs ∧ rs.map Prod.fst = rs0.map Prod.fst) ∧ Out lo hi w wr) (fun _ i _ => n - (intOf i).toNat)
  case atStart => exact ⟨0, Nat.zero_le _, rfl, by simp [totLL], HR0, Out.refl _ _ _⟩
  case round =>
    clear HR0
    obtain ⟨j, hj, rfl, rfl, hR, hout⟩ := hrel
    by_cases hlt : j < n
    · obtain ⟨rs, hp, hfst⟩ := hR.out
      obtain ⟨t, ht⟩ : ∃ t, R[j]? = some t := ⟨_, List.getElem?_eq_getElem (by have := hlen.out; omega)⟩
      have hmt := mixLL_at k0 ht
      have hml : (mixLL k0 R j).length = n := by
        have h1 := congrArg List.length (mixLL_next k0 ht)
        have := hp.out.1
        have := hlen.out
        unfold mixLL
        rw [List.length_append, List.length_take, List.length_drop, riseLL_len]
        omega
      have hrj : ∃ v, rs[j]? = some (v, t) := by
        have h1 := hmt
        rw [← hp.eq, List.getElem?_map] at h1
        cases e : rs[j]? with
        | none => rw [e] at h1; cases h1
        | some p => rw [e] at h1; obtain rfl := Option.some.inj h1; exact ⟨p.1, rfl⟩
      obtain ⟨v, hrj⟩ := hrj
      have hov : wr.ownsRow lo 2 1 v t.length (t.map ic) := hp.rows.own j _ hrj
      have hsw := hout.size
      obtain ⟨A0, c0, a, b, rfl, ho, hla, hab, hbs, hex, hbl⟩ := own_span hov (by omega)
      have hbw : b ≤ hi := by
        rcases hbl with h' | ⟨g, h', h''⟩
        · omega
        · have := HBL.out j (.slice A0 t.length c0) (by rw [← hfst, List.getElem?_map, hrj]; rfl) g h'
          omega
      clear hbl
      have hpo := hp.out
      rw [hml] at hpo
      obtain ⟨g, rfl⟩ : ∃ g, A = some ⟨g, 0, none⟩ := by
        rcases hpo.2 with h' | ⟨g, cap, cur, k1, _⟩
        · have := h'.2; omega
        · injection k1 with k1; exact ⟨g, k1⟩
      have q0 := hpo.cellAt j (by omega)
      rw [List.getElem?_map, hrj] at q0
      change wr.cell? ⟨g, j, none⟩ = some (.slice A0 t.length c0) at q0
      have hmem := totLL_mem (List.mem_of_getElem? ht)
      have hts := totLL_succ ht
      have htk := totLL_take R j
      have hnext := mixLL_next k0 ht
      obtain ⟨K, hK⟩ : ∃ K : Int, K = k0 + ((totLL (R.take j) : Nat) : Int) := ⟨_, rfl⟩
      have hKn : K + (t.length : Int) = k0 + ((totLL (R.take (j + 1)) : Nat) : Int) := by rw [hts, hK]; omega
      have hK1 : 0 ≤ K := by omega
      have hK2 : K ≤ 110000000 := by omega
      rw [← hK] at hnext ⊢
      have HM0 := Lib.hid (markInt64S_k a b A0 t.length c0 t K wr ho (by omega) (by omega) (by omega))
      have HP := Lib.hid hp
      have HJ := Lib.hid hrj
      have HNX := Lib.hid hnext
      have HKN := Lib.hid hKn
      have HEX := Lib.hid hex
      obtain ⟨m, hm⟩ : ∃ m, t.length = m := ⟨_, rfl⟩
      have HML := Lib.hid hm
      rw [hm] at q0 HM0 HJ HEX HNX HKN
      have HFS := Lib.hid hfst
      clear hR hov ho hpo hp ht hmt hml hrj hts hnext hmem hK hKn hex hm hfst
      go_wp2_with fail
      refine HM0.out.mono ?_
      rintro e9 u0 ⟨rfl, r0, t0⟩
      have HO := Lib.hid t0
      have HR := Lib.hid r0
      have hsz0 := t0.size
      clear t0 r0 HM0
      go_wp2_with fail
      go_roundw
      case rel =>
        refine ⟨j + 1, by omega, by go_num, congrArg (Value.int .i64) (by have := HKN.out; omega), ?_, hout.trans (HO.out.wide hla hbw)⟩
        show ∃ rs, _
        rw [HNX.out]
        refine ⟨_, HP.out.marked HJ.out hla HO.out HR.out (rise_len _ _) HEX.out, ?_⟩
        rw [← HFS.out, List.map_set]
        apply List.ext_getElem?
        intro i
        by_cases e : j = i
        · subst e
          have := (List.getElem?_eq_some_iff.1 HJ.out).1
          rw [List.getElem?_set_self (by simpa using this), List.getElem?_map, HJ.out]; rfl
        · rw [List.getElem?_set_ne e]
      case measure => simp [intOf]; omega
    · have e1 : j = n := by omega
      subst e1
      have e2 : totLL (R.take j) = totLL R := by rw [List.take_of_length_le (by have := hlen.out; omega)]
      have HF : Hid (∃ rs, PolO wr lo A c (riseLL k0 R) rs ∧ rs.map Prod.fst = rs0.map Prod.fst) := by
        obtain ⟨rs, hp, hq⟩ := hR.out
        refine ⟨rs, ?_, hq⟩
        rw [← mixLL_end]
        rw [← hlen.out] at hp
        exact hp
      rw [e2]
      clear e2 hR
      go_wp2_with fail
      go_ret
      exact ⟨rfl, HF.out, hout⟩

set_option maxRecDepth 100000 in
set_option maxHeartbeats 1000000 in
theorem markPolicy_q (lo hi : Nat) (A : Option Addr) (n c : Nat) (R : List (List Int)) (k : Int) (w : World) (h : OwnLO w lo hi A n c R) (hn : n ≤ 1048576) (he : totLL R ≤ 1048576) (hk1 : 0 ≤ k) (hk2 : k ≤ 100000000) :
    Calls Try.prog 12 #[.agg #[.slice A n c], .int .i64 k] w fun e w' => e = .returned (.int .i64 (k + ((totLL R : Nat) : Int))) ∧ OwnLO w' lo hi A n c (riseLL k R) ∧ Out lo hi w w' := by
  obtain ⟨rfl, h2, h3, rs, h4, h5, h6⟩ := h
  have hb0 := bnew w (.cells #[.slice A R.length c] 26)
  have HM := Lib.hid (markInt64SS_p lo hi A c R rs k _ (h4.keep hb0) h2 (Nat.le_trans h3 hb0.size) h5 hn he hk1 hk2)
  have H5 := Lib.hid h5
  have H6 := Lib.hid h6
  clear h4 h5 h6
  go_enter Try.func12, Try.ntmps12
  go_wp2_with fail
  generalize w.alloc (.cells #[.slice A R.length c] 26) = W at hb0 HM ⊢
  refine HM.out.mono ?_
  rintro e w1 ⟨rfl, ow1, ho⟩
  have HO := Lib.hid ow1
  clear HM ow1
  go_wp2_with fail
  go_ret
  have h1 := (Out.of_below hb0).trans ho
  obtain ⟨rs', k4, k5⟩ := HO.out
  have hbl := H5.out
  have hrl := riseLL_len k R
  refine ⟨rfl, ⟨hrl, h2, Nat.le_trans h3 h1.size, rs', k4, fun i p hp q hq => ?_, by rw [hrl]; exact H6.out⟩, ⟨h1.os, h1.tape, h1.output, h1.size, fun q hq hn => h1.block q hq (by omega)⟩⟩
  have e1 : (rs'.map Prod.fst)[i]? = some p.1 := by rw [List.getElem?_map, hp]; rfl
  rw [k5, List.getElem?_map] at e1
  cases e2 : rs[i]? with
  | none => rw [e2] at e1; cases e1
  | some p0 => rw [e2] at e1; have e3 : p0.1 = p.1 := Option.some.inj e1; exact hbl i p0 e2 q (by rw [e3]; exact hq)
end Go.Proofs.Ytopijecdhjnipaa
