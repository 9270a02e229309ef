/-
  The context of a sequent: what the model and the program give. Conditions: at most 2^20 terms and coefficients.
-/
import Derived.Test.YtapndnkcmmpdjaaCopyO
import Derived.Test.YtapndnkcmmpdjaaSeqK
import Derived.Test.YtapndnkcmmpdjaaImplT1
import Derived.Test.YtapndnkcmmpdjaaMarkTS
import Derived.Test.YtapndnkcmmpdjaaBox
import Derived.Test.YtapndnkcmmpdjaaCounter
import Derived.Deep.AppendLies
namespace Go.Proofs.Ytapndnkcmmpdjaa
set_option linter.unusedVariables false
open Go.RowKit

/-- The context of a sequent, and whether there is one. -/
def ctxR (ts : List (Int × List Int)) (g : Int × List Int) : List (Int × List Int) × Bool :=
  if seqB ts g = true ∧ (oppR g).2 = true then (ts ++ [(oppR g).1], true) else ([], false)
theorem ctxR_no0 {ts : List (Int × List Int)} {g : Int × List Int} (h : seqB ts g = false) : ctxR ts g = ([], false) := if_neg (by rw [h]; simp)
theorem ctxR_no1 {ts : List (Int × List Int)} {g : Int × List Int} (h : (oppR g).2 = false) : ctxR ts g = ([], false) := if_neg (by rw [h]; simp)
theorem ctxR_yes {ts : List (Int × List Int)} {g : Int × List Int} (h : seqB ts g = true) (k : (oppR g).2 = true) : ctxR ts g = (ts ++ [(oppR g).1], true) := if_pos ⟨h, k⟩
theorem totT_snoc (ts : List (Int × List Int)) (t : Int × List Int) : totT (ts ++ [t]) = totT ts + t.2.length := by simp [totT]
theorem totT_le10 : ∀ {ts : List (Int × List Int)}, (∀ t ∈ ts, tmB t = true) → totT ts ≤ 10 * ts.length
  | [], _ => by simp [totT]
  | t :: ts, h => by
    have h1 := (tmB_parts (h t (by simp))).1
    have h2 := totT_le10 (ts := ts) (fun u hu => h u (by simp [hu]))
    simp only [totT, List.map_cons, List.sum_cons, List.length_cons] at h2 ⊢
    omega
theorem ctx_small (ts : List (Int × List Int)) (g : Int × List Int) : (ctxR ts g).1.length ≤ 14 ∧ totT (ctxR ts g).1 ≤ 140 := by
  unfold ctxR
  split
  · rename_i h
    have h1 := seqB_parts h.1
    have h2 : ts.length ≤ 13 := by
      have := h.1
      unfold seqB at this
      exact (allT_parts (Bool.and_eq_true _ _ ▸ this).1).2
    have h3 := totT_le10 h1.1
    have h4 := res_lenO g
    rw [totT_snoc, List.length_append]
    simp
    omega
  · simp [totT]

/-- Behind an append: terms in memory of the call's own, the new one's numbers below theirs. -/
theorem ownTS_push {w w1 : World} {lo mid hi n c g2 cap : Nat} {A : Option Addr} {ts : List (Int × List Int)} {t : Int × List Int} {A' : Option Addr} {n' c' : Nat} {xs : List Value} {e : Nat → Value}
    (hl : ts.length = n) (hhi : hi ≤ w.heap.size) (h3 : w.ownsRow mid 41 2 (.slice A n c) n xs) (h4 : ∀ k, (Value.slice A n c).ownBlock = some k → k < hi)
    (h5 : ∀ j t, ts[j]? = some t → xs[j * 2]? = some (.int .i64 t.1) ∧ xs[j * 2 + 1]? = some (e j) ∧ ∃ A' n' c', e j = .slice A' n' c' ∧ OwnL w mid hi A' n' c' t.2)
    (h6 : ∀ i j, i < n → j < n → i ≠ j → ∀ k, (e i).ownBlock = some k → (e j).ownBlock ≠ some k) (h7 : ∀ i, i < n → ∀ k, (e i).ownBlock = some k → (Value.slice A n c).ownBlock ≠ some k)
    (ho : OwnL w lo mid A' n' c' t.2) (hlm : lo ≤ mid)
    (hr : w1.ownsRow mid 41 2 (.slice (some ⟨g2, 0, none⟩) (n + 1) cap) (n + 1) (xs ++ [.int .i64 t.1, .slice A' n' c'])) (hg : w.grownBy w1 (Value.slice A n c).ownBlock)
    (hat : (Value.slice A n c).ownBlock = some g2 ∨ w.heap.size ≤ g2) (hlt : g2 < w1.heap.size) : OwnTS w1 lo w1.heap.size (some ⟨g2, 0, none⟩) (n + 1) cap (ts ++ [t]) := by
  have hs := hg.size
  have hxl : xs.length = n * 2 := h3.1
  have hrow : ∀ k, (Value.slice A n c).ownBlock = some k → mid ≤ k := fun k hk => (h3.lt k hk).1
  have hnew : ∀ q, (Value.slice A' n' c').ownBlock = some q → q < mid := ho.2.2.1
  have hold : ∀ i, i < n → ∀ q, (e i).ownBlock = some q → mid ≤ q ∧ q < hi := fun i hi' q hq => by
    obtain ⟨u, hu⟩ : ∃ u, ts[i]? = some u := ⟨_, List.getElem?_eq_getElem (by omega)⟩
    obtain ⟨_, _, B', m', d', ee, f⟩ := h5 i u hu
    rw [ee] at hq
    exact ⟨(f.2.1.lt q hq).1, f.2.2.1 q hq⟩
  refine ⟨by simp [hl], Nat.le_refl _, _, fun j => if j = n then .slice A' n' c' else e j, own_less hr hlm, fun k hk => ?_, fun j u hj => ?_, fun i j hi hj hne k hk => ?_, fun i hi k hk => ?_⟩
  · have hk' : some g2 = some k := hk
    injection hk' with hk'
    omega
  · by_cases hjn : j < ts.length
    · rw [List.getElem?_append_left hjn] at hj
      obtain ⟨a, b, B', m', d', ee, f⟩ := h5 j u hj
      have hj' : j ≠ n := by omega
      refine ⟨by rw [List.getElem?_append_left (by omega)]; exact a, by rw [List.getElem?_append_left (by omega)]; simp only [hj', if_false]; exact b, B', m', d', by simp only [hj', if_false]; exact ee, ?_⟩
      refine ((f.far (fun q hq hql => hg.block q hql (fun e' => ?_)) hs).less hlm).wide (Nat.le_trans hhi hs) (Nat.le_refl _)
      exact h7 j (by omega) q (by rw [ee]; exact hq) e'.symm
    · have hjl := (List.getElem?_eq_some_iff.1 hj).1
      have hje : j = ts.length := by simp at hjl; omega
      subst hje
      rw [List.getElem?_append_right (Nat.le_refl _), Nat.sub_self] at hj
      obtain rfl : t = u := by simpa using hj
      refine ⟨?_, ?_, A', n', c', by simp [hl], ?_⟩
      · rw [List.getElem?_append_right (by omega), show ts.length * 2 - xs.length = 0 by omega]; rfl
      · rw [List.getElem?_append_right (by omega), show ts.length * 2 + 1 - xs.length = 1 by omega]; simp [hl]
      · refine (ho.far (fun q hq hql => hg.block q hql (fun e' => ?_)) hs).wide (by have := ho.2.2.2; omega) (Nat.le_refl _)
        have h1 := hnew q hq
        have h2 := hrow q e'.symm
        omega
  · by_cases e1 : i = n
    · simp only [e1, if_true] at hk
      have e2 : j ≠ n := by omega
      simp only [e2, if_false]
      intro hk'
      have h1 := hnew k hk
      have h2 := hold j (by omega) k hk'
      omega
    · simp only [e1, if_false] at hk
      by_cases e2 : j = n
      · simp only [e2, if_true]
        intro hk'
        have h1 := hnew k hk'
        have h2 := hold i (by omega) k hk
        omega
      · simp only [e2, if_false]
        exact h6 i j (by omega) (by omega) hne k hk
  · intro hk'
    have hk2 : some g2 = some k := hk'
    injection hk2 with hk2
    subst hk2
    by_cases e1 : i = n
    · simp only [e1, if_true] at hk
      have h1 := hnew g2 hk
      have h8 := ho.2.2.2
      rcases hat with h2 | h2
      · have := hrow g2 h2; omega
      · omega
    · simp only [e1, if_false] at hk
      rcases hat with h2 | h2
      · exact h7 i (by omega) g2 hk h2
      · have := hold i (by omega) g2 hk
        omega

theorem frow_less {w : World} {base base' : Nat} {v : Value} {n : Nat} {ts : List (Int × List Int)} (h : FRow w base v n ts) (hb : base' ≤ base) : FRow w base' v n ts := by
  obtain ⟨h1, xs, h3, h4⟩ := h
  exact ⟨h1, xs, own_less h3 hb, h4⟩
theorem ownTS_less0 {w : World} {lo hi n c : Nat} {A : Option Addr} {ts : List (Int × List Int)} (h : OwnTS w lo hi A n c ts) : OwnTS w lo w.heap.size A n c ts := h.wide h.2.1 (Nat.le_refl _)
theorem frow_in {w : World} {base : Nat} {A : Option Addr} {n c : Nat} {ts : List (Int × List Int)} (h : FRow w base (.slice A n c) n ts) : InTS w w.heap.size A n ts := by
  obtain ⟨A', c', e, h'⟩ := h.inn
  injection e with e1 e2 e3
  subst e1
  exact h'
theorem two_one {x y : Value} (hx : x.oneCell' = true) (hy : y.oneCell' = true) : ∀ u ∈ [x, y], u.oneCell' = true := by
  intro u hu; simp at hu; rcases hu with rfl | rfl <;> assumption

set_option maxRecDepth 100000 in
set_option maxHeartbeats 2000000 in
theorem l02Context_c (b o : Nat) (c0 : Int) (A : Option Addr) (n c B : Nat) (ts : List (Int × List Int)) (D : Option Addr) (m d : Nat) (zs : List Int) (w : World) (hbl : b < w.heap.size)
    (q0 : w.cell? ⟨b, o, none⟩ = some (.slice A n c)) (q1 : w.cell? ⟨b, o + 1, none⟩ = some (.int .i64 c0)) (q2 : w.cell? ⟨b, o + 1 + 1, none⟩ = some (.slice D m d)) (h : InTS w B A n ts) (hl : InL w B D m zs) (hB : B ≤ w.heap.size)
    (hv : seqB ts (c0, zs) = true) :
    Calls Try.prog 38 #[.pointer (some ⟨b, o, none⟩)] w fun e w' => ∃ A' c', e = .returned (.tuple #[.slice A' (ctxR ts (c0, zs)).1.length c', .bool (ctxR ts (c0, zs)).2]) ∧ InTS w' w'.heap.size A' (ctxR ts (c0, zs)).1.length (ctxR ts (c0, zs)).1 ∧ Below w.heap.size w w' := by
  obtain ⟨i0, hi, hz0, hz1, hz2⟩ := info_parts infoTerm2
  have hpv := seqB_parts hv
  have hvg := hpv.2
  have hn13 : n ≤ 13 := by
    have h13 : ts.length ≤ 13 := by unfold seqB at hv; exact (allT_parts (Bool.and_eq_true _ _ ▸ hv).1).2
    have := h.1
    omega
  have HE := Lib.hid (fun t (ht : t ∈ ts) => (tmB_parts (hpv.1 t ht)).1)
  have hp : PtrT w w.heap.size b (o + 1) (c0, zs) := ⟨D, m, d, hbl, q1, q2, hl.more hB⟩
  have hlen := Lib.hid h.1
  have HC := Lib.hid (l02Opposite_c w.heap.size b (o + 1) (c0, zs) w hp (Nat.le_refl _) hvg)
  rw [← oppR_yes hvg] at HC
  have HV := Lib.hid hv
  obtain ⟨R, HR⟩ : ∃ R, Hid (oppR (c0, zs) = R) := ⟨_, rfl⟩
  rw [HR.out] at HC
  obtain ⟨⟨r0, rz⟩, rb⟩ := R
  have HIN := Lib.hid h
  clear hp hpv hv hvg h
  cases rb with
  | false =>
    have HX := Lib.hid (ctxR_no1 (ts := ts) (g := (c0, zs)) (by rw [HR.out]))
    go_enter Try.func38, Try.ntmps38
    go_wp2_with fail
    refine HC.out.mono ?_
    rintro e w1 ⟨A1, k1, c1, rfl, hown, hb1⟩
    go_wp2_with fail
    go_ret2
    rw [HX.out]
    exact ⟨none, 0, rfl, ⟨rfl, TRow.nil⟩, bon hb1 (bnew _ _)⟩
  | true =>
    have HX : Hid (ctxR ts (c0, zs) = (ts ++ [(r0, rz)], true)) := by
      show _ = _
      rw [ctxR_yes HV.out (by rw [HR.out]), HR.out]
    rw [HX.out]
    have e1 : (ts ++ [(r0, rz)]).length = n + 1 := by simp [hlen.out]
    show Calls Try.prog 38 #[.pointer (some ⟨b, o, none⟩)] w fun e w' => ∃ A' c', e = .returned (.tuple #[.slice A' (ts ++ [(r0, rz)]).length c', .bool true]) ∧ InTS w' w'.heap.size A' (ts ++ [(r0, rz)]).length (ts ++ [(r0, rz)]) ∧ Below w.heap.size w w'
    rw [e1]
    clear e1
    go_enter Try.func38, Try.ntmps38
    go_wp2_with fail
    refine HC.out.mono ?_
    rintro e w1 ⟨A1, k1, c1, rfl, hown, hb1⟩
    have hs1 := hb1.size
    have q0' : w1.cell? ⟨b, o, none⟩ = some (.slice A n c) := (hb1.cell (p := ⟨b, o, none⟩) hbl).trans q0
    have hba := bnew w1 (.cells #[.int .i64 r0, .slice A1 k1 c1] 41)
    have hN : BlkIs (w1.alloc (.cells #[.int .i64 r0, .slice A1 k1 c1] 41)) w1.heap.size 41 #[.int .i64 r0, .slice A1 k1 c1] := blk_new _ _ _ _ rfl
    have p0 := cell_next q0' hba
    have HOW := Lib.hid (hown.next hba)
    have HI2 := Lib.hid ((HIN.out.next hb1 hB).next hba (Nat.le_trans hB hs1))
    clear q0' hown HC HR HX HIN q0 q1 q2
    go_wp2_with fail
    generalize w1.alloc (.cells #[.int .i64 r0, .slice A1 k1 c1] 41) = W at hba hN p0 HOW HI2 ⊢
    have hsW := hba.size
    have n0 : W.cell? ⟨w1.heap.size, 0, none⟩ = some (.int .i64 r0) := hN.cell 0
    have n1 : W.cell? ⟨w1.heap.size, 1, none⟩ = some (.slice A1 k1 c1) := hN.cell 1
    have hnl := hN.lt
    have hbw : b < W.heap.size := by omega
    have HO : Hid (∀ (x : World), Below W.drew.heap.size W.drew x → Calls Try.prog 45 #[.slice A n c] x fun e w' => ∃ v, e = .returned v ∧ FRow w' W.heap.size v n ts ∧ Below x.heap.size x w') := fun x hx => (l02OwnAll_c A n c B ts x (HI2.out.next (bstep hx) (by omega)) (Nat.le_trans (by omega) (bstep hx).size) (by omega) (fun t ht => by have := HE.out t ht; omega)).mono fun e w' ⟨v, he, hf, hb⟩ => ⟨v, he, frow_less hf (bstep hx).size, hb⟩
    have HL := Lib.hid (IntL.of_own HOW.out)
    clear hN HOW HI2 hlen
    go_region_held3 (fun w' => w'.cell? ⟨b, o, none⟩ = some (.slice A n c) ∧ w'.cell? ⟨w1.heap.size, 0, none⟩ = some (.int .i64 r0) ∧ w'.cell? ⟨w1.heap.size, 1, none⟩ = some (.slice A1 k1 c1))
      (first | go_keep | exact ⟨cell_on p0 hbx, cell_on n0 hbx, cell_on n1 hbx⟩ | (go_split_ands; refine ⟨?_, ?_, ?_⟩; (rw [hgrow3.cell_far _ (by first | (show b < _; omega) | (simp; omega)) (fun e' => by have hle : W.heap.size ≤ b := (fr.lt _ e'.symm).1; omega)]; assumption); (rw [hgrow3.cell_far _ (by first | (show w1.heap.size < _; omega) | (simp; omega)) (fun e' => by have hle : W.heap.size ≤ w1.heap.size := (fr.lt _ e'.symm).1; omega)]; assumption); (rw [hgrow3.cell_far _ (by first | (show w1.heap.size < _; omega) | (simp; omega)) (fun e' => by have hle : W.heap.size ≤ w1.heap.size := (fr.lt _ e'.symm).1; omega)]; assumption)) | fail)
      (first
        | (go_at_call 45; refine (HO.out _ (by first | exact Below.refl _ _ | exact bel_ad _ _ | exact bnew _ _ | fail)).mono ?_; rintro e w2 ⟨v, rfl, hf, hb2⟩; have hbx := bon (show Below W.drew.heap.size W.drew _ from by first | exact Below.refl _ _ | exact bel_ad _ _ | exact bnew _ _ | fail) hb2; have hs2 := (bstep hbx).size; (try have hN2 := (hb2.block W.heap.size (by show W.heap.size < (W.alloc _).heap.size; simp)).trans (heap_alloc_new W (.cells #[.int .i64 r0, .slice A1 k1 c1] 41))))
        | (obtain ⟨fl, xs, fr, fx⟩ := hf; refine step_append_lies _ rfl (.tmp 19) (.tmp 21) 27 rfl W.heap.size 41 i0 (.agg #[.int .i64 0, .slice none 0 0]) 2 32 Try.underlying27 hi hz0 hz1 hz2 rfl (by decide) _ _ _ rfl fr ⟨W.heap.size, 0, none⟩ 1 1 [.int .i64 r0, .slice A1 k1 c1] rfl rfl (World.news_of_block (cs := #[.int .i64 r0, .slice A1 k1 c1]) hN2) (two_one rfl rfl) (by omega) (by unfold maxLen; omega) (by omega) (by have := (bstep hbx).size; omega) _ rfl ?_; intro gg cap w3 hown3 hgrow3 hat hlt)
        | (obtain ⟨fl, xs, fr, fx⟩ := hf.next (bnew w2 (.cells #[.int .i64 r0, .slice A1 k1 c1] 41)); refine step_append_lies _ rfl (.tmp 19) (.tmp 21) 27 rfl W.heap.size 41 i0 (.agg #[.int .i64 0, .slice none 0 0]) 2 32 Try.underlying27 hi hz0 hz1 hz2 rfl (by decide) _ _ _ rfl fr ⟨w2.heap.size, 0, none⟩ 1 1 [.int .i64 r0, .slice A1 k1 c1] rfl rfl (World.news_of_block (cs := #[.int .i64 r0, .slice A1 k1 c1]) (heap_alloc_new w2 _)) (two_one rfl rfl) (by omega) (by unfold maxLen; omega) (by omega) (by have := (bstep hbx).size; simp; omega) _ rfl ?_; intro gg cap w3 hown3 hgrow3 hat hlt)
        | fail)
    all_goals
      go_wp2_with fail
      go_ret2
      refine ⟨some ⟨gg, 0, none⟩, cap, rfl, ?_, ?_⟩
      · first
          | exact frow_in (FRow.push (t := (r0, rz)) fl ((HL.out.next (bstep hbx)).next (bnew _ _)) fr fx hown3 hgrow3)
          | exact frow_in (FRow.push (t := (r0, rz)) fl (HL.out.next (bstep hbx)) fr fx hown3 hgrow3)
          | fail
      · first
          | exact (bon (bon hb1 hba) ((bon (bstep hbx) (bnew w2 _)).grown hgrow3 (by simp; omega) (fun j hj => (fr.lt j hj).1)))
          | exact (bon (bon hb1 hba) ((bstep hbx).grown hgrow3 (by omega) (fun j hj => (fr.lt j hj).1)))
          | fail

set_option maxRecDepth 100000 in
set_option maxHeartbeats 2000000 in
theorem specContext_c (c0 : Int) (A : Option Addr) (n c B : Nat) (ts : List (Int × List Int)) (D : Option Addr) (m d : Nat) (zs : List Int) (w : World) (h : InTS w B A n ts) (hl : InL w B D m zs) (hB : B ≤ w.heap.size)
    (hn : n ≤ 1048576) (he : totT ts ≤ 1048576) (hm : m ≤ 1048576) :
    Calls Try.prog 17 #[.agg #[.slice A n c, .int .i64 c0, .slice D m d]] w fun e w' => ∃ A' c', e = .returned (.tuple #[.slice A' (ctxR ts (c0, zs)).1.length c', .bool (ctxR ts (c0, zs)).2]) ∧ InTS w' w'.heap.size A' (ctxR ts (c0, zs)).1.length (ctxR ts (c0, zs)).1 ∧ Below w.heap.size w w' := by
  have hb0 := bnew w (.cells #[.slice A n c, .int .i64 c0, .slice D m d] 43)
  have hP : BlkIs (w.alloc (.cells #[.slice A n c, .int .i64 c0, .slice D m d] 43)) w.heap.size 43 #[.slice A n c, .int .i64 c0, .slice D m d] := blk_new _ _ _ _ rfl
  have q0 : (w.alloc (.cells #[.slice A n c, .int .i64 c0, .slice D m d] 43)).cell? ⟨w.heap.size, 0, none⟩ = some (.slice A n c) := hP.cell 0
  have q1 : (w.alloc (.cells #[.slice A n c, .int .i64 c0, .slice D m d] 43)).cell? ⟨w.heap.size, 0 + 1, none⟩ = some (.int .i64 c0) := hP.cell 1
  have q2 : (w.alloc (.cells #[.slice A n c, .int .i64 c0, .slice D m d] 43)).cell? ⟨w.heap.size, 0 + 1 + 1, none⟩ = some (.slice D m d) := hP.cell 2
  have h1 := h.next hb0 hB
  have h2 := hl.next hb0 hB
  have hlt := hP.lt
  have HS := Lib.hid (l02Sequent_c w.heap.size 0 c0 A n c B ts D m d zs _ q0 q1 q2 h1 h2 hn he hm)
  cases hv : seqB ts (c0, zs) with
  | false =>
    rw [hv] at HS
    have HX := Lib.hid (ctxR_no0 hv)
    rw [HX.out]
    clear h h1 h2 hv hl q0 q1 q2 hP
    go_enter Try.func17, Try.ntmps17
    go_wp2_with fail
    refine HS.out.mono ?_
    rintro e w1 ⟨rfl, rfl⟩
    go_wp2_with fail
    go_ret2
    exact ⟨none, 0, rfl, ⟨rfl, TRow.nil⟩, hb0⟩
  | true =>
    rw [hv] at HS
    have HC := Lib.hid (l02Context_c w.heap.size 0 c0 A n c B ts D m d zs _ hlt q0 q1 q2 h1 h2 (Nat.le_trans hB hb0.size) hv)
    obtain ⟨R, HR⟩ : ∃ R, Hid (ctxR ts (c0, zs) = R) := ⟨_, rfl⟩
    rw [HR.out] at HC ⊢
    obtain ⟨rs, rb⟩ := R
    clear h h1 h2 hv hl q0 q1 q2 hP HR
    go_enter Try.func17, Try.ntmps17
    go_wp2_with fail
    refine HS.out.mono ?_
    rintro e w1 ⟨rfl, rfl⟩
    go_wp2_with fail
    refine HC.out.mono ?_
    rintro e w1 ⟨A1, c1, rfl, hin, hb1⟩
    go_wp2_with fail
    go_ret2
    exact ⟨A1, c1, rfl, hin, bon hb0 hb1⟩

set_option maxRecDepth 100000 in
set_option maxHeartbeats 4000000 in
theorem contextOf_c (c0 : Int) (A : Option Addr) (n c B : Nat) (ts : List (Int × List Int)) (D : Option Addr) (m d : Nat) (zs : List Int) (w : World) (h : InTS w B A n ts) (hl : InL w B D m zs) (hB : B ≤ w.heap.size)
    (hn : n ≤ 1048576) (he : totT ts ≤ 1048576) (hm : m ≤ 1048576) :
    Calls Try.prog 19 #[.agg #[.slice A n c, .int .i64 c0, .slice D m d]] w fun e w' => ∃ A' c', e = .returned (.tuple #[.slice A' (ctxR ts (c0, zs)).1.length c', .bool (ctxR ts (c0, zs)).2]) ∧ OwnTS w' w.heap.size w'.heap.size A' (ctxR ts (c0, zs)).1.length c' (ctxR ts (c0, zs)).1 ∧ Below w.heap.size w w' := by
  obtain ⟨i0, hi, hz0, hz1, hz2⟩ := info_parts infoTerm2
  have hb0 := bnew w (.cells #[.slice A n c, .int .i64 c0, .slice D m d] 43)
  have hP : BlkIs (w.alloc (.cells #[.slice A n c, .int .i64 c0, .slice D m d] 43)) w.heap.size 43 #[.slice A n c, .int .i64 c0, .slice D m d] := blk_new _ _ _ _ rfl
  have H1 := Lib.hid (h.next hb0 hB)
  have H2 := Lib.hid (hl.next hb0 hB)
  have hlen := Lib.hid h.1
  have HC := Lib.hid (implOpposite_c c0 D m d zs _ ((hl.next hb0 hB).more (Nat.le_trans hB hb0.size)) hm)
  obtain ⟨R, HR⟩ : ∃ R, Hid (oppR (c0, zs) = R) := ⟨_, rfl⟩
  rw [HR.out] at HC
  obtain ⟨⟨r0, rz⟩, rb⟩ := R
  have p1 : (w.alloc (.cells #[.slice A n c, .int .i64 c0, .slice D m d] 43)).cell? ⟨w.heap.size, 1, none⟩ = some (.int .i64 c0) := hP.cell 1
  have p2 : (w.alloc (.cells #[.slice A n c, .int .i64 c0, .slice D m d] 43)).cell? ⟨w.heap.size, 2, none⟩ = some (.slice D m d) := hP.cell 2
  clear h hl
  cases rb with
  | false =>
    have HX := Lib.hid (ctxR_no1 (ts := ts) (g := (c0, zs)) (by rw [HR.out]))
    rw [HX.out]
    go_enter Try.func19, Try.ntmps19
    go_wp2_with fail
    refine HC.out.mono ?_
    rintro e w1 ⟨A1, k1, c1, rfl, hown, hb1⟩
    go_wp2_with fail
    go_ret2
    exact ⟨none, 0, rfl, ownTS_less0 (ownTS_nil _ _), bon (bon hb0 hb1) (bnew _ _)⟩
  | true =>
    cases hv : seqB ts (c0, zs) with
    | false =>
      have HX := Lib.hid (ctxR_no0 hv)
      rw [HX.out]
      have HV := Lib.hid hv
      clear hv
      go_enter Try.func19, Try.ntmps19
      go_wp2_with fail
      refine HC.out.mono ?_
      rintro e w1 ⟨A1, k1, c1, rfl, hown, hb1⟩
      have hb2 := bon (bon hb0 hb1) (bnew w1 (.cells #[.int .i64 r0, .slice A1 k1 c1] 41))
      have hb12 := bon hb1 (bnew w1 (.cells #[.int .i64 r0, .slice A1 k1 c1] 41))
      have hP2 := hP.next hb12
      have a0 : (w1.alloc (.cells #[.int .i64 r0, .slice A1 k1 c1] 41)).cell? ⟨w.heap.size, 0, none⟩ = some (.slice A n c) := hP2.cell 0
      have a1 : (w1.alloc (.cells #[.int .i64 r0, .slice A1 k1 c1] 41)).cell? ⟨w.heap.size, 1, none⟩ = some (.int .i64 c0) := hP2.cell 1
      have a2 : (w1.alloc (.cells #[.int .i64 r0, .slice A1 k1 c1] 41)).cell? ⟨w.heap.size, 2, none⟩ = some (.slice D m d) := hP2.cell 2
      have HS := Lib.hid (implSeq_c c0 A n c B ts D m d zs _ (H1.out.next hb12 (Nat.le_trans hB hb0.size)) (H2.out.next hb12 (Nat.le_trans hB hb0.size)) (Nat.le_trans hB hb2.size) he hm)
      rw [HV.out] at HS
      clear hown HC hP hP2 p1 p2
      go_wp2_with fail
      refine HS.out.mono ?_
      rintro e w2 ⟨rfl, hb3⟩
      go_wp2_with fail
      go_ret2
      exact ⟨none, 0, rfl, ownTS_less0 (ownTS_nil _ _), bon hb2 hb3⟩
    | true =>
      have HX : Hid (ctxR ts (c0, zs) = (ts ++ [(r0, rz)], true)) := by
        show _ = _
        rw [ctxR_yes hv (by rw [HR.out]), HR.out]
      rw [HX.out]
      have e1 : (ts ++ [(r0, rz)]).length = n + 1 := by simp [hlen.out]
      show Calls Try.prog 19 #[.agg #[.slice A n c, .int .i64 c0, .slice D m d]] w fun e w' => ∃ A' c', e = .returned (.tuple #[.slice A' (ts ++ [(r0, rz)]).length c', .bool true]) ∧ OwnTS w' w.heap.size w'.heap.size A' (ts ++ [(r0, rz)]).length c' (ts ++ [(r0, rz)]) ∧ Below w.heap.size w w'
      rw [e1]
      have HV := Lib.hid hv
      have hpv := seqB_parts hv
      have hn13 : n ≤ 13 := by
        have h13 : ts.length ≤ 13 := by unfold seqB at hv; exact (allT_parts (Bool.and_eq_true _ _ ▸ hv).1).2
        have := hlen.out
        omega
      have HE := Lib.hid (fun t (ht : t ∈ ts) => (tmB_parts (hpv.1 t ht)).1)
      clear hv hpv e1 HX
      go_enter Try.func19, Try.ntmps19
      go_wp2_with fail
      refine HC.out.mono ?_
      rintro e w1 ⟨A1, k1, c1, rfl, hown, hb1⟩
      have hb2 := bon (bon hb0 hb1) (bnew w1 (.cells #[.int .i64 r0, .slice A1 k1 c1] 41))
      have hb12 := bon hb1 (bnew w1 (.cells #[.int .i64 r0, .slice A1 k1 c1] 41))
      have hP2 := hP.next hb12
      have a0 : (w1.alloc (.cells #[.int .i64 r0, .slice A1 k1 c1] 41)).cell? ⟨w.heap.size, 0, none⟩ = some (.slice A n c) := hP2.cell 0
      have a1 : (w1.alloc (.cells #[.int .i64 r0, .slice A1 k1 c1] 41)).cell? ⟨w.heap.size, 1, none⟩ = some (.int .i64 c0) := hP2.cell 1
      have a2 : (w1.alloc (.cells #[.int .i64 r0, .slice A1 k1 c1] 41)).cell? ⟨w.heap.size, 2, none⟩ = some (.slice D m d) := hP2.cell 2
      have HS := Lib.hid (implSeq_c c0 A n c B ts D m d zs _ (H1.out.next hb12 (Nat.le_trans hB hb0.size)) (H2.out.next hb12 (Nat.le_trans hB hb0.size)) (Nat.le_trans hB hb2.size) he hm)
      rw [HV.out] at HS
      have hN : BlkIs (w1.alloc (.cells #[.int .i64 r0, .slice A1 k1 c1] 41)) w1.heap.size 41 #[.int .i64 r0, .slice A1 k1 c1] := blk_new _ _ _ _ rfl
      have HOW := Lib.hid (hown.next (bnew w1 (.cells #[.int .i64 r0, .slice A1 k1 c1] 41)))
      have HI2 := Lib.hid (H1.out.next hb12 (Nat.le_trans hB hb0.size))
      have hsl : w.heap.size < (w.alloc (.cells #[.slice A n c, .int .i64 c0, .slice D m d] 43)).heap.size := by simp
      have hs12 := hb12.size
      have hs1 := hb1.size
      clear hown HC hP p1 p2 H1 H2 HR
      go_wp2_with fail
      refine HS.out.mono ?_
      rintro e w2 ⟨rfl, hb3⟩
      generalize w1.alloc (.cells #[.int .i64 r0, .slice A1 k1 c1] 41) = W at hb2 hb12 hP2 a0 a1 a2 hN HOW HI2 hs12 hb3 ⊢
      have hs3 := hb3.size
      have hnl := (hN.next hb3).lt
      have p0 : w2.cell? ⟨w.heap.size, 0, none⟩ = some (.slice A n c) := (hP2.next hb3).cell 0
      have n0 : w2.cell? ⟨w1.heap.size, 0, none⟩ = some (.int .i64 r0) := (hN.next hb3).cell 0
      have n1 : w2.cell? ⟨w1.heap.size, 1, none⟩ = some (.slice A1 k1 c1) := (hN.next hb3).cell 1
      have HOW2 := Lib.hid (HOW.out.next hb3)
      have HO : Hid (∀ (x : World), Below w2.drew.heap.size w2.drew x → Calls Try.prog 41 #[.slice A n c, .func (Fn.func 42) #[] #[]] x fun e w' => ∃ g, e = .returned (.slice (some ⟨g, 0, none⟩) n n) ∧ OwnTS w' w2.heap.size w'.heap.size (some ⟨g, 0, none⟩) n n ts ∧ Below x.heap.size x w') :=
        fun x hx => (eachCopy_o A n c B ts x (HI2.out.next (bon hb3 (bstep hx)) (by omega)) (Nat.le_trans (by omega) (bstep hx).size) (by omega) (fun t ht => by have := HE.out t ht; omega)).mono fun e w' ⟨g, he, hf, hb⟩ => ⟨g, he, hf.less (bstep hx).size, hb⟩
      have hwl : w.heap.size < w2.heap.size := by omega
      clear hN HI2 hlen a0 a1 a2 hP2 HS HE HOW
      go_wp2_with fail
      have HOW3 := Lib.hid ((HOW2.out.less (lo' := w.heap.size) (by omega)).wide (hi' := w2.heap.size) (by omega) (Nat.le_refl _))
      have hwl1 : w1.heap.size < w2.heap.size := hnl
      clear HOW2
      go_region_held3 (fun w' => w'.cell? ⟨w.heap.size, 0, none⟩ = some (.slice A n c) ∧ w'.cell? ⟨w1.heap.size, 0, none⟩ = some (.int .i64 r0) ∧ w'.cell? ⟨w1.heap.size, 1, none⟩ = some (.slice A1 k1 c1))
        (first | go_keep | exact ⟨cell_on p0 hbx, cell_on n0 hbx, cell_on n1 hbx⟩ | (go_split_ands; refine ⟨?_, ?_, ?_⟩; (rw [hgrow4.cell_far _ (by first | (show w.heap.size < _; omega) | (simp; omega)) (fun e' => by have hle : w2.heap.size ≤ w.heap.size := (fr.lt _ e'.symm).1; omega)]; assumption); (rw [hgrow4.cell_far _ (by first | (show w1.heap.size < _; omega) | (simp; omega)) (fun e' => by have hle : w2.heap.size ≤ w1.heap.size := (fr.lt _ e'.symm).1; omega)]; assumption); (rw [hgrow4.cell_far _ (by first | (show w1.heap.size < _; omega) | (simp; omega)) (fun e' => by have hle : w2.heap.size ≤ w1.heap.size := (fr.lt _ e'.symm).1; omega)]; assumption)) | fail)
        (first
          | (go_at_call 41; refine (HO.out _ (by first | exact Below.refl _ _ | exact bel_ad _ _ | exact bnew _ _ | fail)).mono ?_; rintro e w3 ⟨gq, rfl, hf, hbq⟩; have hbx := bon (show Below w2.drew.heap.size w2.drew _ from by first | exact Below.refl _ _ | exact bel_ad _ _ | exact bnew _ _ | fail) hbq; have hs4 := (bstep hbx).size; (try have hN2 := (hbq.block w2.heap.size (by show w2.heap.size < (w2.alloc _).heap.size; simp)).trans (heap_alloc_new w2 (.cells #[.int .i64 r0, .slice A1 k1 c1] 41))))
          | (obtain ⟨fl, fhi, xs, ee, fr, f4, f5, f6, f7⟩ := hf; refine step_append_lies _ rfl (.tmp 21) (.tmp 23) 27 rfl w2.heap.size 41 i0 (.agg #[.int .i64 0, .slice none 0 0]) 2 32 Try.underlying27 hi hz0 hz1 hz2 rfl (by decide) _ _ _ rfl fr ⟨w2.heap.size, 0, none⟩ 1 1 [.int .i64 r0, .slice A1 k1 c1] rfl rfl (World.news_of_block (cs := #[.int .i64 r0, .slice A1 k1 c1]) hN2) (two_one rfl rfl) (by omega) (by unfold maxLen; omega) (by omega) (by omega) _ rfl ?_; intro gg cap w4 hown4 hgrow4 hat hlt)
          | (obtain ⟨fl, fhi, xs, ee, fr, f4, f5, f6, f7⟩ := hf.next (bnew w3 (.cells #[.int .i64 r0, .slice A1 k1 c1] 41)); refine step_append_lies _ rfl (.tmp 21) (.tmp 23) 27 rfl w2.heap.size 41 i0 (.agg #[.int .i64 0, .slice none 0 0]) 2 32 Try.underlying27 hi hz0 hz1 hz2 rfl (by decide) _ _ _ rfl fr ⟨w3.heap.size, 0, none⟩ 1 1 [.int .i64 r0, .slice A1 k1 c1] rfl rfl (World.news_of_block (cs := #[.int .i64 r0, .slice A1 k1 c1]) (heap_alloc_new w3 _)) (two_one rfl rfl) (by omega) (by unfold maxLen; omega) (by omega) (by simp; omega) _ rfl ?_; intro gg cap w4 hown4 hgrow4 hat hlt)
          | fail)
      all_goals
        go_wp2_with fail
        go_ret2
        refine ⟨some ⟨gg, 0, none⟩, cap, rfl, ?_, ?_⟩
        · first
            | exact ownTS_push (t := (r0, rz)) fl fhi fr f4 f5 f6 f7 ((HOW3.out.next (bstep hbx)).next (bnew _ _)) (by omega) hown4 hgrow4 (hat.imp id (fun e' => by rw [e']; simp)) hlt
            | exact ownTS_push (t := (r0, rz)) fl fhi fr f4 f5 f6 f7 (HOW3.out.next (bstep hbx)) (by omega) hown4 hgrow4 (hat.imp id (fun e' => by rw [e']; exact Nat.le_refl _)) hlt
            | fail
        · first
            | exact (bon (bon hb2 hb3) ((bon (bstep hbx) (bnew w3 _)).grown hgrow4 (by simp; omega) (fun j hj => (fr.lt j hj).1)))
            | exact (bon (bon hb2 hb3) ((bstep hbx).grown hgrow4 (by omega) (fun j hj => (fr.lt j hj).1)))
            | fail
end Go.Proofs.Ytapndnkcmmpdjaa
