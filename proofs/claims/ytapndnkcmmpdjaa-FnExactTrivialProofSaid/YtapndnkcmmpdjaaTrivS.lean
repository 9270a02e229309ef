/-
  The model's TrivialProof. Conditions: at most 2^20 terms and coefficients.
-/
import Derived.Test.YtapndnkcmmpdjaaTriv
namespace Go.Proofs.Ytapndnkcmmpdjaa
set_option linter.unusedVariables false
open Go.RowKit

theorem own_noIntsN {w : World} {base n : Nat} {v : Value} {xs : List Value} (h : w.ownsRow base 79 5 v n xs) : ∀ k cs, v.ownBlock = some k → w.heap[k]? ≠ some (.cells cs 2 (0, 0)) := by
  intro k cs e hk
  rcases h.2 with ⟨rfl, _⟩ | ⟨g, cap, cur, rfl, _, h3, _⟩
  · cases e
  · obtain rfl : g = k := by have e' : some g = some k := e; injection e'
    rw [h3] at hk
    injection hk with hk
    injection hk with h1 h2
    cases h2
/-- The nodes that are tried, in a row. -/
def TrRow (w : World) (base : Nat) (v : Value) (k n : Nat) (Ss : List (List Nat)) : Prop :=
  Ss.length = k ∧ ∃ xs, w.ownsRow base 79 5 v k xs ∧ ∀ j S, Ss[j]? = some S → xs[j * 5]? = some (.int .i64 1) ∧ xs[j * 5 + 1]? = some (.int .i64 0) ∧ xs[j * 5 + 2]? = some (.int .i64 0) ∧ xs[j * 5 + 3]? = some (.slice none 0 0) ∧ ∃ A c, xs[j * 5 + 4]? = some (.slice A n c) ∧ IntL w A n (vecS n S)
section
variable {w w' : World} {base k n : Nat} {v : Value} {Ss : List (List Nat)}
theorem TrRow.next (h : TrRow w base v k n Ss) (hb : Below w.heap.size w w') : TrRow w' base v k n Ss := by
  obtain ⟨h1, xs, h3, h4⟩ := h
  refine ⟨h1, xs, own_below h3 hb, fun j S hj => ?_⟩
  obtain ⟨a0, a1, a2, a3, A, c, b, i⟩ := h4 j S hj
  exact ⟨a0, a1, a2, a3, A, c, b, i.next hb⟩
theorem TrRow.push {S : List Nat} {A : Option Addr} {c : Nat} {v' : Value} {xs : List Value} (hl : Ss.length = k) (hi : IntL w A n (vecS n S)) (hx : w.ownsRow base 79 5 v k xs)
    (hxs : ∀ j S, Ss[j]? = some S → xs[j * 5]? = some (.int .i64 1) ∧ xs[j * 5 + 1]? = some (.int .i64 0) ∧ xs[j * 5 + 2]? = some (.int .i64 0) ∧ xs[j * 5 + 3]? = some (.slice none 0 0) ∧ ∃ A c, xs[j * 5 + 4]? = some (.slice A n c) ∧ IntL w A n (vecS n S))
    (hr : w'.ownsRow base 79 5 v' (k + 1) (xs ++ [.int .i64 1, .int .i64 0, .int .i64 0, .slice none 0 0, .slice A n c])) (hg : w.grownBy w' v.ownBlock) : TrRow w' base v' (k + 1) n (Ss ++ [S]) := by
  have hno := own_noIntsN hx
  have hxl := hx.1
  refine ⟨by simp [hl], _, hr, fun j U hj => ?_⟩
  by_cases hjn : j < Ss.length
  · rw [List.getElem?_append_left hjn] at hj
    obtain ⟨a0, a1, a2, a3, A', c', b, i⟩ := hxs j U hj
    refine ⟨?_, ?_, ?_, ?_, A', c', ?_, i.kept hg hno⟩ <;> rw [List.getElem?_append_left (by omega)] <;> assumption
  · have hjl := (List.getElem?_eq_some_iff.1 hj).1
    have hje : j = Ss.length := by simp at hjl; omega
    subst hje
    rw [List.getElem?_append_right (Nat.le_refl _), Nat.sub_self] at hj
    obtain rfl : S = U := by simpa using hj
    refine ⟨?_, ?_, ?_, ?_, A, c, ?_, hi.kept hg hno⟩
    · rw [List.getElem?_append_right (by omega), show Ss.length * 5 - xs.length = 0 by omega]; rfl
    · rw [List.getElem?_append_right (by omega), show Ss.length * 5 + 1 - xs.length = 1 by omega]; rfl
    · rw [List.getElem?_append_right (by omega), show Ss.length * 5 + 2 - xs.length = 2 by omega]; rfl
    · rw [List.getElem?_append_right (by omega), show Ss.length * 5 + 3 - xs.length = 3 by omega]; rfl
    · rw [List.getElem?_append_right (by omega), show Ss.length * 5 + 4 - xs.length = 4 by omega]; rfl
theorem five_one (A : Option Addr) (n c : Nat) : ∀ u ∈ [Value.int .i64 1, .int .i64 0, .int .i64 0, .slice none 0 0, .slice A n c], u.oneCell' = true := by
  intro u hu; simp at hu; rcases hu with rfl | rfl | rfl | rfl | rfl <;> rfl
end
theorem closeN_in {w : World} {g n c : Nat} {A : Option Addr} {S : List Nat} (hb : BlkIs w g 79 #[.int .i64 1, .int .i64 0, .int .i64 0, .slice none 0 0, .slice A n c]) (hi : InL w w.heap.size A n (vecS n S)) : InN5 w w.heap.size (some ⟨g, 0, none⟩) 1 [closeN n S] := by
  refine ⟨rfl, fun j x hj => ?_⟩
  have hjl := (List.getElem?_eq_some_iff.1 hj).1
  obtain rfl : j = 0 := by simp at hjl; omega
  obtain rfl : closeN n S = x := by simpa using hj
  exact ⟨g, 0, rfl, hb.lt, none, 0, 0, A, n, c, hb.cell 0, hb.cell 1, hb.cell 2, hb.cell 3, hb.cell 4, ⟨rfl, Row.nil⟩, hi⟩

set_option maxRecDepth 100000 in
set_option maxHeartbeats 8000000 in
theorem specTrivial_c (c0 : Int) (A : Option Addr) (n c B : Nat) (ts : List (Int × List Int)) (D : Option Addr) (m d : Nat) (zs : List Int) (w : World) (h : InTS w B A n ts) (hl : InL w B D m zs) (hB : B ≤ w.heap.size)
    (hn : n ≤ 1048576) (he : totT ts ≤ 1048576) (hm : m ≤ 1048576) :
    Calls Try.prog 25 #[.agg #[.slice A n c, .int .i64 c0, .slice D m d]] w fun e w' => ∃ A' c', e = .returned (.tuple #[.slice A' (trivR ts (c0, zs)).1.length c', .bool (trivR ts (c0, zs)).2]) ∧ InN5 w' w'.heap.size A' (trivR ts (c0, zs)).1.length (trivR ts (c0, zs)).1 ∧ Below w.heap.size w w' := by
  obtain ⟨i0, hi, hz0, hz1, hz2⟩ := info_parts infoNode
  have hb0 := bnew w (.cells #[.slice A n c, .int .i64 c0, .slice D m d] 43)
  have hP : BlkIs (w.alloc (.cells #[.slice A n c, .int .i64 c0, .slice D m d] 43)) w.heap.size 43 #[.slice A n c, .int .i64 c0, .slice D m d] := blk_new _ _ _ _ rfl
  have q0 : (w.alloc (.cells #[.slice A n c, .int .i64 c0, .slice D m d] 43)).cell? ⟨w.heap.size, 0, none⟩ = some (.slice A n c) := hP.cell 0
  have q1 : (w.alloc (.cells #[.slice A n c, .int .i64 c0, .slice D m d] 43)).cell? ⟨w.heap.size, 0 + 1, none⟩ = some (.int .i64 c0) := hP.cell 1
  have q2 : (w.alloc (.cells #[.slice A n c, .int .i64 c0, .slice D m d] 43)).cell? ⟨w.heap.size, 0 + 1 + 1, none⟩ = some (.slice D m d) := hP.cell 2
  have h1 := h.next hb0 hB
  have h2 := hl.next hb0 hB
  have hlt := hP.lt
  have HS := Lib.hid (l02Sequent_c w.heap.size 0 c0 A n c B ts D m d zs _ q0 q1 q2 h1 h2 hn he hm)
  cases hv : seqB ts (c0, zs) with
  | false =>
    rw [hv] at HS
    have HX := Lib.hid (trivR_no (ts := ts) (g := (c0, zs)) (by rw [ctxR_no0 hv]))
    rw [HX.out]
    clear h h1 h2 hv hl q0 q1 q2 hP
    go_enter Try.func25, Try.ntmps25
    go_wp2_with fail
    refine HS.out.mono ?_
    rintro e w1 ⟨rfl, rfl⟩
    go_wp2_with fail
    go_ret2
    exact ⟨none, 0, rfl, ⟨rfl, fun j x hj => by simp at hj⟩, hb0⟩
  | true =>
    rw [hv] at HS
    have HC := Lib.hid (l02Context_c w.heap.size 0 c0 A n c B ts D m d zs _ hlt q0 q1 q2 h1 h2 (Nat.le_trans hB hb0.size) hv)
    obtain ⟨T, HT⟩ : ∃ T, Hid (trivR ts (c0, zs) = T) := ⟨_, rfl⟩
    rw [HT.out]
    obtain ⟨R, HR⟩ : ∃ R, Hid (ctxR ts (c0, zs) = R) := ⟨_, rfl⟩
    rw [HR.out] at HC
    obtain ⟨rs, rb⟩ := R
    cases rb with
    | false =>
      have HX : Hid (T = ([], false)) := HT.out.symm.trans (trivR_no (by rw [HR.out]))
      obtain rfl := HX.out
      clear h h1 h2 hv hl q0 q1 q2 hP HR HT HX
      go_enter Try.func25, Try.ntmps25
      go_wp2_with fail
      refine HS.out.mono ?_
      rintro e w1 ⟨rfl, rfl⟩
      go_wp2_with fail
      refine HC.out.mono ?_
      rintro e w1 ⟨A1, c1, rfl, hin, hb1⟩
      go_wp2_with fail
      go_ret2
      exact ⟨none, 0, rfl, ⟨rfl, fun j x hj => by simp at hj⟩, bon hb0 hb1⟩
    | true =>
      have hok := ctxR_ok (ts := ts) (g := (c0, zs)) (by rw [HR.out])
      rw [HR.out] at hok
      obtain ⟨hok1, hok2, hok3⟩ := hok
      simp only at hok1 hok2 hok3
      have HX : Hid (T = trivN rs) := HT.out.symm.trans (by rw [trivR_yes (by rw [HR.out]), HR.out])
      have HV := Lib.hid hok1
      obtain ⟨N, hN⟩ : ∃ N, rs.length = N := ⟨_, rfl⟩
      have HN := Lib.hid hN
      have hN1 : 1 ≤ N := by omega
      have hN14 : N ≤ 14 := by omega
      simp only [hN] at HC
      clear h h1 h2 hv hl q0 q1 q2 hP HR HT hok1 hok2 hok3 hN
      go_enter Try.func25, Try.ntmps25
      go_wp2_with fail
      refine HS.out.mono ?_
      rintro e w1 ⟨rfl, rfl⟩
      go_wp2_with fail
      refine HC.out.mono ?_
      rintro e w1 ⟨A1, c1, rfl, hin, hb1⟩
      have hb01 := bon hb0 hb1
      have HIN := Lib.hid hin
      have HL0 := Lib.hid (l05Close_c N (some (N - 1)) none w1 (by omega) (fun k hk => by injection hk; omega) (fun k hk => by cases hk))
      rw [oi_some, oi_none, show (((N - 1 : Nat) : Int)) = (N : Int) - 1 by omega] at HL0
      clear hin HS HC hb1
      go_wp2_with fail
      refine HL0.out.mono ?_
      rintro e w2 ⟨g, rfl, ho, hb2⟩
      have hs2 := hb2.size
      have hbn := bnew w2 (.cells #[.int .i64 1, .int .i64 0, .int .i64 0, .slice none 0 0, .slice (some ⟨g, 0, none⟩) N N] 79)
      have hrow : TrRow (w2.alloc (.cells #[.int .i64 1, .int .i64 0, .int .i64 0, .slice none 0 0, .slice (some ⟨g, 0, none⟩) N N] 79)) w1.heap.size (.slice (some ⟨w2.heap.size, 0, none⟩) 1 1) (1 + 0) N ((candS N).take (1 + 0)) := by
        refine ⟨by simp [candS], _, own_full (base := w1.heap.size) #[.int .i64 1, .int .i64 0, .int .i64 0, .slice none 0 0, .slice (some ⟨g, 0, none⟩) N N] 79 5 1 hs2 (by unfold maxLen; omega) rfl, fun j S hj => ?_⟩
        have hjl := (List.getElem?_eq_some_iff.1 hj).1
        obtain rfl : j = 0 := by simp at hjl; omega
        obtain rfl : [N - 1] = S := by simpa [candS] using hj
        exact ⟨rfl, rfl, rfl, rfl, some ⟨g, 0, none⟩, N, rfl, (IntL.of_own ho).next hbn⟩
      have hb3 := bon hb2 hbn
      clear ho hb2 hbn HL0
      go_wp2_with fail
      generalize w2.alloc (.cells #[.int .i64 1, .int .i64 0, .int .i64 0, .slice none 0 0, .slice (some ⟨g, 0, none⟩) N N] 79) = W at hrow hb3 ⊢
      go_loopw [7, 8] (fun v i wr => ∃ k : Nat, k ≤ N - 1 ∧ i = .int .i64 k ∧ TrRow wr w1.heap.size v (1 + k) N ((candS N).take (1 + k)) ∧ Below w1.heap.size w1 wr) (fun _ i _ => N - 1 - (intOf i).toNat)
      case atStart => exact ⟨0, Nat.zero_le _, rfl, hrow, hb3⟩
      case round =>
        clear hrow hb3
        obtain ⟨k, hk, rfl, hrow, hbel⟩ := hrel
        have hsz := hbel.size
        by_cases hlt1 : k < N - 1
        · have hlt2 : (k : Int) < (N : Int) - 1 := by omega
          have HLC := Lib.hid (l05Close_c N none (some k) wr (by omega) (fun k hk => by cases hk) (fun q hq => by injection hq; omega))
          rw [oi_some, oi_none] at HLC
          have HTK := Lib.hid (take_more (candS_1 hlt1))
          have HROW := Lib.hid hrow
          clear hrow
          go_wp2_with fail
          refine HLC.out.mono ?_
          rintro e w3 ⟨g3, rfl, ho, hb4⟩
          have hs3 := hb4.size
          have hbn := bnew w3 (.cells #[.int .i64 1, .int .i64 0, .int .i64 0, .slice none 0 0, .slice (some ⟨g3, 0, none⟩) N N] 79)
          obtain ⟨fl, xs, fr, fx⟩ := (HROW.out.next hb4).next hbn
          have HI3 := Lib.hid ((IntL.of_own ho).next hbn)
          have FX := Lib.hid fx
          have hb5 := bon (bon hbel hb4) hbn
          clear ho fx HLC HROW
          go_wp2_with (at_builtin; refine wpList_append_own _ rfl (.tmp 32) (.tmp 36) 50 rfl w1.heap.size 79 i0 (.agg #[.int .i64 0, .int .i64 0, .int .i64 0, .slice none 0 0, .slice none 0 0]) 5 72 Try.underlying50 hi hz0 hz1 hz2 rfl (by decide) _ _ _ rfl fr ⟨w3.heap.size, 0, none⟩ 1 1 [.int .i64 1, .int .i64 0, .int .i64 0, .slice none 0 0, .slice (some ⟨g3, 0, none⟩) N N] rfl rfl (World.news_of_block (cs := #[.int .i64 1, .int .i64 0, .int .i64 0, .slice none 0 0, .slice (some ⟨g3, 0, none⟩) N N]) (heap_alloc_new w3 _)) (five_one _ _ _) (by unfold maxLen; omega) (by omega) (by simp; omega) ?_; intro v4 w4 hown4 hgrow4 _)
          have hrow4 := TrRow.push (S := [k]) fl HI3.out fr FX.out hown4 hgrow4
          rw [← HTK.out] at hrow4
          have hb6 : Below w1.heap.size w1 w4 := hb5.grown hgrow4 (by simp; omega) (fun j hj => (fr.lt j hj).1)
          clear hown4 hgrow4 fr FX HI3
          go_wp2_with fail
          go_roundw
          case rel => exact ⟨k + 1, by omega, by go_num, hrow4, hb6⟩
          case measure => simp [intOf]; omega
        · have e : k = N - 1 := by omega
          have hlt2 : ¬ (k : Int) < (N : Int) - 1 := by omega
          have hrow1 := hrow
          rw [show 1 + k = N + 0 by omega] at hrow1
          clear hrow
          go_wp2_with fail
          go_loopw [7, 9] (fun v i wr => ∃ k : Nat, k ≤ N - 1 ∧ i = .int .i64 k ∧ TrRow wr w1.heap.size v (N + k) N ((candS N).take (N + k)) ∧ Below w1.heap.size w1 wr) (fun _ i _ => N - 1 - (intOf i).toNat)
          case atStart => exact ⟨0, Nat.zero_le _, rfl, hrow1, hbel⟩
          case round =>
            clear hrow1 hbel hlt2 hlt1 e hk hsz
            obtain ⟨k, hk, rfl, hrow, hbel⟩ := hrel
            have hsz := hbel.size
            by_cases hlt1 : k < N - 1
            · have hlt2 : (k : Int) < (N : Int) - 1 := by omega
              have HLC := Lib.hid (l05Close_c N (some (N - 1)) (some k) wr (by omega) (fun q hq => by injection hq; omega) (fun q hq => by injection hq; omega))
              rw [oi_some, oi_some, show (((N - 1 : Nat) : Int)) = (N : Int) - 1 by omega, vecS_same (S' := [k, N - 1]) (fun j => by simp; omega)] at HLC
              have HTK := Lib.hid (take_more (candS_2 hlt1))
              have HROW := Lib.hid hrow
              clear hrow
              go_wp2_with fail
              refine HLC.out.mono ?_
              rintro e w3 ⟨g3, rfl, ho, hb4⟩
              have hs3 := hb4.size
              have hbn := bnew w3 (.cells #[.int .i64 1, .int .i64 0, .int .i64 0, .slice none 0 0, .slice (some ⟨g3, 0, none⟩) N N] 79)
              obtain ⟨fl, xs, fr, fx⟩ := (HROW.out.next hb4).next hbn
              have HI3 := Lib.hid ((IntL.of_own ho).next hbn)
              have FX := Lib.hid fx
              have hb5 := bon (bon hbel hb4) hbn
              clear ho fx HLC HROW
              go_wp2_with (at_builtin; refine wpList_append_own _ rfl (.tmp 44) (.tmp 50) 50 rfl w1.heap.size 79 i0 (.agg #[.int .i64 0, .int .i64 0, .int .i64 0, .slice none 0 0, .slice none 0 0]) 5 72 Try.underlying50 hi hz0 hz1 hz2 rfl (by decide) _ _ _ rfl fr ⟨w3.heap.size, 0, none⟩ 1 1 [.int .i64 1, .int .i64 0, .int .i64 0, .slice none 0 0, .slice (some ⟨g3, 0, none⟩) N N] rfl rfl (World.news_of_block (cs := #[.int .i64 1, .int .i64 0, .int .i64 0, .slice none 0 0, .slice (some ⟨g3, 0, none⟩) N N]) (heap_alloc_new w3 _)) (five_one _ _ _) (by unfold maxLen; omega) (by omega) (by simp; omega) ?_; intro v4 w4 hown4 hgrow4 _)
              have hrow4 := TrRow.push (S := [k, N - 1]) fl HI3.out fr FX.out hown4 hgrow4
              rw [← HTK.out] at hrow4
              have hb6 : Below w1.heap.size w1 w4 := hb5.grown hgrow4 (by simp; omega) (fun j hj => (fr.lt j hj).1)
              clear hown4 hgrow4 fr FX HI3
              go_wp2_with fail
              go_roundw
              case rel => exact ⟨k + 1, by omega, by go_num, hrow4, hb6⟩
              case measure => simp [intOf]; omega
            · have e : k = N - 1 := by omega
              have hlt2 : ¬ (k : Int) < (N : Int) - 1 := by omega
              obtain ⟨K, hK⟩ : ∃ K, K = N + k := ⟨_, rfl⟩
              have hcl := candS_len hN1
              have HK := Lib.hid (show K = (candS N).length by omega)
              have hK30 : K ≤ 30 := by omega
              have hK0 : 0 < K := by omega
              rw [← hK] at hrow
              rw [List.take_of_length_le (by omega)] at hrow
              obtain ⟨fl, xs, fr, fx⟩ := hrow
              obtain ⟨gt, capt, rfl, hgt1, hgt2⟩ := fr.form hK0
              have HROW : Hid (TrRow wr w1.heap.size (.slice (some ⟨gt, 0, none⟩) K capt) K N (candS N)) := ⟨fl, xs, fr, fx⟩
              clear fl fr fx hK hcl
              go_wp2_with fail
              obtain ⟨w5, hw5⟩ : ∃ z, z = wr := ⟨_, rfl⟩
              rw [← hw5] at HROW hbel hsz hgt2 ⊢
              clear hw5
              go_loopw [10] (fun i wr => ∃ q : Nat, q ≤ K ∧ i = .int .i64 q ∧ Hid (∀ j S, j < q → (candS N)[j]? = some S → closesB rs (vecS N S) = false) ∧ Below w5.heap.size w5 wr) (fun i _ => K - (intOf i).toNat)
              case atStart => exact ⟨0, Nat.zero_le _, rfl, fun j S hj => by omega, Below.refl _ _⟩
              case round =>
                obtain ⟨q, hq, rfl, HNO, hbq⟩ := hrel
                have hsq := hbq.size
                by_cases hlq : q < K
                · obtain ⟨S, hS⟩ : ∃ S, (candS N)[q]? = some S := ⟨_, List.getElem?_eq_getElem (by have := HK.out; omega)⟩
                  obtain ⟨fl, xs, fr, fx⟩ := HROW.out.next hbq
                  obtain ⟨a0, a1, a2, a3, AS, cS, a4, iS⟩ := fx q S hS
                  have hxl := fr.1
                  have d0 := (fr.cellAt (q * 5) (by omega)).trans a0
                  have d1 := (fr.cellAt (q * 5 + 1) (by omega)).trans a1
                  have d2 := (fr.cellAt (q * 5 + 2) (by omega)).trans a2
                  have d3 := (fr.cellAt (q * 5 + 3) (by omega)).trans a3
                  have d4 := (fr.cellAt (q * 5 + 4) (by omega)).trans a4
                  have HCL := Lib.hid (l05Closes_c A1 N c1 wr.heap.size rs AS N cS (vecS N S) wr ((HIN.out.next (hbel.trans (hbq.mono hsz)) (Nat.le_refl _)).more (by omega)) iS.inn (Nat.le_refl _) HV.out (by omega) (vecS_btw _ _))
                  have HIS := Lib.hid iS.inn
                  have HSS := Lib.hid hS
                  clear fl fr fx a0 a1 a2 a3 a4 iS hxl hS
                  cases hcb : closesB rs (vecS N S) with
                  | true =>
                    rw [hcb] at HCL
                    have HF : Hid (trivN rs = ([closeN N S], true)) := by
                      show _ = _
                      unfold trivN
                      rw [HN.out, find_at (k := q) (x := S) HNO.out HSS.out hcb]
                    have HTT := Lib.hid (HX.out.trans HF.out)
                    clear hcb
                    go_wp2_with fail
                    refine HCL.out.mono ?_
                    rintro e w6 ⟨rfl, hb6⟩
                    replace d0 := cell_next d0 hb6
                    replace d1 := cell_next d1 hb6
                    replace d2 := cell_next d2 hb6
                    replace d3 := cell_next d3 hb6
                    replace d4 := cell_next d4 hb6
                    have hbn := bnew w6 (.cells #[.int .i64 1, .int .i64 0, .int .i64 0, .slice none 0 0, .slice AS N cS] 79)
                    go_wp2_with fail
                    go_ret2
                    rw [HTT.out]
                    exact ⟨some ⟨w6.heap.size, 0, none⟩, 1, rfl, closeN_in (blk_new _ _ _ _ rfl) (((HIS.out.next hb6 (Nat.le_refl _)).next hbn hb6.size).more (Nat.le_trans hb6.size hbn.size)), bon (bon hb01 (hbel.trans (hbq.mono hsz))) (bon hb6 hbn)⟩
                  | false =>
                    rw [hcb] at HCL
                    have HNO2 : Hid (∀ j S, j < q + 1 → (candS N)[j]? = some S → closesB rs (vecS N S) = false) := fun j U hj hU => by
                      by_cases e1 : j < q
                      · exact HNO.out j U e1 hU
                      · obtain rfl : j = q := by omega
                        rw [HSS.out] at hU
                        obtain rfl := Option.some.inj hU
                        exact hcb
                    clear hcb
                    go_wp2_with fail
                    refine HCL.out.mono ?_
                    rintro e w6 ⟨rfl, hb6⟩
                    go_wp2_with fail
                    go_roundw
                    case rel => exact ⟨q + 1, by omega, by go_num, HNO2, bon hbq hb6⟩
                    case measure => simp [intOf]; omega
                · have e : q = K := by omega
                  have HF : Hid (trivN rs = ([], false)) := by
                    show _ = _
                    unfold trivN
                    rw [HN.out, find_no (fun j S hj hS => HNO.out j S (by have := HK.out; omega) hS)]
                  have HTT := Lib.hid (HX.out.trans HF.out)
                  go_wp2_with fail
                  go_ret2
                  rw [HTT.out]
                  exact ⟨none, 0, rfl, ⟨rfl, fun j x hj => by simp at hj⟩, bon hb01 (hbel.trans (hbq.mono hsz))⟩
end Go.Proofs.Ytapndnkcmmpdjaa
