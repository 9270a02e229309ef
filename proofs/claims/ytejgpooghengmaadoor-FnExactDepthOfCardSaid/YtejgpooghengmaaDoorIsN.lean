/-
  Nodes: what the program's isNode gives. Conditions: at most 2^20 numbers; the table nodeForms holds what the program's text lays.
-/
import Derived.Test.YtejgpooghengmaaDoorProof
import Derived.Test.YtejgpooghengmaaDoorSame
namespace Go.Proofs.YtejgpooghengmaaDoor
set_option linter.unusedVariables false
open Go.RowKit

/-- What the table of the kinds says: the letter, the last fact, whether there is a term, how many multipliers, how many subproofs. -/
def nformL : List (List UInt8 × Int × Bool × Nat × Nat) := [([], 0, false, 0, 0), ([99], 0, false, 20, 0), ([115], 0, true, 0, 2), ([116], 19, false, 0, 1)]
def nformAt (k : Nat) : List UInt8 × Int × Bool × Nat × Nat := nformL.getD k ([], 0, false, 0, 0)
/-- The table's cells. -/
def TabN (w : World) : Prop := ∀ k, k < 4 → w.cell? ⟨0, k * 5, none⟩ = some (.string ⟨(nformAt k).1.toArray⟩) ∧ w.cell? ⟨0, k * 5 + 1, none⟩ = some (.int .i64 (nformAt k).2.1) ∧
  w.cell? ⟨0, k * 5 + 2, none⟩ = some (.bool (nformAt k).2.2.1) ∧ w.cell? ⟨0, k * 5 + 3, none⟩ = some (.int .i64 ((nformAt k).2.2.2.1 : Int)) ∧
  w.cell? ⟨0, k * 5 + 4, none⟩ = some (.int .i64 ((nformAt k).2.2.2.2 : Int))
theorem TabN.next {w w' : World} (h : TabN w) (hb : Below w.heap.size w w') : TabN w' := fun k hk => by
  obtain ⟨a, b, c, d, e⟩ := h k hk
  exact ⟨cell_next a hb, cell_next b hb, cell_next c hb, cell_next d hb, cell_next e hb⟩
theorem TabN.drawn {w : World} (h : TabN w) (d : Nat) : TabN (w.drewN d) := h
theorem nform_forks : ∀ k, k ≤ 3 → 1 ≤ k → (nformAt k).2.2.2.2 = forks (k : Int)
  | 1, _, _ => rfl | 2, _, _ => rfl | 3, _, _ => rfl

theorem same_zerT (t : Int × List Int) : sameT t (0, []) = zerT t := by
  obtain ⟨c, zs⟩ := t
  unfold sameT zerT
  rw [show tmB (0, []) = true by decide, Bool.true_and]
  by_cases e : ((c, zs) : Int × List Int) = (0, [])
  · obtain ⟨rfl, rfl⟩ : c = 0 ∧ zs = [] := by simpa using e
    rfl
  · rw [decide_eq_false e, Bool.and_false, eq_comm, decide_eq_false_iff_not]
    rintro ⟨h1, h2⟩
    exact e (by rw [show c = 0 from h1, List.eq_nil_of_length_eq_zero (show zs.length = 0 from h2)])
theorem zer_tm {t : Int × List Int} (h : tmB t = false) : zerT t = false := by
  rw [← same_zerT]; unfold sameT; rw [h]; rfl
def nodeV (x : N5) (f : List UInt8 × Int × Bool × Nat × Nat) : Bool := decide (0 ≤ x.f ∧ x.f ≤ f.2.1) && ((f.2.2.1 && tmB x.t || zerT x.t) && (decide (x.m.length ≤ f.2.2.2.1) && btw 0 1000000 x.m))
theorem btw_nil : btw 0 1000000 [] = true := rfl
theorem len_zero (l : List Int) : (decide (l.length ≤ 0) && btw 0 1000000 l) = decide (l.length = 0) := by
  cases l with
  | nil => rfl
  | cons a l => simp
theorem nodeB_form (x : N5) : ∀ k : Nat, 1 ≤ k → k ≤ 3 → x.k = (k : Int) → nodeB x = nodeV x (nformAt k) := by
  obtain ⟨k', f, t, m⟩ := x
  intro k h1 h3 e
  have e : k' = (k : Int) := e
  subst e
  match k, h1, h3 with
  | 1, _, _ =>
    show ((f == 0) && (zerT t && mulsB m)) = (decide (0 ≤ f ∧ f ≤ 0) && ((false && tmB t || zerT t) && (decide (m.length ≤ 20) && btw 0 1000000 m)))
    unfold mulsB
    rw [Bool.false_and, Bool.false_or, Bool.and_comm (btw 0 1000000 m), show (f == 0) = decide (0 ≤ f ∧ f ≤ 0) by rw [Bool.eq_iff_iff]; simp; omega]
  | 2, _, _ =>
    show ((f == 0) && (tmB t && decide (m.length = 0))) = (decide (0 ≤ f ∧ f ≤ 0) && ((true && tmB t || zerT t) && (decide (m.length ≤ 0) && btw 0 1000000 m)))
    rw [len_zero, Bool.true_and, show (f == 0) = decide (0 ≤ f ∧ f ≤ 0) by rw [Bool.eq_iff_iff]; simp; omega]
    cases ht : tmB t with
    | true => rfl
    | false => rw [zer_tm ht]; rfl
  | 3, _, _ =>
    show (decide (0 ≤ f ∧ f ≤ 19) && (zerT t && decide (m.length = 0))) = (decide (0 ≤ f ∧ f ≤ 19) && ((false && tmB t || zerT t) && (decide (m.length ≤ 0) && btw 0 1000000 m)))
    rw [len_zero, Bool.false_and, Bool.false_or]
theorem nodeB_kind {x : N5} (h : ¬ (1 ≤ x.k ∧ x.k ≤ 3)) : nodeB x = false := by
  unfold nodeB
  rw [if_neg (by omega), if_neg (by omega), if_neg (by omega)]
theorem nodeB_is {x : N5} (h : nodeB x = true) : 1 ≤ x.k ∧ x.k ≤ 3 := Decidable.byContradiction fun hn => by rw [nodeB_kind hn] at h; cases h

theorem isBetween_n (n a c : Int) (w : World) : Calls Tryd.prog 53 #[.int .i64 n, .int .i64 a, .int .i64 c] w fun e w' => e = .returned (.bool (decide (a ≤ n ∧ n ≤ c))) ∧ w = w' := by
  by_cases z : a ≤ n
  · by_cases y : n ≤ c
    · rw [decide_eq_true ⟨z, y⟩]
      go_enter Tryd.func53, Tryd.ntmps53
      go_wp2_with fail
      go_ret
      exact ⟨ret_bool (by first | (simp; done) | (simp [z, y]; done)), rfl⟩
    · rw [decide_eq_false (fun h => y h.2)]
      go_enter Tryd.func53, Tryd.ntmps53
      go_wp2_with fail
      go_ret
      exact ⟨ret_bool (by first | (simp; done) | (simp [y]; done)), rfl⟩
  · rw [decide_eq_false (fun h => z h.1)]
    go_enter Tryd.func53, Tryd.ntmps53
    go_wp2_with fail
    go_ret
    exact ⟨ret_bool (by first | (simp; done) | (simp [z]; done)), rfl⟩

set_option maxRecDepth 100000 in
set_option maxHeartbeats 4000000 in
theorem isNode_c (x : N5) (A0 : Option Addr) (n0 c0 : Nat) (A1 : Option Addr) (n1 c1 : Nat) (B : Nat) (w : World) (hT : TabN w) (h0 : InL w B A0 n0 x.t.2) (h1 : InL w B A1 n1 x.m) (hB : B ≤ w.heap.size) (hx : x.tot ≤ 1048576) :
    Calls Tryd.prog 81 #[.agg #[.int .i64 x.k, .int .i64 x.f, .int .i64 x.t.1, .slice A0 n0 c0, .slice A1 n1 c1]] w fun e w' => e = .returned (.bool (nodeB x)) ∧ Below w.heap.size w w' := by
  unfold N5.tot at hx
  rw [h0.1, h1.1] at hx
  obtain ⟨k, f, ⟨tc, tz⟩, ms⟩ := x
  have h0 : InL w B A0 n0 tz := h0
  have h1 : InL w B A1 n1 ms := h1
  show Calls Tryd.prog 81 #[.agg #[.int .i64 k, .int .i64 f, .int .i64 tc, .slice A0 n0 c0, .slice A1 n1 c1]] w fun e w' => e = .returned (.bool (nodeB ⟨k, f, (tc, tz), ms⟩)) ∧ Below w.heap.size w w'
  have hb0 := bnew w (.cells #[.int .i64 k, .int .i64 f, .int .i64 tc, .slice A0 n0 c0, .slice A1 n1 c1] 76)
  have hP : BlkIs (w.alloc (.cells #[.int .i64 k, .int .i64 f, .int .i64 tc, .slice A0 n0 c0, .slice A1 n1 c1] 76)) w.heap.size 76 #[.int .i64 k, .int .i64 f, .int .i64 tc, .slice A0 n0 c0, .slice A1 n1 c1] := blk_new _ _ _ _ rfl
  have H0 := Lib.hid (h0.next hb0 hB)
  have H1 := Lib.hid (h1.next hb0 hB)
  by_cases hk : 1 ≤ k ∧ k ≤ 3
  · obtain ⟨hk1, hk3⟩ := hk
    obtain ⟨j, rfl⟩ := Int.eq_ofNat_of_zero_le (show 0 ≤ k by omega)
    have HV : Hid (nodeB ⟨(j : Int), f, (tc, tz), ms⟩ = nodeV ⟨(j : Int), f, (tc, tz), ms⟩ (nformAt j)) := nodeB_form _ j (by omega) (by omega) rfl
    rw [HV.out]
    obtain ⟨t0, t1, t2, t3, t4⟩ := hT.next hb0 j (by omega)
    have HLEN : Hid (ms.length = n1) := h1.1
    clear HV h0 h1 hT
    generalize nformAt j = F at t0 t1 t2 t3 t4 ⊢
    obtain ⟨ls, lf, tb, mu, su⟩ := F
    have t0 : (w.alloc (.cells #[.int .i64 (j : Int), .int .i64 f, .int .i64 tc, .slice A0 n0 c0, .slice A1 n1 c1] 76)).cell? ⟨0, j * 5, none⟩ = some (.string ⟨ls.toArray⟩) := t0
    have t1 : (w.alloc (.cells #[.int .i64 (j : Int), .int .i64 f, .int .i64 tc, .slice A0 n0 c0, .slice A1 n1 c1] 76)).cell? ⟨0, j * 5 + 1, none⟩ = some (.int .i64 lf) := t1
    have t2 : (w.alloc (.cells #[.int .i64 (j : Int), .int .i64 f, .int .i64 tc, .slice A0 n0 c0, .slice A1 n1 c1] 76)).cell? ⟨0, j * 5 + 2, none⟩ = some (.bool tb) := t2
    have t3 : (w.alloc (.cells #[.int .i64 (j : Int), .int .i64 f, .int .i64 tc, .slice A0 n0 c0, .slice A1 n1 c1] 76)).cell? ⟨0, j * 5 + 3, none⟩ = some (.int .i64 (mu : Int)) := t3
    have t4 : (w.alloc (.cells #[.int .i64 (j : Int), .int .i64 f, .int .i64 tc, .slice A0 n0 c0, .slice A1 n1 c1] 76)).cell? ⟨0, j * 5 + 4, none⟩ = some (.int .i64 (su : Int)) := t4
    show Calls Tryd.prog 81 _ w fun e w' => e = .returned (.bool (decide (0 ≤ f ∧ f ≤ lf) && ((tb && tmB (tc, tz) || zerT (tc, tz)) && (decide (ms.length ≤ mu) && btw 0 1000000 ms)))) ∧ Below w.heap.size w w'
    rw [HLEN.out]
    obtain ⟨b1, HB1⟩ : ∃ z, Hid (decide (0 ≤ f ∧ f ≤ lf) = z) := ⟨_, rfl⟩
    obtain ⟨b2, HB2⟩ : ∃ z, Hid (tmB (tc, tz) = z) := ⟨_, rfl⟩
    obtain ⟨b3, HB3⟩ : ∃ z, Hid (zerT (tc, tz) = z) := ⟨_, rfl⟩
    obtain ⟨b4, HB4⟩ : ∃ z, Hid (btw 0 1000000 ms = z) := ⟨_, rfl⟩
    rw [HB1.out, HB2.out, HB3.out, HB4.out]
    have HK0 := isBetween_n j 1 3 (w.alloc (.cells #[.int .i64 (j : Int), .int .i64 f, .int .i64 tc, .slice A0 n0 c0, .slice A1 n1 c1] 76))
    rw [decide_eq_true (by omega)] at HK0
    have HK := Lib.hid HK0
    clear HK0
    go_enter Tryd.func81, Tryd.ntmps81
    go_wp2_with fail
    generalize w.alloc (.cells #[.int .i64 (j : Int), .int .i64 f, .int .i64 tc, .slice A0 n0 c0, .slice A1 n1 c1] 76) = W at hb0 hP H0 H1 t0 t1 t2 t3 t4 HK ⊢
    have hsW := hb0.size
    have p0 := hP.cell 0
    simp at p0
    have hb1 := bnew W (.cells #[.string ⟨ls.toArray⟩, .int .i64 lf, .bool tb, .int .i64 (mu : Int), .int .i64 (su : Int)] 127)
    have hP1 := hP.next hb1
    have hR1 : BlkIs (W.alloc (.cells #[.string ⟨ls.toArray⟩, .int .i64 lf, .bool tb, .int .i64 (mu : Int), .int .i64 (su : Int)] 127)) W.heap.size 127 #[.string ⟨ls.toArray⟩, .int .i64 lf, .bool tb, .int .i64 (mu : Int), .int .i64 (su : Int)] := blk_new _ _ _ _ rfl
    have H01 := Lib.hid (H0.out.next hb1 (by omega))
    have H11 := Lib.hid (H1.out.next hb1 (by omega))
    have a1 : (W.alloc (.cells #[.string ⟨ls.toArray⟩, .int .i64 lf, .bool tb, .int .i64 (mu : Int), .int .i64 (su : Int)] 127)).cell? ⟨w.heap.size, 1, none⟩ = some (.int .i64 f) := hP1.cell 1
    have r1 : (W.alloc (.cells #[.string ⟨ls.toArray⟩, .int .i64 lf, .bool tb, .int .i64 (mu : Int), .int .i64 (su : Int)] 127)).cell? ⟨W.heap.size, 1, none⟩ = some (.int .i64 lf) := hR1.cell 1
    clear H0 H1 hP
    refine HK.out.mono ?_
    rintro e9 w9 ⟨rfl, rfl⟩
    clear HK
    go_wp2_with fail
    have hb01 := bon hb0 hb1
    generalize W.alloc (.cells #[.string ⟨ls.toArray⟩, .int .i64 lf, .bool tb, .int .i64 (mu : Int), .int .i64 (su : Int)] 127) = W2 at hb1 hP1 hR1 H01 H11 a1 r1 hb01 ⊢
    have hs2 := hb1.size
    have C1 := isBetween_n f 0 lf W2
    have C2 := implValid_c tc A0 n0 c0 B tz W2 H01.out.2 (by omega) H01.out.1 (by omega)
    rw [HB1.out] at C1
    rw [HB2.out] at C2
    have CC1 := Lib.hid C1
    have CC2 := Lib.hid C2
    clear C1 C2 HB1
    have a2 : W2.cell? ⟨w.heap.size, 2, none⟩ = some (.int .i64 tc) := hP1.cell 2
    have a3 : W2.cell? ⟨w.heap.size, 3, none⟩ = some (.slice A0 n0 c0) := hP1.cell 3
    have r2 : W2.cell? ⟨W.heap.size, 2, none⟩ = some (.bool tb) := hR1.cell 2
    refine CC1.out.mono ?_
    rintro e9 w9 ⟨rfl, rfl⟩
    cases b1
    · go_wp2_with fail
      go_ret
      exact ⟨rfl, hb01⟩
    -- behind the term
    have HEND : Hid (∀ (w4 : World), Below W2.heap.size W2 w4 → (w4.cell? ⟨w.heap.size, 4, none⟩ = some (.slice A1 n1 c1) ∧ w4.cell? ⟨W.heap.size, 3, none⟩ = some (.int .i64 (mu : Int)) ∧ (Calls Tryd.prog 98 #[.slice A1 n1 c1, .int .i64 0, .int .i64 1000000] w4 fun e w' => e = .returned (.bool b4) ∧ w4 = w') ∧ Below w.heap.size w w4)) := fun w4 hb4 => by
      refine ⟨(hP1.next hb4).cell 4, (hR1.next hb4).cell 3, ?_, bon hb01 hb4⟩
      have := areBetween_c A1 n1 c1 B 0 1000000 ms w4 (H11.out.next hb4 (by omega)).2 (H11.out.next hb4 (by omega)).1 (by omega)
      rwa [HB4.out] at this
    have HSAME : Hid (∀ (w3 : World), Below W2.heap.size W2 w3 → (Calls Tryd.prog 97 #[.agg #[.int .i64 tc, .slice A0 n0 c0], .agg #[.int .i64 0, .slice none 0 0]] w3 fun e w' => e = .returned (.bool b3) ∧ Below w3.heap.size w3 w') ∧ w3.cell? ⟨w.heap.size, 2, none⟩ = some (.int .i64 tc) ∧ w3.cell? ⟨w.heap.size, 3, none⟩ = some (.slice A0 n0 c0)) := fun w3 hb3 => by
      refine ⟨?_, (hP1.next hb3).cell 2, (hP1.next hb3).cell 3⟩
      have := implSame_c tc A0 n0 c0 tz 0 none 0 0 [] w3 ((H01.out.next hb3 (by omega)).more (Nat.le_trans (by omega) hb3.size)) (by omega) ⟨rfl, Row.nil⟩ (by omega)
      rwa [same_zerT, HB3.out] at this
    clear hP1 hR1 H01 H11 HB2 HB4
    have hbr := Below.refl W2.heap.size W2
    cases tb
    · obtain ⟨CS, _, _⟩ := HSAME.out W2 hbr
      have CCS := Lib.hid CS
      clear CS HSAME CC2
      go_wp2_with fail
      refine CCS.out.mono ?_
      rintro e9 w4 ⟨rfl, hb4⟩
      obtain ⟨g4, g3, CE, hbe⟩ := HEND.out w4 hb4
      have CCE := Lib.hid CE
      clear CE HEND a1 r1 a2 a3 r2
      cases b3
      · go_wp2_with fail
        go_ret
        exact ⟨rfl, hbe⟩
      · by_cases hl : n1 ≤ mu
        · have hl' : (n1 : Int) ≤ (mu : Int) := by omega
          go_wp2_with fail
          refine CCE.out.mono ?_
          rintro e9 w9 ⟨rfl, rfl⟩
          go_wp2_with fail
          go_ret
          exact ⟨ret_bool (by simp [hl]), hbe⟩
        · have hl' : ¬ (n1 : Int) ≤ (mu : Int) := by omega
          go_wp2_with fail
          go_ret
          exact ⟨ret_bool (by simp [hl]), hbe⟩
    · go_wp2_with fail
      refine CC2.out.mono ?_
      rintro e9 w3 ⟨rfl, hb3⟩
      cases b2
      · obtain ⟨CS, s2, s3⟩ := HSAME.out w3 hb3
        have CCS := Lib.hid CS
        clear CS HSAME CC2
        go_wp2_with fail
        refine CCS.out.mono ?_
        rintro e9 w4 ⟨rfl, hb4⟩
        obtain ⟨g4, g3, CE, hbe⟩ := HEND.out w4 (bon hb3 hb4)
        have CCE := Lib.hid CE
        clear CE HEND a1 r1 a2 a3 r2
        cases b3
        · go_wp2_with fail
          go_ret
          exact ⟨rfl, hbe⟩
        · by_cases hl : n1 ≤ mu
          · have hl' : (n1 : Int) ≤ (mu : Int) := by omega
            go_wp2_with fail
            refine CCE.out.mono ?_
            rintro e9 w9 ⟨rfl, rfl⟩
            go_wp2_with fail
            go_ret
            exact ⟨ret_bool (by simp [hl]), hbe⟩
          · have hl' : ¬ (n1 : Int) ≤ (mu : Int) := by omega
            go_wp2_with fail
            go_ret
            exact ⟨ret_bool (by simp [hl]), hbe⟩
      · obtain ⟨g4, g3, CE, hbe⟩ := HEND.out w3 hb3
        have CCE := Lib.hid CE
        clear CE HEND HSAME CC2 a1 r1 a2 a3 r2
        by_cases hl : n1 ≤ mu
        · have hl' : (n1 : Int) ≤ (mu : Int) := by omega
          go_wp2_with fail
          refine CCE.out.mono ?_
          rintro e9 w9 ⟨rfl, rfl⟩
          go_wp2_with fail
          go_ret
          exact ⟨ret_bool (by simp [hl]), hbe⟩
        · have hl' : ¬ (n1 : Int) ≤ (mu : Int) := by omega
          go_wp2_with fail
          go_ret
          exact ⟨ret_bool (by simp [hl]), hbe⟩
  · have HV := Lib.hid (nodeB_kind (x := ⟨k, f, (tc, tz), ms⟩) hk)
    have HK0 := isBetween_n k 1 3 (w.alloc (.cells #[.int .i64 k, .int .i64 f, .int .i64 tc, .slice A0 n0 c0, .slice A1 n1 c1] 76))
    rw [decide_eq_false hk] at HK0
    have HK := Lib.hid HK0
    have p0 : (w.alloc (.cells #[.int .i64 k, .int .i64 f, .int .i64 tc, .slice A0 n0 c0, .slice A1 n1 c1] 76)).cell? ⟨w.heap.size, 0, none⟩ = some (.int .i64 k) := hP.cell 0
    clear HK0 h0 h1 H0 H1 hP
    rw [HV.out]
    clear HV
    go_enter Tryd.func81, Tryd.ntmps81
    go_wp2_with fail
    refine HK.out.mono ?_
    rintro e9 w9 ⟨rfl, rfl⟩
    go_wp2_with fail
    go_ret
    exact ⟨rfl, hb0⟩
end Go.Proofs.YtejgpooghengmaaDoor
