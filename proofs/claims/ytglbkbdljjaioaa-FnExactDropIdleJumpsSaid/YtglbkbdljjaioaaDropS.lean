/-
  The model's DropPoint. Conditions: at most 2^20 elements and numbers.
-/
import Derived.Test.YtglbkbdljjaioaaPtOwn
import Derived.Test.YtglbkbdljjaioaaAnnV
namespace Go.Proofs.Ytglbkbdljjaioaa
set_option linter.unusedVariables false
open Go.RowKit

theorem oversB_small {ts : List (Int × List Int)} (h : oversB 6 ts = true) : ts.length ≤ 1000 ∧ ∀ t ∈ ts, t.2.length ≤ 100000 := by
  unfold oversB at h
  simp only [Bool.and_eq_true, decide_eq_true_eq, List.all_eq_true] at h
  refine ⟨by omega, fun t ht => ?_⟩
  have := h.1 t ht
  unfold overB at this
  simp only [Bool.and_eq_true, decide_eq_true_eq] at this
  omega
theorem ptsF_small {len : Int} : ∀ {ps : List P2} {l : Int}, ptsF len l ps = true → ∀ p ∈ ps, p.s.length ≤ 1000 ∧ ∀ t ∈ p.s, t.2.length ≤ 100000 := by
  intro ps
  induction ps with
  | nil => intro l _ p hp; cases hp
  | cons q ps ih =>
    intro l h p hp
    unfold ptsF at h
    simp only [Bool.and_eq_true] at h
    rcases List.mem_cons.1 hp with rfl | hp
    · exact oversB_small h.1.2
    · exact ih h.2 p hp
theorem annB_small {t0 t1 : List (Int × List Int)} {xs : List (Int × Int)} {ps : List P2} (h : annB t0 t1 xs ps = true) :
    (t0.length ≤ 1000 ∧ ∀ t ∈ t0, t.2.length ≤ 100000) ∧ (t1.length ≤ 1000 ∧ ∀ t ∈ t1, t.2.length ≤ 100000) ∧ xs.length ≤ 80 ∧ ps.length ≤ 8 ∧ ∀ p ∈ ps, p.s.length ≤ 1000 ∧ ∀ t ∈ p.s, t.2.length ≤ 100000 := by
  obtain ⟨hc, h0, h1, hp⟩ := annB_parts h
  unfold ptsB at hp
  simp only [Bool.and_eq_true, decide_eq_true_eq] at hp
  have := (codeB_parts hc).2.1
  exact ⟨oversB_small h0, oversB_small h1, by omega, hp.1, ptsF_small hp.2⟩
theorem PRow.cap {w : World} {base n c : Nat} {A : Option Addr} {xs : List P2} (h : PRow w base (.slice A n c) n xs) (hn : 0 < n) : ∃ g, A = some ⟨g, 0, none⟩ ∧ n ≤ c := by
  obtain ⟨_, cs, h3, _⟩ := h
  rcases h3.2 with ⟨h', hn'⟩ | ⟨b, cap, cur, k1, k2, k3, k4, _⟩
  · omega
  · injection k1 with e1 e2 e3
    exact ⟨b, e1, by omega⟩
theorem prow_empty (w : World) : PRow (w.alloc (.cells #[] 40)) w.heap.size (.slice (some ⟨w.heap.size, 0, none⟩) 0 0) 0 [] := ⟨rfl, [], own_empty2 w _, fun j x hj => by simp at hj⟩

/-- A box of four cells that is filled. -/
theorem fill4 {w : World} {g : Nat} {T : TypeId} {x0 x1 x2 x3 : Value} (h : BlkIs w g T #[x0, x1, x2, x3]) (a b c d : Value) :
    BlkIs ((((w.setCell ⟨g, 0, none⟩ a).setCell ⟨g, 1, none⟩ b).setCell ⟨g, 2, none⟩ c).setCell ⟨g, 3, none⟩ d) g T #[a, b, c, d] ∧ w.grownBy ((((w.setCell ⟨g, 0, none⟩ a).setCell ⟨g, 1, none⟩ b).setCell ⟨g, 2, none⟩ c).setCell ⟨g, 3, none⟩ d) (some g) := by
  have hX := (((h.set 0 a).set 1 b).set 2 c).set 3 d
  simp at hX
  exact ⟨hX, only_trans (only_trans (only_trans only_set only_set) only_set) only_set⟩
/-- Annotated code as the model hands it out. -/
def AnS (w w' : World) (e : Ending) (n0 n1 n2 n3 : Nat) (t0 t1 : List (Int × List Int)) (t2 : List (Int × Int)) (t3 : List P2) (r : Bool) : Prop :=
  ∃ R0 d0 R1 d1 R2 d2 R3 d3, e = .returned (.tuple #[.agg #[.slice R0 n0 d0, .slice R1 n1 d1, .slice R2 n2 d2, .slice R3 n3 d3], .bool r]) ∧ InTS w' w'.heap.size R0 n0 t0 ∧ InTS w' w'.heap.size R1 n1 t1 ∧ InC w' w'.heap.size R2 n2 t2 ∧ InP2 w' w'.heap.size R3 n3 t3 ∧ Below w.heap.size w w'
theorem inTS_none (w : World) (B : Nat) : InTS w B none 0 [] := ⟨rfl, fun j t hj => by simp at hj⟩
theorem inC_none (w : World) (B : Nat) : InC w B none 0 [] := ⟨rfl, fun j t hj => by simp at hj⟩
theorem inP2_none (w : World) (B : Nat) : InP2 w B none 0 [] := ⟨rfl, fun j t hj => by simp at hj⟩

section
variable (A0 : Option Addr) (n0 c0 : Nat) (t0 : List (Int × List Int)) (A1 : Option Addr) (n1 c1 : Nat) (t1 : List (Int × List Int)) (A2 : Option Addr) (n2 c2 : Nat) (t2 : List (Int × Int)) (A3 : Option Addr) (n3 c3 : Nat) (t3 : List P2) (i : Int) (w : World) (h0 : InTS w w.heap.size A0 n0 t0) (h1 : InTS w w.heap.size A1 n1 t1) (h2 : InC w w.heap.size A2 n2 t2) (h3 : InP2 w w.heap.size A3 n3 t3) (hn0 : n0 ≤ 1048576) (he0 : totT t0 ≤ 1048576) (hn1 : n1 ≤ 1048576) (he1 : totT t1 ≤ 1048576) (hn2 : n2 ≤ 1048576) (hn3 : n3 ≤ 1048576) (he3 : totP2 t3 ≤ 1048576)
include h0 h1 h2 h3 hn0 he0 hn1 he1 hn2 hn3 he3
set_option maxRecDepth 100000 in
set_option maxHeartbeats 4000000 in
theorem specDrop_no (hno : annB t0 t1 t2 t3 = false ∨ ¬ (0 ≤ i ∧ i ≤ (n3 : Int) - 1)) :
    Calls Try.prog 19 #[.agg #[.slice A0 n0 c0, .slice A1 n1 c1, .slice A2 n2 c2, .slice A3 n3 c3], .int .i64 i] w fun e w' => AnS w w' e 0 0 0 0 [] [] [] [] false := by
  have hb0 : Below w.heap.size w ((w.alloc (.cells #[.slice A0 n0 c0, .slice A1 n1 c1, .slice A2 n2 c2, .slice A3 n3 c3] 35)).alloc (.cells #[.slice none 0 0, .slice none 0 0, .slice none 0 0, .slice none 0 0] 35)) := bon (bnew _ _) (bnew _ _)
  have hP : BlkIs ((w.alloc (.cells #[.slice A0 n0 c0, .slice A1 n1 c1, .slice A2 n2 c2, .slice A3 n3 c3] 35)).alloc (.cells #[.slice none 0 0, .slice none 0 0, .slice none 0 0, .slice none 0 0] 35)) w.heap.size 35 #[.slice A0 n0 c0, .slice A1 n1 c1, .slice A2 n2 c2, .slice A3 n3 c3] := (blk_new w _ _ _ rfl).next (bnew _ _)
  have hX : BlkIs ((w.alloc (.cells #[.slice A0 n0 c0, .slice A1 n1 c1, .slice A2 n2 c2, .slice A3 n3 c3] 35)).alloc (.cells #[.slice none 0 0, .slice none 0 0, .slice none 0 0, .slice none 0 0] 35)) (w.heap.size + 1) 35 #[.slice none 0 0, .slice none 0 0, .slice none 0 0, .slice none 0 0] := blk_new _ _ _ _ (by simp)
  have HC0 := l08Is_c w.heap.size A0 n0 c0 t0 A1 n1 c1 t1 A2 n2 c2 t2 A3 n3 c3 t3 w.heap.size _ hP (h0.next hb0 (Nat.le_refl _)) (h1.next hb0 (Nat.le_refl _)) (h2.next hb0 (Nat.le_refl _)) (h3.next hb0 (Nat.le_refl _)) hb0.size hn0 he0 hn1 he1 hn2 hn3 he3
  clear h0 h1 h2 h3
  cases hv : annB t0 t1 t2 t3 with
  | false =>
    rw [hv] at HC0
    have HC := Lib.hid HC0
    clear HC0 hv hno
    go_enter Try.func19, Try.ntmps19
    go_wp2_with fail
    generalize ((w.alloc (.cells #[.slice A0 n0 c0, .slice A1 n1 c1, .slice A2 n2 c2, .slice A3 n3 c3] 35)).alloc (.cells #[.slice none 0 0, .slice none 0 0, .slice none 0 0, .slice none 0 0] 35)) = W at hb0 hP hX HC ⊢
    refine HC.out.mono ?_
    rintro e w1 ⟨rfl, hb1⟩
    have hX1 := hX.next hb1
    have f0 := hX1.frozen 0
    have f1 := hX1.frozen 1
    have f2 := hX1.frozen 2
    have f3 := hX1.frozen 3
    have y0 := hX1.cell 0
    have y1 := hX1.cell 1
    have y2 := hX1.cell 2
    have y3 := hX1.cell 3
    simp at y0 y1 y2 y3
    obtain ⟨hF, hgr⟩ := fill4 hX1 (.slice none 0 0) (.slice none 0 0) (.slice none 0 0) (.slice none 0 0)
    have r0 := hF.cell 0
    have r1 := hF.cell 1
    have r2 := hF.cell 2
    have r3 := hF.cell 3
    simp at r0 r1 r2 r3
    have hbF := (bon hb0 hb1).trans (only_below hgr (Nat.le_succ _) (bon hb0 hb1).size)
    clear hgr hF hX1
    go_wp2_with fail
    refine bodyPost_ret (v := .tuple #[.agg #[.slice none 0 0, .slice none 0 0, .slice none 0 0, .slice none 0 0], .bool false]) (by simp [results, Try.results19, go_sem, r0, r1, r2, r3]) rfl ?_
    exact ⟨none, 0, none, 0, none, 0, none, 0, rfl, inTS_none _ _, inTS_none _ _, inC_none _ _, inP2_none _ _, hbF⟩
  | true =>
    have hbad : (decide (0 ≤ i) && decide (i ≤ (n3 : Int) - 1)) = false := by
      rcases hno with h | h
      · rw [hv] at h; cases h
      · simpa using h
    have HB := Lib.hid (l00In_i i 0 ((n3 : Int) - 1))
    rw [hbad] at HB
    rw [hv] at HC0
    have HC := Lib.hid HC0
    clear HC0 hv hno hbad
    go_enter Try.func19, Try.ntmps19
    go_wp2_with fail
    generalize ((w.alloc (.cells #[.slice A0 n0 c0, .slice A1 n1 c1, .slice A2 n2 c2, .slice A3 n3 c3] 35)).alloc (.cells #[.slice none 0 0, .slice none 0 0, .slice none 0 0, .slice none 0 0] 35)) = W at hb0 hP hX HC ⊢
    refine HC.out.mono ?_
    rintro e w1 ⟨rfl, hb1⟩
    have hX1 := hX.next hb1
    have p3 := (hP.next hb1).cell 3
    simp at p3
    have f0 := hX1.frozen 0
    have f1 := hX1.frozen 1
    have f2 := hX1.frozen 2
    have f3 := hX1.frozen 3
    have y0 := hX1.cell 0
    have y1 := hX1.cell 1
    have y2 := hX1.cell 2
    have y3 := hX1.cell 3
    simp at y0 y1 y2 y3
    go_wp2_with fail
    refine (HB.out w1).mono ?_
    rintro e w2 ⟨rfl, rfl⟩
    obtain ⟨hF, hgr⟩ := fill4 hX1 (.slice none 0 0) (.slice none 0 0) (.slice none 0 0) (.slice none 0 0)
    have r0 := hF.cell 0
    have r1 := hF.cell 1
    have r2 := hF.cell 2
    have r3 := hF.cell 3
    simp at r0 r1 r2 r3
    have hbF := (bon hb0 hb1).trans (only_below hgr (Nat.le_succ _) (bon hb0 hb1).size)
    clear hgr hF hX1
    go_wp2_with fail
    refine bodyPost_ret (v := .tuple #[.agg #[.slice none 0 0, .slice none 0 0, .slice none 0 0, .slice none 0 0], .bool false]) (by simp [results, Try.results19, go_sem, r0, r1, r2, r3]) rfl ?_
    exact ⟨none, 0, none, 0, none, 0, none, 0, rfl, inTS_none _ _, inTS_none _ _, inC_none _ _, inP2_none _ _, hbF⟩

set_option maxRecDepth 100000 in
set_option maxHeartbeats 4000000 in
theorem specDrop_yes (k : Nat) (hk : k < n3) (hv : annB t0 t1 t2 t3 = true) :
    Calls Try.prog 19 #[.agg #[.slice A0 n0 c0, .slice A1 n1 c1, .slice A2 n2 c2, .slice A3 n3 c3], .int .i64 (k : Int)] w fun e w' => AnS w w' e n0 n1 n2 (n3 - 1) t0 t1 t2 (t3.take k ++ t3.drop (k + 1)) true := by
  have hb0 : Below w.heap.size w ((w.alloc (.cells #[.slice A0 n0 c0, .slice A1 n1 c1, .slice A2 n2 c2, .slice A3 n3 c3] 35)).alloc (.cells #[.slice none 0 0, .slice none 0 0, .slice none 0 0, .slice none 0 0] 35)) := bon (bnew _ _) (bnew _ _)
  have hP : BlkIs ((w.alloc (.cells #[.slice A0 n0 c0, .slice A1 n1 c1, .slice A2 n2 c2, .slice A3 n3 c3] 35)).alloc (.cells #[.slice none 0 0, .slice none 0 0, .slice none 0 0, .slice none 0 0] 35)) w.heap.size 35 #[.slice A0 n0 c0, .slice A1 n1 c1, .slice A2 n2 c2, .slice A3 n3 c3] := (blk_new w _ _ _ rfl).next (bnew _ _)
  have hX : BlkIs ((w.alloc (.cells #[.slice A0 n0 c0, .slice A1 n1 c1, .slice A2 n2 c2, .slice A3 n3 c3] 35)).alloc (.cells #[.slice none 0 0, .slice none 0 0, .slice none 0 0, .slice none 0 0] 35)) (w.heap.size + 1) 35 #[.slice none 0 0, .slice none 0 0, .slice none 0 0, .slice none 0 0] := blk_new _ _ _ _ (by simp)
  have HC0 := l08Is_c w.heap.size A0 n0 c0 t0 A1 n1 c1 t1 A2 n2 c2 t2 A3 n3 c3 t3 w.heap.size _ hP (h0.next hb0 (Nat.le_refl _)) (h1.next hb0 (Nat.le_refl _)) (h2.next hb0 (Nat.le_refl _)) (h3.next hb0 (Nat.le_refl _)) hb0.size hn0 he0 hn1 he1 hn2 hn3 he3
  rw [hv] at HC0
  have HC := Lib.hid HC0
  obtain ⟨⟨s0, s0'⟩, ⟨s1, s1'⟩, s2, s3, s3'⟩ := annB_small hv
  have hln := Lib.hid (And.intro h0.1 (And.intro h1.1 (And.intro h2.1 h3.1)))
  have HOwn : Hid (∀ x, Below w.heap.size w x → BlkIs x w.heap.size 35 #[.slice A0 n0 c0, .slice A1 n1 c1, .slice A2 n2 c2, .slice A3 n3 c3] → Calls Try.prog 45 #[.pointer (some ⟨w.heap.size, 0, none⟩)] x fun e w' => ∃ B0 d0 B1 d1 B2 d2 B3 d3, e = .returned (.agg #[.slice B0 n0 d0, .slice B1 n1 d1, .slice B2 n2 d2, .slice B3 n3 d3]) ∧ TsL w' B0 n0 t0 ∧ TsL w' B1 n1 t1 ∧ w'.ownsRow x.heap.size 66 2 (.slice B2 n2 d2) n2 (flatC t2) ∧ PRow w' x.heap.size (.slice B3 n3 d3) n3 t3 ∧ Below x.heap.size x w') := by
    intro x hx hPx
    obtain ⟨g0, g1, g2, g3⟩ := hln.out
    exact l08Own_c w.heap.size A0 n0 c0 t0 A1 n1 c1 t1 A2 n2 c2 t2 A3 n3 c3 t3 w.heap.size x hPx (h0.next hx (Nat.le_refl _)) (h1.next hx (Nat.le_refl _)) (h2.next hx (Nat.le_refl _)) (h3.next hx (Nat.le_refl _)) hx.size (by omega) s0' (by omega) s1' (by omega) (by omega) s3'
  have hbad : (decide (0 ≤ (k : Int)) && decide ((k : Int) ≤ (n3 : Int) - 1)) = true := by simp; omega
  have HB := Lib.hid (l00In_i (k : Int) 0 ((n3 : Int) - 1))
  rw [hbad] at HB
  have hn38 : n3 ≤ 8 := by have := hln.out.2.2.2; omega
  clear HC0 hv hbad h0 h1 h2 h3 s0 s0' s1 s1' s2 s3 s3'
  go_enter Try.func19, Try.ntmps19
  go_wp2_with fail
  generalize ((w.alloc (.cells #[.slice A0 n0 c0, .slice A1 n1 c1, .slice A2 n2 c2, .slice A3 n3 c3] 35)).alloc (.cells #[.slice none 0 0, .slice none 0 0, .slice none 0 0, .slice none 0 0] 35)) = W at hb0 hP hX HC ⊢
  refine HC.out.mono ?_
  rintro e w1 ⟨rfl, hb1⟩
  have hP1 := hP.next hb1
  have p3 := hP1.cell 3
  simp at p3
  go_wp2_with fail
  refine (HB.out w1).mono ?_
  rintro e w2 ⟨rfl, rfl⟩
  have hb01 := bon hb0 hb1
  have HO := Lib.hid (HOwn.out w1 hb01 hP1)
  have HX1 := Lib.hid (hX.next hb1)
  clear HOwn hX hP hP1 p3
  go_wp2_with fail
  refine HO.out.mono ?_
  rintro e w2 ⟨B0, d0, B1, d1, B2, d2, B3, d3, rfl, hT0, hT1, hC, hR, hb2⟩
  obtain ⟨g, rfl, hd3⟩ := hR.cap (by omega)
  have hs1 := hb1.size
  have hs2 := hb2.size
  have hbA := bnew w2 (.cells #[.slice B0 n0 d0, .slice B1 n1 d1, .slice B2 n2 d2, .slice (some ⟨g, 0, none⟩) n3 d3] 35)
  have hbE := bnew (w2.alloc (.cells #[.slice B0 n0 d0, .slice B1 n1 d1, .slice B2 n2 d2, .slice (some ⟨g, 0, none⟩) n3 d3] 35)) (.cells #[] 40)
  have hbAE := bon hbA hbE
  have hG : BlkIs ((w2.alloc (.cells #[.slice B0 n0 d0, .slice B1 n1 d1, .slice B2 n2 d2, .slice (some ⟨g, 0, none⟩) n3 d3] 35)).alloc (.cells #[] 40)) w2.heap.size 35 #[.slice B0 n0 d0, .slice B1 n1 d1, .slice B2 n2 d2, .slice (some ⟨g, 0, none⟩) n3 d3] := (blk_new w2 _ _ _ rfl).next hbE
  have hE : PRow ((w2.alloc (.cells #[.slice B0 n0 d0, .slice B1 n1 d1, .slice B2 n2 d2, .slice (some ⟨g, 0, none⟩) n3 d3] 35)).alloc (.cells #[] 40)) (w2.heap.size + 1) (.slice (some ⟨w2.heap.size + 1, 0, none⟩) 0 0) 0 [] := by
    have h := prow_empty (w2.alloc (.cells #[.slice B0 n0 d0, .slice B1 n1 d1, .slice B2 n2 d2, .slice (some ⟨g, 0, none⟩) n3 d3] 35))
    rw [show (w2.alloc (.cells #[.slice B0 n0 d0, .slice B1 n1 d1, .slice B2 n2 d2, .slice (some ⟨g, 0, none⟩) n3 d3] 35)).heap.size = w2.heap.size + 1 by simp] at h
    exact h
  obtain ⟨_, _, hv, hPt⟩ := hR.out
  injection hv with e1 e2 e3
  subst e1
  clear e2 e3
  obtain ⟨v1, w5, x1, r1, b5, g5⟩ := app_pt (c := d3) hE ((hPt.next hbAE).take (k := k) (by omega)) (by simp) (by omega) (by omega)
  obtain ⟨_, _, hoE, _⟩ := hE
  rw [Nat.zero_add, List.nil_append] at r1
  obtain ⟨D1, f1, rfl, _⟩ := r1.out
  have hG5 := blk_grown hG hoE (by decide) g5
  have hb25 : Below w2.heap.size w2 w5 := hbAE.trans (b5.mono (by omega))
  have hT05 := ((hT0.next hbAE)).kept g5 (own_noP hoE)
  have hT15 := ((hT1.next hbAE)).kept g5 (own_noP hoE)
  have hC5 := own_kept (own_below hC hbAE) g5 (own_not hoE (by decide))
  have X1 := Lib.hid x1
  have z3 := hG5.cell 3
  have y3 := hG.cell 3
  simp at z3 y3
  have hkd : k ≤ d3 := by omega
  have hn1d : (k : Int) + 1 ≤ (n3 : Int) := by omega
  have HX5 : Hid (BlkIs w5 (w.heap.size + 1) 35 #[.slice none 0 0, .slice none 0 0, .slice none 0 0, .slice none 0 0]) := (HX1.out.next hb2).next hb25
  have hAp : ∀ (A : Option Addr) (c : Nat), PtL w5 A (n3 - (k + 1)) (t3.drop (k + 1)) → ∃ (D2 : Option Addr) (f2 : Nat) (w6 : World), (Builtin.append_ #[33, 33] 33 #[.slice D1 k f1, .slice A (n3 - (k + 1)) c]).run Try.prog w5 = .ok (.slice D2 (n3 - 1) f2) w6 ∧ PRow w6 (w2.heap.size + 1) (.slice D2 (n3 - 1) f2) (n3 - 1) (t3.take k ++ t3.drop (k + 1)) ∧
      BlkIs w6 (w.heap.size + 1) 35 #[.slice none 0 0, .slice none 0 0, .slice none 0 0, .slice none 0 0] ∧ BlkIs w6 w2.heap.size 35 #[.slice B0 n0 d0, .slice B1 n1 d1, .slice B2 n2 d2, .slice (some ⟨g, 0, none⟩) n3 d3] ∧ TsL w6 B0 n0 t0 ∧ TsL w6 B1 n1 t1 ∧ w6.ownsRow w1.heap.size 66 2 (.slice B2 n2 d2) n2 (flatC t2) ∧ Below w2.heap.size w2 w6 := by
    intro A c hA
    obtain ⟨v2, w6, x2, r2, b6, g6⟩ := app_pt (c := c) r1 hA (Nat.le_trans (by simp) b5.size) (by omega) (by omega)
    obtain ⟨_, _, ho, _⟩ := r1
    rw [show k + (n3 - (k + 1)) = n3 - 1 by omega] at r2
    obtain ⟨D2, f2, rfl, _⟩ := r2.out
    exact ⟨D2, f2, w6, x2, r2, blk_grown HX5.out ho (by decide) g6, blk_grown hG5 ho (by decide) g6, hT05.kept g6 (own_noP ho), hT15.kept g6 (own_noP ho), own_kept hC5 g6 (own_not ho (by decide)), hb25.trans (b6.mono (by omega))⟩
  have HAp := Lib.hid hAp
  have hPt5 := Lib.hid (hPt.next hb25)
  have hb02 := bon (bon hb01 hb2) (Below.refl w2.heap.size w2)
  have hs3 : w.heap.size + 1 < w2.heap.size := by have := (HX1.out.next hb2).lt; omega
  clear x1 HC HB HO b5 g5 hoE hAp r1 HX5 HX1 hT05 hT15 hC5 hG hbA hbE hbAE hR hT0 hT1 hC hPt hb0 hb1
  by_cases hdk : d3 = k + 1
  · subst hdk
    obtain ⟨D2, f2, w6, x2, hR6, hX6, hG6, hT06, hT16, hC6, hb6⟩ := HAp.out (some ⟨g, 0, none⟩) 0 ⟨by rw [List.length_drop]; have := hln.out.2.2.2; omega, fun j x hj => by rw [List.getElem?_drop] at hj; have := (List.getElem?_eq_some_iff.1 hj).1; have := hln.out.2.2.2; omega⟩
    rw [show n3 - (k + 1) = 0 by omega] at x2
    have X2 := Lib.hid x2
    clear x2 HAp hPt5
    have f3 := hG6.frozen 3
    have u3 := hG6.cell 3
    simp at u3
    go_upto_region 5 with (at_builtin; refine Lib.wpList_append_run ((w2.alloc (.cells #[.slice B0 n0 d0, .slice B1 n1 d1, .slice B2 n2 d2, .slice (some ⟨g, 0, none⟩) n3 (k + 1)] 35)).alloc (.cells #[] 40)) rfl _ _ _ _ rfl _ _ rfl rfl _ _ X1.out ?_)
    go_upto_region 6 with (at_builtin; refine Lib.wpList_append_run w5 rfl _ _ _ _ rfl _ _ rfl rfl _ _ X2.out ?_)
    have hGs := hG6.set 3 (.slice D2 (n3 - 1) f2)
    simp at hGs
    have hXs : BlkIs (w6.setCell ⟨w2.heap.size, 3, none⟩ (.slice D2 (n3 - 1) f2)) (w.heap.size + 1) 35 #[.slice none 0 0, .slice none 0 0, .slice none 0 0, .slice none 0 0] := hX6.far (by omega) 3 _
    have hn1 := fun k cs e => And.intro (blk_not hG6 (e' := 2) (by decide) k cs e) (blk_not hG6 (e' := 74) (by decide) k cs e)
    have p0 := hT06.kept (only_set (i := 3) (x := .slice D2 (n3 - 1) f2)) hn1
    have p1 := hT16.kept (only_set (i := 3) (x := .slice D2 (n3 - 1) f2)) hn1
    have p2 := own_kept hC6 (only_set (i := 3) (x := .slice D2 (n3 - 1) f2)) (blk_not hG6 (by decide))
    have p3 := hR6.kept (only_set (i := 3) (x := .slice D2 (n3 - 1) f2)) hn1 (blk_not hG6 (by decide))
    have hbG := (hb02.trans (hb6.mono (by omega))).setCell (p := ⟨w2.heap.size, 3, none⟩) (show w.heap.size ≤ w2.heap.size by omega) (.slice D2 (n3 - 1) f2)
    have hws : w.heap.size + 1 ≤ (w6.setCell ⟨w2.heap.size, 3, none⟩ (.slice D2 (n3 - 1) f2)).heap.size := Nat.le_of_lt hXs.lt
    generalize w6.setCell ⟨w2.heap.size, 3, none⟩ (.slice D2 (n3 - 1) f2) = w7 at hGs hXs p0 p1 p2 p3 hbG hws ⊢
    clear hG6 hX6 hT06 hT16 hC6 hR6 hn1 u3 f3 X1 X2 z3 y3
    have v0 := hGs.cell 0
    have v1 := hGs.cell 1
    have v2 := hGs.cell 2
    have v3 := hGs.cell 3
    simp at v0 v1 v2 v3
    have e0 := hXs.frozen 0
    have e1 := hXs.frozen 1
    have e2 := hXs.frozen 2
    have e3 := hXs.frozen 3
    have y0 := hXs.cell 0
    have y1 := hXs.cell 1
    have y2 := hXs.cell 2
    have y3 := hXs.cell 3
    simp at y0 y1 y2 y3
    obtain ⟨hF, hgr⟩ := fill4 hXs (.slice B0 n0 d0) (.slice B1 n1 d1) (.slice B2 n2 d2) (.slice D2 (n3 - 1) f2)
    have r0 := hF.cell 0
    have r1 := hF.cell 1
    have r2 := hF.cell 2
    have r3 := hF.cell 3
    simp at r0 r1 r2 r3
    have hn2 := fun k cs e => And.intro (blk_not hXs (e' := 2) (by decide) k cs e) (blk_not hXs (e' := 74) (by decide) k cs e)
    have q0 := p0.kept hgr hn2
    have q1 := p1.kept hgr hn2
    have q2 := own_kept p2 hgr (blk_not hXs (by decide))
    have q3 := p3.kept hgr hn2 (blk_not hXs (by decide))
    have hbF := hbG.trans (only_below hgr (Nat.le_succ _) (Nat.le_of_succ_le hws))
    obtain ⟨_, _, hv, Q3⟩ := q3.out
    injection hv with i1 i2 i3
    subst i1
    have Q0 := Lib.hid (And.intro q0.inn (And.intro q1.inn (And.intro (OwnC.of_own q2 hln.out.2.2.1).all Q3.inn)))
    clear hF hgr hn2 hXs hGs p0 p1 p2 p3 q0 q1 q2 q3 Q3 i2 i3
    go_wp2_with fail
    refine bodyPost_ret (v := .tuple #[.agg #[.slice B0 n0 d0, .slice B1 n1 d1, .slice B2 n2 d2, .slice D2 (n3 - 1) f2], .bool true]) (by simp [results, Try.results19, go_sem, r0, r1, r2, r3]) rfl ?_
    exact ⟨_, _, _, _, _, _, _, _, rfl, Q0.out.1, Q0.out.2.1, Q0.out.2.2.1, Q0.out.2.2.2, hbF⟩
  · obtain ⟨D2, f2, w6, x2, hR6, hX6, hG6, hT06, hT16, hC6, hb6⟩ := HAp.out (some ⟨g, (k + 1) * 2, none⟩) (d3 - (k + 1)) (by have h := hPt5.out.drop (k := k + 1) (by omega); rw [Nat.zero_add] at h; exact h)
    have X2 := Lib.hid x2
    clear x2 HAp hPt5
    have f3 := hG6.frozen 3
    have u3 := hG6.cell 3
    simp at u3
    go_upto_region 5 with (at_builtin; refine Lib.wpList_append_run ((w2.alloc (.cells #[.slice B0 n0 d0, .slice B1 n1 d1, .slice B2 n2 d2, .slice (some ⟨g, 0, none⟩) n3 d3] 35)).alloc (.cells #[] 40)) rfl _ _ _ _ rfl _ _ rfl rfl _ _ X1.out ?_)
    go_upto_region 6 with (at_builtin; refine Lib.wpList_append_run w5 rfl _ _ _ _ rfl _ _ rfl rfl _ _ X2.out ?_)
    have hGs := hG6.set 3 (.slice D2 (n3 - 1) f2)
    simp at hGs
    have hXs : BlkIs (w6.setCell ⟨w2.heap.size, 3, none⟩ (.slice D2 (n3 - 1) f2)) (w.heap.size + 1) 35 #[.slice none 0 0, .slice none 0 0, .slice none 0 0, .slice none 0 0] := hX6.far (by omega) 3 _
    have hn1 := fun k cs e => And.intro (blk_not hG6 (e' := 2) (by decide) k cs e) (blk_not hG6 (e' := 74) (by decide) k cs e)
    have p0 := hT06.kept (only_set (i := 3) (x := .slice D2 (n3 - 1) f2)) hn1
    have p1 := hT16.kept (only_set (i := 3) (x := .slice D2 (n3 - 1) f2)) hn1
    have p2 := own_kept hC6 (only_set (i := 3) (x := .slice D2 (n3 - 1) f2)) (blk_not hG6 (by decide))
    have p3 := hR6.kept (only_set (i := 3) (x := .slice D2 (n3 - 1) f2)) hn1 (blk_not hG6 (by decide))
    have hbG := (hb02.trans (hb6.mono (by omega))).setCell (p := ⟨w2.heap.size, 3, none⟩) (show w.heap.size ≤ w2.heap.size by omega) (.slice D2 (n3 - 1) f2)
    have hws : w.heap.size + 1 ≤ (w6.setCell ⟨w2.heap.size, 3, none⟩ (.slice D2 (n3 - 1) f2)).heap.size := Nat.le_of_lt hXs.lt
    generalize w6.setCell ⟨w2.heap.size, 3, none⟩ (.slice D2 (n3 - 1) f2) = w7 at hGs hXs p0 p1 p2 p3 hbG hws ⊢
    clear hG6 hX6 hT06 hT16 hC6 hR6 hn1 u3 f3 X1 X2 z3 y3
    have v0 := hGs.cell 0
    have v1 := hGs.cell 1
    have v2 := hGs.cell 2
    have v3 := hGs.cell 3
    simp at v0 v1 v2 v3
    have e0 := hXs.frozen 0
    have e1 := hXs.frozen 1
    have e2 := hXs.frozen 2
    have e3 := hXs.frozen 3
    have y0 := hXs.cell 0
    have y1 := hXs.cell 1
    have y2 := hXs.cell 2
    have y3 := hXs.cell 3
    simp at y0 y1 y2 y3
    obtain ⟨hF, hgr⟩ := fill4 hXs (.slice B0 n0 d0) (.slice B1 n1 d1) (.slice B2 n2 d2) (.slice D2 (n3 - 1) f2)
    have r0 := hF.cell 0
    have r1 := hF.cell 1
    have r2 := hF.cell 2
    have r3 := hF.cell 3
    simp at r0 r1 r2 r3
    have hn2 := fun k cs e => And.intro (blk_not hXs (e' := 2) (by decide) k cs e) (blk_not hXs (e' := 74) (by decide) k cs e)
    have q0 := p0.kept hgr hn2
    have q1 := p1.kept hgr hn2
    have q2 := own_kept p2 hgr (blk_not hXs (by decide))
    have q3 := p3.kept hgr hn2 (blk_not hXs (by decide))
    have hbF := hbG.trans (only_below hgr (Nat.le_succ _) (Nat.le_of_succ_le hws))
    obtain ⟨_, _, hv, Q3⟩ := q3.out
    injection hv with i1 i2 i3
    subst i1
    have Q0 := Lib.hid (And.intro q0.inn (And.intro q1.inn (And.intro (OwnC.of_own q2 hln.out.2.2.1).all Q3.inn)))
    clear hF hgr hn2 hXs hGs p0 p1 p2 p3 q0 q1 q2 q3 Q3 i2 i3
    go_wp2_with fail
    refine bodyPost_ret (v := .tuple #[.agg #[.slice B0 n0 d0, .slice B1 n1 d1, .slice B2 n2 d2, .slice D2 (n3 - 1) f2], .bool true]) (by simp [results, Try.results19, go_sem, r0, r1, r2, r3]) rfl ?_
    exact ⟨_, _, _, _, _, _, _, _, rfl, Q0.out.1, Q0.out.2.1, Q0.out.2.2.1, Q0.out.2.2.2, hbF⟩
end
end Go.Proofs.Ytglbkbdljjaioaa