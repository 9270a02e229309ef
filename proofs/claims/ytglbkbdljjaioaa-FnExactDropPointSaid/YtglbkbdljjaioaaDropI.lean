/-
  The program's withPoints for code that is not valid, and its DropPoint. Conditions: at most 2^20 elements and numbers.
-/
import Derived.Test.YtglbkbdljjaioaaWith
import Derived.Test.YtglbkbdljjaioaaConcP
namespace Go.Proofs.Ytglbkbdljjaioaa
set_option linter.unusedVariables false
set_option linter.unusedSectionVars false
open Go.RowKit

theorem totT_le {ts : List (Int × List Int)} {m : Nat} (h : ∀ t ∈ ts, t.2.length ≤ m) : totT ts ≤ m * ts.length := by
  induction ts with
  | nil => simp [totT]
  | cons t ts ih =>
    have h1 := ih fun u hu => h u (List.mem_cons_of_mem _ hu)
    have h2 := h t (List.mem_cons_self ..)
    unfold totT at h1 ⊢
    simp only [List.map_cons, List.sum_cons, List.length_cons, Nat.mul_add] at h1 ⊢
    omega
theorem oversB_tot {ts : List (Int × List Int)} (h : oversB 6 ts = true) : ts.length ≤ 6 ∧ totT ts ≤ 24 := by
  unfold oversB at h
  simp only [Bool.and_eq_true, decide_eq_true_eq, List.all_eq_true] at h
  have := totT_le (ts := ts) (m := 4) fun t ht => by
    have := h.1 t ht
    unfold overB at this
    simp only [Bool.and_eq_true, decide_eq_true_eq] at this
    omega
  exact ⟨h.2, by omega⟩
theorem ptsF_tot {len : Int} : ∀ {ps : List P2} {l : Int}, ptsF len l ps = true → totP2 ps ≤ 30 * ps.length := by
  intro ps
  induction ps with
  | nil => intro l _; simp [totP2]
  | cons p ps ih =>
    intro l h
    unfold ptsF at h
    simp only [Bool.and_eq_true] at h
    have h1 := ih h.2
    have h2 := oversB_tot h.1.2
    unfold totP2 at h1 ⊢
    simp only [List.map_cons, List.sum_cons, List.length_cons] at h1 ⊢
    unfold P2.tot at h1 ⊢
    omega
theorem annB_tot {t0 t1 : List (Int × List Int)} {xs : List (Int × Int)} {ps : List P2} (h : annB t0 t1 xs ps = true) : totT t0 ≤ 24 ∧ totT t1 ≤ 24 ∧ totP2 ps ≤ 240 := by
  obtain ⟨hc, h0, h1, hp⟩ := annB_parts h
  unfold ptsB at hp
  simp only [Bool.and_eq_true, decide_eq_true_eq] at hp
  have := ptsF_tot hp.2
  exact ⟨(oversB_tot h0).2, (oversB_tot h1).2, by omega⟩
theorem ownTS_none (w : World) (lo hi : Nat) (h : hi ≤ w.heap.size) : OwnTS w lo hi none 0 0 [] :=
  ⟨rfl, h, [], fun _ => .bool false, World.ownsRow_nil _ _ _ _, (fun k hk => by cases hk), (fun j t ht => by simp at ht), (fun i j hi => by omega), (fun i hi => by omega)⟩
theorem ownC_none (w : World) (lo hi : Nat) (h : hi ≤ w.heap.size) : OwnC w lo hi none 0 0 [] := ⟨rfl, World.ownsRow_nil _ _ _ _, (fun j hj => by cases hj), h⟩
theorem anI_none {w w' : World} (hb : Below w.heap.size w w') (hP : OwnP2 w' w'.heap.size w'.heap.size none 0 0 []) : AnI w w' (.returned (.tuple #[.agg #[.slice none 0 0, .slice none 0 0, .slice none 0 0, .slice none 0 0], .bool false])) 0 0 0 0 [] [] [] [] false :=
  ⟨none, 0, none, 0, none, 0, none, 0, w'.heap.size, w'.heap.size, w'.heap.size, rfl, ownTS_none _ _ _ (Nat.le_refl _), ownTS_none _ _ _ (Nat.le_refl _), ownC_none _ _ _ (Nat.le_refl _), hP, ⟨hb.size, Nat.le_refl _, Nat.le_refl _, Nat.le_refl _⟩, hb⟩
theorem ownP2_none (w : World) : OwnP2 w w.heap.size w.heap.size none 0 0 [] := ⟨rfl, Nat.le_refl _, [], fun _ => w.heap.size, World.ownsRow_nil _ _ _ _, (fun k hk => by cases hk), Nat.le_refl _, (fun i hi => by omega), Nat.le_refl _, fun j t hj => by simp at hj⟩

section
variable (A0 : Option Addr) (n0 c0 : Nat) (t0 : List (Int × List Int)) (A1 : Option Addr) (n1 c1 : Nat) (t1 : List (Int × List Int)) (A2 : Option Addr) (n2 c2 : Nat) (t2 : List (Int × Int)) (A3 : Option Addr) (n3 c3 : Nat) (t3 : List P2) (w : World) (h0 : InTS w w.heap.size A0 n0 t0) (h1 : InTS w w.heap.size A1 n1 t1) (h2 : InC w w.heap.size A2 n2 t2) (h3 : InP2 w w.heap.size A3 n3 t3) (hn0 : n0 ≤ 1048576) (he0 : totT t0 ≤ 1048576) (hn1 : n1 ≤ 1048576) (he1 : totT t1 ≤ 1048576) (hn2 : n2 ≤ 1048576) (hn3 : n3 ≤ 1048576) (he3 : totP2 t3 ≤ 1048576)
include h0 h1 h2 h3 hn0 he0 hn1 he1 hn2 hn3 he3
set_option maxRecDepth 100000 in
set_option maxHeartbeats 4000000 in
theorem with_no (A4 : Option Addr) (n4 c4 : Nat) (hv : annB t0 t1 t2 t3 = false) :
    Calls Try.prog 50 #[.agg #[.slice A0 n0 c0, .slice A1 n1 c1, .slice A2 n2 c2, .slice A3 n3 c3], .slice A4 n4 c4] w fun e w' => AnI w w' e 0 0 0 0 [] [] [] [] false := by
  have hb0 : Below w.heap.size w ((w.alloc (.cells #[.slice A0 n0 c0, .slice A1 n1 c1, .slice A2 n2 c2, .slice A3 n3 c3] 35)).alloc (.cells #[.slice none 0 0, .slice none 0 0, .slice none 0 0, .slice none 0 0] 35)) := bon (bnew _ _) (bnew _ _)
  have hX : BlkIs ((w.alloc (.cells #[.slice A0 n0 c0, .slice A1 n1 c1, .slice A2 n2 c2, .slice A3 n3 c3] 35)).alloc (.cells #[.slice none 0 0, .slice none 0 0, .slice none 0 0, .slice none 0 0] 35)) (w.heap.size + 1) 35 #[.slice none 0 0, .slice none 0 0, .slice none 0 0, .slice none 0 0] := blk_new _ _ _ _ (by simp)
  have HV : Hid (∀ x, Below w.heap.size w x → Calls Try.prog 89 #[.agg #[.slice A0 n0 c0, .slice A1 n1 c1, .slice A2 n2 c2, .slice A3 n3 c3]] x fun e w' => e = .returned (.bool false) ∧ Below x.heap.size x w') := fun x hx => by
    have h := implAnn_c A0 n0 c0 t0 A1 n1 c1 t1 A2 n2 c2 t2 A3 n3 c3 t3 x ((h0.next hx (Nat.le_refl _)).more hx.size) ((h1.next hx (Nat.le_refl _)).more hx.size) ((h2.next hx (Nat.le_refl _)).more hx.size) ((h3.next hx (Nat.le_refl _)).more hx.size) hn0 he0 hn1 he1 hn2 hn3 he3
    rw [hv] at h
    exact h
  clear h0 h1 h2 h3 hv
  go_enter Try.func50, Try.ntmps50
  go_wp2_with fail
  generalize ((w.alloc (.cells #[.slice A0 n0 c0, .slice A1 n1 c1, .slice A2 n2 c2, .slice A3 n3 c3] 35)).alloc (.cells #[.slice none 0 0, .slice none 0 0, .slice none 0 0, .slice none 0 0] 35)) = W at hb0 hX ⊢
  refine (HV.out W hb0).mono ?_
  rintro e w1 ⟨rfl, hb1⟩
  have hX1 := hX.next hb1
  have f0 := hX1.frozen 0
  have f1 := hX1.frozen 1
  have f2 := hX1.frozen 2
  have f3 := hX1.frozen 3
  have y0 := hX1.cell 0
  have y1 := hX1.cell 1
  have y2 := hX1.cell 2
  have y3 := hX1.cell 3
  simp at y0 y1 y2 y3
  obtain ⟨hF, hgr⟩ := fill4 hX1 (.slice none 0 0) (.slice none 0 0) (.slice none 0 0) (.slice none 0 0)
  have r0 := hF.cell 0
  have r1 := hF.cell 1
  have r2 := hF.cell 2
  have r3 := hF.cell 3
  simp at r0 r1 r2 r3
  have hbF := (bon hb0 hb1).trans (only_below hgr (Nat.le_succ _) (bon hb0 hb1).size)
  clear hgr hF hX1
  go_wp2_with fail
  refine bodyPost_ret (v := .tuple #[.agg #[.slice none 0 0, .slice none 0 0, .slice none 0 0, .slice none 0 0], .bool false]) (by simp [results, Try.results50, go_sem, r0, r1, r2, r3]) rfl ?_
  exact anI_none hbF (ownP2_none _)

set_option maxRecDepth 100000 in
set_option maxHeartbeats 4000000 in
theorem implDrop_out (i : Int) (hi : ¬ (0 ≤ i ∧ i ≤ (n3 : Int) - 1)) :
    Calls Try.prog 20 #[.agg #[.slice A0 n0 c0, .slice A1 n1 c1, .slice A2 n2 c2, .slice A3 n3 c3], .int .i64 i] w fun e w' => AnI w w' e 0 0 0 0 [] [] [] [] false := by
  have hb0 : Below w.heap.size w ((w.alloc (.cells #[.slice A0 n0 c0, .slice A1 n1 c1, .slice A2 n2 c2, .slice A3 n3 c3] 35)).alloc (.cells #[.slice none 0 0, .slice none 0 0, .slice none 0 0, .slice none 0 0] 35)) := bon (bnew _ _) (bnew _ _)
  have hP : BlkIs ((w.alloc (.cells #[.slice A0 n0 c0, .slice A1 n1 c1, .slice A2 n2 c2, .slice A3 n3 c3] 35)).alloc (.cells #[.slice none 0 0, .slice none 0 0, .slice none 0 0, .slice none 0 0] 35)) w.heap.size 35 #[.slice A0 n0 c0, .slice A1 n1 c1, .slice A2 n2 c2, .slice A3 n3 c3] := (blk_new w _ _ _ rfl).next (bnew _ _)
  have hX1 : BlkIs ((w.alloc (.cells #[.slice A0 n0 c0, .slice A1 n1 c1, .slice A2 n2 c2, .slice A3 n3 c3] 35)).alloc (.cells #[.slice none 0 0, .slice none 0 0, .slice none 0 0, .slice none 0 0] 35)) (w.heap.size + 1) 35 #[.slice none 0 0, .slice none 0 0, .slice none 0 0, .slice none 0 0] := blk_new _ _ _ _ (by simp)
  have hbad : (decide (0 ≤ i) && decide (i ≤ (n3 : Int) - 1)) = false := by simpa using hi
  have HB := Lib.hid (isBetween_i i 0 ((n3 : Int) - 1))
  rw [hbad] at HB
  clear h0 h1 h2 h3 hbad hi
  go_enter Try.func20, Try.ntmps20
  go_wp2_with fail
  generalize ((w.alloc (.cells #[.slice A0 n0 c0, .slice A1 n1 c1, .slice A2 n2 c2, .slice A3 n3 c3] 35)).alloc (.cells #[.slice none 0 0, .slice none 0 0, .slice none 0 0, .slice none 0 0] 35)) = W at hb0 hP hX1 ⊢
  have p3 := hP.cell 3
  simp at p3
  refine (HB.out W).mono ?_
  rintro e w2 ⟨rfl, rfl⟩
  have f0 := hX1.frozen 0
  have f1 := hX1.frozen 1
  have f2 := hX1.frozen 2
  have f3 := hX1.frozen 3
  have y0 := hX1.cell 0
  have y1 := hX1.cell 1
  have y2 := hX1.cell 2
  have y3 := hX1.cell 3
  simp at y0 y1 y2 y3
  obtain ⟨hF, hgr⟩ := fill4 hX1 (.slice none 0 0) (.slice none 0 0) (.slice none 0 0) (.slice none 0 0)
  have r0 := hF.cell 0
  have r1 := hF.cell 1
  have r2 := hF.cell 2
  have r3 := hF.cell 3
  simp at r0 r1 r2 r3
  have hbF := hb0.trans (only_below hgr (Nat.le_succ _) hb0.size)
  clear hgr hF hX1
  go_wp2_with fail
  refine bodyPost_ret (v := .tuple #[.agg #[.slice none 0 0, .slice none 0 0, .slice none 0 0, .slice none 0 0], .bool false]) (by simp [results, Try.results20, go_sem, r0, r1, r2, r3]) rfl ?_
  exact anI_none hbF (ownP2_none _)

set_option maxRecDepth 100000 in
set_option maxHeartbeats 8000000 in
theorem implDrop_mid (k : Nat) (hk : k < n3) (hn38 : n3 ≤ 1048576) (A : Option Addr) (c : Nat) (hcap : n3 ≤ c3) (g off : Nat) (hA3 : A3 = some ⟨g, off, none⟩) (hsl : A = (if c3 = k + 1 then some ⟨g, off, none⟩ else some ⟨g, off + (k + 1) * 2, none⟩)) (hcc : c = c3 - (k + 1))
    (m0 m1 m2 m3 : Nat) (u0 u1 : List (Int × List Int)) (u2 : List (Int × Int)) (u3 : List P2) (r : Bool)
    (HW0 : ∀ (x : World) (A4 : Option Addr) (c4 : Nat), Below w.heap.size w x → InP2 x x.heap.size A4 (n3 - 1) (t3.take k ++ t3.drop (k + 1)) → Calls Try.prog 50 #[.agg #[.slice A0 n0 c0, .slice A1 n1 c1, .slice A2 n2 c2, .slice A3 n3 c3], .slice A4 (n3 - 1) c4] x fun e w' => AnI x w' e m0 m1 m2 m3 u0 u1 u2 u3 r) :
    Calls Try.prog 20 #[.agg #[.slice A0 n0 c0, .slice A1 n1 c1, .slice A2 n2 c2, .slice A3 n3 c3], .int .i64 (k : Int)] w fun e w' => AnI w w' e m0 m1 m2 m3 u0 u1 u2 u3 r := by
  subst hA3 hcc hsl
  have hb0 : Below w.heap.size w ((w.alloc (.cells #[.slice A0 n0 c0, .slice A1 n1 c1, .slice A2 n2 c2, .slice (some ⟨g, off, none⟩) n3 c3] 35)).alloc (.cells #[.slice none 0 0, .slice none 0 0, .slice none 0 0, .slice none 0 0] 35)) := bon (bnew _ _) (bnew _ _)
  have hP : BlkIs ((w.alloc (.cells #[.slice A0 n0 c0, .slice A1 n1 c1, .slice A2 n2 c2, .slice (some ⟨g, off, none⟩) n3 c3] 35)).alloc (.cells #[.slice none 0 0, .slice none 0 0, .slice none 0 0, .slice none 0 0] 35)) w.heap.size 35 #[.slice A0 n0 c0, .slice A1 n1 c1, .slice A2 n2 c2, .slice (some ⟨g, off, none⟩) n3 c3] := (blk_new w _ _ _ rfl).next (bnew _ _)
  have hX1 : BlkIs ((w.alloc (.cells #[.slice A0 n0 c0, .slice A1 n1 c1, .slice A2 n2 c2, .slice (some ⟨g, off, none⟩) n3 c3] 35)).alloc (.cells #[.slice none 0 0, .slice none 0 0, .slice none 0 0, .slice none 0 0] 35)) (w.heap.size + 1) 35 #[.slice none 0 0, .slice none 0 0, .slice none 0 0, .slice none 0 0] := blk_new _ _ _ _ (by simp)
  have hs2 : w.heap.size + 2 ≤ (((w.alloc (.cells #[.slice A0 n0 c0, .slice A1 n1 c1, .slice A2 n2 c2, .slice (some ⟨g, off, none⟩) n3 c3] 35)).alloc (.cells #[.slice none 0 0, .slice none 0 0, .slice none 0 0, .slice none 0 0] 35))).heap.size := by simp
  have hbad : (decide (0 ≤ (k : Int)) && decide ((k : Int) ≤ (n3 : Int) - 1)) = true := by simp; omega
  have HB := Lib.hid (isBetween_i (k : Int) 0 ((n3 : Int) - 1))
  rw [hbad] at HB
  have hlen := Lib.hid h3.1
  have HT : Hid (InP2 w w.heap.size (some ⟨g, off, none⟩) k (t3.take k)) := ⟨by rw [List.length_take, hlen.out]; omega, fun j x hj => by
    have hl := (List.getElem?_eq_some_iff.1 hj).1
    rw [List.length_take] at hl
    rw [List.getElem?_take_of_lt (by omega)] at hj
    exact h3.2 j x hj⟩
  have HD : Hid (InP2 w w.heap.size (if c3 = k + 1 then some ⟨g, off, none⟩ else some ⟨g, off + (k + 1) * 2, none⟩) (n3 - (k + 1)) (t3.drop (k + 1))) := ⟨by rw [List.length_drop, hlen.out], fun j x hj => by
    rw [List.getElem?_drop] at hj
    have hl := (List.getElem?_eq_some_iff.1 hj).1
    have hll := hlen.out
    obtain ⟨b', off', e, hb', A', n', c', q0, q1, q2⟩ := h3.2 _ x hj
    cases e
    refine ⟨g, off + (k + 1) * 2, if_neg (by omega), hb', A', n', c', ?_, ?_, q2⟩
    · rw [show off + (k + 1) * 2 + j * 2 = off + (k + 1 + j) * 2 by omega]; exact q0
    · rw [show off + (k + 1) * 2 + j * 2 + 1 = off + (k + 1 + j) * 2 + 1 by omega]; exact q1⟩
  have HCat : Hid (∀ (x : World) (b : Nat), Below w.heap.size w x → BlkIs x b 33 #[.slice (some ⟨g, off, none⟩) k c3, .slice (if c3 = k + 1 then some ⟨g, off, none⟩ else some ⟨g, off + (k + 1) * 2, none⟩) (n3 - (k + 1)) (c3 - (k + 1))] → Calls Try.prog 61 #[.slice (some ⟨b, 0, none⟩) 2 2] x fun e w' => ∃ A' c', e = .returned (.slice A' (n3 - 1) c') ∧ InP2 w' w'.heap.size A' (n3 - 1) (t3.take k ++ t3.drop (k + 1)) ∧ Below x.heap.size x w') := fun x b hx hb => by
    have h := concP_c b (some ⟨g, off, none⟩) k c3 w.heap.size _ (if c3 = k + 1 then some ⟨g, off, none⟩ else some ⟨g, off + (k + 1) * 2, none⟩) (n3 - (k + 1)) (c3 - (k + 1)) _ x hb (HT.out.next hx (Nat.le_refl _)) (HD.out.next hx (Nat.le_refl _)) hx.size (by omega) (by omega)
    rw [show k + (n3 - (k + 1)) = n3 - 1 by omega] at h
    exact h
  have HW := Lib.hid HW0
  have hkc : k ≤ c3 := by omega
  have hki : (k : Int) + 1 ≤ (n3 : Int) := by omega
  have wa : IntKind.i64.wrap ((k : Int) + 1) = (k : Int) + 1 := IntWalk.i64_in _ (by omega)
  have wb : (0 : Int) ≤ (k : Int) + 1 := by omega
  have wc : ((k : Int) + 1).toNat = k + 1 := by omega
  clear h0 h1 h2 h3 hbad HW0 HT HD
  go_enter Try.func20, Try.ntmps20
  go_wp2_with fail
  generalize ((w.alloc (.cells #[.slice A0 n0 c0, .slice A1 n1 c1, .slice A2 n2 c2, .slice (some ⟨g, off, none⟩) n3 c3] 35)).alloc (.cells #[.slice none 0 0, .slice none 0 0, .slice none 0 0, .slice none 0 0] 35)) = W at hb0 hP hX1 hs2 ⊢
  have a3 := hP.cell 3
  simp at a3
  refine (HB.out W).mono ?_
  rintro e w1 ⟨rfl, rfl⟩
  have X2 : BlkIs W.drew (w.heap.size + 1) 35 #[.slice none 0 0, .slice none 0 0, .slice none 0 0, .slice none 0 0] := hX1
  have p0 : W.drew.cell? ⟨w.heap.size, 0, none⟩ = some (.slice A0 n0 c0) := hP.cell 0
  have p1 : W.drew.cell? ⟨w.heap.size, 1, none⟩ = some (.slice A1 n1 c1) := hP.cell 1
  have p2 : W.drew.cell? ⟨w.heap.size, 2, none⟩ = some (.slice A2 n2 c2) := hP.cell 2
  have p3 : W.drew.cell? ⟨w.heap.size, 3, none⟩ = some (.slice (some ⟨g, off, none⟩) n3 c3) := hP.cell 3
  have hbd : Below w.heap.size w W.drew := hb0.drew
  have hs2' : w.heap.size + 2 ≤ W.drew.heap.size := hs2
  clear hP hX1 a3 HB hs2
  go_wp2_with fail
  by_cases hkk : c3 = k + 1
  · rw [if_pos hkk] at HCat
    subst hkk
    have hkz : (k : Int) ≤ (k : Int) + 1 := by omega
    rw [show k + 1 - (k + 1) = 0 by omega, show n3 - (k + 1) = 0 by omega] at HCat
    refine wp_region_held_drew (S := fun w' => w'.cell? ⟨w.heap.size, 0, none⟩ = some (.slice A0 n0 c0) ∧ w'.cell? ⟨w.heap.size, 1, none⟩ = some (.slice A1 n1 c1) ∧ w'.cell? ⟨w.heap.size, 2, none⟩ = some (.slice A2 n2 c2) ∧ w'.cell? ⟨w.heap.size, 3, none⟩ = some (.slice (some ⟨g, off, none⟩) n3 (k + 1))) (by kernel_rfl) ⟨p0, p1, p2, p3⟩ ?_
    intro hHeld0
    generalize W.drew = w2 at p0 p1 p2 p3 X2 hbd hs2' hHeld0 ⊢
    refine wpAnyH_take (i := 0) (v := ?_) rfl (by kernel_rfl) (by kernel_rfl) (by kernel_rfl) (fun _ _ _ h => h) (Or.inl ⟨by kernel_rfl, ?_⟩) (by assumption) ?_
    rotate_left
    · intro w9 hS9; (try dsimp only at hS9); go_simp; (try with_reducible rfl)
    set_option linter.unusedSimpArgs false in try simp only [Act.put, List.getElem_toArray, List.getElem_cons_succ, List.getElem_cons_zero, List.setIfInBounds_toArray, List.set_cons_zero, List.set_cons_succ]
    refine wpAnyH_take (i := 1) (v := ?_) rfl (by kernel_rfl) (by kernel_rfl) (by kernel_rfl) (fun _ _ _ h => h) (Or.inl ⟨by kernel_rfl, ?_⟩) (by assumption) ?_
    rotate_left
    · intro w9 hS9; (try dsimp only at hS9); go_simp; (try with_reducible rfl)
    set_option linter.unusedSimpArgs false in try simp only [Act.put, List.getElem_toArray, List.getElem_cons_succ, List.getElem_cons_zero, List.setIfInBounds_toArray, List.set_cons_zero, List.set_cons_succ]
    refine wpAnyH_take (i := 2) (v := ?_) rfl (by kernel_rfl) (by kernel_rfl) (by kernel_rfl) (fun _ _ _ h => h) (Or.inl ⟨by kernel_rfl, ?_⟩) (by assumption) ?_
    rotate_left
    · intro w9 hS9; (try dsimp only at hS9); go_simp; (try with_reducible rfl)
    set_option linter.unusedSimpArgs false in try simp only [Act.put, List.getElem_toArray, List.getElem_cons_succ, List.getElem_cons_zero, List.setIfInBounds_toArray, List.set_cons_zero, List.set_cons_succ]
    refine wpAnyH_take (i := 3) (v := ?_) rfl (by kernel_rfl) (by kernel_rfl) (by kernel_rfl) (fun _ _ _ h => h) (Or.inl ⟨by kernel_rfl, ?_⟩) (by assumption) ?_
    rotate_left
    · intro w9 hS9; (try dsimp only at hS9); go_simp; (try with_reducible rfl)
    set_option linter.unusedSimpArgs false in try simp only [Act.put, List.getElem_toArray, List.getElem_cons_succ, List.getElem_cons_zero, List.setIfInBounds_toArray, List.set_cons_zero, List.set_cons_succ]
    refine wpAnyH_take (i := 4) (v := ?_) rfl (by kernel_rfl) (by kernel_rfl) (by kernel_rfl) (fun _ _ _ h => h) (Or.inl ⟨by kernel_rfl, ?_⟩) (by assumption) ?_
    rotate_left
    · intro w9 hS9; (try dsimp only at hS9); go_simp; (try with_reducible rfl)
    set_option linter.unusedSimpArgs false in try simp only [Act.put, List.getElem_toArray, List.getElem_cons_succ, List.getElem_cons_zero, List.setIfInBounds_toArray, List.set_cons_zero, List.set_cons_succ]
    refine wpAnyH_take (i := 5) (v := ?_) rfl (by kernel_rfl) (by kernel_rfl) (by kernel_rfl) (fun _ _ _ h => h) (Or.inl ⟨by kernel_rfl, ?_⟩) (by assumption) ?_
    rotate_left
    · intro w9 hS9; (try dsimp only at hS9); go_simp; (try with_reducible rfl)
    set_option linter.unusedSimpArgs false in try simp only [Act.put, List.getElem_toArray, List.getElem_cons_succ, List.getElem_cons_zero, List.setIfInBounds_toArray, List.set_cons_zero, List.set_cons_succ]
    refine wpAnyH_take (i := 6) (v := ?_) rfl (by kernel_rfl) (by kernel_rfl) (by kernel_rfl) (fun _ _ _ h => h) (Or.inl ⟨by kernel_rfl, ?_⟩) (by assumption) ?_
    rotate_left
    · intro w9 hS9; (try dsimp only at hS9); go_simp; (try with_reducible rfl)
    set_option linter.unusedSimpArgs false in try simp only [Act.put, List.getElem_toArray, List.getElem_cons_succ, List.getElem_cons_zero, List.setIfInBounds_toArray, List.set_cons_zero, List.set_cons_succ]
    refine wpAnyH_take (i := 7) (v := ?_) rfl (by kernel_rfl) (by kernel_rfl) (by kernel_rfl) (fun _ _ _ h => h) (Or.inl ⟨by kernel_rfl, ?_⟩) (by assumption) ?_
    rotate_left
    · intro w9 hS9; (try dsimp only at hS9); go_simp; (try with_reducible rfl)
    set_option linter.unusedSimpArgs false in try simp only [Act.put, List.getElem_toArray, List.getElem_cons_succ, List.getElem_cons_zero, List.setIfInBounds_toArray, List.set_cons_zero, List.set_cons_succ]
    refine wpAnyH_take (i := 8) (v := ?_) rfl (by kernel_rfl) (by kernel_rfl) (by kernel_rfl) (fun _ _ _ h => h) (Or.inl ⟨by kernel_rfl, ?_⟩) (by assumption) ?_
    rotate_left
    · intro w9 hS9; (try dsimp only at hS9); go_simp; (try with_reducible rfl)
    set_option linter.unusedSimpArgs false in try simp only [Act.put, List.getElem_toArray, List.getElem_cons_succ, List.getElem_cons_zero, List.setIfInBounds_toArray, List.set_cons_zero, List.set_cons_succ]
    refine wpAnyH_take (i := 9) (v := ?_) rfl (by kernel_rfl) (by kernel_rfl) (by kernel_rfl) (fun _ _ _ h => h) (Or.inl ⟨by kernel_rfl, ?_⟩) (by assumption) ?_
    rotate_left
    · intro w9 hS9; (try dsimp only at hS9); go_simp; (try with_reducible rfl)
    set_option linter.unusedSimpArgs false in try simp only [Act.put, List.getElem_toArray, List.getElem_cons_succ, List.getElem_cons_zero, List.setIfInBounds_toArray, List.set_cons_zero, List.set_cons_succ]
    refine wpAnyH_ready (rs := [10]) (by kernel_rfl) (by simp) ?_
    refine AllReadyH.cons rfl (fun K hK => ?_) (AllReadyH.nil)
    go_simp
    have pp1 := cell_next p0 (bnew w2 (.cells #[.slice (some ⟨g, off, none⟩) k (k + 1), .slice (some ⟨g, off, none⟩) 0 0] 33))
    have pp2 := cell_next p1 (bnew w2 (.cells #[.slice (some ⟨g, off, none⟩) k (k + 1), .slice (some ⟨g, off, none⟩) 0 0] 33))
    have pp3 := cell_next p2 (bnew w2 (.cells #[.slice (some ⟨g, off, none⟩) k (k + 1), .slice (some ⟨g, off, none⟩) 0 0] 33))
    have pp4 := cell_next p3 (bnew w2 (.cells #[.slice (some ⟨g, off, none⟩) k (k + 1), .slice (some ⟨g, off, none⟩) 0 0] 33))
    have X5 := X2.next (bnew w2 (.cells #[.slice (some ⟨g, off, none⟩) k (k + 1), .slice (some ⟨g, off, none⟩) 0 0] 33))
    have bw6 := bon hbd (bnew w2 (.cells #[.slice (some ⟨g, off, none⟩) k (k + 1), .slice (some ⟨g, off, none⟩) 0 0] 33))
    have hbk : BlkIs (w2.alloc (.cells #[.slice (some ⟨g, off, none⟩) k (k + 1), .slice (some ⟨g, off, none⟩) 0 0] 33)) w2.heap.size 33 #[.slice (some ⟨g, off, none⟩) k (k + 1), .slice (some ⟨g, off, none⟩) 0 0] := blk_new _ _ _ _ rfl
    have hs3 : w.heap.size + 2 ≤ (w2.alloc (.cells #[.slice (some ⟨g, off, none⟩) k (k + 1), .slice (some ⟨g, off, none⟩) 0 0] 33)).heap.size := Nat.le_trans hs2' (bnew w2 (.cells #[.slice (some ⟨g, off, none⟩) k (k + 1), .slice (some ⟨g, off, none⟩) 0 0] 33)).size
    generalize (w2.alloc (.cells #[.slice (some ⟨g, off, none⟩) k (k + 1), .slice (some ⟨g, off, none⟩) 0 0] 33)) = V1 at hs3 hbk X5 bw6 pp1 pp2 pp3 pp4 ⊢
    refine hK.out _ _ ⟨pp1, pp2, pp3, pp4⟩ (fun hHeld7 => ?_)
    clear hK K hHeld0
    set_option linter.unusedSimpArgs false in try simp only [Act.put, List.getElem_toArray, List.getElem_cons_succ, List.getElem_cons_zero, List.setIfInBounds_toArray, List.set_cons_zero, List.set_cons_succ]
    refine wpAnyH_ready (rs := [11]) (by kernel_rfl) (by simp) ?_
    refine AllReadyH.cons rfl (fun K hK => ?_) (AllReadyH.nil)
    go_simp
    go_wp2_with (go_at_call 61; refine (HCat.out _ _ bw6 hbk).mono ?_; rintro e v1 ⟨A4, c4, rfl, hcat, hbc⟩)
    have pp8 := cell_next pp1 hbc
    have pp9 := cell_next pp2 hbc
    have pp10 := cell_next pp3 hbc
    have pp11 := cell_next pp4 hbc
    have X12 := X5.next hbc
    have bw13 := bon bw6 hbc
    refine hK.out _ _ ⟨pp8, pp9, pp10, pp11⟩ (fun hHeld14 => ?_)
    clear hK K hHeld7
    set_option linter.unusedSimpArgs false in try simp only [Act.put, List.getElem_toArray, List.getElem_cons_succ, List.getElem_cons_zero, List.setIfInBounds_toArray, List.set_cons_zero, List.set_cons_succ]
    refine wpAnyH_ready (rs := [12]) (by kernel_rfl) (by simp) ?_
    refine AllReadyH.cons rfl (fun K hK => ?_) (AllReadyH.nil)
    go_simp
    go_wp2_with (go_at_call 50; refine (HW.out _ A4 c4 bw13 hcat).mono ?_; rintro e v2 ⟨R0, d0, R1, d1, R2, d2, R3, d3, md0, md1, md2, rfl, o0, o1, o2, o3, hmd, hbx⟩)
    have pp15 := cell_next pp8 hbx
    have pp16 := cell_next pp9 hbx
    have pp17 := cell_next pp10 hbx
    have pp18 := cell_next pp11 hbx
    have X19 := X12.next hbx
    have bw20 := bon bw13 hbx
    refine hK.out _ _ ⟨pp15, pp16, pp17, pp18⟩ (fun hHeld21 => ?_)
    clear hK K hHeld14
    set_option linter.unusedSimpArgs false in try simp only [Act.put, List.getElem_toArray, List.getElem_cons_succ, List.getElem_cons_zero, List.setIfInBounds_toArray, List.set_cons_zero, List.set_cons_succ]
    refine wpAnyH_take (i := 13) (v := ?_) rfl (by kernel_rfl) (by kernel_rfl) (by kernel_rfl) (fun _ _ _ h => h) (Or.inl ⟨by kernel_rfl, ?_⟩) (by assumption) ?_
    rotate_left
    · intro w9 hS9; (try dsimp only at hS9); go_simp; (try with_reducible rfl)
    set_option linter.unusedSimpArgs false in try simp only [Act.put, List.getElem_toArray, List.getElem_cons_succ, List.getElem_cons_zero, List.setIfInBounds_toArray, List.set_cons_zero, List.set_cons_succ]
    refine wpAnyH_take (i := 14) (v := ?_) rfl (by kernel_rfl) (by kernel_rfl) (by kernel_rfl) (fun _ _ _ h => h) (Or.inl ⟨by kernel_rfl, ?_⟩) (by assumption) ?_
    rotate_left
    · intro w9 hS9; (try dsimp only at hS9); go_simp; (try with_reducible rfl)
    set_option linter.unusedSimpArgs false in try simp only [Act.put, List.getElem_toArray, List.getElem_cons_succ, List.getElem_cons_zero, List.setIfInBounds_toArray, List.set_cons_zero, List.set_cons_succ]
    refine wpAnyH_ready (rs := [15]) (by kernel_rfl) (by simp) ?_
    refine AllReadyH.cons rfl (fun K hK => ?_) (AllReadyH.nil)
    have y0 := X19.cell 0
    have y1 := X19.cell 1
    have y2 := X19.cell 2
    have y3 := X19.cell 3
    simp at y0 y1 y2 y3
    have f0 := X19.frozen 0
    have f1 := X19.frozen 1
    have f2 := X19.frozen 2
    have f3 := X19.frozen 3
    obtain ⟨hF, hgr⟩ := fill4 X19 (.slice R0 m0 d0) (.slice R1 m1 d1) (.slice R2 m2 d2) (.slice R3 m3 d3)
    have hoF : Out (w.heap.size + 1) (w.heap.size + 2) v2 _ := Out.of_grown hgr (fun k hk => by have := Option.some.inj hk; omega)
    go_simp
    refine hK.out _ _ ⟨hoF.cell pp15 (by omega), hoF.cell pp16 (by omega), hoF.cell pp17 (by omega), hoF.cell pp18 (by omega)⟩ (fun hHeld22 => ?_)
    clear hK K hHeld21
    set_option linter.unusedSimpArgs false in try simp only [Act.put, List.getElem_toArray, List.getElem_cons_succ, List.getElem_cons_zero, List.setIfInBounds_toArray, List.set_cons_zero, List.set_cons_succ]
    refine wpAnyH_take (i := 16) (v := ?_) rfl (by kernel_rfl) (by kernel_rfl) (by kernel_rfl) (fun _ _ _ h => h) (Or.inl ⟨by kernel_rfl, ?_⟩) (by assumption) ?_
    rotate_left
    · intro w9 hS9; (try dsimp only at hS9); go_simp; (try with_reducible rfl)
    set_option linter.unusedSimpArgs false in try simp only [Act.put, List.getElem_toArray, List.getElem_cons_succ, List.getElem_cons_zero, List.setIfInBounds_toArray, List.set_cons_zero, List.set_cons_succ]
    refine wpAnyH_done (by kernel_rfl) ?_ _
    have r0 := hF.cell 0
    have r1 := hF.cell 1
    have r2 := hF.cell 2
    have r3 := hF.cell 3
    simp at r0 r1 r2 r3
    have hsz1 : w.heap.size + 2 ≤ v1.heap.size := Nat.le_trans hs3 hbc.size
    have O0 := o0.out hoF (.inl (by omega))
    have O1 := o1.out hoF (.inl (by omega))
    have O2 := o2.out hoF (.inl (by omega))
    have O3 := o3.out hoF (.inl (by omega))
    have bwf := bw20
    have hbF := bwf.trans (hoF.below (Nat.le_succ _) bwf.size)
    have hsF := hoF.size
    clear hF hgr
    go_wp2_with fail
    refine bodyPost_ret (v := .tuple #[.agg #[.slice R0 m0 d0, .slice R1 m1 d1, .slice R2 m2 d2, .slice R3 m3 d3], .bool r]) (by simp [results, Try.results20, go_sem, r0, r1, r2, r3]) rfl ?_
    exact ⟨_, _, _, _, _, _, _, _, md0, md1, md2, rfl, O0.less (by omega), O1, O2, O3.wide (by omega) (Nat.le_refl _), ⟨by omega, by omega, by omega, by omega⟩, hbF⟩
  · rw [if_neg hkk] at HCat
    refine wp_region_held_drew (S := fun w' => w'.cell? ⟨w.heap.size, 0, none⟩ = some (.slice A0 n0 c0) ∧ w'.cell? ⟨w.heap.size, 1, none⟩ = some (.slice A1 n1 c1) ∧ w'.cell? ⟨w.heap.size, 2, none⟩ = some (.slice A2 n2 c2) ∧ w'.cell? ⟨w.heap.size, 3, none⟩ = some (.slice (some ⟨g, off, none⟩) n3 c3)) (by kernel_rfl) ⟨p0, p1, p2, p3⟩ ?_
    intro hHeld0
    generalize W.drew = w2 at p0 p1 p2 p3 X2 hbd hs2' hHeld0 ⊢
    refine wpAnyH_take (i := 0) (v := ?_) rfl (by kernel_rfl) (by kernel_rfl) (by kernel_rfl) (fun _ _ _ h => h) (Or.inl ⟨by kernel_rfl, ?_⟩) (by assumption) ?_
    rotate_left
    · intro w9 hS9; (try dsimp only at hS9); go_simp; (try with_reducible rfl)
    set_option linter.unusedSimpArgs false in try simp only [Act.put, List.getElem_toArray, List.getElem_cons_succ, List.getElem_cons_zero, List.setIfInBounds_toArray, List.set_cons_zero, List.set_cons_succ]
    refine wpAnyH_take (i := 1) (v := ?_) rfl (by kernel_rfl) (by kernel_rfl) (by kernel_rfl) (fun _ _ _ h => h) (Or.inl ⟨by kernel_rfl, ?_⟩) (by assumption) ?_
    rotate_left
    · intro w9 hS9; (try dsimp only at hS9); go_simp; (try with_reducible rfl)
    set_option linter.unusedSimpArgs false in try simp only [Act.put, List.getElem_toArray, List.getElem_cons_succ, List.getElem_cons_zero, List.setIfInBounds_toArray, List.set_cons_zero, List.set_cons_succ]
    refine wpAnyH_take (i := 2) (v := ?_) rfl (by kernel_rfl) (by kernel_rfl) (by kernel_rfl) (fun _ _ _ h => h) (Or.inl ⟨by kernel_rfl, ?_⟩) (by assumption) ?_
    rotate_left
    · intro w9 hS9; (try dsimp only at hS9); go_simp; (try with_reducible rfl)
    set_option linter.unusedSimpArgs false in try simp only [Act.put, List.getElem_toArray, List.getElem_cons_succ, List.getElem_cons_zero, List.setIfInBounds_toArray, List.set_cons_zero, List.set_cons_succ]
    refine wpAnyH_take (i := 3) (v := ?_) rfl (by kernel_rfl) (by kernel_rfl) (by kernel_rfl) (fun _ _ _ h => h) (Or.inl ⟨by kernel_rfl, ?_⟩) (by assumption) ?_
    rotate_left
    · intro w9 hS9; (try dsimp only at hS9); go_simp; (try with_reducible rfl)
    set_option linter.unusedSimpArgs false in try simp only [Act.put, List.getElem_toArray, List.getElem_cons_succ, List.getElem_cons_zero, List.setIfInBounds_toArray, List.set_cons_zero, List.set_cons_succ]
    refine wpAnyH_take (i := 4) (v := ?_) rfl (by kernel_rfl) (by kernel_rfl) (by kernel_rfl) (fun _ _ _ h => h) (Or.inl ⟨by kernel_rfl, ?_⟩) (by assumption) ?_
    rotate_left
    · intro w9 hS9; (try dsimp only at hS9); go_simp; (try with_reducible rfl)
    set_option linter.unusedSimpArgs false in try simp only [Act.put, List.getElem_toArray, List.getElem_cons_succ, List.getElem_cons_zero, List.setIfInBounds_toArray, List.set_cons_zero, List.set_cons_succ]
    refine wpAnyH_take (i := 5) (v := ?_) rfl (by kernel_rfl) (by kernel_rfl) (by kernel_rfl) (fun _ _ _ h => h) (Or.inl ⟨by kernel_rfl, ?_⟩) (by assumption) ?_
    rotate_left
    · intro w9 hS9; (try dsimp only at hS9); go_simp; (try with_reducible rfl)
    set_option linter.unusedSimpArgs false in try simp only [Act.put, List.getElem_toArray, List.getElem_cons_succ, List.getElem_cons_zero, List.setIfInBounds_toArray, List.set_cons_zero, List.set_cons_succ]
    refine wpAnyH_take (i := 6) (v := ?_) rfl (by kernel_rfl) (by kernel_rfl) (by kernel_rfl) (fun _ _ _ h => h) (Or.inl ⟨by kernel_rfl, ?_⟩) (by assumption) ?_
    rotate_left
    · intro w9 hS9; (try dsimp only at hS9); go_simp; (try with_reducible rfl)
    set_option linter.unusedSimpArgs false in try simp only [Act.put, List.getElem_toArray, List.getElem_cons_succ, List.getElem_cons_zero, List.setIfInBounds_toArray, List.set_cons_zero, List.set_cons_succ]
    refine wpAnyH_take (i := 7) (v := ?_) rfl (by kernel_rfl) (by kernel_rfl) (by kernel_rfl) (fun _ _ _ h => h) (Or.inl ⟨by kernel_rfl, ?_⟩) (by assumption) ?_
    rotate_left
    · intro w9 hS9; (try dsimp only at hS9); go_simp; (try with_reducible rfl)
    set_option linter.unusedSimpArgs false in try simp only [Act.put, List.getElem_toArray, List.getElem_cons_succ, List.getElem_cons_zero, List.setIfInBounds_toArray, List.set_cons_zero, List.set_cons_succ]
    refine wpAnyH_take (i := 8) (v := ?_) rfl (by kernel_rfl) (by kernel_rfl) (by kernel_rfl) (fun _ _ _ h => h) (Or.inl ⟨by kernel_rfl, ?_⟩) (by assumption) ?_
    rotate_left
    · intro w9 hS9; (try dsimp only at hS9); go_simp; (try with_reducible rfl)
    set_option linter.unusedSimpArgs false in try simp only [Act.put, List.getElem_toArray, List.getElem_cons_succ, List.getElem_cons_zero, List.setIfInBounds_toArray, List.set_cons_zero, List.set_cons_succ]
    refine wpAnyH_take (i := 9) (v := ?_) rfl (by kernel_rfl) (by kernel_rfl) (by kernel_rfl) (fun _ _ _ h => h) (Or.inl ⟨by kernel_rfl, ?_⟩) (by assumption) ?_
    rotate_left
    · intro w9 hS9; (try dsimp only at hS9); go_simp; (try with_reducible rfl)
    set_option linter.unusedSimpArgs false in try simp only [Act.put, List.getElem_toArray, List.getElem_cons_succ, List.getElem_cons_zero, List.setIfInBounds_toArray, List.set_cons_zero, List.set_cons_succ]
    refine wpAnyH_ready (rs := [10]) (by kernel_rfl) (by simp) ?_
    refine AllReadyH.cons rfl (fun K hK => ?_) (AllReadyH.nil)
    go_simp
    have pp1 := cell_next p0 (bnew w2 (.cells #[.slice (some ⟨g, off, none⟩) k c3, .slice (some ⟨g, off + (k + 1) * 2, none⟩) (n3 - (k + 1)) (c3 - (k + 1))] 33))
    have pp2 := cell_next p1 (bnew w2 (.cells #[.slice (some ⟨g, off, none⟩) k c3, .slice (some ⟨g, off + (k + 1) * 2, none⟩) (n3 - (k + 1)) (c3 - (k + 1))] 33))
    have pp3 := cell_next p2 (bnew w2 (.cells #[.slice (some ⟨g, off, none⟩) k c3, .slice (some ⟨g, off + (k + 1) * 2, none⟩) (n3 - (k + 1)) (c3 - (k + 1))] 33))
    have pp4 := cell_next p3 (bnew w2 (.cells #[.slice (some ⟨g, off, none⟩) k c3, .slice (some ⟨g, off + (k + 1) * 2, none⟩) (n3 - (k + 1)) (c3 - (k + 1))] 33))
    have X5 := X2.next (bnew w2 (.cells #[.slice (some ⟨g, off, none⟩) k c3, .slice (some ⟨g, off + (k + 1) * 2, none⟩) (n3 - (k + 1)) (c3 - (k + 1))] 33))
    have bw6 := bon hbd (bnew w2 (.cells #[.slice (some ⟨g, off, none⟩) k c3, .slice (some ⟨g, off + (k + 1) * 2, none⟩) (n3 - (k + 1)) (c3 - (k + 1))] 33))
    have hbk : BlkIs (w2.alloc (.cells #[.slice (some ⟨g, off, none⟩) k c3, .slice (some ⟨g, off + (k + 1) * 2, none⟩) (n3 - (k + 1)) (c3 - (k + 1))] 33)) w2.heap.size 33 #[.slice (some ⟨g, off, none⟩) k c3, .slice (some ⟨g, off + (k + 1) * 2, none⟩) (n3 - (k + 1)) (c3 - (k + 1))] := blk_new _ _ _ _ rfl
    have hs3 : w.heap.size + 2 ≤ (w2.alloc (.cells #[.slice (some ⟨g, off, none⟩) k c3, .slice (some ⟨g, off + (k + 1) * 2, none⟩) (n3 - (k + 1)) (c3 - (k + 1))] 33)).heap.size := Nat.le_trans hs2' (bnew w2 (.cells #[.slice (some ⟨g, off, none⟩) k c3, .slice (some ⟨g, off + (k + 1) * 2, none⟩) (n3 - (k + 1)) (c3 - (k + 1))] 33)).size
    generalize (w2.alloc (.cells #[.slice (some ⟨g, off, none⟩) k c3, .slice (some ⟨g, off + (k + 1) * 2, none⟩) (n3 - (k + 1)) (c3 - (k + 1))] 33)) = V1 at hs3 hbk X5 bw6 pp1 pp2 pp3 pp4 ⊢
    refine hK.out _ _ ⟨pp1, pp2, pp3, pp4⟩ (fun hHeld7 => ?_)
    clear hK K hHeld0
    set_option linter.unusedSimpArgs false in try simp only [Act.put, List.getElem_toArray, List.getElem_cons_succ, List.getElem_cons_zero, List.setIfInBounds_toArray, List.set_cons_zero, List.set_cons_succ]
    refine wpAnyH_ready (rs := [11]) (by kernel_rfl) (by simp) ?_
    refine AllReadyH.cons rfl (fun K hK => ?_) (AllReadyH.nil)
    go_simp
    go_wp2_with (go_at_call 61; refine (HCat.out _ _ bw6 hbk).mono ?_; rintro e v1 ⟨A4, c4, rfl, hcat, hbc⟩)
    have pp8 := cell_next pp1 hbc
    have pp9 := cell_next pp2 hbc
    have pp10 := cell_next pp3 hbc
    have pp11 := cell_next pp4 hbc
    have X12 := X5.next hbc
    have bw13 := bon bw6 hbc
    refine hK.out _ _ ⟨pp8, pp9, pp10, pp11⟩ (fun hHeld14 => ?_)
    clear hK K hHeld7
    set_option linter.unusedSimpArgs false in try simp only [Act.put, List.getElem_toArray, List.getElem_cons_succ, List.getElem_cons_zero, List.setIfInBounds_toArray, List.set_cons_zero, List.set_cons_succ]
    refine wpAnyH_ready (rs := [12]) (by kernel_rfl) (by simp) ?_
    refine AllReadyH.cons rfl (fun K hK => ?_) (AllReadyH.nil)
    go_simp
    go_wp2_with (go_at_call 50; refine (HW.out _ A4 c4 bw13 hcat).mono ?_; rintro e v2 ⟨R0, d0, R1, d1, R2, d2, R3, d3, md0, md1, md2, rfl, o0, o1, o2, o3, hmd, hbx⟩)
    have pp15 := cell_next pp8 hbx
    have pp16 := cell_next pp9 hbx
    have pp17 := cell_next pp10 hbx
    have pp18 := cell_next pp11 hbx
    have X19 := X12.next hbx
    have bw20 := bon bw13 hbx
    refine hK.out _ _ ⟨pp15, pp16, pp17, pp18⟩ (fun hHeld21 => ?_)
    clear hK K hHeld14
    set_option linter.unusedSimpArgs false in try simp only [Act.put, List.getElem_toArray, List.getElem_cons_succ, List.getElem_cons_zero, List.setIfInBounds_toArray, List.set_cons_zero, List.set_cons_succ]
    refine wpAnyH_take (i := 13) (v := ?_) rfl (by kernel_rfl) (by kernel_rfl) (by kernel_rfl) (fun _ _ _ h => h) (Or.inl ⟨by kernel_rfl, ?_⟩) (by assumption) ?_
    rotate_left
    · intro w9 hS9; (try dsimp only at hS9); go_simp; (try with_reducible rfl)
    set_option linter.unusedSimpArgs false in try simp only [Act.put, List.getElem_toArray, List.getElem_cons_succ, List.getElem_cons_zero, List.setIfInBounds_toArray, List.set_cons_zero, List.set_cons_succ]
    refine wpAnyH_take (i := 14) (v := ?_) rfl (by kernel_rfl) (by kernel_rfl) (by kernel_rfl) (fun _ _ _ h => h) (Or.inl ⟨by kernel_rfl, ?_⟩) (by assumption) ?_
    rotate_left
    · intro w9 hS9; (try dsimp only at hS9); go_simp; (try with_reducible rfl)
    set_option linter.unusedSimpArgs false in try simp only [Act.put, List.getElem_toArray, List.getElem_cons_succ, List.getElem_cons_zero, List.setIfInBounds_toArray, List.set_cons_zero, List.set_cons_succ]
    refine wpAnyH_ready (rs := [15]) (by kernel_rfl) (by simp) ?_
    refine AllReadyH.cons rfl (fun K hK => ?_) (AllReadyH.nil)
    have y0 := X19.cell 0
    have y1 := X19.cell 1
    have y2 := X19.cell 2
    have y3 := X19.cell 3
    simp at y0 y1 y2 y3
    have f0 := X19.frozen 0
    have f1 := X19.frozen 1
    have f2 := X19.frozen 2
    have f3 := X19.frozen 3
    obtain ⟨hF, hgr⟩ := fill4 X19 (.slice R0 m0 d0) (.slice R1 m1 d1) (.slice R2 m2 d2) (.slice R3 m3 d3)
    have hoF : Out (w.heap.size + 1) (w.heap.size + 2) v2 _ := Out.of_grown hgr (fun k hk => by have := Option.some.inj hk; omega)
    go_simp
    refine hK.out _ _ ⟨hoF.cell pp15 (by omega), hoF.cell pp16 (by omega), hoF.cell pp17 (by omega), hoF.cell pp18 (by omega)⟩ (fun hHeld22 => ?_)
    clear hK K hHeld21
    set_option linter.unusedSimpArgs false in try simp only [Act.put, List.getElem_toArray, List.getElem_cons_succ, List.getElem_cons_zero, List.setIfInBounds_toArray, List.set_cons_zero, List.set_cons_succ]
    refine wpAnyH_take (i := 16) (v := ?_) rfl (by kernel_rfl) (by kernel_rfl) (by kernel_rfl) (fun _ _ _ h => h) (Or.inl ⟨by kernel_rfl, ?_⟩) (by assumption) ?_
    rotate_left
    · intro w9 hS9; (try dsimp only at hS9); go_simp; (try with_reducible rfl)
    set_option linter.unusedSimpArgs false in try simp only [Act.put, List.getElem_toArray, List.getElem_cons_succ, List.getElem_cons_zero, List.setIfInBounds_toArray, List.set_cons_zero, List.set_cons_succ]
    refine wpAnyH_done (by kernel_rfl) ?_ _
    have r0 := hF.cell 0
    have r1 := hF.cell 1
    have r2 := hF.cell 2
    have r3 := hF.cell 3
    simp at r0 r1 r2 r3
    have hsz1 : w.heap.size + 2 ≤ v1.heap.size := Nat.le_trans hs3 hbc.size
    have O0 := o0.out hoF (.inl (by omega))
    have O1 := o1.out hoF (.inl (by omega))
    have O2 := o2.out hoF (.inl (by omega))
    have O3 := o3.out hoF (.inl (by omega))
    have bwf := bw20
    have hbF := bwf.trans (hoF.below (Nat.le_succ _) bwf.size)
    have hsF := hoF.size
    clear hF hgr
    go_wp2_with fail
    refine bodyPost_ret (v := .tuple #[.agg #[.slice R0 m0 d0, .slice R1 m1 d1, .slice R2 m2 d2, .slice R3 m3 d3], .bool r]) (by simp [results, Try.results20, go_sem, r0, r1, r2, r3]) rfl ?_
    exact ⟨_, _, _, _, _, _, _, _, md0, md1, md2, rfl, O0.less (by omega), O1, O2, O3.wide (by omega) (Nat.le_refl _), ⟨by omega, by omega, by omega, by omega⟩, hbF⟩
end
end Go.Proofs.Ytglbkbdljjaioaa
