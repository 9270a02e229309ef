/-
  Several texts in one: ConcP, DropI, Open, Bits, Final, ThrM, ThrS, EndJ, ThrI, ThrT. Conditions: as each says.
-/
import Derived.Test.YtglbkbdljjaioaaGreatPtRow
import Derived.Test.YtglbkbdljjaioaaGreatPtsP
import Derived.Lib.AppendZeros
import Derived.Test.YtglbkbdljjaioaaGreatWith
import Derived.Test.YtglbkbdljjaioaaGreatPass
import Derived.Lib.SliceRun
import Derived.Test.YtglbkbdljjaioaaGreatOwn
import Derived.WalkSmall
import Derived.Laws.Bits64b
import Derived.Deep.RegionHeld3
import Derived.Test.YtglbkbdljjaioaaGreatBlk
import Derived.Test.YtglbkbdljjaioaaGreatSplM
import Derived.Test.YtglbkbdljjaioaaGreatAnnM

/-! slices.Grow of nil and slices.Concat of two lists, at points. Conditions: at most 2^20 points. -/
namespace Go.Proofs.YtglbkbdljjaioaaGreat
open Go.RowKit
set_option linter.unusedVariables false

theorem ptsF_mono {len l l' : Int} {ps : List P2} (h : ptsF len l' ps = true) (hl : l ≤ l') : ptsF len l ps = true := by
  cases ps with
  | nil => rfl
  | cons p ps =>
    unfold ptsF at h ⊢
    simp only [Bool.and_eq_true, decide_eq_true_eq] at h ⊢
    exact ⟨⟨⟨by omega, h.1.1.2⟩, h.1.2⟩, h.2⟩
theorem ptsF_del {len : Int} : ∀ {ps : List P2} {k : Nat} {l : Int}, ptsF len l ps = true → ptsF len l (ps.take k ++ ps.drop (k + 1)) = true := by
  intro ps
  induction ps with
  | nil => intro k l _; simp [ptsF]
  | cons p ps ih =>
    intro k l h
    have h' := h
    unfold ptsF at h'
    simp only [Bool.and_eq_true, decide_eq_true_eq] at h'
    cases k with
    | zero =>
      show ptsF len l ps = true
      exact ptsF_mono h'.2 (by omega)
    | succ k =>
      show ptsF len l (p :: (ps.take k ++ ps.drop (k + 1))) = true
      unfold ptsF
      simp only [Bool.and_eq_true, decide_eq_true_eq]
      exact ⟨h'.1, ih h'.2⟩
theorem ptsB_del {len : Int} {ps : List P2} {k : Nat} (h : ptsB len ps = true) : ptsB len (ps.take k ++ ps.drop (k + 1)) = true := by
  unfold ptsB at h ⊢
  simp only [Bool.and_eq_true, decide_eq_true_eq] at h ⊢
  exact ⟨by rw [List.length_append, List.length_take, List.length_drop]; omega, ptsF_del h.2⟩
theorem totP2_del (ps : List P2) (k : Nat) : totP2 (ps.take k ++ ps.drop (k + 1)) ≤ totP2 ps := by
  have h1 : totP2 ps = totP2 (ps.take (k + 1)) + totP2 (ps.drop (k + 1)) := by
    unfold totP2
    rw [← List.sum_append, ← List.map_append, List.take_append_drop]
  have h2 : totP2 (ps.take k ++ ps.drop (k + 1)) = totP2 (ps.take k) + totP2 (ps.drop (k + 1)) := by
    unfold totP2
    rw [List.map_append, List.sum_append]
  have h3 : totP2 (ps.take k) ≤ totP2 (ps.take (k + 1)) := by
    have e : ps.take k = (ps.take (k + 1)).take k := by rw [List.take_take, Nat.min_eq_left (Nat.le_succ k)]
    rw [e]
    exact totP2_take _ _
  omega

/-- Points of the caller's in a row of the call's own. -/
def PIn (w : World) (base B : Nat) (v : Value) (n : Nat) (xs : List P2) : Prop :=
  xs.length = n ∧ ∃ cs, w.ownsRow base 69 2 v n cs ∧ ∀ j x, xs[j]? = some x → cs[j * 2]? = some (.int .i64 x.a) ∧ ∃ A' n' c', cs[j * 2 + 1]? = some (.slice A' n' c') ∧ InTS w B A' n' x.s
theorem PIn.out {w : World} {base B n : Nat} {v : Value} {xs : List P2} (h : PIn w base B v n xs) (hB : B ≤ w.heap.size) : ∃ A c, v = .slice A n c ∧ InP2 w w.heap.size A n xs := by
  obtain ⟨h1, cs, h3, h4⟩ := h
  have h3' := h3
  rcases h3.2 with ⟨rfl, hn⟩ | ⟨b, cap, cur, rfl, k2, k3, k4⟩
  · have : xs = [] := List.eq_nil_of_length_eq_zero (by omega)
    subst this
    subst hn
    exact ⟨none, 0, rfl, rfl, fun j t hj => by simp at hj⟩
  · refine ⟨some ⟨b, 0, none⟩, cap, rfl, h1, fun j x hj => ?_⟩
    have hjl : j < xs.length := (List.getElem?_eq_some_iff.1 hj).1
    have hxl := h3.1
    obtain ⟨a, A', n', c', bb, c⟩ := h4 j x hj
    refine ⟨b, 0, rfl, blk_lt k3, A', n', c', ?_, ?_, c.more hB⟩
    · rw [Nat.zero_add, h3.cellAt (j * 2) (by omega), a]
    · rw [Nat.zero_add, h3.cellAt (j * 2 + 1) (by omega), bb]
theorem p2_cells {w : World} {B b off n : Nat} {xs : List P2} (h : InP2 w B (some ⟨b, off, none⟩) n xs) :
    ∃ news : List Value, news.length = n * 2 ∧ (∀ j u, news[j]? = some u → w.cell? ((⟨b, off, none⟩ : Addr).add j) = some u) ∧ (∀ u ∈ news, u.oneCell' = true) ∧
      ∀ j x, xs[j]? = some x → news[j * 2]? = some (.int .i64 x.a) ∧ ∃ A' n' c', news[j * 2 + 1]? = some (.slice A' n' c') ∧ InTS w B A' n' x.s := by
  have hat0 : ∀ j, j < n → ∃ x A' n' c', xs[j]? = some x ∧ w.cell? ⟨b, off + j * 2, none⟩ = some (.int .i64 x.a) ∧ w.cell? ⟨b, off + j * 2 + 1, none⟩ = some (.slice A' n' c') ∧ InTS w B A' n' x.s := by
    intro j hj
    obtain ⟨b', off', x, e, _, hx, A', n', c', h1, h2, h3⟩ := h.at_ hj
    cases e
    exact ⟨x, A', n', c', hx, h1, h2, h3⟩
  have key : ∀ j, j < n * 2 → ∃ u, w.cell? ⟨b, off + j, none⟩ = some u ∧ u.oneCell' = true := by
    intro j hj
    obtain ⟨x, A', n', c', _, h1, h2, h3⟩ := hat0 (j / 2) (by omega)
    by_cases hp : j % 2 = 0
    · exact ⟨_, by rw [show off + j = off + j / 2 * 2 by omega]; exact h1, rfl⟩
    · exact ⟨_, by rw [show off + j = off + j / 2 * 2 + 1 by omega]; exact h2, rfl⟩
  have hat : ∀ j, j < n * 2 → ((List.range (n * 2)).map fun j => (w.cell? ⟨b, off + j, none⟩).getD undef)[j]? = w.cell? ⟨b, off + j, none⟩ := by
    intro j hj
    obtain ⟨u, hu, _⟩ := key j hj
    rw [List.getElem?_map, List.getElem?_range hj, hu]
    simp [hu]
  refine ⟨(List.range (n * 2)).map fun j => (w.cell? ⟨b, off + j, none⟩).getD undef, by simp, fun j u hu => ?_, fun u hu => ?_, fun j x hx => ?_⟩
  · have hj : j < n * 2 := by have := (List.getElem?_eq_some_iff.1 hu).1; simpa using this
    rw [hat j hj] at hu
    rw [show ((⟨b, off, none⟩ : Addr).add j) = ⟨b, off + j, none⟩ by by_cases e : j = 0 <;> simp [Addr.add, e]]
    exact hu
  · obtain ⟨j, hj, rfl⟩ := List.mem_map.1 hu
    obtain ⟨u, hu, h1⟩ := key j (List.mem_range.1 hj)
    simp only [hu]
    exact h1
  · have hj : j < n := by have := (List.getElem?_eq_some_iff.1 hx).1; have := h.1; omega
    obtain ⟨x', A', n', c', hx', h1, h2, h3⟩ := hat0 j hj
    rw [hx] at hx'
    obtain rfl := Option.some.inj hx'
    exact ⟨by rw [hat _ (by omega)]; exact h1, A', n', c', by rw [hat _ (by omega)]; exact h2, h3⟩
theorem app_pin {w : World} {base B k n c : Nat} {v : Value} {A : Option Addr} {ys xs : List P2} (hr : PIn w base B v k ys) (h : InP2 w B A n xs) (hB : B ≤ base) (hbw : base ≤ w.heap.size) (hk : k ≤ 1048576) (hn : n ≤ 1048576) :
    ∃ v' w', (Builtin.append_ #[30, 30] 30 #[v, .slice A n c]).run Tryz.prog w = .ok v' w' ∧ PIn w' base B v' (k + n) (ys ++ xs) ∧ Below base w w' := by
  obtain ⟨i0, hi, hz0, hz1, hz2⟩ := info_parts infoPoint
  obtain ⟨hl, cs, ho, hc⟩ := hr
  rcases A with _ | ad
  · have hn0 : n = 0 := by
      rcases Nat.eq_zero_or_pos n with h0 | h0
      · exact h0
      · obtain ⟨_, _, _, e, _⟩ := h.at_ (k := 0) h0
        cases e
    subst hn0
    have hxs : xs = [] := List.eq_nil_of_length_eq_zero h.1
    subst hxs
    exact ⟨v, w, nil_any w base _ _ 69 i0 2 Tryz.underlying30 hi v k _ ho c, (by rw [Nat.add_zero, List.append_nil]; exact ⟨hl, cs, ho, hc⟩), Below.refl _ _⟩
  · obtain ⟨news, l1, l2, l3, l4⟩ : ∃ news : List Value, news.length = n * 2 ∧ (∀ j u, news[j]? = some u → w.cell? (ad.add j) = some u) ∧ (∀ u ∈ news, u.oneCell' = true) ∧
        ∀ j x, xs[j]? = some x → news[j * 2]? = some (.int .i64 x.a) ∧ ∃ A' n' c', news[j * 2 + 1]? = some (.slice A' n' c') ∧ InTS w B A' n' x.s := by
      by_cases hn0 : n = 0
      · have hxs : xs = [] := List.eq_nil_of_length_eq_zero (h.1.trans hn0)
        subst hxs
        exact ⟨[], by simp [hn0], fun j u hu => by simp at hu, fun u hu => by simp at hu, fun j t ht => by simp at ht⟩
      · obtain ⟨b, off, _, e, _⟩ := h.at_ (k := 0) (by omega)
        cases e
        exact p2_cells h
    obtain ⟨v', w', e1, e2, e3, _⟩ := run_append_own w base 30 30 69 i0 (.agg #[.int .i64 0, .slice none 0 0]) 2 32 Tryz.underlying30 hi hz0 hz1 hz2 rfl (by decide) v k cs ho ad n c news l1 l2 l3 (by unfold maxLen; omega) (by omega) hbw
    have hcl := ho.1
    have hbb : Below base w w' := (Below.refl base w).grown e3 hbw (fun j hj => (ho.lt j hj).1)
    refine ⟨v', w', e1, ⟨by rw [List.length_append, hl, h.1], _, e2, fun j x hj => ?_⟩, hbb⟩
    by_cases hjn : j < ys.length
    · rw [List.getElem?_append_left hjn] at hj
      obtain ⟨a, A', n', c', b, d⟩ := hc j x hj
      exact ⟨by rw [List.getElem?_append_left (by omega)]; exact a, A', n', c', by rw [List.getElem?_append_left (by omega)]; exact b, d.next hbb hB⟩
    · rw [List.getElem?_append_right (by omega)] at hj
      obtain ⟨a, A', n', c', b, d⟩ := l4 _ x hj
      exact ⟨by rw [List.getElem?_append_right (by omega), show j * 2 - cs.length = (j - ys.length) * 2 by omega]; exact a, A', n', c', by rw [List.getElem?_append_right (by omega), show j * 2 + 1 - cs.length = (j - ys.length) * 2 + 1 by omega]; exact b, d.next hbb hB⟩

theorem size_zeroP (n : Nat) : (Builtin.zeroCells (Value.agg #[.int .i64 0, .slice none 0 0]).cells n).size = n * 2 := by
  rw [size_zeroCells]; rfl
end Go.Proofs.YtglbkbdljjaioaaGreat

/-! The program's withPoints for code that is not valid, and its DropPoint. Conditions: at most 2^20 elements and numbers. -/
namespace Go.Proofs.YtglbkbdljjaioaaGreat
set_option linter.unusedVariables false
set_option linter.unusedSectionVars false
open Go.RowKit

theorem totT_le {ts : List (Int × List Int)} {m : Nat} (h : ∀ t ∈ ts, t.2.length ≤ m) : totT ts ≤ m * ts.length := by
  induction ts with
  | nil => simp [totT]
  | cons t ts ih =>
    have h1 := ih fun u hu => h u (List.mem_cons_of_mem _ hu)
    have h2 := h t (List.mem_cons_self ..)
    unfold totT at h1 ⊢
    simp only [List.map_cons, List.sum_cons, List.length_cons, Nat.mul_add] at h1 ⊢
    omega
theorem oversB_tot {ts : List (Int × List Int)} (h : oversB 6 ts = true) : ts.length ≤ 6 ∧ totT ts ≤ 24 := by
  unfold oversB at h
  simp only [Bool.and_eq_true, decide_eq_true_eq, List.all_eq_true] at h
  have := totT_le (ts := ts) (m := 4) fun t ht => by
    have := h.1 t ht
    unfold overB at this
    simp only [Bool.and_eq_true, decide_eq_true_eq] at this
    omega
  exact ⟨h.2, by omega⟩
theorem ptsF_tot {len : Int} : ∀ {ps : List P2} {l : Int}, ptsF len l ps = true → totP2 ps ≤ 30 * ps.length := by
  intro ps
  induction ps with
  | nil => intro l _; simp [totP2]
  | cons p ps ih =>
    intro l h
    unfold ptsF at h
    simp only [Bool.and_eq_true] at h
    have h1 := ih h.2
    have h2 := oversB_tot h.1.2
    unfold totP2 at h1 ⊢
    simp only [List.map_cons, List.sum_cons, List.length_cons] at h1 ⊢
    unfold P2.tot at h1 ⊢
    omega
theorem annB_tot {t0 t1 : List (Int × List Int)} {xs : List (Int × Int)} {ps : List P2} (h : annB t0 t1 xs ps = true) : totT t0 ≤ 24 ∧ totT t1 ≤ 24 ∧ totP2 ps ≤ 240 := by
  obtain ⟨hc, h0, h1, hp⟩ := annB_parts h
  unfold ptsB at hp
  simp only [Bool.and_eq_true, decide_eq_true_eq] at hp
  have := ptsF_tot hp.2
  exact ⟨(oversB_tot h0).2, (oversB_tot h1).2, by omega⟩
theorem ownTS_none (w : World) (lo hi : Nat) (h : hi ≤ w.heap.size) : OwnTS w lo hi none 0 0 [] :=
  ⟨rfl, h, [], fun _ => .bool false, World.ownsRow_nil _ _ _ _, (fun k hk => by cases hk), (fun j t ht => by simp at ht), (fun i j hi => by omega), (fun i hi => by omega)⟩
theorem ownC_none (w : World) (lo hi : Nat) (h : hi ≤ w.heap.size) : OwnC w lo hi none 0 0 [] := ⟨rfl, World.ownsRow_nil _ _ _ _, (fun j hj => by cases hj), h⟩
theorem anI_none {w w' : World} (hb : Below w.heap.size w w') (hP : OwnP2 w' w'.heap.size w'.heap.size none 0 0 []) : AnI w w' (.returned (.tuple #[.agg #[.slice none 0 0, .slice none 0 0, .slice none 0 0, .slice none 0 0], .bool false])) 0 0 0 0 [] [] [] [] false :=
  ⟨none, 0, none, 0, none, 0, none, 0, w'.heap.size, w'.heap.size, w'.heap.size, rfl, ownTS_none _ _ _ (Nat.le_refl _), ownTS_none _ _ _ (Nat.le_refl _), ownC_none _ _ _ (Nat.le_refl _), hP, ⟨hb.size, Nat.le_refl _, Nat.le_refl _, Nat.le_refl _⟩, hb⟩
theorem ownP2_none (w : World) : OwnP2 w w.heap.size w.heap.size none 0 0 [] := ⟨rfl, Nat.le_refl _, [], fun _ => w.heap.size, World.ownsRow_nil _ _ _ _, (fun k hk => by cases hk), Nat.le_refl _, (fun i hi => by omega), Nat.le_refl _, fun j t hj => by simp at hj⟩

section
variable (A0 : Option Addr) (n0 c0 : Nat) (t0 : List (Int × List Int)) (A1 : Option Addr) (n1 c1 : Nat) (t1 : List (Int × List Int)) (A2 : Option Addr) (n2 c2 : Nat) (t2 : List (Int × Int)) (A3 : Option Addr) (n3 c3 : Nat) (t3 : List P2) (w : World) (h0 : InTS w w.heap.size A0 n0 t0) (h1 : InTS w w.heap.size A1 n1 t1) (h2 : InC w w.heap.size A2 n2 t2) (h3 : InP2 w w.heap.size A3 n3 t3) (hn0 : n0 ≤ 1048576) (he0 : totT t0 ≤ 1048576) (hn1 : n1 ≤ 1048576) (he1 : totT t1 ≤ 1048576) (hn2 : n2 ≤ 1048576) (hn3 : n3 ≤ 1048576) (he3 : totP2 t3 ≤ 1048576)
include h0 h1 h2 h3 hn0 he0 hn1 he1 hn2 hn3 he3
set_option maxRecDepth 100000 in
set_option maxHeartbeats 4000000 in
theorem with_no (A4 : Option Addr) (n4 c4 : Nat) (hv : annB t0 t1 t2 t3 = false) :
    Calls Tryz.prog 42 #[.agg #[.slice A0 n0 c0, .slice A1 n1 c1, .slice A2 n2 c2, .slice A3 n3 c3], .slice A4 n4 c4] w fun e w' => AnI w w' e 0 0 0 0 [] [] [] [] false := by
  have hb0 : Below w.heap.size w ((w.alloc (.cells #[.slice A0 n0 c0, .slice A1 n1 c1, .slice A2 n2 c2, .slice A3 n3 c3] 32)).alloc (.cells #[.slice none 0 0, .slice none 0 0, .slice none 0 0, .slice none 0 0] 32)) := bon (bnew _ _) (bnew _ _)
  have hX : BlkIs ((w.alloc (.cells #[.slice A0 n0 c0, .slice A1 n1 c1, .slice A2 n2 c2, .slice A3 n3 c3] 32)).alloc (.cells #[.slice none 0 0, .slice none 0 0, .slice none 0 0, .slice none 0 0] 32)) (w.heap.size + 1) 32 #[.slice none 0 0, .slice none 0 0, .slice none 0 0, .slice none 0 0] := blk_new _ _ _ _ (by simp)
  have HV : Hid (∀ x, Below w.heap.size w x → Calls Tryz.prog 55 #[.agg #[.slice A0 n0 c0, .slice A1 n1 c1, .slice A2 n2 c2, .slice A3 n3 c3]] x fun e w' => e = .returned (.bool false) ∧ Below x.heap.size x w') := fun x hx => by
    have h := implAnn_c A0 n0 c0 t0 A1 n1 c1 t1 A2 n2 c2 t2 A3 n3 c3 t3 x ((h0.next hx (Nat.le_refl _)).more hx.size) ((h1.next hx (Nat.le_refl _)).more hx.size) ((h2.next hx (Nat.le_refl _)).more hx.size) ((h3.next hx (Nat.le_refl _)).more hx.size) hn0 he0 hn1 he1 hn2 hn3 he3
    rw [hv] at h
    exact h
  clear h0 h1 h2 h3 hv
  go_enter Tryz.func42, Tryz.ntmps42
  go_wp2_with fail
  generalize ((w.alloc (.cells #[.slice A0 n0 c0, .slice A1 n1 c1, .slice A2 n2 c2, .slice A3 n3 c3] 32)).alloc (.cells #[.slice none 0 0, .slice none 0 0, .slice none 0 0, .slice none 0 0] 32)) = W at hb0 hX ⊢
  refine (HV.out W hb0).mono ?_
  rintro e w1 ⟨rfl, hb1⟩
  have hX1 := hX.next hb1
  have f0 := hX1.frozen 0
  have f1 := hX1.frozen 1
  have f2 := hX1.frozen 2
  have f3 := hX1.frozen 3
  have y0 := hX1.cell 0
  have y1 := hX1.cell 1
  have y2 := hX1.cell 2
  have y3 := hX1.cell 3
  simp at y0 y1 y2 y3
  obtain ⟨hF, hgr⟩ := fill4 hX1 (.slice none 0 0) (.slice none 0 0) (.slice none 0 0) (.slice none 0 0)
  have r0 := hF.cell 0
  have r1 := hF.cell 1
  have r2 := hF.cell 2
  have r3 := hF.cell 3
  simp at r0 r1 r2 r3
  have hbF := (bon hb0 hb1).trans (only_below hgr (Nat.le_succ _) (bon hb0 hb1).size)
  clear hgr hF hX1
  go_wp2_with fail
  refine bodyPost_ret (v := .tuple #[.agg #[.slice none 0 0, .slice none 0 0, .slice none 0 0, .slice none 0 0], .bool false]) (by simp [results, Tryz.results42, go_sem, r0, r1, r2, r3]) rfl ?_
  exact anI_none hbF (ownP2_none _)

end
end Go.Proofs.YtglbkbdljjaioaaGreat

/-! The program's optimiser: whether a place is open; one instruction deleted. Conditions: valid code. -/
namespace Go.Proofs.YtglbkbdljjaioaaGreat
set_option linter.unusedVariables false
open Go.RowKit

set_option maxRecDepth 100000 in
theorem atPlace_c (P : Nat) (a k : Int) (A : Option Addr) (n c : Nat) (w : World) (hP : w.cell? ⟨P, 0, none⟩ = some (.int .i64 k)) :
    Calls Tryz.prog 78 #[.agg #[.int .i64 a, .slice A n c], .pointer (some ⟨P, 0, none⟩)] w fun e w' => e = .returned (.bool (a == k)) ∧ Below w.heap.size w w' := by
  have hb := bnew w (.cells #[.int .i64 a, .slice A n c] 69)
  have p0 := cell_next hP hb
  go_enter Tryz.func78, Tryz.ntmps78
  go_wp2_with fail
  go_ret
  exact ⟨rfl, hb⟩

set_option maxRecDepth 100000 in
set_option maxHeartbeats 4000000 in
theorem indexP_c (P : Nat) (k : Int) (A : Option Addr) (n c B : Nat) (ps : List P2) (w : World) (hP : w.cell? ⟨P, 0, none⟩ = some (.int .i64 k)) (h : InP2 w B A n ps) (hB : B ≤ w.heap.size) (hn : n ≤ 1048576) :
    Calls Tryz.prog 77 #[.slice A n c, .func (Fn.func 78) #[] #[.pointer (some ⟨P, 0, none⟩)]] w fun e w' => ∃ r : Int, e = .returned (.int .i64 r) ∧ (r == -1) = !ptB ps k ∧ Below w.heap.size w w' := by
  have hlen := Lib.hid h.1
  go_enter Tryz.func77, Tryz.ntmps77
  go_wp2_with fail
  go_loopw [5, 8] (fun _ q wr => ∃ j : Nat, j ≤ n ∧ q = .int .i64 j ∧ Hid (ptB (ps.take j) k = false) ∧ Below w.heap.size w wr) (fun _ q _ => n - (intOf q).toNat)
  case atStart => exact ⟨0, Nat.zero_le _, rfl, Lib.hid rfl, Below.refl _ _⟩
  case round =>
    obtain ⟨j, hj, rfl, ha, hb⟩ := hrel
    by_cases hlt : j < n
    · obtain ⟨b, off, x, rfl, hbB, hx, A0, n0, c0, q0, q1, kf⟩ := (h.next hb hB).at_ hlt
      have HC := Lib.hid (atPlace_c P x.a k A0 n0 c0 wr (cell_next hP hb))
      clear kf
      by_cases hk : x.a = k
      · have e0 : (x.a == k) = true := by simp [hk]
        have HN := Lib.hid (ptB_yes hx hk)
        rw [e0] at HC
        clear hx ha hk
        go_wp2_with fail
        refine HC.out.mono ?_
        rintro e w1 ⟨rfl, hb1⟩
        go_wp2_with fail
        go_ret
        exact ⟨(j : Int), rfl, (by rw [HN.out]; first | (simp; done) | (simp; omega)), bon hb hb1⟩
      · have e0 : (x.a == k) = false := by simp [hk]
        have HS := Lib.hid (ptB_take_no ha.out hx hk)
        rw [e0] at HC
        clear hx ha hk
        go_wp2_with fail
        refine HC.out.mono ?_
        rintro e w1 ⟨rfl, hb1⟩
        go_wp2_with fail
        go_roundw
        case rel => exact ⟨j + 1, by omega, by go_num, HS, bon hb hb1⟩
        case measure => simp [intOf]; omega
    · have HN := Lib.hid (ptB_all ha.out (by rw [hlen.out]; omega))
      clear ha
      go_wp2_with fail
      go_ret
      exact ⟨-1, rfl, by rw [HN.out]; rfl, hb⟩

set_option maxRecDepth 100000 in
set_option maxHeartbeats 4000000 in
theorem pointAt_c (v0 v1 v2 : Value) (k : Int) (A : Option Addr) (n c B : Nat) (ps : List P2) (w : World) (h : InP2 w B A n ps) (hB : B ≤ w.heap.size) (hn : n ≤ 1048576) :
    Calls Tryz.prog 71 #[.agg #[v0, v1, v2, .slice A n c], .int .i64 k] w fun e w' => ∃ r : Int, e = .returned (.int .i64 r) ∧ (r == -1) = !ptB ps k ∧ Below w.heap.size w w' := by
  have hb0 : Below w.heap.size w ((w.alloc (.cells #[v0, v1, v2, .slice A n c] 32)).alloc (.cells #[.int .i64 k] 2)) := bon (bnew _ _) (bnew _ _)
  have p3 : ((w.alloc (.cells #[v0, v1, v2, .slice A n c] 32)).alloc (.cells #[.int .i64 k] 2)).cell? ⟨w.heap.size, 3, none⟩ = some (.slice A n c) := by simp
  have pk : ((w.alloc (.cells #[v0, v1, v2, .slice A n c] 32)).alloc (.cells #[.int .i64 k] 2)).cell? ⟨w.heap.size + 1, 0, none⟩ = some (.int .i64 k) := by simp
  have HC := Lib.hid (indexP_c (w.heap.size + 1) k A n c B ps _ pk (h.next hb0 hB) (Nat.le_trans hB hb0.size) hn)
  clear pk h
  go_enter Tryz.func71, Tryz.ntmps71
  go_wp2_with fail
  refine HC.out.mono ?_
  rintro e w1 ⟨r, rfl, hr, hb1⟩
  have HR := Lib.hid hr
  clear hr
  go_wp2_with fail
  go_ret
  exact ⟨r, rfl, HR.out, bon hb0 hb1⟩

set_option maxRecDepth 100000 in
set_option maxHeartbeats 4000000 in
/-- isOpen at a place within the code. -/
theorem isOpen_c (o : Nat) (v0 v1 : Value) (A : Option Addr) (n c B : Nat) (xs : List (Int × Int)) (D : Option Addr) (m d : Nat) (ps : List P2) (k : Nat) (op : Int) (x : Int × Int) (w : World) (hP : BlkIs w o 83 #[v0, v1, .slice A n c, .slice D m d]) (h1 : InC w B A n xs) (h2 : InP2 w B D m ps) (hB : B ≤ w.heap.size) (hn : n ≤ 1000) (hm : m ≤ 1048576) (hx : xs[k]? = some x) (r : Bool) (hr : r = (decide (x.1 = op) && !ptB ps (k : Int))) :
    Calls Tryz.prog 62 #[.pointer (some ⟨o, 0, none⟩), .int .i64 (k : Int), .int .i64 op] w fun e w' => e = .returned (.bool r) ∧ Below w.heap.size w w' := by
  have hkn : k < n := by have := (List.getElem?_eq_some_iff.1 hx).1; have := h1.1; omega
  obtain ⟨b, off, y, rfl, hb, hy, q0, q1⟩ := h1.at_ hkn
  obtain rfl : x = y := by rw [hx] at hy; exact Option.some.inj hy
  have p0 := hP.cell 0
  have p1 := hP.cell 1
  have p2 := hP.cell 2
  have p3 := hP.cell 3
  simp at p0 p1 p2 p3
  have hki : (k : Int) < (n : Int) := by omega
  have HC := Lib.hid (pointAt_c v0 v1 (.slice (some ⟨b, off, none⟩) n c) (k : Int) D m d B ps w h2 hB hm)
  clear h1 h2 hx hy q1
  by_cases ho : x.1 = op
  · have e0 : (x.1 == op) = true := by simp [ho]
    rw [decide_eq_true ho] at hr
    cases hpt : ptB ps (k : Int) with
    | true =>
      rw [hpt] at hr HC
      subst hr
      clear ho hpt
      go_enter Tryz.func62, Tryz.ntmps62
      go_wp2_with fail
      refine HC.out.mono ?_
      rintro e w1 ⟨r', rfl, hr', hb1⟩
      have er : (r' == -1) = false := hr'
      clear hr'
      go_wp2_with fail
      go_ret
      exact ⟨rfl, hb1⟩
    | false =>
      rw [hpt] at hr HC
      subst hr
      clear ho hpt
      go_enter Tryz.func62, Tryz.ntmps62
      go_wp2_with fail
      refine HC.out.mono ?_
      rintro e w1 ⟨r', rfl, hr', hb1⟩
      have er : (r' == -1) = true := hr'
      clear hr'
      go_wp2_with fail
      go_ret
      exact ⟨rfl, hb1⟩
  · have e0 : (x.1 == op) = false := by simp [ho]
    rw [decide_eq_false ho, Bool.false_and] at hr
    subst hr
    clear ho HC
    go_enter Tryz.func62, Tryz.ntmps62
    go_wp2_with fail
    go_ret
    exact ⟨rfl, Below.refl _ _⟩
end Go.Proofs.YtglbkbdljjaioaaGreat

/-! Sets of places as two words: has, with. Conditions: places below 128. -/
namespace Go.Proofs.YtglbkbdljjaioaaGreat
set_option linter.unusedVariables false
open Go.RowKit

/-- The words of a set of places below 128, which is a number. -/
def loW (S : Nat) : Nat := S % 2 ^ 64
def hiW (S : Nat) : Nat := S / 2 ^ 64
theorem loW_lt (S : Nat) : loW S < 18446744073709551616 := Nat.mod_lt _ (by decide)
theorem hiW_lt {S : Nat} (h : S < 2 ^ 128) : hiW S < 18446744073709551616 := by
  unfold hiW
  exact Nat.div_lt_of_lt_mul (by simpa [← Nat.pow_add] using h)
def putS (S k : Nat) : Nat := S ||| 2 ^ k
theorem putS_lt {S k : Nat} (h : S < 2 ^ 128) (hk : k < 128) : putS S k < 2 ^ 128 :=
  Nat.or_lt_two_pow h (Nat.pow_lt_pow_right (by decide) hk)
theorem putS_bit (S k j : Nat) : (putS S k).testBit j = (S.testBit j || decide (k = j)) := by
  unfold putS
  rw [Nat.testBit_or, Nat.testBit_two_pow]
theorem putS_lo {S k : Nat} (hk : k < 64) : loW (putS S k) = loW S ||| 2 ^ k ∧ hiW (putS S k) = hiW S := by
  constructor
  · apply Nat.eq_of_testBit_eq
    intro j
    simp only [loW, putS, Nat.testBit_mod_two_pow, Nat.testBit_or, Nat.testBit_two_pow]
    by_cases hj : j < 64
    · simp [hj]
    · simp [hj]; omega
  · apply Nat.eq_of_testBit_eq
    intro j
    simp only [hiW, putS, Nat.testBit_div_two_pow, Nat.testBit_or, Nat.testBit_two_pow]
    simp; omega
theorem putS_hi {S k : Nat} (hk : 64 ≤ k) : loW (putS S k) = loW S ∧ hiW (putS S k) = hiW S ||| 2 ^ (k - 64) := by
  constructor
  · apply Nat.eq_of_testBit_eq
    intro j
    simp only [loW, putS, Nat.testBit_mod_two_pow, Nat.testBit_or, Nat.testBit_two_pow]
    by_cases hj : j < 64
    · simp [hj]; omega
    · simp [hj]
  · apply Nat.eq_of_testBit_eq
    intro j
    simp only [hiW, putS, Nat.testBit_div_two_pow, Nat.testBit_or, Nat.testBit_two_pow]
    congr 1
    rw [Bool.eq_iff_iff]; simp; omega
theorem bit_lo {S k : Nat} (hk : k < 64) : S.testBit k = decide (loW S / 2 ^ k % 2 = 1) := by
  have : (loW S).testBit k = S.testBit k := by unfold loW; rw [Nat.testBit_mod_two_pow]; simp only [hk, decide_true, Bool.true_and]
  rw [← this, Nat.testBit_eq_decide_div_mod_eq]
theorem bit_hi {S k : Nat} (hk : 64 ≤ k) : S.testBit k = decide (hiW S / 2 ^ (k - 64) % 2 = 1) := by
  have : (hiW S).testBit (k - 64) = S.testBit k := by
    simp only [hiW, Nat.testBit_div_two_pow]
    rw [show k - 64 + 64 = k by omega]
  rw [← this, Nat.testBit_eq_decide_div_mod_eq]
theorem orS_lo (S T : Nat) : loW (S ||| T) = loW S ||| loW T ∧ hiW (S ||| T) = hiW S ||| hiW T := by
  constructor
  · apply Nat.eq_of_testBit_eq
    intro j
    simp only [loW, Nat.testBit_mod_two_pow, Nat.testBit_or]
    by_cases hj : j < 64 <;> simp [hj]
  · apply Nat.eq_of_testBit_eq
    intro j
    simp only [hiW, Nat.testBit_div_two_pow, Nat.testBit_or]
/-- A set of places as the program has it. -/
def pS (S : Nat) : Value := .agg #[.int .u64 (loW S : Nat), .int .u64 (hiW S : Nat)]

theorem has_val (L n : Nat) (h : L < 18446744073709551616) : (bits BinOp.and IntKind.u64 ((L : Int) / 2 ^ n) 1 == 1) = decide (L / 2 ^ n % 2 = 1) := by
  have e : (L : Int) / 2 ^ n = ((L / 2 ^ n : Nat) : Int) := by simp
  have hl : L / 2 ^ n < 18446744073709551616 := Nat.lt_of_le_of_lt (Nat.div_le_self _ _) h
  rw [e, show (1 : Int) = ((1 : Nat) : Int) from rfl, bits_and_u64_nat _ _ hl (by omega), Nat.and_one_is_mod]
  rw [Bool.eq_iff_iff]; simp; omega
theorem put_val (L n : Nat) (h : L < 18446744073709551616) (hn : n < 64) : bits BinOp.or IntKind.u64 (L : Int) ((2 : Int) ^ n) = ((L ||| 2 ^ n : Nat) : Int) := by
  have hp : 2 ^ n < 18446744073709551616 := Nat.lt_of_lt_of_le (Nat.pow_lt_pow_right (by decide) hn) (by decide)
  rw [show (2 : Int) ^ n = ((2 ^ n : Nat) : Int) by simp, bits_or_u64_nat _ _ h hp]

set_option maxRecDepth 100000 in
set_option maxHeartbeats 2000000 in
theorem has_c (S k : Nat) (w : World) (hS : S < 2 ^ 128) (hk : k < 128) :
    Calls Tryz.prog 72 #[.agg #[.int .u64 (loW S : Nat), .int .u64 (hiW S : Nat)], .int .i64 (k : Int)] w fun e w' => e = .returned (.bool (S.testBit k)) ∧ Below w.heap.size w w' := by
  have hb0 := bnew w (.cells #[.int .u64 (loW S : Nat), .int .u64 (hiW S : Nat)] 109)
  have hl := loW_lt S
  have hh := hiW_lt hS
  by_cases h64 : k < 64
  · have HB := Lib.hid (bit_lo (S := S) h64)
    have e1 : (k : Int) / 64 = 0 := by omega
    have e2 : (k : Int) % 64 = k := by omega
    go_enter Tryz.func72, Tryz.ntmps72
    go_wp2_with fail
    go_ret
    exact ⟨ret_bool (by rw [HB.out]; exact has_val _ _ hl), hb0⟩
  · have HB := Lib.hid (bit_hi (S := S) (by omega : 64 ≤ k))
    have e1 : (k : Int) / 64 = 1 := by omega
    obtain ⟨q, hq⟩ : ∃ q, k = q + 64 := ⟨k - 64, by omega⟩
    have e2 : (k : Int) % 64 = (q : Int) := by omega
    rw [show k - 64 = q by omega] at HB
    clear hq
    go_enter Tryz.func72, Tryz.ntmps72
    go_wp2_with fail
    go_ret
    exact ⟨ret_bool (by rw [HB.out]; exact has_val _ _ hh), hb0⟩

theorem shl_wrap (k : Nat) (hk : k < 64) : IntKind.u64.wrap ((2 : Int) ^ k) = (2 : Int) ^ k := by
  have hp : 2 ^ k < 18446744073709551616 := Nat.lt_of_lt_of_le (Nat.pow_lt_pow_right (by decide) hk) (by decide)
  rw [show (2 : Int) ^ k = ((2 ^ k : Nat) : Int) by simp]
  generalize 2 ^ k = N at hp ⊢
  exact IntWalk.u64_in _ (by omega)

set_option maxRecDepth 100000 in
set_option maxHeartbeats 2000000 in
theorem with_c (S k : Nat) (w : World) (hS : S < 2 ^ 128) (hk : k < 128) :
    Calls Tryz.prog 73 #[.agg #[.int .u64 (loW S : Nat), .int .u64 (hiW S : Nat)], .int .i64 (k : Int)] w fun e w' => e = .returned (.agg #[.int .u64 (loW (putS S k) : Nat), .int .u64 (hiW (putS S k) : Nat)]) ∧ Below w.heap.size w w' := by
  have hb0 : Below w.heap.size w ((w.alloc (.cells #[.int .u64 (loW S : Nat), .int .u64 (hiW S : Nat)] 109)).alloc (.cells #[.int .u64 0, .int .u64 0] 109)) := bon (bnew _ _) (bnew _ _)
  have hl := loW_lt S
  have hh := hiW_lt hS
  by_cases h64 : k < 64
  · have HB := Lib.hid (putS_lo (S := S) h64)
    have e1 : (k : Int).tdiv 64 = 0 := by rw [Int.tdiv_eq_ediv_of_nonneg (by omega)]; omega
    have e2 : (k : Int).tmod 64 = k := by rw [Int.tmod_eq_emod_of_nonneg (by omega)]; omega
    have e3 : IntKind.i64.wrap 0 = 0 := by rfl
    have e4 := shl_wrap k h64
    have e5 := put_val (loW S) k hl h64
    go_enter Tryz.func73, Tryz.ntmps73
    have hB : BlkIs ((w.alloc (.cells #[.int .u64 (loW S : Nat), .int .u64 (hiW S : Nat)] 109)).alloc (.cells #[.int .u64 0, .int .u64 0] 109)).drew w.heap.size 109 #[.int .u64 (loW S : Nat), .int .u64 (hiW S : Nat)] := (blk_new w _ _ _ rfl).next (bnew _ _).drew
    go_wp2_with fail
    refine wp_region_held_drew (S := fun _ => True) (by kernel_rfl) trivial ?_
    intro hHeld0
    refine wpAnyH_take (i := 0) (v := ?_) rfl (by kernel_rfl) (by kernel_rfl) (by kernel_rfl) (fun _ _ _ h => h) (Or.inl ⟨by kernel_rfl, ?_⟩) (by assumption) ?_
    rotate_left
    · intro w9 hS9; (try dsimp only at hS9); go_simp; (try with_reducible rfl)
    set_option linter.unusedSimpArgs false in try simp only [Act.put, List.getElem_toArray, List.getElem_cons_succ, List.getElem_cons_zero, List.setIfInBounds_toArray, List.set_cons_zero, List.set_cons_succ]
    refine wpAnyH_take (i := 1) (v := ?_) rfl (by kernel_rfl) (by kernel_rfl) (by kernel_rfl) (fun _ _ _ h => h) (Or.inl ⟨by kernel_rfl, ?_⟩) (by assumption) ?_
    rotate_left
    · intro w9 hS9; (try dsimp only at hS9); go_simp; (try with_reducible rfl)
    set_option linter.unusedSimpArgs false in try simp only [Act.put, List.getElem_toArray, List.getElem_cons_succ, List.getElem_cons_zero, List.setIfInBounds_toArray, List.set_cons_zero, List.set_cons_succ]
    refine wpAnyH_take (i := 2) (v := ?_) rfl (by kernel_rfl) (by kernel_rfl) (by kernel_rfl) (fun _ _ _ h => h) (Or.inl ⟨by kernel_rfl, ?_⟩) (by assumption) ?_
    rotate_left
    · intro w9 hS9; (try dsimp only at hS9); go_simp; (try with_reducible rfl)
    set_option linter.unusedSimpArgs false in try simp only [Act.put, List.getElem_toArray, List.getElem_cons_succ, List.getElem_cons_zero, List.setIfInBounds_toArray, List.set_cons_zero, List.set_cons_succ]
    refine wpAnyH_take (i := 4) (v := ?_) rfl (by kernel_rfl) (by kernel_rfl) (by kernel_rfl) (fun _ _ _ h => h) (Or.inl ⟨by kernel_rfl, ?_⟩) (by assumption) ?_
    rotate_left
    · intro w9 hS9; (try dsimp only at hS9); go_simp; (try with_reducible rfl)
    set_option linter.unusedSimpArgs false in try simp only [Act.put, List.getElem_toArray, List.getElem_cons_succ, List.getElem_cons_zero, List.setIfInBounds_toArray, List.set_cons_zero, List.set_cons_succ]
    refine wpAnyH_take (i := 5) (v := ?_) rfl (by kernel_rfl) (by kernel_rfl) (by kernel_rfl) (fun _ _ _ h => h) (Or.inl ⟨by kernel_rfl, ?_⟩) (by assumption) ?_
    rotate_left
    · intro w9 hS9; (try dsimp only at hS9); go_simp; (try with_reducible rfl)
    set_option linter.unusedSimpArgs false in try simp only [Act.put, List.getElem_toArray, List.getElem_cons_succ, List.getElem_cons_zero, List.setIfInBounds_toArray, List.set_cons_zero, List.set_cons_succ]
    refine wpAnyH_take (i := 6) (v := ?_) rfl (by kernel_rfl) (by kernel_rfl) (by kernel_rfl) (fun _ _ _ h => h) (Or.inl ⟨by kernel_rfl, ?_⟩) (by assumption) ?_
    rotate_left
    · intro w9 hS9; (try dsimp only at hS9); go_simp; (try with_reducible rfl)
    set_option linter.unusedSimpArgs false in try simp only [Act.put, List.getElem_toArray, List.getElem_cons_succ, List.getElem_cons_zero, List.setIfInBounds_toArray, List.set_cons_zero, List.set_cons_succ]
    refine wpAnyH_ready (rs := [3]) (by kernel_rfl) (by simp) ?_
    refine AllReadyH.cons rfl (fun K hK => ?_) (AllReadyH.nil)
    have z := hB.cell 0
    simp at z
    go_simp
    refine hK.out _ _ trivial (fun hHeld1 => ?_)
    clear hK K hHeld0
    set_option linter.unusedSimpArgs false in try simp only [Act.put, List.getElem_toArray, List.getElem_cons_succ, List.getElem_cons_zero, List.setIfInBounds_toArray, List.set_cons_zero, List.set_cons_succ]
    refine wpAnyH_take (i := 7) (v := ?_) rfl (by kernel_rfl) (by kernel_rfl) (by kernel_rfl) (fun _ _ _ h => h) (Or.inl ⟨by kernel_rfl, ?_⟩) (by assumption) ?_
    rotate_left
    · intro w9 hS9; (try dsimp only at hS9); go_simp; (try with_reducible rfl)
    set_option linter.unusedSimpArgs false in try simp only [Act.put, List.getElem_toArray, List.getElem_cons_succ, List.getElem_cons_zero, List.setIfInBounds_toArray, List.set_cons_zero, List.set_cons_succ]
    refine wpAnyH_take (i := 8) (v := ?_) rfl (by kernel_rfl) (by kernel_rfl) (by kernel_rfl) (fun _ _ _ h => h) (Or.inl ⟨by kernel_rfl, ?_⟩) (by assumption) ?_
    rotate_left
    · intro w9 hS9; (try dsimp only at hS9); go_simp; (try with_reducible rfl)
    set_option linter.unusedSimpArgs false in try simp only [Act.put, List.getElem_toArray, List.getElem_cons_succ, List.getElem_cons_zero, List.setIfInBounds_toArray, List.set_cons_zero, List.set_cons_succ]
    refine wpAnyH_ready (rs := [9]) (by kernel_rfl) (by simp) ?_
    refine AllReadyH.cons rfl (fun K hK => ?_) (AllReadyH.nil)
    have z1 := hB.cell 0
    have f1 := hB.frozen 0
    simp at z1
    go_simp
    refine hK.out _ _ trivial (fun hHeld2 => ?_)
    clear hK K hHeld1
    set_option linter.unusedSimpArgs false in try simp only [Act.put, List.getElem_toArray, List.getElem_cons_succ, List.getElem_cons_zero, List.setIfInBounds_toArray, List.set_cons_zero, List.set_cons_succ]
    refine wpAnyH_done (by kernel_rfl) ?_ _
    go_wp2_with fail
    refine bodyPost_ret (v := .agg #[.int .u64 ((loW S ||| 2 ^ k : Nat) : Int), .int .u64 (hiW S : Nat)]) (by simp [results, Tryz.results73, go_sem]) rfl ?_
    exact ⟨by rw [HB.out.1, HB.out.2], (bon (bnew _ _) (bnew _ _)).drew⟩
  · have HB := Lib.hid (putS_hi (S := S) (by omega : 64 ≤ k))
    obtain ⟨q, hq⟩ : ∃ q, k = q + 64 := ⟨k - 64, by omega⟩
    have e1 : (k : Int).tdiv 64 = 1 := by rw [Int.tdiv_eq_ediv_of_nonneg (by omega)]; omega
    have e2 : (k : Int).tmod 64 = (q : Int) := by rw [Int.tmod_eq_emod_of_nonneg (by omega)]; omega
    have e3 : IntKind.i64.wrap 1 = 1 := by rfl
    have hq64 : q < 64 := by omega
    have e4 := shl_wrap q hq64
    have e5 := put_val (hiW S) q hh hq64
    rw [show k - 64 = q by omega] at HB
    clear hq
    go_enter Tryz.func73, Tryz.ntmps73
    have hB : BlkIs ((w.alloc (.cells #[.int .u64 (loW S : Nat), .int .u64 (hiW S : Nat)] 109)).alloc (.cells #[.int .u64 0, .int .u64 0] 109)).drew w.heap.size 109 #[.int .u64 (loW S : Nat), .int .u64 (hiW S : Nat)] := (blk_new w _ _ _ rfl).next (bnew _ _).drew
    go_wp2_with fail
    refine wp_region_held_drew (S := fun _ => True) (by kernel_rfl) trivial ?_
    intro hHeld0
    refine wpAnyH_take (i := 0) (v := ?_) rfl (by kernel_rfl) (by kernel_rfl) (by kernel_rfl) (fun _ _ _ h => h) (Or.inl ⟨by kernel_rfl, ?_⟩) (by assumption) ?_
    rotate_left
    · intro w9 hS9; (try dsimp only at hS9); go_simp; (try with_reducible rfl)
    set_option linter.unusedSimpArgs false in try simp only [Act.put, List.getElem_toArray, List.getElem_cons_succ, List.getElem_cons_zero, List.setIfInBounds_toArray, List.set_cons_zero, List.set_cons_succ]
    refine wpAnyH_take (i := 1) (v := ?_) rfl (by kernel_rfl) (by kernel_rfl) (by kernel_rfl) (fun _ _ _ h => h) (Or.inl ⟨by kernel_rfl, ?_⟩) (by assumption) ?_
    rotate_left
    · intro w9 hS9; (try dsimp only at hS9); go_simp; (try with_reducible rfl)
    set_option linter.unusedSimpArgs false in try simp only [Act.put, List.getElem_toArray, List.getElem_cons_succ, List.getElem_cons_zero, List.setIfInBounds_toArray, List.set_cons_zero, List.set_cons_succ]
    refine wpAnyH_take (i := 2) (v := ?_) rfl (by kernel_rfl) (by kernel_rfl) (by kernel_rfl) (fun _ _ _ h => h) (Or.inl ⟨by kernel_rfl, ?_⟩) (by assumption) ?_
    rotate_left
    · intro w9 hS9; (try dsimp only at hS9); go_simp; (try with_reducible rfl)
    set_option linter.unusedSimpArgs false in try simp only [Act.put, List.getElem_toArray, List.getElem_cons_succ, List.getElem_cons_zero, List.setIfInBounds_toArray, List.set_cons_zero, List.set_cons_succ]
    refine wpAnyH_take (i := 4) (v := ?_) rfl (by kernel_rfl) (by kernel_rfl) (by kernel_rfl) (fun _ _ _ h => h) (Or.inl ⟨by kernel_rfl, ?_⟩) (by assumption) ?_
    rotate_left
    · intro w9 hS9; (try dsimp only at hS9); go_simp; (try with_reducible rfl)
    set_option linter.unusedSimpArgs false in try simp only [Act.put, List.getElem_toArray, List.getElem_cons_succ, List.getElem_cons_zero, List.setIfInBounds_toArray, List.set_cons_zero, List.set_cons_succ]
    refine wpAnyH_take (i := 5) (v := ?_) rfl (by kernel_rfl) (by kernel_rfl) (by kernel_rfl) (fun _ _ _ h => h) (Or.inl ⟨by kernel_rfl, ?_⟩) (by assumption) ?_
    rotate_left
    · intro w9 hS9; (try dsimp only at hS9); go_simp; (try with_reducible rfl)
    set_option linter.unusedSimpArgs false in try simp only [Act.put, List.getElem_toArray, List.getElem_cons_succ, List.getElem_cons_zero, List.setIfInBounds_toArray, List.set_cons_zero, List.set_cons_succ]
    refine wpAnyH_take (i := 6) (v := ?_) rfl (by kernel_rfl) (by kernel_rfl) (by kernel_rfl) (fun _ _ _ h => h) (Or.inl ⟨by kernel_rfl, ?_⟩) (by assumption) ?_
    rotate_left
    · intro w9 hS9; (try dsimp only at hS9); go_simp; (try with_reducible rfl)
    set_option linter.unusedSimpArgs false in try simp only [Act.put, List.getElem_toArray, List.getElem_cons_succ, List.getElem_cons_zero, List.setIfInBounds_toArray, List.set_cons_zero, List.set_cons_succ]
    refine wpAnyH_ready (rs := [3]) (by kernel_rfl) (by simp) ?_
    refine AllReadyH.cons rfl (fun K hK => ?_) (AllReadyH.nil)
    have z := hB.cell 1
    simp at z
    go_simp
    refine hK.out _ _ trivial (fun hHeld1 => ?_)
    clear hK K hHeld0
    set_option linter.unusedSimpArgs false in try simp only [Act.put, List.getElem_toArray, List.getElem_cons_succ, List.getElem_cons_zero, List.setIfInBounds_toArray, List.set_cons_zero, List.set_cons_succ]
    refine wpAnyH_take (i := 7) (v := ?_) rfl (by kernel_rfl) (by kernel_rfl) (by kernel_rfl) (fun _ _ _ h => h) (Or.inl ⟨by kernel_rfl, ?_⟩) (by assumption) ?_
    rotate_left
    · intro w9 hS9; (try dsimp only at hS9); go_simp; (try with_reducible rfl)
    set_option linter.unusedSimpArgs false in try simp only [Act.put, List.getElem_toArray, List.getElem_cons_succ, List.getElem_cons_zero, List.setIfInBounds_toArray, List.set_cons_zero, List.set_cons_succ]
    refine wpAnyH_take (i := 8) (v := ?_) rfl (by kernel_rfl) (by kernel_rfl) (by kernel_rfl) (fun _ _ _ h => h) (Or.inl ⟨by kernel_rfl, ?_⟩) (by assumption) ?_
    rotate_left
    · intro w9 hS9; (try dsimp only at hS9); go_simp; (try with_reducible rfl)
    set_option linter.unusedSimpArgs false in try simp only [Act.put, List.getElem_toArray, List.getElem_cons_succ, List.getElem_cons_zero, List.setIfInBounds_toArray, List.set_cons_zero, List.set_cons_succ]
    refine wpAnyH_ready (rs := [9]) (by kernel_rfl) (by simp) ?_
    refine AllReadyH.cons rfl (fun K hK => ?_) (AllReadyH.nil)
    have z1 := hB.cell 1
    have f1 := hB.frozen 1
    simp at z1
    go_simp
    refine hK.out _ _ trivial (fun hHeld2 => ?_)
    clear hK K hHeld1
    set_option linter.unusedSimpArgs false in try simp only [Act.put, List.getElem_toArray, List.getElem_cons_succ, List.getElem_cons_zero, List.setIfInBounds_toArray, List.set_cons_zero, List.set_cons_succ]
    refine wpAnyH_done (by kernel_rfl) ?_ _
    go_wp2_with fail
    refine bodyPost_ret (v := .agg #[.int .u64 (loW S : Nat), .int .u64 ((hiW S ||| 2 ^ q : Nat) : Int)]) (by simp [results, Tryz.results73, go_sem]) rfl ?_
    exact ⟨by rw [HB.out.1, HB.out.2], (bon (bnew _ _) (bnew _ _)).drew⟩
end Go.Proofs.YtglbkbdljjaioaaGreat

/-! The model's end of jumps. Conditions: valid code. -/
namespace Go.Proofs.YtglbkbdljjaioaaGreat
set_option linter.unusedVariables false
open Go.RowKit

theorem openB_far {op : Int} {xs : List (Int × Int)} {ps : List P2} {k : Int} (h : (xs.length : Int) ≤ k) : openB op xs ps k = false := by
  cases hb : openB op xs ps k with
  | false => rfl
  | true => have := openB_lt hb; omega
theorem openB_at {op : Int} {xs : List (Int × Int)} {ps : List P2} {k : Nat} {x : Int × Int} (hx : xs[k]? = some x) : openB op xs ps (k : Int) = (decide (x.1 = op) && !ptB ps (k : Int)) := by
  unfold openB
  rw [Int.toNat_natCast, hx, decide_eq_true (by omega : (0 : Int) ≤ (k : Int)), Bool.true_and]
theorem nextJ_at {xs : List (Int × Int)} {k : Nat} {x : Int × Int} (hx : xs[k]? = some x) : nextJ xs (k : Int) = x.2 := by
  unfold nextJ; rw [Int.toNat_natCast, hx]
/-- The places of jumps. -/
def JB (xs : List (Int × Int)) : Prop := ∀ x ∈ xs, x.1 = 5 ∨ x.1 = 6 → 0 ≤ x.2 ∧ x.2 ≤ 1000
theorem overJ_bnd {xs : List (Int × Int)} {ps : List P2} {k : Int} (hJ : JB xs) (h0 : 0 ≤ k) (h1 : k ≤ 1000) : ∀ i, allJ xs ps k i → 0 ≤ overJ xs k i ∧ overJ xs k i ≤ 1000 := by
  intro i
  induction i with
  | zero => intro _; exact ⟨h0, h1⟩
  | succ i ih =>
    intro h
    have hi := ih (fun j hj => h j (by omega))
    have ho := h i (by omega)
    obtain ⟨m, hm⟩ : ∃ m : Nat, overJ xs k i = m := ⟨(overJ xs k i).toNat, by omega⟩
    have hl := openB_lt ho
    rw [hm] at ho hl
    obtain ⟨x, hx⟩ : ∃ x, xs[m]? = some x := ⟨_, List.getElem?_eq_getElem (by omega)⟩
    rw [openB_at hx] at ho
    simp only [Bool.and_eq_true, decide_eq_true_eq] at ho
    show 0 ≤ nextJ xs (overJ xs k i) ∧ nextJ xs (overJ xs k i) ≤ 1000
    rw [hm, nextJ_at hx]
    exact hJ x (List.mem_of_getElem? hx) (.inl ho.1)

set_option maxRecDepth 100000 in
set_option maxHeartbeats 4000000 in
theorem l09Final_c (b : Nat) (A : Option Addr) (n c B : Nat) (xs : List (Int × Int)) (D : Option Addr) (m d : Nat) (ps : List P2) (at_ : Int) (w : World) (p2 : w.cell? ⟨b, 2, none⟩ = some (.slice A n c)) (p3 : w.cell? ⟨b, 3, none⟩ = some (.slice D m d)) (h1 : InC w B A n xs) (h2 : InP2 w B D m ps) (hn : n ≤ 1000) (hm : m ≤ 1048576) (hJ : JB xs) (a0 : 0 ≤ at_) (a1 : at_ ≤ 1000) :
    Calls Tryz.prog 37 #[.pointer (some ⟨b, 0, none⟩), .int .i64 at_] w fun e w' => e = .returned (.int .i64 (finJ xs ps at_)) ∧ w = w' := by
  have hlen := Lib.hid h1.1
  have HJ := Lib.hid hJ
  clear hJ
  go_enter Tryz.func37, Tryz.ntmps37
  go_wp2_with fail
  go_loop [6, 7] (fun now st => ∃ (i : Nat) (z : Int), i ≤ n ∧ st = .int .i64 i ∧ now = .int .i64 z ∧ Hid (z = overJ xs at_ i) ∧ Hid (allJ xs ps at_ i)) (fun _ st => n + 1 - (intOf st).toNat)
  case atStart => exact ⟨0, at_, Nat.zero_le _, rfl, rfl, Lib.hid rfl, Lib.hid (fun j hj => by omega)⟩
  case round =>
    obtain ⟨i, z, hi, rfl, rfl, hz, ha⟩ := hrel
    have hzb := overJ_bnd HJ.out a0 a1 i ha.out
    rw [← hz.out] at hzb
    by_cases hlt : z < (n : Int)
    · obtain ⟨k, rfl⟩ : ∃ k : Nat, z = (k : Int) := ⟨z.toNat, by omega⟩
      have hkn : k < n := by omega
      obtain ⟨b', off, x, rfl, hb', hx, q0, q1⟩ := h1.at_ hkn
      have HO := Lib.hid (openB_at (op := 5) (ps := ps) hx)
      by_cases h5 : x.1 = 5
      · have e5 : (x.1 == 5) = true := by simp [h5]
        have HP := Lib.hid (l09Point_c b D m d B ps (k : Int) w p3 h2 hm)
        cases hpt : ptB ps (k : Int) with
        | true =>
          have HN : Hid (finJ xs ps at_ = (k : Int)) := by
            show _ = _
            rw [hz.out]
            refine finJ_eq (FinalJ.stop ha.out ?_)
            rw [← hz.out, HO.out, hpt]; simp
          rw [hpt] at HP
          clear hx h5 HO hpt ha hz
          go_wp2_with fail
          refine HP.out.mono ?_
          rintro e w1 ⟨rfl, rfl⟩
          go_wp2_with fail
          go_ret
          exact ⟨congrArg (fun z => Ending.returned (.int .i64 z)) HN.out.symm, rfl⟩
        | false =>
          have hop : openB 5 xs ps (overJ xs at_ i) = true := by rw [← hz.out, HO.out, hpt]; simp [h5]
          have ha1 := Lib.hid (allJ_succ ha.out hop)
          rw [hpt] at HP
          by_cases hin : i = n
          · have HN : Hid (finJ xs ps at_ = at_) := finJ_eq (FinalJ.long (by rw [hlen.out, ← hin]; exact ha1.out))
            have ein : ((i : Int) == (n : Int)) = true := by simp [hin]
            have hin' : (i : Int) = (n : Int) := by omega
            clear hx h5 HO hpt ha hz hop ha1 hin hin'
            go_wp2_with fail
            refine HP.out.mono ?_
            rintro e w1 ⟨rfl, rfl⟩
            go_wp2_with fail
            go_ret
            exact ⟨congrArg (fun z => Ending.returned (.int .i64 z)) HN.out.symm, rfl⟩
          · have ein : ((i : Int) == (n : Int)) = false := by simp; omega
            have hzn : Hid (x.2 = overJ xs at_ (i + 1)) := by
              show x.2 = nextJ xs (overJ xs at_ i)
              rw [← hz.out, nextJ_at hx]
            clear hx h5 HO hpt ha hz hop
            go_wp2_with fail
            refine HP.out.mono ?_
            rintro e w1 ⟨rfl, rfl⟩
            go_wp2_with fail
            go_round
            case rel => exact ⟨i + 1, x.2, by omega, by go_num, rfl, hzn, ha1⟩
            case measure => simp [intOf]; omega
      · have e5 : (x.1 == 5) = false := by simp [h5]
        have HN : Hid (finJ xs ps at_ = (k : Int)) := by
          show _ = _
          rw [hz.out]
          refine finJ_eq (FinalJ.stop ha.out ?_)
          rw [← hz.out, HO.out]; simp [h5]
        clear hx h5 HO ha hz
        go_wp2_with fail
        go_ret
        exact ⟨congrArg (fun z => Ending.returned (.int .i64 z)) HN.out.symm, rfl⟩
    · have HN : Hid (finJ xs ps at_ = z) := by
        show _ = _
        rw [hz.out]
        refine finJ_eq (FinalJ.stop ha.out ?_)
        rw [← hz.out]
        exact openB_far (by rw [hlen.out]; omega)
      clear ha hz
      go_wp2_with fail
      go_ret
      exact ⟨congrArg (fun z => Ending.returned (.int .i64 z)) HN.out.symm, rfl⟩
end Go.Proofs.YtglbkbdljjaioaaGreat

/-! The model's ThreadJumps. Conditions: at most 2^20 elements and numbers. -/
namespace Go.Proofs.YtglbkbdljjaioaaGreat
set_option linter.unusedVariables false
set_option linter.unusedSectionVars false
open Go.RowKit

section
variable {w : World} {base d2 d3 g2 j : Nat} {B0 B1 B3 : Option Addr} {t0 t1 : List (Int × List Int)} {t2 : List (Int × Int)} {t3 : List P2} {x : Int × Int}
theorem AnM.setC (h : AnM w base B0 B1 (some ⟨g2, 0, none⟩) d2 B3 d3 t0 t1 t2 t3) (i : Nat) (v : Value) (ys : List (Int × Int)) (hl : ys.length = t2.length) (hf : (flatC t2).set i v = flatC ys) : AnM (w.setCell ⟨g2, i, none⟩ v) base B0 B1 (some ⟨g2, 0, none⟩) d2 B3 d3 t0 t1 ys t3 := by
  have hg : w.grownBy (w.setCell ⟨g2, i, none⟩ v) (Value.slice (some ⟨g2, 0, none⟩) t2.length d2).ownBlock := only_set (g := g2)
  have hs := (h.f2.stored i v).1
  rw [hf] at hs
  exact ⟨h.f0.kept hg (fun k cs e => ⟨own_not h.f2 (by decide) k cs e, own_not h.f2 (by decide) k cs e⟩), h.f1.kept hg (fun k cs e => ⟨own_not h.f2 (by decide) k cs e, own_not h.f2 (by decide) k cs e⟩), by rw [hl]; exact hs, h.f3.kept hg (fun k cs e => ⟨own_not h.f2 (by decide) k cs e, own_not h.f2 (by decide) k cs e⟩) (own_not h.f2 (by decide))⟩
theorem AnM.set_arg (h : AnM w base B0 B1 (some ⟨g2, 0, none⟩) d2 B3 d3 t0 t1 t2 t3) (hx : t2[j]? = some x) (z : Int) : AnM (w.setCell ⟨g2, j * 2 + 1, none⟩ (.int .i64 z)) base B0 B1 (some ⟨g2, 0, none⟩) d2 B3 d3 t0 t1 (t2.set j (x.1, z)) t3 :=
  h.setC _ _ _ (by rw [List.length_set]) (flatC_set2 z hx)
theorem flatC_set1 : ∀ {l : List (Int × Int)} {k : Nat} {x : Int × Int} (v : Int), l[k]? = some x → (flatC l).set (k * 2) (.int .i64 v) = flatC (l.set k (v, x.2))
  | [], k, x, v, h => by simp at h
  | y :: l, 0, x, v, h => by simp at h; subst h; rfl
  | y :: l, k + 1, x, v, h => by
    have ih := flatC_set1 (l := l) (k := k) v (by simpa using h)
    rw [show (k + 1) * 2 = k * 2 + 1 + 1 by omega]
    show (Value.int .i64 y.1 :: Value.int .i64 y.2 :: flatC l).set (k * 2 + 1 + 1) _ = _
    rw [List.set_cons_succ, List.set_cons_succ, ih]
    rfl
theorem AnM.set_all (h : AnM w base B0 B1 (some ⟨g2, 0, none⟩) d2 B3 d3 t0 t1 t2 t3) (hx : t2[j]? = some x) (p q : Int) : AnM ((w.setCell ⟨g2, j * 2, none⟩ (.int .i64 p)).setCell ⟨g2, j * 2 + 1, none⟩ (.int .i64 q)) base B0 B1 (some ⟨g2, 0, none⟩) d2 B3 d3 t0 t1 (t2.set j (p, q)) t3 := by
  have hjl := (List.getElem?_eq_some_iff.1 hx).1
  have h1 := h.setC (j * 2) (.int .i64 p) (t2.set j (p, x.2)) (by rw [List.length_set]) (flatC_set1 p hx)
  have h2 := h1.set_arg (j := j) (x := (p, x.2)) (List.getElem?_set_self hjl) q
  rw [List.set_set] at h2
  exact h2
end
theorem finJ_bnd {xs : List (Int × Int)} {ps : List P2} {k : Int} (hJ : JB xs) (h0 : 0 ≤ k) (h1 : k ≤ 1000) : 0 ≤ finJ xs ps k ∧ finJ xs ps k ≤ 1000 := by
  rcases finJ_is xs ps k with ⟨i, a, _, e⟩ | ⟨_, e⟩
  · rw [e]; exact overJ_bnd hJ h0 h1 i a
  · rw [e]; exact ⟨h0, h1⟩
theorem thr1_no {xs : List (Int × Int)} {ps : List P2} {x : Int × Int} (h : ¬ (x.1 = 5 ∨ x.1 = 6)) : thr1 xs ps x = x := by
  unfold thr1; rw [if_neg (fun e => h (.inl e)), if_neg (fun e => h (.inr e))]
theorem thr1_arg {xs : List (Int × Int)} {ps : List P2} {x : Int × Int} (h : x.1 = 5 ∨ x.1 = 6) (hh : x.1 = 5 → openB 11 xs ps (finJ xs ps x.2) = false) : thr1 xs ps x = (x.1, finJ xs ps x.2) := by
  unfold thr1
  rcases h with h | h
  · rw [if_pos h, if_neg (by simp [hh h]), h]
  · rw [if_neg (by omega), if_pos h, h]
theorem thr1_halt {xs : List (Int × Int)} {ps : List P2} {x : Int × Int} (h : x.1 = 5) (hh : openB 11 xs ps (finJ xs ps x.2) = true) : thr1 xs ps x = (11, 0) := by
  unfold thr1; rw [if_pos h, if_pos hh]

set_option maxRecDepth 100000 in
set_option maxHeartbeats 8000000 in
theorem l09Thread_c (b : Nat) (A0 : Option Addr) (c0 : Nat) (t0 : List (Int × List Int)) (A1 : Option Addr) (c1 : Nat) (t1 : List (Int × List Int)) (A2 : Option Addr) (c2 : Nat) (t2 : List (Int × Int)) (A3 : Option Addr) (c3 : Nat) (t3 : List P2) (B : Nat) (w : World)
    (hP : BlkIs w b 32 #[.slice A0 t0.length c0, .slice A1 t1.length c1, .slice A2 t2.length c2, .slice A3 t3.length c3]) (h0 : InTS w B A0 t0.length t0) (h1 : InTS w B A1 t1.length t1) (h2 : InC w B A2 t2.length t2) (h3 : InP2 w B A3 t3.length t3) (hB : B ≤ w.heap.size)
    (s0 : t0.length ≤ 1000 ∧ ∀ t ∈ t0, t.2.length ≤ 100000) (s1 : t1.length ≤ 1000 ∧ ∀ t ∈ t1, t.2.length ≤ 100000) (s2 : t2.length ≤ 1000) (s3 : t3.length ≤ 1000 ∧ ∀ p ∈ t3, p.s.length ≤ 1000 ∧ ∀ t ∈ p.s, t.2.length ≤ 100000) (hJ : JB t2) :
    Calls Tryz.prog 15 #[.pointer (some ⟨b, 0, none⟩)] w fun e w' => ∃ C0 e0 C1 e1 C2 e2 C3 e3, e = .returned (.agg #[.slice C0 t0.length e0, .slice C1 t1.length e1, .slice C2 (thrL t2 t3).length e2, .slice C3 t3.length e3]) ∧ AnM w' w.heap.size C0 C1 C2 e2 C3 e3 t0 t1 (thrL t2 t3) t3 ∧ Below w.heap.size w w' := by
  have hb0 := bnew w (.cells #[.slice none 0 0, .slice none 0 0, .slice none 0 0, .slice none 0 0] 32)
  have hX : BlkIs (w.alloc (.cells #[.slice none 0 0, .slice none 0 0, .slice none 0 0, .slice none 0 0] 32)) w.heap.size 32 #[.slice none 0 0, .slice none 0 0, .slice none 0 0, .slice none 0 0] := blk_new _ _ _ _ rfl
  have hsz : (w.alloc (.cells #[.slice none 0 0, .slice none 0 0, .slice none 0 0, .slice none 0 0] 32)).heap.size = w.heap.size + 1 := by simp
  have HOwn := Lib.hid (l08Own_c b A0 t0.length c0 t0 A1 t1.length c1 t1 A2 t2.length c2 t2 A3 t3.length c3 t3 B _ (hP.next hb0) (h0.next hb0 hB) (h1.next hb0 hB) (h2.next hb0 hB) (h3.next hb0 hB) (Nat.le_trans hB hb0.size) s0.1 s0.2 s1.1 s1.2 s2 s3.1 s3.2)
  have HP := Lib.hid hP
  have HJ := Lib.hid hJ
  have H2 := Lib.hid h2
  have H3 := Lib.hid h3
  have s3a := s3.1
  clear h0 h1 h2 h3 hP hJ s0 s1 s3
  go_enter Tryz.func15, Tryz.ntmps15
  go_wp2_with fail
  generalize (w.alloc (.cells #[.slice none 0 0, .slice none 0 0, .slice none 0 0, .slice none 0 0] 32)) = W at hb0 hX hsz HOwn ⊢
  refine HOwn.out.mono ?_
  rintro e w2 ⟨C0, e0, C1, e1, C2, e2, C3, e3, rfl, hT0, hT1, hC, hR, hb2⟩
  have hs2 := hb2.size
  have hbw2 := bon hb0 hb2
  have hbA := bnew w2 (.cells #[.slice C0 t0.length e0, .slice C1 t1.length e1, .slice C2 t2.length e2, .slice C3 t3.length e3] 32)
  have hG : BlkIs (w2.alloc (.cells #[.slice C0 t0.length e0, .slice C1 t1.length e1, .slice C2 t2.length e2, .slice C3 t3.length e3] 32)) w2.heap.size 32 #[.slice C0 t0.length e0, .slice C1 t1.length e1, .slice C2 t2.length e2, .slice C3 t3.length e3] := blk_new _ _ _ _ rfl
  have hM : AnM (w2.alloc (.cells #[.slice C0 t0.length e0, .slice C1 t1.length e1, .slice C2 t2.length e2, .slice C3 t3.length e3] 32)) w.heap.size C0 C1 C2 e2 C3 e3 t0 t1 (turned (thr1 t2 t3) t2 0) t3 := by
    rw [turned_zero]
    exact (AnM.mk hT0 hT1 (own_less hC (by omega)) (hR.less (by omega))).next hbA
  have hXA := (hX.next hb2).next hbA
  have hbF := bon hbw2 hbA
  clear hT0 hT1 hC hR hX HOwn
  go_wp2_with fail
  generalize w2.alloc (.cells #[.slice C0 t0.length e0, .slice C1 t1.length e1, .slice C2 t2.length e2, .slice C3 t3.length e3] 32) = V at hG hM hXA hbF hbA ⊢
  have hgV := hG.lt
  go_loopw [4] (fun z wr => ∃ i : Nat, i ≤ t2.length ∧ z = .int .i64 i ∧ BlkIs wr w2.heap.size 32 #[.slice C0 t0.length e0, .slice C1 t1.length e1, .slice C2 t2.length e2, .slice C3 t3.length e3] ∧ AnM wr w.heap.size C0 C1 C2 e2 C3 e3 t0 t1 (turned (thr1 t2 t3) t2 i) t3 ∧ BlkIs wr w.heap.size 32 #[.slice none 0 0, .slice none 0 0, .slice none 0 0, .slice none 0 0] ∧ Below w.heap.size w wr) (fun z _ => t2.length - (intOf z).toNat)
  case atStart => exact ⟨0, Nat.zero_le _, rfl, hG, hM, hXA, hbF⟩
  case round =>
    clear hG hM hXA hbF hbA hgV
    obtain ⟨i, hi, rfl, hG, hM, hX, hb⟩ := hrel
    have hPw := HP.out.next hb
    have pb2 := hPw.cell 2
    have pb3 := hPw.cell 3
    simp at pb2 pb3
    by_cases hlt : i < t2.length
    · have hin := H2.out.next hb hB
      have hip := H3.out.next hb hB
      obtain ⟨b', off, x, hA2, hb', hx, q0, q1⟩ := hin.at_ hlt
      subst hA2
      obtain ⟨gD, hC2, hcapD, hgD⟩ := ownC_cap hM.f2 (by rw [turned_len]; omega)
      subst hC2
      have z2 := hG.cell 2
      simp at z2
      by_cases hjmp : x.1 = 5 ∨ x.1 = 6
      · have HQ0 := l09Jumps_c x.1 x.2 wr
        rw [decide_eq_true hjmp] at HQ0
        have HQ := Lib.hid HQ0
        have hxb := HJ.out x (List.mem_of_getElem? hx) hjmp
        have hfb := finJ_bnd (ps := t3) HJ.out hxb.1 hxb.2
        have HX := Lib.hid hx
        have HXA := Lib.hid (turned_at (thr1 t2 t3) hx)
        have HTS := Lib.hid (turned_succ (thr1 t2 t3) hx)
        have hjmp' := Lib.hid hjmp
        obtain ⟨f, hf⟩ : ∃ f, Hid (finJ t2 t3 x.2 = f) := ⟨_, Lib.hid rfl⟩
        rw [hf.out] at hfb
        clear HQ0 hx hjmp
        go_wp2_with fail
        refine HQ.out.mono ?_
        rintro e w7 ⟨rfl, hb7⟩
        have k2 := cell_next pb2 hb7
        have k3 := cell_next pb3 hb7
        have u1 := cell_next q1 hb7
        have HF0 := l09Final_c b _ t2.length c2 B t2 A3 t3.length c3 t3 x.2 w7 k2 k3 (hin.next (hb7.mono (Nat.le_trans hB hb.size)) (Nat.le_refl _)) (hip.next (hb7.mono (Nat.le_trans hB hb.size)) (Nat.le_refl _)) s2 (by omega) HJ.out hxb.1 hxb.2
        rw [hf.out] at HF0
        have HF := Lib.hid HF0
        have hM7 := hM.next hb7
        have hG7 := hG.next hb7
        have hX7 := hX.next hb7
        have hb07 := bon hb hb7
        clear HF0 HQ hM hG hX
        go_wp2_with fail
        refine HF.out.mono ?_
        rintro e w8 ⟨rfl, rfl⟩
        have d2 := hG7.cell 2
        simp at d2
        have v1 := hM7.f2.frozenAt (i * 2 + 1)
        have w1 := hM7.f2.cellAt (i * 2 + 1) (by rw [turned_len]; omega)
        rw [(flatC_at HXA.out).2] at w1
        have hM9 := hM7.set_arg HXA.out f
        have hG9 := blk_grown hG7 hM7.f2 (by decide) (w' := w7.setCell ⟨gD, i * 2 + 1, none⟩ (.int .i64 f)) (only_set (g := gD))
        have hX9 := blk_grown hX7 hM7.f2 (by decide) (w' := w7.setCell ⟨gD, i * 2 + 1, none⟩ (.int .i64 f)) (only_set (g := gD))
        have hb9 := hb07.setCell (p := ⟨gD, i * 2 + 1, none⟩) hgD (.int .i64 f)
        clear hM7 hG7 hX7
        go_upto_region 8 with (fail)
        generalize w7.setCell ⟨gD, i * 2 + 1, none⟩ (.int .i64 f) = w9 at hM9 hG9 hX9 hb9 ⊢
        have hin9 := H2.out.next hb9 hB
        have hip9 := H3.out.next hb9 hB
        have p92 := (HP.out.next hb9).cell 2
        have p93 := (HP.out.next hb9).cell 3
        simp at p92 p93
        obtain ⟨_, _, _, h9e, _, h9x, x0, _⟩ := hin9.at_ hlt
        obtain ⟨rfl, rfl⟩ : b' = _ ∧ off = _ := by injection h9e with h9e; injection h9e with a1 a2; exact ⟨a1, a2⟩
        rw [HX.out] at h9x
        obtain rfl := Option.some.inj h9x
        clear d2 v1 w1 k2 k3 u1 q0 q1 pb2 pb3 HF h9e
        by_cases hfl : f < (t2.length : Int)
        · obtain ⟨kf, rfl⟩ : ∃ kf : Nat, f = (kf : Int) := ⟨f.toNat, by omega⟩
          obtain ⟨_, _, y, h9e, _, hy, m0, _⟩ := hin9.at_ (k := kf) (by omega)
          obtain ⟨rfl, rfl⟩ : b' = _ ∧ off = _ := by injection h9e with h9e; injection h9e with a1 a2; exact ⟨a1, a2⟩
          have HO := Lib.hid (openB_at (op := 11) (ps := t3) hy)
          clear hy h9e
          by_cases h11 : y.1 = 11
          · have e11 : (y.1 == 11) = true := by simp [h11]
            have HPT := Lib.hid (l09Point_c b A3 t3.length c3 B t3 (kf : Int) w9 p93 hip9 (by omega))
            cases hpt : ptB t3 (kf : Int) with
            | true =>
              have HN : Hid (openB 11 t2 t3 (kf : Int) = false) := by show _ = _; rw [HO.out, hpt]; simp
              rw [hpt] at HPT
              clear hpt HO h11
              have HTh : Hid (thr1 t2 t3 x = (x.1, (kf : Int))) := (thr1_arg hjmp'.out (fun _ => by rw [hf.out]; exact HN.out)).trans (by rw [hf.out])
              rw [← HTh.out, HTS.out] at hM9
              have hX5 := hjmp'.out
              clear HTh HN HTS HXA hf hjmp'
              by_cases h5 : x.1 = 5
              · have e5 : (x.1 == 5) = true := by simp [h5]
                clear h5 hX5
                go_wp2_with fail
                refine HPT.out.mono ?_
                rintro e w10 ⟨rfl, rfl⟩
                go_wp2_with fail
                go_roundw
                case rel => exact ⟨i + 1, by omega, by go_num, hG9, hM9, hX9, hb9⟩
                case measure => simp [intOf]; omega
              · have e5 : (x.1 == 5) = false := by simp [h5]
                clear h5 hX5
                go_wp2_with fail
                refine HPT.out.mono ?_
                rintro e w10 ⟨rfl, rfl⟩
                go_wp2_with fail
                go_roundw
                case rel => exact ⟨i + 1, by omega, by go_num, hG9, hM9, hX9, hb9⟩
                case measure => simp [intOf]; omega
            | false =>
              have HN : Hid (openB 11 t2 t3 (kf : Int) = true) := by show _ = _; rw [HO.out, hpt]; simp [h11]
              rw [hpt] at HPT
              clear hpt HO h11
              by_cases h5 : x.1 = 5
              · have e5 : (x.1 == 5) = true := by simp [h5]
                have HTh : Hid (thr1 t2 t3 x = (11, 0)) := thr1_halt h5 (by rw [hf.out]; exact HN.out)
                have hil : ((turned (thr1 t2 t3) t2 i).set i (x.1, (kf : Int)))[i]? = some (x.1, (kf : Int)) := List.getElem?_set_self (by rw [turned_len]; exact hlt)
                have hM10 := hM9.set_all hil 11 0
                rw [List.set_set, ← HTh.out, HTS.out] at hM10
                have hg10 : w9.grownBy ((w9.setCell ⟨gD, i * 2, none⟩ (.int .i64 11)).setCell ⟨gD, i * 2 + 1, none⟩ (.int .i64 0)) (Value.slice (some ⟨gD, 0, none⟩) ((turned (thr1 t2 t3) t2 i).set i (x.1, (kf : Int))).length e2).ownBlock := only_trans (only_set (g := gD)) (only_set (g := gD))
                have hG10 := blk_grown hG9 hM9.f2 (by decide) hg10
                have hX10 := blk_grown hX9 hM9.f2 (by decide) hg10
                have hb10 := (hb9.setCell (p := ⟨gD, i * 2, none⟩) hgD (.int .i64 11)).setCell (p := ⟨gD, i * 2 + 1, none⟩) hgD (.int .i64 0)
                have z9 := hG9.cell 2
                simp at z9
                have hlen9 : ((turned (thr1 t2 t3) t2 i).set i (x.1, (kf : Int))).length = t2.length := by rw [List.length_set, turned_len]
                have n0 := hM9.f2.cellAt (i * 2) (by rw [hlen9]; omega)
                have n1 := hM9.f2.cellAt (i * 2 + 1) (by rw [hlen9]; omega)
                rw [(flatC_at hil).1] at n0
                rw [(flatC_at hil).2] at n1
                have g0 := hM9.f2.frozenAt (i * 2)
                have g1 := hM9.f2.frozenAt (i * 2 + 1)
                clear HTh HN HTS HXA hf hjmp' h5 hil hg10 hM9 hG9 hX9 hlen9
                go_wp2_with fail
                refine HPT.out.mono ?_
                rintro e w10 ⟨rfl, rfl⟩
                go_wp2_with fail
                go_roundw
                case rel => exact ⟨i + 1, by omega, by go_num, hG10, hM10, hX10, hb10⟩
                case measure => simp [intOf]; omega
              · have e5 : (x.1 == 5) = false := by simp [h5]
                have HTh : Hid (thr1 t2 t3 x = (x.1, (kf : Int))) := (thr1_arg hjmp'.out (fun h => absurd h h5)).trans (by rw [hf.out])
                rw [← HTh.out, HTS.out] at hM9
                clear HTh HN HTS HXA hf hjmp' h5
                go_wp2_with fail
                refine HPT.out.mono ?_
                rintro e w10 ⟨rfl, rfl⟩
                go_wp2_with fail
                go_roundw
                case rel => exact ⟨i + 1, by omega, by go_num, hG9, hM9, hX9, hb9⟩
                case measure => simp [intOf]; omega
          · have e11 : (y.1 == 11) = false := by simp [h11]
            have HN : Hid (openB 11 t2 t3 (kf : Int) = false) := by show _ = _; rw [HO.out]; simp [h11]
            clear HO h11
            have HTh : Hid (thr1 t2 t3 x = (x.1, (kf : Int))) := (thr1_arg hjmp'.out (fun _ => by rw [hf.out]; exact HN.out)).trans (by rw [hf.out])
            rw [← HTh.out, HTS.out] at hM9
            have hX5 := hjmp'.out
            clear HTh HN HTS HXA hf hjmp'
            by_cases h5 : x.1 = 5
            · have e5 : (x.1 == 5) = true := by simp [h5]
              clear h5 hX5
              go_wp2_with fail
              go_roundw
              case rel => exact ⟨i + 1, by omega, by go_num, hG9, hM9, hX9, hb9⟩
              case measure => simp [intOf]; omega
            · have e5 : (x.1 == 5) = false := by simp [h5]
              clear h5 hX5
              go_wp2_with fail
              go_roundw
              case rel => exact ⟨i + 1, by omega, by go_num, hG9, hM9, hX9, hb9⟩
              case measure => simp [intOf]; omega
        · have HN : Hid (openB 11 t2 t3 f = false) := openB_far (by omega)
          have HTh : Hid (thr1 t2 t3 x = (x.1, f)) := (thr1_arg hjmp'.out (fun _ => by rw [hf.out]; exact HN.out)).trans (by rw [hf.out])
          rw [← HTh.out, HTS.out] at hM9
          have hX5 := hjmp'.out
          clear HTh HN HTS HXA hf hjmp'
          by_cases h5 : x.1 = 5
          · have e5 : (x.1 == 5) = true := by simp [h5]
            clear h5 hX5
            go_wp2_with fail
            go_roundw
            case rel => exact ⟨i + 1, by omega, by go_num, hG9, hM9, hX9, hb9⟩
            case measure => simp [intOf]; omega
          · have e5 : (x.1 == 5) = false := by simp [h5]
            clear h5 hX5
            go_wp2_with fail
            go_roundw
            case rel => exact ⟨i + 1, by omega, by go_num, hG9, hM9, hX9, hb9⟩
            case measure => simp [intOf]; omega
      · have HQ0 := l09Jumps_c x.1 x.2 wr
        rw [decide_eq_false hjmp] at HQ0
        have HQ := Lib.hid HQ0
        have HT := Lib.hid (turned_same (thr1 t2 t3) hx (thr1_no hjmp))
        clear HQ0 hx hjmp
        go_wp2_with fail
        refine HQ.out.mono ?_
        rintro e w7 ⟨rfl, hb7⟩
        have hM7 := hM.next hb7
        rw [HT.out] at hM7
        have hG7 := hG.next hb7
        have hX7 := hX.next hb7
        have hb07 := bon hb hb7
        clear HT HQ hM hG hX
        go_wp2_with fail
        go_roundw
        case rel => exact ⟨i + 1, by omega, by go_num, hG7, hM7, hX7, hb07⟩
        case measure => simp [intOf]; omega
    · have e : i = t2.length := by omega
      subst e
      rw [turned_all _ (Nat.le_refl _)] at hM
      have hM' : AnM wr w.heap.size C0 C1 C2 e2 C3 e3 t0 t1 (thrL t2 t3) t3 := hM
      have HLn : Hid (t2.length = (thrL t2 t3).length) := by show _ = _; unfold thrL; rw [List.length_map]
      have z0 := hG.cell 0
      have z1 := hG.cell 1
      have z2 := hG.cell 2
      have z3 := hG.cell 3
      simp at z0 z1 z2 z3
      have f0 := hX.frozen 0
      have f1 := hX.frozen 1
      have f2 := hX.frozen 2
      have f3 := hX.frozen 3
      have y0 := hX.cell 0
      have y1 := hX.cell 1
      have y2 := hX.cell 2
      have y3 := hX.cell 3
      simp at y0 y1 y2 y3
      obtain ⟨hF, hgr⟩ := fill4 hX (.slice C0 t0.length e0) (.slice C1 t1.length e1) (.slice C2 t2.length e2) (.slice C3 t3.length e3)
      have r0 := hF.cell 0
      have r1 := hF.cell 1
      have r2 := hF.cell 2
      have r3 := hF.cell 3
      simp at r0 r1 r2 r3
      have HA := Lib.hid (hM'.kept hgr (blk_not hX (by decide)) (blk_not hX (by decide)) (blk_not hX (by decide)) (blk_not hX (by decide)))
      have hbE := hb.trans (only_below hgr (Nat.le_refl _) hb.size)
      clear hF hgr hM hM' hX hG hlt
      go_wp2_with fail
      refine bodyPost_ret (v := .agg #[.slice C0 t0.length e0, .slice C1 t1.length e1, .slice C2 t2.length e2, .slice C3 t3.length e3]) (by simp [results, Tryz.results15, go_sem, r0, r1, r2, r3]) rfl ?_
      exact ⟨C0, e0, C1, e1, C2, e2, C3, e3, by rw [← HLn.out], HA.out, hbE⟩
end Go.Proofs.YtglbkbdljjaioaaGreat

/-! The model's ThreadJumps as a whole. Conditions: at most 2^20 elements and numbers. -/
namespace Go.Proofs.YtglbkbdljjaioaaGreat
set_option linter.unusedVariables false
set_option linter.unusedSectionVars false
open Go.RowKit

theorem annB_JB {t0 t1 : List (Int × List Int)} {xs : List (Int × Int)} {ps : List P2} (h : annB t0 t1 xs ps = true) : JB xs := by
  intro x hx h5
  have hp := instrB_parts ((codeB_parts (annB_parts h).1).2.2 x hx)
  rcases h5 with e | e <;> rw [e] at hp <;> simp [loB, hiB] at hp <;> omega

section
variable (A0 : Option Addr) (n0 c0 : Nat) (t0 : List (Int × List Int)) (A1 : Option Addr) (n1 c1 : Nat) (t1 : List (Int × List Int)) (A2 : Option Addr) (n2 c2 : Nat) (t2 : List (Int × Int)) (A3 : Option Addr) (n3 c3 : Nat) (t3 : List P2) (w : World) (h0 : InTS w w.heap.size A0 n0 t0) (h1 : InTS w w.heap.size A1 n1 t1) (h2 : InC w w.heap.size A2 n2 t2) (h3 : InP2 w w.heap.size A3 n3 t3) (hn0 : n0 ≤ 1048576) (he0 : totT t0 ≤ 1048576) (hn1 : n1 ≤ 1048576) (he1 : totT t1 ≤ 1048576) (hn2 : n2 ≤ 1048576) (hn3 : n3 ≤ 1048576) (he3 : totP2 t3 ≤ 1048576)
include h0 h1 h2 h3 hn0 he0 hn1 he1 hn2 hn3 he3
set_option maxRecDepth 100000 in
set_option maxHeartbeats 4000000 in
theorem specThread_no (hv : annB t0 t1 t2 t3 = false) :
    Calls Tryz.prog 5 #[.agg #[.slice A0 n0 c0, .slice A1 n1 c1, .slice A2 n2 c2, .slice A3 n3 c3]] w fun e w' => AnS w w' e 0 0 0 0 [] [] [] [] false := by
  have hb0 : Below w.heap.size w ((w.alloc (.cells #[.slice A0 n0 c0, .slice A1 n1 c1, .slice A2 n2 c2, .slice A3 n3 c3] 32)).alloc (.cells #[.slice none 0 0, .slice none 0 0, .slice none 0 0, .slice none 0 0] 32)) := bon (bnew _ _) (bnew _ _)
  have hP : BlkIs ((w.alloc (.cells #[.slice A0 n0 c0, .slice A1 n1 c1, .slice A2 n2 c2, .slice A3 n3 c3] 32)).alloc (.cells #[.slice none 0 0, .slice none 0 0, .slice none 0 0, .slice none 0 0] 32)) w.heap.size 32 #[.slice A0 n0 c0, .slice A1 n1 c1, .slice A2 n2 c2, .slice A3 n3 c3] := (blk_new w _ _ _ rfl).next (bnew _ _)
  have hX : BlkIs ((w.alloc (.cells #[.slice A0 n0 c0, .slice A1 n1 c1, .slice A2 n2 c2, .slice A3 n3 c3] 32)).alloc (.cells #[.slice none 0 0, .slice none 0 0, .slice none 0 0, .slice none 0 0] 32)) (w.heap.size + 1) 32 #[.slice none 0 0, .slice none 0 0, .slice none 0 0, .slice none 0 0] := blk_new _ _ _ _ (by simp)
  have HC0 := l08Is_c w.heap.size A0 n0 c0 t0 A1 n1 c1 t1 A2 n2 c2 t2 A3 n3 c3 t3 w.heap.size _ hP (h0.next hb0 (Nat.le_refl _)) (h1.next hb0 (Nat.le_refl _)) (h2.next hb0 (Nat.le_refl _)) (h3.next hb0 (Nat.le_refl _)) hb0.size hn0 he0 hn1 he1 hn2 hn3 he3
  rw [hv] at HC0
  have HC := Lib.hid HC0
  clear HC0 hv h0 h1 h2 h3
  go_enter Tryz.func5, Tryz.ntmps5
  go_wp2_with fail
  generalize ((w.alloc (.cells #[.slice A0 n0 c0, .slice A1 n1 c1, .slice A2 n2 c2, .slice A3 n3 c3] 32)).alloc (.cells #[.slice none 0 0, .slice none 0 0, .slice none 0 0, .slice none 0 0] 32)) = W at hb0 hP hX HC ⊢
  refine HC.out.mono ?_
  rintro e w1 ⟨rfl, hb1⟩
  have hX1 := hX.next hb1
  have f0 := hX1.frozen 0
  have f1 := hX1.frozen 1
  have f2 := hX1.frozen 2
  have f3 := hX1.frozen 3
  have y0 := hX1.cell 0
  have y1 := hX1.cell 1
  have y2 := hX1.cell 2
  have y3 := hX1.cell 3
  simp at y0 y1 y2 y3
  obtain ⟨hF, hgr⟩ := fill4 hX1 (.slice none 0 0) (.slice none 0 0) (.slice none 0 0) (.slice none 0 0)
  have r0 := hF.cell 0
  have r1 := hF.cell 1
  have r2 := hF.cell 2
  have r3 := hF.cell 3
  simp at r0 r1 r2 r3
  have hbF := (bon hb0 hb1).trans (only_below hgr (Nat.le_succ _) (bon hb0 hb1).size)
  clear hgr hF hX1
  go_wp2_with fail
  refine bodyPost_ret (v := .tuple #[.agg #[.slice none 0 0, .slice none 0 0, .slice none 0 0, .slice none 0 0], .bool false]) (by simp [results, Tryz.results5, go_sem, r0, r1, r2, r3]) rfl ?_
  exact ⟨none, 0, none, 0, none, 0, none, 0, rfl, inTS_none _ _, inTS_none _ _, inC_none _ _, inP2_none _ _, hbF⟩

set_option maxRecDepth 100000 in
set_option maxHeartbeats 4000000 in
theorem specThread_yes (hv : annB t0 t1 t2 t3 = true) :
    Calls Tryz.prog 5 #[.agg #[.slice A0 n0 c0, .slice A1 n1 c1, .slice A2 n2 c2, .slice A3 n3 c3]] w fun e w' => AnS w w' e n0 n1 (thrL t2 t3).length n3 t0 t1 (thrL t2 t3) t3 true := by
  have hb0 : Below w.heap.size w ((w.alloc (.cells #[.slice A0 n0 c0, .slice A1 n1 c1, .slice A2 n2 c2, .slice A3 n3 c3] 32)).alloc (.cells #[.slice none 0 0, .slice none 0 0, .slice none 0 0, .slice none 0 0] 32)) := bon (bnew _ _) (bnew _ _)
  have hP : BlkIs ((w.alloc (.cells #[.slice A0 n0 c0, .slice A1 n1 c1, .slice A2 n2 c2, .slice A3 n3 c3] 32)).alloc (.cells #[.slice none 0 0, .slice none 0 0, .slice none 0 0, .slice none 0 0] 32)) w.heap.size 32 #[.slice A0 n0 c0, .slice A1 n1 c1, .slice A2 n2 c2, .slice A3 n3 c3] := (blk_new w _ _ _ rfl).next (bnew _ _)
  have hX : BlkIs ((w.alloc (.cells #[.slice A0 n0 c0, .slice A1 n1 c1, .slice A2 n2 c2, .slice A3 n3 c3] 32)).alloc (.cells #[.slice none 0 0, .slice none 0 0, .slice none 0 0, .slice none 0 0] 32)) (w.heap.size + 1) 32 #[.slice none 0 0, .slice none 0 0, .slice none 0 0, .slice none 0 0] := blk_new _ _ _ _ (by simp)
  have HC0 := l08Is_c w.heap.size A0 n0 c0 t0 A1 n1 c1 t1 A2 n2 c2 t2 A3 n3 c3 t3 w.heap.size _ hP (h0.next hb0 (Nat.le_refl _)) (h1.next hb0 (Nat.le_refl _)) (h2.next hb0 (Nat.le_refl _)) (h3.next hb0 (Nat.le_refl _)) hb0.size hn0 he0 hn1 he1 hn2 hn3 he3
  rw [hv] at HC0
  have HC := Lib.hid HC0
  have hl0 := h0.1
  have hl1 := h1.1
  have hl2 := h2.1
  have hl3 := h3.1
  subst hl0 hl1 hl2 hl3
  obtain ⟨s0, s1, s2, s3, s3'⟩ := annB_small hv
  have hJ := annB_JB hv
  have HIdle : Hid (∀ x, Below w.heap.size w x → BlkIs x w.heap.size 32 #[.slice A0 t0.length c0, .slice A1 t1.length c1, .slice A2 t2.length c2, .slice A3 t3.length c3] → Calls Tryz.prog 15 #[.pointer (some ⟨w.heap.size, 0, none⟩)] x fun e w' => ∃ C0 e0 C1 e1 C2 e2 C3 e3, e = .returned (.agg #[.slice C0 t0.length e0, .slice C1 t1.length e1, .slice C2 (thrL t2 t3).length e2, .slice C3 t3.length e3]) ∧ AnM w' x.heap.size C0 C1 C2 e2 C3 e3 t0 t1 (thrL t2 t3) t3 ∧ Below x.heap.size x w') :=
    fun x hx hPx => l09Thread_c w.heap.size A0 c0 t0 A1 c1 t1 A2 c2 t2 A3 c3 t3 w.heap.size x hPx (h0.next hx (Nat.le_refl _)) (h1.next hx (Nat.le_refl _)) (h2.next hx (Nat.le_refl _)) (h3.next hx (Nat.le_refl _)) hx.size s0 s1 (by omega) ⟨by omega, s3'⟩ hJ
  obtain ⟨R, hR⟩ : ∃ R, thrL t2 t3 = R := ⟨_, rfl⟩
  rw [hR] at HIdle ⊢
  clear HC0 hv h0 h1 h2 h3 s0 s1 s2 s3 s3' hJ hR
  go_enter Tryz.func5, Tryz.ntmps5
  go_wp2_with fail
  generalize ((w.alloc (.cells #[.slice A0 t0.length c0, .slice A1 t1.length c1, .slice A2 t2.length c2, .slice A3 t3.length c3] 32)).alloc (.cells #[.slice none 0 0, .slice none 0 0, .slice none 0 0, .slice none 0 0] 32)) = W at hb0 hP hX HC ⊢
  refine HC.out.mono ?_
  rintro e w1 ⟨rfl, hb1⟩
  have hb01 := bon hb0 hb1
  have HG := Lib.hid (HIdle.out w1 hb01 (hP.next hb1))
  have HX1 := Lib.hid (hX.next hb1)
  clear HIdle hP hX HC
  go_wp2_with fail
  refine HG.out.mono ?_
  rintro e w2 ⟨C0, e0, C1, e1, C2, e2, C3, e3, rfl, hA, hb2⟩
  have hX1 := HX1.out.next hb2
  have f0 := hX1.frozen 0
  have f1 := hX1.frozen 1
  have f2 := hX1.frozen 2
  have f3 := hX1.frozen 3
  have y0 := hX1.cell 0
  have y1 := hX1.cell 1
  have y2 := hX1.cell 2
  have y3 := hX1.cell 3
  simp at y0 y1 y2 y3
  obtain ⟨hF, hgr⟩ := fill4 hX1 (.slice C0 t0.length e0) (.slice C1 t1.length e1) (.slice C2 R.length e2) (.slice C3 t3.length e3)
  have r0 := hF.cell 0
  have r1 := hF.cell 1
  have r2 := hF.cell 2
  have r3 := hF.cell 3
  simp at r0 r1 r2 r3
  have hb02 := bon hb01 hb2
  have hbF := hb02.trans (only_below hgr (Nat.le_succ _) hb02.size)
  have hA2 := hA.kept hgr (blk_not hX1 (by decide)) (blk_not hX1 (by decide)) (blk_not hX1 (by decide)) (blk_not hX1 (by decide))
  obtain ⟨A3', c3', hv3, hPt3⟩ := hA2.f3.out
  injection hv3 with i1 i2 i3
  subst i1
  have HQ := Lib.hid (And.intro hA2.f0.inn (And.intro hA2.f1.inn (And.intro (OwnC.of_own hA2.f2 rfl).all hPt3.inn)))
  clear hF hgr hA hA2 hX1 HX1 HG i2 i3 hPt3
  go_wp2_with fail
  refine bodyPost_ret (v := .tuple #[.agg #[.slice C0 t0.length e0, .slice C1 t1.length e1, .slice C2 R.length e2, .slice C3 t3.length e3], .bool true]) (by simp [results, Tryz.results5, go_sem, r0, r1, r2, r3]) rfl ?_
  exact ⟨C0, e0, C1, e1, C2, e2, C3, e3, rfl, HQ.out.1, HQ.out.2.1, HQ.out.2.2.1, HQ.out.2.2.2, hbF⟩
end
end Go.Proofs.YtglbkbdljjaioaaGreat

/-! The program's end of jumps. Conditions: valid code. -/
namespace Go.Proofs.YtglbkbdljjaioaaGreat
set_option linter.unusedVariables false
open Go.RowKit

set_option maxRecDepth 100000 in
set_option maxHeartbeats 4000000 in
theorem isOpen_far (o : Nat) (v0 v1 : Value) (A : Option Addr) (n c : Nat) (v3 : Value) (k op : Int) (w : World) (hP : BlkIs w o 83 #[v0, v1, .slice A n c, v3]) (hk : (n : Int) ≤ k) :
    Calls Tryz.prog 62 #[.pointer (some ⟨o, 0, none⟩), .int .i64 k, .int .i64 op] w fun e w' => e = .returned (.bool false) ∧ Below w.heap.size w w' := by
  have p2 := hP.cell 2
  simp at p2
  have hk' : ¬ k < (n : Int) := by omega
  go_enter Tryz.func62, Tryz.ntmps62
  go_wp2_with fail
  go_ret
  exact ⟨rfl, Below.refl _ _⟩
/-- isOpen at any place of a jump. -/
theorem isOpen_any (o : Nat) (v0 v1 : Value) (A : Option Addr) (n c B : Nat) (xs : List (Int × Int)) (D : Option Addr) (m d : Nat) (ps : List P2) (k op : Int) (w : World) (hP : BlkIs w o 83 #[v0, v1, .slice A n c, .slice D m d]) (h1 : InC w B A n xs) (h2 : InP2 w B D m ps) (hB : B ≤ w.heap.size) (hn : n ≤ 1000) (hm : m ≤ 1048576) (h0 : 0 ≤ k) (r : Bool) (hr : r = openB op xs ps k) :
    Calls Tryz.prog 62 #[.pointer (some ⟨o, 0, none⟩), .int .i64 k, .int .i64 op] w fun e w' => e = .returned (.bool r) ∧ Below w.heap.size w w' := by
  by_cases hlt : k < (n : Int)
  · obtain ⟨j, rfl⟩ : ∃ j : Nat, k = (j : Int) := ⟨k.toNat, by omega⟩
    obtain ⟨x, hx⟩ : ∃ x, xs[j]? = some x := ⟨_, List.getElem?_eq_getElem (by have := h1.1; omega)⟩
    exact isOpen_c o v0 v1 A n c B xs D m d ps j op x w hP h1 h2 hB hn hm hx r (by rw [hr, openB_at hx])
  · rw [hr, openB_far (by have := h1.1; omega)]
    exact isOpen_far o v0 v1 A n c _ k op w hP (by omega)

theorem distinct_le {n : Nat} {f : Nat → Int} {i : Nat} (hb : ∀ j, j < i → 0 ≤ f j ∧ f j < n) (hd : ∀ a b, a < b → b < i → f a ≠ f b) : i ≤ n := by
  by_cases h : i ≤ n
  · exact h
  · obtain ⟨a, b, h1, h2, h3⟩ := pigeon n f (fun j hj => hb j (by omega))
    exact absurd h3 (hd a b h1 (by omega))
/-- What the walk over jumps has seen: i jumps, all different, and the set of their places. -/
structure EndS (xs : List (Int × Int)) (ps : List P2) (k : Int) (i S : Nat) : Prop where
  all : allJ xs ps k i
  dis : ∀ a b, a < b → b < i → overJ xs k a ≠ overJ xs k b
  lt : S < 2 ^ 128
  bit : ∀ m : Nat, S.testBit m = true ↔ ∃ j, j < i ∧ overJ xs k j = (m : Int)
theorem EndS.zero (xs : List (Int × Int)) (ps : List P2) (k : Int) : EndS xs ps k 0 0 :=
  ⟨fun j hj => by omega, fun a b _ hb => by omega, by decide, fun m => by simp⟩
theorem EndS.le {xs : List (Int × Int)} {ps : List P2} {k : Int} {i S : Nat} (h : EndS xs ps k i S) : i ≤ xs.length :=
  distinct_le (fun j hj => openB_lt (h.all j hj)) h.dis
theorem EndS.succ {xs : List (Int × Int)} {ps : List P2} {k : Int} {i S m : Nat} (h : EndS xs ps k i S) (hm : overJ xs k i = (m : Int)) (ho : openB 5 xs ps (m : Int) = true) (hn : S.testBit m = false) (h128 : m < 128) : EndS xs ps k (i + 1) (putS S m) := by
  have hno : ∀ j, j < i → overJ xs k j ≠ (m : Int) := fun j hj e => by
    have := (h.bit m).2 ⟨j, hj, e⟩
    rw [hn] at this; cases this
  refine ⟨allJ_succ h.all (by rw [hm]; exact ho), fun a b ha hb => ?_, putS_lt h.lt h128, fun q => ?_⟩
  · by_cases e : b = i
    · subst e; rw [hm]; exact hno a ha
    · exact h.dis a b ha (by omega)
  · rw [putS_bit, Bool.or_eq_true, h.bit, decide_eq_true_eq]
    constructor
    · rintro (⟨j, hj, e⟩ | e)
      · exact ⟨j, by omega, e⟩
      · exact ⟨i, by omega, by rw [hm, e]⟩
    · rintro ⟨j, hj, e⟩
      by_cases hji : j = i
      · subst hji; rw [hm] at e; exact .inr (by omega)
      · exact .inl ⟨j, by omega, e⟩

/-- How many of the first n hold. -/
def cntN : Nat → (Nat → Bool) → Nat
  | 0, _ => 0
  | n + 1, f => cntN n f + (if f n then 1 else 0)
theorem cntN_le (n : Nat) (f : Nat → Bool) : cntN n f ≤ n := by
  induction n with
  | zero => exact Nat.le_refl _
  | succ n ih => unfold cntN; split <;> omega
theorem cntN_put {f g : Nat → Bool} {m : Nat} (hg : ∀ j, g j = (f j || decide (m = j))) (hm : f m = false) (n : Nat) : cntN n g = cntN n f + (if m < n then 1 else 0) := by
  induction n with
  | zero => simp [cntN]
  | succ n ih =>
    unfold cntN
    rw [ih, hg n]
    by_cases e : m = n
    · subst e; simp [hm]
    · have : (if m < n + 1 then 1 else 0) = (if m < n then 1 else 0) := by
        by_cases h : m < n
        · rw [if_pos h, if_pos (by omega)]
        · rw [if_neg h, if_neg (by omega)]
      rw [this]
      simp [e]
      omega
def readS (b : Nat) (w : World) : Nat :=
  match w.cell? ⟨b, 0, none⟩, w.cell? ⟨b, 1, none⟩ with
  | some (.int _ x), some (.int _ y) => x.toNat + y.toNat * 2 ^ 64
  | _, _ => 0
theorem readS_is {b S : Nat} {w : World} (h : BlkIs w b 109 #[.int .u64 (loW S : Nat), .int .u64 (hiW S : Nat)]) : readS b w = S := by
  have c0 := h.cell 0
  have c1 := h.cell 1
  simp at c0 c1
  unfold readS
  rw [c0, c1]
  simp only [Int.toNat_natCast]
  unfold loW hiW
  have := Nat.mod_add_div S (2 ^ 64)
  rw [Nat.mul_comm] at this
  exact this

set_option maxRecDepth 100000 in
set_option maxHeartbeats 4000000 in
theorem endOf_c (o : Nat) (v0 v1 : Value) (A : Option Addr) (n c B : Nat) (xs : List (Int × Int)) (D : Option Addr) (m d : Nat) (ps : List P2) (k : Int) (w : World) (hP : BlkIs w o 83 #[v0, v1, .slice A n c, .slice D m d]) (h1 : InC w B A n xs) (h2 : InP2 w B D m ps) (hB : B ≤ w.heap.size) (hn : n ≤ 80) (hm : m ≤ 1048576) (hJ : JB xs) (h0 : 0 ≤ k) (hk : k ≤ 1000) :
    Calls Tryz.prog 63 #[.pointer (some ⟨o, 0, none⟩), .int .i64 k] w fun e w' => e = .returned (.int .i64 (finJ xs ps k)) ∧ Below w.heap.size w w' := by
  have hlen := Lib.hid h1.1
  have hb0 := bnew w (.cells #[.int .u64 0, .int .u64 0] 109)
  have hX : BlkIs (w.alloc (.cells #[.int .u64 0, .int .u64 0] 109)) w.heap.size 109 #[.int .u64 (loW 0 : Nat), .int .u64 (hiW 0 : Nat)] := blk_new _ _ _ _ rfl
  have HP := Lib.hid hP
  have HJ := Lib.hid hJ
  have H1 := Lib.hid h1
  have H2 := Lib.hid h2
  clear hP hJ h1 h2
  go_enter Tryz.func63, Tryz.ntmps63
  go_wp2_with fail
  generalize w.alloc (.cells #[.int .u64 0, .int .u64 0] 109) = W at hb0 hX ⊢
  go_loopw [5] (fun z wr => ∃ (i S : Nat) (y : Int), z = .int .i64 y ∧ Hid (y = overJ xs k i) ∧ Hid (EndS xs ps k i S) ∧ BlkIs wr w.heap.size 109 #[.int .u64 (loW S : Nat), .int .u64 (hiW S : Nat)] ∧ Below w.heap.size w wr) (fun z wr => 128 - cntN 128 (readS w.heap.size wr).testBit)
  case atStart => exact ⟨0, 0, k, rfl, Lib.hid rfl, Lib.hid (EndS.zero xs ps k), hX, hb0⟩
  case round =>
    clear hX hb0
    obtain ⟨i, S, y, rfl, hy, hS, hX, hb⟩ := hrel
    have hyb := overJ_bnd HJ.out h0 hk i hS.out.all
    rw [← hy.out] at hyb
    have hPw := HP.out.next hb
    obtain ⟨r, hr⟩ : ∃ r, r = openB 5 xs ps y := ⟨_, rfl⟩
    have HO := Lib.hid (isOpen_any o v0 v1 A n c B xs D m d ps y 5 wr hPw (H1.out.next hb hB) (H2.out.next hb hB) (Nat.le_trans hB hb.size) (by omega) hm hyb.1 r hr)
    cases r with
    | false =>
      have HN : Hid (finJ xs ps k = y) := by
        show _ = _
        rw [hy.out]
        exact finJ_eq (FinalJ.stop hS.out.all (by rw [← hy.out]; exact hr.symm))
      clear hr hS hy
      go_wp2_with fail
      refine HO.out.mono ?_
      rintro e w5 ⟨rfl, hb5⟩
      go_wp2_with fail
      go_ret
      exact ⟨congrArg (fun z => Ending.returned (.int .i64 z)) HN.out.symm, bon hb hb5⟩
    | true =>
      have hyl := openB_lt hr.symm
      rw [hlen.out] at hyl
      obtain ⟨q, rfl⟩ : ∃ q : Nat, y = (q : Int) := ⟨y.toNat, by omega⟩
      have hq128 : q < 128 := by omega
      have hqn : q < n := by omega
      cases hbt : S.testBit q with
      | true =>
        have HN : Hid (finJ xs ps k = k) := by
          obtain ⟨j, hj, e⟩ := (hS.out.bit q).1 hbt
          exact finJ_eq (FinalJ.loop hS.out.all hj (by rw [e]; exact hy.out))
        have HH := Lib.hid (fun w5 => has_c S q w5 hS.out.lt hq128)
        rw [hbt] at HH
        clear hr hS hy hbt
        go_wp2_with fail
        refine HO.out.mono ?_
        rintro e w5 ⟨rfl, hb5⟩
        have hX5 := hX.next hb5
        have z0 := hX5.cell 0
        have z1 := hX5.cell 1
        simp at z0 z1
        go_wp2_with fail
        refine (HH.out w5).mono ?_
        rintro e w6 ⟨rfl, hb6⟩
        go_wp2_with fail
        go_ret
        exact ⟨congrArg (fun z => Ending.returned (.int .i64 z)) HN.out.symm, bon (bon hb hb5) hb6⟩
      | false =>
        obtain ⟨x, hx⟩ : ∃ x, xs[q]? = some x := ⟨_, List.getElem?_eq_getElem (by have := hlen.out; omega)⟩
        have HY : Hid (x.2 = overJ xs k (i + 1)) := by
          show x.2 = nextJ xs (overJ xs k i)
          rw [← hy.out, nextJ_at hx]
        have HS1 := Lib.hid (hS.out.succ hy.out.symm hr.symm hbt hq128)
        have HM : Hid (cntN 128 (putS S q).testBit = cntN 128 S.testBit + 1) := by
          have := cntN_put (g := (putS S q).testBit) (f := S.testBit) (m := q) (putS_bit S q) hbt 128
          rw [if_pos hq128] at this
          exact this
        have HH := Lib.hid (fun w5 => has_c S q w5 hS.out.lt hq128)
        have HW := Lib.hid (fun w6 => with_c S q w6 hS.out.lt hq128)
        rw [hbt] at HH
        have HX := Lib.hid hx
        have HR := Lib.hid (readS_is hX)
        clear hr hS hy hbt hx
        go_wp2_with fail
        refine HO.out.mono ?_
        rintro e w5 ⟨rfl, hb5⟩
        have hX5 := hX.next hb5
        have z0 := hX5.cell 0
        have z1 := hX5.cell 1
        simp at z0 z1
        go_wp2_with fail
        refine (HH.out w5).mono ?_
        rintro e w6 ⟨rfl, hb6⟩
        have hX6 := hX5.next hb6
        have y0 := hX6.cell 0
        have y1 := hX6.cell 1
        simp at y0 y1
        go_wp2_with fail
        refine (HW.out w6).mono ?_
        rintro e w7 ⟨rfl, hb7⟩
        have hX7 := hX6.next hb7
        have f0 := hX7.frozen 0
        have f1 := hX7.frozen 1
        have u0 := hX7.cell 0
        have u1 := hX7.cell 1
        simp at u0 u1
        have hX8 := (hX7.set 0 (.int .u64 (loW (putS S q) : Nat))).set 1 (.int .u64 (hiW (putS S q) : Nat))
        simp at hX8
        have hb07 := bon (bon (bon hb hb5) hb6) hb7
        have hb08 := (hb07.setCell (p := ⟨w.heap.size, 0, none⟩) (Nat.le_refl _) (.int .u64 (loW (putS S q) : Nat))).setCell (p := ⟨w.heap.size, 1, none⟩) (Nat.le_refl _) (.int .u64 (hiW (putS S q) : Nat))
        have hP8 := (HP.out.next hb08).cell 2
        simp at hP8
        obtain ⟨b', off, x', rfl, hb', hx', q0, q1⟩ := (H1.out.next hb08 hB).at_ hqn
        obtain rfl : x = x' := by rw [HX.out] at hx'; exact Option.some.inj hx'
        have HR8 := Lib.hid (readS_is hX8)
        clear hx' hX5 hX6 hX7 hX
        go_wp2_with fail
        go_roundw
        case rel => exact ⟨i + 1, putS S q, x.2, rfl, HY, HS1, hX8, hb08⟩
        case measure =>
          rw [HR8.out, HR.out, HM.out]
          have := cntN_le 128 (putS S q).testBit
          rw [HM.out] at this
          omega
end Go.Proofs.YtglbkbdljjaioaaGreat

/-! The program's ThreadJumps. Conditions: at most 2^20 elements and numbers. -/
namespace Go.Proofs.YtglbkbdljjaioaaGreat
set_option linter.unusedVariables false
set_option linter.unusedSectionVars false
open Go.RowKit

theorem thr1_5n {xs : List (Int × Int)} {ps : List P2} {x : Int × Int} (h : x.1 = 5) (hh : openB 11 xs ps (finJ xs ps x.2) = false) : thr1 xs ps x = (5, finJ xs ps x.2) := by
  unfold thr1; rw [if_pos h, if_neg (by simp [hh])]
theorem thr1_5y {xs : List (Int × Int)} {ps : List P2} {x : Int × Int} (h : x.1 = 5) (hh : openB 11 xs ps (finJ xs ps x.2) = true) : thr1 xs ps x = (11, 0) := by
  unfold thr1; rw [if_pos h, if_pos hh]
theorem thr1_6 {xs : List (Int × Int)} {ps : List P2} {x : Int × Int} (h : x.1 = 6) : thr1 xs ps x = (6, finJ xs ps x.2) := by
  unfold thr1; rw [if_neg (by omega), if_pos h]
theorem thr1_z {xs : List (Int × Int)} {ps : List P2} {x : Int × Int} (h : ¬ x.1 = 5) (h6 : ¬ x.1 = 6) : thr1 xs ps x = x := by
  unfold thr1; rw [if_neg h, if_neg h6]
theorem finJ_bnd' {xs : List (Int × Int)} {ps : List P2} {k : Int} (hJ : JB xs) (h0 : 0 ≤ k) (h1 : k ≤ 1000) : 0 ≤ finJ xs ps k ∧ finJ xs ps k ≤ 1000 := by
  rcases finJ_is xs ps k with ⟨i, a, _, e⟩ | ⟨_, e⟩
  · rw [e]; exact overJ_bnd hJ h0 h1 i a
  · rw [e]; exact ⟨h0, h1⟩

set_option maxRecDepth 100000 in
set_option maxHeartbeats 4000000 in
theorem threaded_c (o : Nat) (v0 v1 : Value) (A : Option Addr) (n c B : Nat) (xs : List (Int × Int)) (D : Option Addr) (m d : Nat) (ps : List P2) (x : Int × Int) (w : World) (hP : BlkIs w o 83 #[v0, v1, .slice A n c, .slice D m d]) (h1 : InC w B A n xs) (h2 : InP2 w B D m ps) (hB : B ≤ w.heap.size) (hn : n ≤ 80) (hm : m ≤ 1048576) (hJ : JB xs) (hx : x ∈ xs) :
    Calls Tryz.prog 44 #[.pointer (some ⟨o, 0, none⟩), .agg #[.int .i64 x.1, .int .i64 x.2]] w fun e w' => e = .returned (.agg #[.int .i64 (thr1 xs ps x).1, .int .i64 (thr1 xs ps x).2]) ∧ Below w.heap.size w w' := by
  have hb0 : Below w.heap.size w ((w.alloc (.cells #[.int .i64 x.1, .int .i64 x.2] 73)).alloc (.cells #[.int .i64 0, .int .i64 0] 73)) := bon (bnew _ _) (bnew _ _)
  have hQ : BlkIs ((w.alloc (.cells #[.int .i64 x.1, .int .i64 x.2] 73)).alloc (.cells #[.int .i64 0, .int .i64 0] 73)) w.heap.size 73 #[.int .i64 x.1, .int .i64 x.2] := (blk_new w _ _ _ rfl).next (bnew _ _)
  have hX : BlkIs ((w.alloc (.cells #[.int .i64 x.1, .int .i64 x.2] 73)).alloc (.cells #[.int .i64 0, .int .i64 0] 73)) (w.heap.size + 1) 73 #[.int .i64 0, .int .i64 0] := blk_new _ _ _ _ (by simp)
  have HE : Hid (∀ u, x.1 = 5 ∨ x.1 = 6 → Below w.heap.size w u → Calls Tryz.prog 63 #[.pointer (some ⟨o, 0, none⟩), .int .i64 x.2] u fun e w' => e = .returned (.int .i64 (finJ xs ps x.2)) ∧ Below u.heap.size u w') := fun u h56 hu =>
    endOf_c o v0 v1 A n c B xs D m d ps x.2 u (hP.next hu) (h1.next hu hB) (h2.next hu hB) (Nat.le_trans hB hu.size) hn hm hJ (hJ x hx h56).1 (hJ x hx h56).2
  have HO : Hid (∀ u (r : Bool), x.1 = 5 ∨ x.1 = 6 → r = openB 11 xs ps (finJ xs ps x.2) → Below w.heap.size w u → Calls Tryz.prog 62 #[.pointer (some ⟨o, 0, none⟩), .int .i64 (finJ xs ps x.2), .int .i64 11] u fun e w' => e = .returned (.bool r) ∧ Below u.heap.size u w') := fun u r h56 hr hu =>
    isOpen_any o v0 v1 A n c B xs D m d ps _ 11 u (hP.next hu) (h1.next hu hB) (h2.next hu hB) (Nat.le_trans hB hu.size) (by omega) hm (finJ_bnd' hJ (hJ x hx h56).1 (hJ x hx h56).2).1 r hr
  clear hP h1 h2 hJ hx
  by_cases h5 : x.1 = 5
  · have e5 : (x.1 == 5) = true := by simp [h5]
    obtain ⟨r, hr⟩ : ∃ r, r = openB 11 xs ps (finJ xs ps x.2) := ⟨_, rfl⟩
    have HE5 := Lib.hid (fun u hu => HE.out u (.inl h5) hu)
    have HO5 := Lib.hid (fun u hu => HO.out u r (.inl h5) hr hu)
    cases r with
    | true =>
      have HT := Lib.hid (thr1_5y h5 hr.symm)
      obtain ⟨f, hf⟩ : ∃ f, Hid (finJ xs ps x.2 = f) := ⟨_, Lib.hid rfl⟩
      rw [hf.out] at HE5 HO5
      rw [HT.out]
      clear h5 hr HE HO
      go_enter Tryz.func44, Tryz.ntmps44
      go_wp2_with fail
      generalize (w.alloc (.cells #[.int .i64 x.1, .int .i64 x.2] 73)).alloc (.cells #[.int .i64 0, .int .i64 0] 73) = W at hb0 hQ hX ⊢
      have q0 := hQ.cell 0
      have q1 := hQ.cell 1
      simp at q0 q1
      go_wp2_with fail
      refine (HE5.out W hb0).mono ?_
      rintro e w1 ⟨rfl, hb1⟩
      have hb01 := bon hb0 hb1
      go_wp2_with fail
      refine (HO5.out w1 hb01).mono ?_
      rintro e w2 ⟨rfl, hb2⟩
      have hX2 := (hX.next hb1).next hb2
      have f0 := hX2.frozen 0
      have f1 := hX2.frozen 1
      have y0 := hX2.cell 0
      have y1 := hX2.cell 1
      simp at y0 y1
      have hX3 := (hX2.set 0 (.int .i64 11)).set 1 (.int .i64 0)
      simp at hX3
      have r0 := hX3.cell 0
      have r1 := hX3.cell 1
      simp at r0 r1
      have hb02 := bon hb01 hb2
      have hbF := (hb02.setCell (p := ⟨w.heap.size + 1, 0, none⟩) (Nat.le_succ _) (.int .i64 11)).setCell (p := ⟨w.heap.size + 1, 1, none⟩) (Nat.le_succ _) (.int .i64 0)
      clear hX hX2 hX3 HE5 HO5
      go_wp2_with fail
      refine bodyPost_ret (v := .agg #[.int .i64 11, .int .i64 0]) (by simp [results, Tryz.results44, go_sem, r0, r1]) rfl ?_
      exact ⟨rfl, hbF⟩
    | false =>
      obtain ⟨f, hf⟩ : ∃ f, Hid (finJ xs ps x.2 = f) := ⟨_, Lib.hid rfl⟩
      have HT : Hid (thr1 xs ps x = (x.1, f)) := by show _ = _; rw [thr1_5n h5 hr.symm, hf.out, h5]
      rw [hf.out] at HE5 HO5
      rw [HT.out]
      clear h5 hr HE HO
      go_enter Tryz.func44, Tryz.ntmps44
      go_wp2_with fail
      generalize (w.alloc (.cells #[.int .i64 x.1, .int .i64 x.2] 73)).alloc (.cells #[.int .i64 0, .int .i64 0] 73) = W at hb0 hQ hX ⊢
      have q0 := hQ.cell 0
      have q1 := hQ.cell 1
      simp at q0 q1
      go_wp2_with fail
      refine (HE5.out W hb0).mono ?_
      rintro e w1 ⟨rfl, hb1⟩
      have hb01 := bon hb0 hb1
      go_wp2_with fail
      refine (HO5.out w1 hb01).mono ?_
      rintro e w2 ⟨rfl, hb2⟩
      have hb02 := bon hb01 hb2
      have qq := ((hQ.next hb1).next hb2).cell 1
      simp at qq
      go_wp2_with fail
      refine (HE5.out w2 hb02).mono ?_
      rintro e w3 ⟨rfl, hb3⟩
      have hQl := (((hQ.next hb1).next hb2).next hb3)
      have hXl := (((hX.next hb1).next hb2).next hb3)
      have hbl := (bon (bon (bon hb0 hb1) hb2) hb3)
      have g1 := hQl.frozen 1
      have z0 := hQl.cell 0
      have z1 := hQl.cell 1
      simp at z0 z1
      have hQm := hQl.set 1 (.int .i64 f)
      simp at hQm
      have hXm := hXl.far (show w.heap.size + 1 ≠ w.heap.size by omega) 1 (.int .i64 f)
      have m0 := hQm.cell 0
      have m1 := hQm.cell 1
      simp at m0 m1
      have hbm := hbl.setCell (p := ⟨w.heap.size, 1, none⟩) (Nat.le_refl _) (.int .i64 f)
      go_upto_region 7 with (fail)
      generalize w3.setCell ⟨w.heap.size, 1, none⟩ (.int .i64 f) = wm at hQm hXm m0 m1 hbm ⊢
      have f0 := hXm.frozen 0
      have f1 := hXm.frozen 1
      have y0 := hXm.cell 0
      have y1 := hXm.cell 1
      simp at y0 y1
      have hX3 := (hXm.set 0 (.int .i64 x.1)).set 1 (.int .i64 f)
      simp at hX3
      have r0 := hX3.cell 0
      have r1 := hX3.cell 1
      simp at r0 r1
      have hbF := (hbm.setCell (p := ⟨w.heap.size + 1, 0, none⟩) (Nat.le_succ _) (.int .i64 x.1)).setCell (p := ⟨w.heap.size + 1, 1, none⟩) (Nat.le_succ _) (.int .i64 f)
      clear hX hQ hQl hXl hQm hXm hX3
      go_wp2_with fail
      refine bodyPost_ret (v := .agg #[.int .i64 x.1, .int .i64 f]) (by simp [results, Tryz.results44, go_sem, r0, r1]) rfl ?_
      exact ⟨rfl, hbF⟩
  · have e5 : (x.1 == 5) = false := by simp [h5]
    by_cases h6 : x.1 = 6
    · have e6 : (x.1 == 6) = true := by simp [h6]
      have HE5 := Lib.hid (fun u hu => HE.out u (.inr h6) hu)
      obtain ⟨f, hf⟩ : ∃ f, Hid (finJ xs ps x.2 = f) := ⟨_, Lib.hid rfl⟩
      have HT : Hid (thr1 xs ps x = (x.1, f)) := by show _ = _; rw [thr1_6 h6, hf.out, h6]
      rw [hf.out] at HE5
      rw [HT.out]
      clear h5 h6 HE HO
      go_enter Tryz.func44, Tryz.ntmps44
      go_wp2_with fail
      generalize (w.alloc (.cells #[.int .i64 x.1, .int .i64 x.2] 73)).alloc (.cells #[.int .i64 0, .int .i64 0] 73) = W at hb0 hQ hX ⊢
      have q0 := hQ.cell 0
      have q1 := hQ.cell 1
      simp at q0 q1
      go_wp2_with fail
      refine (HE5.out W hb0).mono ?_
      rintro e w3 ⟨rfl, hb3⟩
      have hQl := (hQ.next hb3)
      have hXl := (hX.next hb3)
      have hbl := (bon hb0 hb3)
      have g1 := hQl.frozen 1
      have z0 := hQl.cell 0
      have z1 := hQl.cell 1
      simp at z0 z1
      have hQm := hQl.set 1 (.int .i64 f)
      simp at hQm
      have hXm := hXl.far (show w.heap.size + 1 ≠ w.heap.size by omega) 1 (.int .i64 f)
      have m0 := hQm.cell 0
      have m1 := hQm.cell 1
      simp at m0 m1
      have hbm := hbl.setCell (p := ⟨w.heap.size, 1, none⟩) (Nat.le_refl _) (.int .i64 f)
      go_upto_region 7 with (fail)
      generalize w3.setCell ⟨w.heap.size, 1, none⟩ (.int .i64 f) = wm at hQm hXm m0 m1 hbm ⊢
      have f0 := hXm.frozen 0
      have f1 := hXm.frozen 1
      have y0 := hXm.cell 0
      have y1 := hXm.cell 1
      simp at y0 y1
      have hX3 := (hXm.set 0 (.int .i64 x.1)).set 1 (.int .i64 f)
      simp at hX3
      have r0 := hX3.cell 0
      have r1 := hX3.cell 1
      simp at r0 r1
      have hbF := (hbm.setCell (p := ⟨w.heap.size + 1, 0, none⟩) (Nat.le_succ _) (.int .i64 x.1)).setCell (p := ⟨w.heap.size + 1, 1, none⟩) (Nat.le_succ _) (.int .i64 f)
      clear hX hQ hQl hXl hQm hXm hX3
      go_wp2_with fail
      refine bodyPost_ret (v := .agg #[.int .i64 x.1, .int .i64 f]) (by simp [results, Tryz.results44, go_sem, r0, r1]) rfl ?_
      exact ⟨rfl, hbF⟩
    · have e6 : (x.1 == 6) = false := by simp [h6]
      have HT := Lib.hid (thr1_z (xs := xs) (ps := ps) h5 h6)
      rw [HT.out]
      clear h5 h6 HE HO hQ hX
      go_enter Tryz.func44, Tryz.ntmps44
      go_wp2_with fail
      refine bodyPost_ret (v := .agg #[.int .i64 x.1, .int .i64 x.2]) (by simp [results, Tryz.results44, go_sem]) rfl ?_
      exact ⟨rfl, bon (bnew _ _) (bnew _ _)⟩

set_option maxRecDepth 100000 in
set_option maxHeartbeats 4000000 in
theorem eachThr_c (f : Int × Int → Int × Int) (P : Addr) (A : Option Addr) (n c B : Nat) (xs : List (Int × Int)) (w : World) (h : InC w B A n xs) (hB : B ≤ w.heap.size) (hn : n ≤ 1000)
    (HF0 : ∀ (W : World) (x : Int × Int), Below w.heap.size w W → x ∈ xs → Calls Tryz.prog 44 #[.pointer (some P), .agg #[.int .i64 x.1, .int .i64 x.2]] W fun e w' => e = .returned (.agg #[.int .i64 (f x).1, .int .i64 (f x).2]) ∧ Below W.heap.size W w') :
    Calls Tryz.prog 43 #[.slice A n c, .func (Fn.func 44) #[.pointer (some P)] #[]] w fun e w' => ∃ g, e = .returned (.slice (some ⟨g, 0, none⟩) n n) ∧ OwnC w' w.heap.size w'.heap.size (some ⟨g, 0, none⟩) n n (xs.map f) ∧ Below w.heap.size w w' := by
  obtain ⟨i0, hi, hz0, hz1, hz2⟩ := info_parts infoInstr
  have hlen := Lib.hid h.1
  have HF := Lib.hid HF0
  clear HF0
  go_enter Tryz.func43, Tryz.ntmps43
  go_wp2_with (at_make; refine wpList_make_full _ rfl _ _ 29 rfl w.heap.size 73 i0 (.agg #[.int .i64 0, .int .i64 0]) 2 Tryz.underlying29 hi hz0 hz1 .i64 .i64 _ _ n rfl rfl rfl rfl (by rw [hz2]; omega) (by unfold maxLen; omega) (Nat.le_refl _) ?_; intro w1 hown hgrow)
  have hb1 := (Below.refl w.heap.size w).grown hgrow (Nat.le_refl _) (fun _ h => by cases h)
  have hlt0 : w.heap.size < w1.heap.size := (hown.lt w.heap.size rfl).2
  have hl0 : ∃ ys, w1.ownsRow w.heap.size 73 2 (.slice (some ⟨w.heap.size, 0, none⟩) n n) n ys ∧ LaidC ys 0 (xs.map f) := ⟨_, hown, fun j x hj => by omega⟩
  clear hgrow hown
  go_loopw [6, 7, 13] (fun _ _ i wr => ∃ k : Nat, k ≤ n ∧ i = .int .i64 k ∧ (∃ ys, wr.ownsRow w.heap.size 73 2 (.slice (some ⟨w.heap.size, 0, none⟩) n n) n ys ∧ LaidC ys k (xs.map f)) ∧ w.heap.size < wr.heap.size ∧ Below w.heap.size w wr) (fun _ _ i _ => n - (intOf i).toNat)
  case atStart => exact ⟨0, Nat.zero_le _, rfl, hl0, hlt0, hb1⟩
  case round =>
    clear hl0 hlt0 hb1
    obtain ⟨k, hk, rfl, ⟨ys, hox, hl⟩, hlt0, hbel⟩ := hrel
    by_cases hlt : k < n
    · obtain ⟨b, off, t, rfl, hb, ht, q0, q1⟩ := (h.next hbel hB).at_ hlt
      have hb2 := bnew wr (.cells #[.int .i64 t.1, .int .i64 t.2] 73)
      have HI := Lib.hid (HF.out (wr.alloc (.cells #[.int .i64 t.1, .int .i64 t.2] 73)) t (bon hbel hb2) (List.mem_of_getElem? ht))
      have HT : Hid ((xs.map f)[k]? = some (f t)) := by show _ = _; rw [List.getElem?_map, ht]; rfl
      have hxl : ys.length = n * 2 := hox.1
      clear ht
      go_wp2_with fail
      refine HI.out.mono ?_
      rintro e w2 ⟨rfl, hb3⟩
      have hb23 := bon hb2 hb3
      have hs2 := hb23.size
      have hox2 := own_below hox hb23
      have c0 := hox2.cellAt (k * 2) (by omega)
      have c1 := hox2.cellAt (k * 2 + 1) (by omega)
      rw [List.getElem?_eq_getElem (by omega)] at c0 c1
      have f0 := hox2.frozenAt (k * 2)
      have f1 := hox2.frozenAt (k * 2 + 1)
      have hst := Lib.hid (((hox2.stored (k * 2) (.int .i64 (f t).1)).1.stored (k * 2 + 1) (.int .i64 (f t).2)).1)
      have HL := Lib.hid (laidC_step hl hxl hlt HT.out)
      have hb4 := ((hbel.trans (hb23.mono (by omega))).setCell (p := ⟨w.heap.size, k * 2, none⟩) (Nat.le_refl _) (.int .i64 (f t).1)).setCell (p := ⟨w.heap.size, k * 2 + 1, none⟩) (Nat.le_refl _) (.int .i64 (f t).2)
      clear hox hox2 hl q0 q1 HI
      go_wp2_with fail
      go_roundw
      case rel => exact ⟨k + 1, by omega, by go_num, ⟨_, hst.out, HL.out⟩, by simp; omega, hb4⟩
      case measure => simp [intOf]; omega
    · have e : k = n := by omega
      subst e
      have hxl : ys.length = k * 2 := hox.1
      have HE := laidC_end hl hxl (by rw [List.length_map]; exact hlen.out)
      subst HE
      have HO := Lib.hid hox
      clear hox hl hxl
      go_wp2_with fail
      go_ret
      exact ⟨_, rfl, OwnC.of_own HO.out (by rw [List.length_map]; exact hlen.out), hbel⟩

end Go.Proofs.YtglbkbdljjaioaaGreat

/-! The program's ThreadJumps as a whole. Conditions: at most 2^20 elements and numbers. -/
namespace Go.Proofs.YtglbkbdljjaioaaGreat
set_option linter.unusedVariables false
set_option linter.unusedSectionVars false
open Go.RowKit

structure Opt (u : World) (o lo m0 m1 m2 hi : Nat) (R0 : Option Addr) (n0 d0 : Nat) (R1 : Option Addr) (n1 d1 : Nat) (A : Option Addr) (d2 : Nat) (D : Option Addr) (d3 : Nat) (t0 t1 : List (Int × List Int)) (xs : List (Int × Int)) (ps : List P2) : Prop where
  hb : BlkIs u o 83 #[.slice R0 n0 d0, .slice R1 n1 d1, .slice A xs.length d2, .slice D ps.length d3]
  o0 : OwnTS u lo m0 R0 n0 d0 t0
  o1 : OwnTS u m0 m1 R1 n1 d1 t1
  o2 : OwnC u m1 m2 A xs.length d2 xs
  o3 : OwnP2 u m2 hi D ps.length d3 ps
  sz : lo ≤ m0 ∧ m0 ≤ m1 ∧ m1 ≤ m2 ∧ m2 ≤ hi ∧ hi ≤ o
section
variable {u u' : World} {o lo m0 m1 m2 hi n0 d0 n1 d1 d2 d3 : Nat} {R0 R1 A D : Option Addr} {t0 t1 : List (Int × List Int)} {xs : List (Int × Int)} {ps : List P2}
theorem blk_out {w w' : World} {g l h : Nat} {t : TypeId} {cs : Array Value} (hb : BlkIs w g t cs) (ho : Out l h w w') (hg : g < l ∨ h ≤ g) : BlkIs w' g t cs := (ho.block g hb.lt (by omega)).trans hb
theorem Opt.next (h : Opt u o lo m0 m1 m2 hi R0 n0 d0 R1 n1 d1 A d2 D d3 t0 t1 xs ps) (hb : Below u.heap.size u u') : Opt u' o lo m0 m1 m2 hi R0 n0 d0 R1 n1 d1 A d2 D d3 t0 t1 xs ps :=
  ⟨h.hb.next hb, h.o0.next hb, h.o1.next hb, h.o2.next hb, h.o3.next hb, h.sz⟩
/-- The code in its row is changed: other code of the same length. -/
theorem Opt.code {ys : List (Int × Int)} (h : Opt u o lo m0 m1 m2 hi R0 n0 d0 R1 n1 d1 A d2 D d3 t0 t1 xs ps) (hl : ys.length = xs.length) (ho : Out m1 m2 u u') (hc : OwnC u' m1 m2 A ys.length d2 ys) : Opt u' o lo m0 m1 m2 hi R0 n0 d0 R1 n1 d1 A d2 D d3 t0 t1 ys ps :=
  have z := h.sz
  ⟨by rw [hl]; exact blk_out h.hb ho (.inr (by omega)), h.o0.out ho (.inr (by omega)), h.o1.out ho (.inr (Nat.le_refl _)), hc, h.o3.out ho (.inl (Nat.le_refl _)), z⟩
/-- Other code, whose slice has been put into the block. -/
theorem Opt.put {ys : List (Int × Int)} {w1 : World} (h : Opt u o lo m0 m1 m2 hi R0 n0 d0 R1 n1 d1 A d2 D d3 t0 t1 xs ps) (ho : Out m1 m2 u w1) (hc : OwnC w1 m1 m2 A ys.length d2 ys) : Opt (w1.setCell ⟨o, 2, none⟩ (.slice A ys.length d2)) o lo m0 m1 m2 hi R0 n0 d0 R1 n1 d1 A d2 D d3 t0 t1 ys ps := by
  have z := h.sz
  have hB := blk_out h.hb ho (.inr (by omega))
  have hs : Out o (o + 1) w1 (w1.setCell ⟨o, 2, none⟩ (.slice A ys.length d2)) := out_set (Out.refl _ _ _) (by omega)
  have hB2 := hB.set 2 (.slice A ys.length d2)
  simp at hB2
  exact ⟨hB2, (h.o0.out ho (.inr (by omega))).out hs (.inr (by omega)), (h.o1.out ho (.inr (Nat.le_refl _))).out hs (.inr (by omega)), hc.out hs (.inr (by omega)), (h.o3.out ho (.inl (Nat.le_refl _))).out hs (.inr (by omega)), z⟩
theorem Opt.pts {qs : List P2} (h : Opt u o lo m0 m1 m2 hi R0 n0 d0 R1 n1 d1 A d2 D d3 t0 t1 xs ps) (hl : qs.length = ps.length) (ho : Out m2 hi u u') (hc : OwnP2 u' m2 hi D qs.length d3 qs) : Opt u' o lo m0 m1 m2 hi R0 n0 d0 R1 n1 d1 A d2 D d3 t0 t1 xs qs :=
  have z := h.sz
  ⟨by rw [hl]; exact blk_out h.hb ho (.inr (by omega)), h.o0.out ho (.inr (by omega)), h.o1.out ho (.inr (by omega)), h.o2.out ho (.inr (Nat.le_refl _)), hc, z⟩
end

set_option maxRecDepth 100000 in
set_option maxHeartbeats 4000000 in
theorem markAnnotated_j (lo m1 m2 m3 hi : Nat) (A0 : Option Addr) (n0 c0 : Nat) (t0 : List (Int × List Int)) (A1 : Option Addr) (n1 c1 : Nat) (t1 : List (Int × List Int)) (A2 : Option Addr) (n2 c2 : Nat) (t2 : List (Int × Int)) (A3 : Option Addr) (n3 c3 : Nat) (t3 : List P2) (k : Int) (w : World) (h0 : OwnTS w lo m1 A0 n0 c0 t0) (h1 : OwnTS w m1 m2 A1 n1 c1 t1) (h2 : OwnC w m3 hi A2 n2 c2 t2) (h3 : OwnP2 w m2 m3 A3 n3 c3 t3) (i1 : lo ≤ m1) (i2 : m1 ≤ m2) (i3 : m2 ≤ m3) (i4 : m3 ≤ hi) (ih : hi ≤ w.heap.size)
    (hn0 : n0 ≤ 1048576) (he0 : totT t0 ≤ 1048576) (hn1 : n1 ≤ 1048576) (he1 : totT t1 ≤ 1048576) (hn2 : n2 ≤ 1048576) (hn3 : n3 ≤ 1048576) (he3 : totP2 t3 ≤ 1048576) (hk1 : 0 ≤ k) (hk2 : k ≤ 10000000) :
    Calls Tryz.prog 9 #[.agg #[.slice A0 n0 c0, .slice A1 n1 c1, .slice A2 n2 c2, .slice A3 n3 c3], .int .i64 k] w fun e w' => e = .returned (.int .i64 (k + ((n0 + totT t0 : Nat) : Int) + ((n1 + totT t1 : Nat) : Int) + 2 * (n2 : Int) + ((1 * n3 + totP2 t3 : Nat) : Int))) ∧ OwnTS w' lo m1 A0 n0 c0 (riseT k t0) ∧ OwnTS w' m1 m2 A1 n1 c1 (riseT (k + ((n0 + totT t0 : Nat) : Int)) t1) ∧ OwnC w' m3 hi A2 n2 c2 (riseC (k + ((n0 + totT t0 : Nat) : Int) + ((n1 + totT t1 : Nat) : Int)) n2) ∧ OwnP2 w' m2 m3 A3 n3 c3 (riseP2 (k + ((n0 + totT t0 : Nat) : Int) + ((n1 + totT t1 : Nat) : Int) + 2 * (n2 : Int)) t3) ∧ Out lo hi w w' := by
  have hb0 := bnew w (.cells #[.slice A0 n0 c0, .slice A1 n1 c1, .slice A2 n2 c2, .slice A3 n3 c3] 32)
  have hP : BlkIs (w.alloc (.cells #[.slice A0 n0 c0, .slice A1 n1 c1, .slice A2 n2 c2, .slice A3 n3 c3] 32)) w.heap.size 32 #[.slice A0 n0 c0, .slice A1 n1 c1, .slice A2 n2 c2, .slice A3 n3 c3] := blk_new _ _ _ _ rfl
  have H0 := Lib.hid (h0.next hb0)
  have H1 := Lib.hid (h1.next hb0)
  have H2 := Lib.hid (h2.next hb0)
  have H3 := Lib.hid (h3.next hb0)
  have p1 : (w.alloc (.cells #[.slice A0 n0 c0, .slice A1 n1 c1, .slice A2 n2 c2, .slice A3 n3 c3] 32)).cell? ⟨w.heap.size, 1, none⟩ = some (.slice A1 n1 c1) := hP.cell 1
  have p2 : (w.alloc (.cells #[.slice A0 n0 c0, .slice A1 n1 c1, .slice A2 n2 c2, .slice A3 n3 c3] 32)).cell? ⟨w.heap.size, 2, none⟩ = some (.slice A2 n2 c2) := hP.cell 2
  have p3 : (w.alloc (.cells #[.slice A0 n0 c0, .slice A1 n1 c1, .slice A2 n2 c2, .slice A3 n3 c3] 32)).cell? ⟨w.heap.size, 3, none⟩ = some (.slice A3 n3 c3) := hP.cell 3
  have hs := hb0.size
  clear h0 h1 h2 h3 hP
  go_enter Tryz.func9, Tryz.ntmps9
  go_wp2_with fail
  have HO0 : Hid (Out lo hi w (w.alloc (.cells #[.slice A0 n0 c0, .slice A1 n1 c1, .slice A2 n2 c2, .slice A3 n3 c3] 32))) := Out.of_below hb0
  have hlt : hi ≤ w.heap.size := ih
  generalize w.alloc (.cells #[.slice A0 n0 c0, .slice A1 n1 c1, .slice A2 n2 c2, .slice A3 n3 c3] 32) = W0 at H0 H1 H2 H3 p1 p2 p3 hs HO0 ⊢
  clear hb0
  refine (markTermS_o lo m1 A0 n0 c0 t0 k W0 H0.out (by omega) (by omega) (by omega) (by omega)).mono ?_
  rintro e W1 ⟨rfl, ow0, ho0⟩
  have hw0 := ho0.size
  clear H0
  replace H1 := Lib.hid (H1.out.out ho0 (by omega))
  replace p1 := ho0.cell p1 (by omega)
  replace H2 := Lib.hid (H2.out.out ho0 (by omega))
  replace p2 := ho0.cell p2 (by omega)
  replace H3 := Lib.hid (H3.out.out ho0 (by omega))
  replace p3 := ho0.cell p3 (by omega)
  have OW0 := Lib.hid ow0
  replace HO0 := Lib.hid (HO0.out.trans (ho0.wide (by omega) (by omega)))
  clear ow0 ho0
  go_wp2_with fail
  refine (markTermS_o m1 m2 A1 n1 c1 t1 (k + ((n0 + totT t0 : Nat) : Int)) W1 H1.out (by omega) (by omega) (by omega) (by omega)).mono ?_
  rintro e W2 ⟨rfl, ow1, ho1⟩
  have hw1 := ho1.size
  clear H1
  replace OW0 := Lib.hid (OW0.out.out ho1 (by omega))
  replace H2 := Lib.hid (H2.out.out ho1 (by omega))
  replace p2 := ho1.cell p2 (by omega)
  replace H3 := Lib.hid (H3.out.out ho1 (by omega))
  replace p3 := ho1.cell p3 (by omega)
  have OW1 := Lib.hid ow1
  replace HO0 := Lib.hid (HO0.out.trans (ho1.wide (by omega) (by omega)))
  clear ow1 ho1
  go_wp2_with fail
  refine (markInstrS_k m3 hi A2 n2 c2 t2 (k + ((n0 + totT t0 : Nat) : Int) + ((n1 + totT t1 : Nat) : Int)) W2 H2.out (by omega) (by omega) (by omega)).mono ?_
  rintro e W3 ⟨rfl, ow2, ho2⟩
  have hw2 := ho2.size
  clear H2
  replace OW0 := Lib.hid (OW0.out.out ho2 (by omega))
  replace OW1 := Lib.hid (OW1.out.out ho2 (by omega))
  replace H3 := Lib.hid (H3.out.out ho2 (by omega))
  replace p3 := ho2.cell p3 (by omega)
  have OW2 := Lib.hid ow2
  replace HO0 := Lib.hid (HO0.out.trans (ho2.wide (by omega) (by omega)))
  clear ow2 ho2
  go_wp2_with fail
  refine (markPointS_o m2 m3 A3 n3 c3 t3 (k + ((n0 + totT t0 : Nat) : Int) + ((n1 + totT t1 : Nat) : Int) + 2 * (n2 : Int)) W3 H3.out (by omega) (by omega) (by omega) (by omega)).mono ?_
  rintro e W4 ⟨rfl, ow3, ho3⟩
  have hw3 := ho3.size
  clear H3
  replace OW0 := Lib.hid (OW0.out.out ho3 (by omega))
  replace OW1 := Lib.hid (OW1.out.out ho3 (by omega))
  replace OW2 := Lib.hid (OW2.out.out ho3 (by omega))
  have OW3 := Lib.hid ow3
  replace HO0 := Lib.hid (HO0.out.trans (ho3.wide (by omega) (by omega)))
  clear ow3 ho3
  go_wp2_with fail
  go_ret
  exact ⟨ret_int (by omega), OW0.out, OW1.out, OW2.out, OW3.out, HO0.out⟩


/-- An answer of annotated code, whose code lies behind its points. -/
def AnJ (w w' : World) (e : Ending) (n0 n1 n2 n3 : Nat) (t0 t1 : List (Int × List Int)) (t2 : List (Int × Int)) (t3 : List P2) (r : Bool) : Prop :=
  ∃ R0 d0 R1 d1 R2 d2 R3 d3, ∃ (md0 md1 md2 : Nat), e = .returned (.tuple #[.agg #[.slice R0 n0 d0, .slice R1 n1 d1, .slice R2 n2 d2, .slice R3 n3 d3], .bool r]) ∧ OwnTS w' w.heap.size md0 R0 n0 d0 t0 ∧ OwnTS w' md0 md1 R1 n1 d1 t1 ∧ OwnC w' md2 w'.heap.size R2 n2 d2 t2 ∧ OwnP2 w' md1 md2 R3 n3 d3 t3 ∧ (w.heap.size ≤ md0 ∧ md0 ≤ md1 ∧ md1 ≤ md2 ∧ md2 ≤ w'.heap.size) ∧ Below w.heap.size w w'
theorem anJ_none {w w' : World} (hb : Below w.heap.size w w') (hP : OwnP2 w' w'.heap.size w'.heap.size none 0 0 []) : AnJ w w' (.returned (.tuple #[.agg #[.slice none 0 0, .slice none 0 0, .slice none 0 0, .slice none 0 0], .bool false])) 0 0 0 0 [] [] [] [] false := by
  obtain ⟨a0, b0, a1, b1, a2, b2, a3, b3, md0, md1, md2, he, h0, h1, h2, h3, hm, hbb⟩ := anI_none hb hP
  injection he with he
  injection he with he
  simp at he
  obtain ⟨⟨rfl, rfl⟩, ⟨rfl, rfl⟩, ⟨rfl, rfl⟩, ⟨rfl, rfl⟩⟩ := he
  exact ⟨_, _, _, _, _, _, _, _, md0, md1, w'.heap.size, rfl, h0, h1, ownC_none _ _ _ (Nat.le_refl _), hP.less (by omega), by omega, hbb⟩

set_option maxRecDepth 100000 in
set_option maxHeartbeats 8000000 in
theorem threadJumps_c (o lo m0 m1 m2 hi : Nat) (R0 : Option Addr) (n0 d0 : Nat) (R1 : Option Addr) (n1 d1 : Nat) (A : Option Addr) (d2 : Nat) (D : Option Addr) (d3 : Nat) (t0 t1 : List (Int × List Int)) (xs : List (Int × Int)) (ps : List P2) (w : World)
    (h : Opt w o lo m0 m1 m2 hi R0 n0 d0 R1 n1 d1 A d2 D d3 t0 t1 xs ps) (hn : xs.length ≤ 80) (hm : ps.length ≤ 1048576) (hJ : JB xs) :
    Calls Tryz.prog 20 #[.pointer (some ⟨o, 0, none⟩)] w fun e w' => e = .returned (.pointer (some ⟨o, 0, none⟩)) ∧ ∃ g, BlkIs w' o 83 #[.slice R0 n0 d0, .slice R1 n1 d1, .slice (some ⟨g, 0, none⟩) xs.length xs.length, .slice D ps.length d3] ∧ OwnTS w' lo m0 R0 n0 d0 t0 ∧ OwnTS w' m0 m1 R1 n1 d1 t1 ∧ OwnP2 w' m2 hi D ps.length d3 ps ∧ OwnC w' w.heap.size w'.heap.size (some ⟨g, 0, none⟩) xs.length xs.length (thrL xs ps) ∧ Below lo w w' := by
  have p2 := h.hb.cell 2
  simp at p2
  have hsz := h.sz
  have hlt := h.hb.lt
  have HE := Lib.hid (eachThr_c (thr1 xs ps) ⟨o, 0, none⟩ A xs.length d2 w.heap.size xs w h.o2.all (Nat.le_refl _) (by omega) (fun W x hW hx => threaded_c o _ _ A xs.length d2 w.heap.size xs D ps.length d3 ps x W (h.hb.next hW) (h.o2.all.next hW (Nat.le_refl _)) (h.o3.all.next hW (Nat.le_refl _)) hW.size hn hm hJ hx))
  have H := Lib.hid h
  clear h
  go_enter Tryz.func20, Tryz.ntmps20
  go_wp2_with fail
  refine HE.out.mono ?_
  rintro e w1 ⟨g, rfl, hc, hb1⟩
  have hO := H.out.next hb1
  have hs1 := hb1.size
  have f2 := hO.hb.frozen 2
  have y2 := hO.hb.cell 2
  simp at y2
  have hs : Out o (o + 1) w1 (w1.setCell ⟨o, 2, none⟩ (.slice (some ⟨g, 0, none⟩) xs.length xs.length)) := out_set (Out.refl _ _ _) (by omega)
  have hB2 := hO.hb.set 2 (.slice (some ⟨g, 0, none⟩) xs.length xs.length)
  simp at hB2
  have q0 := hO.o0.out hs (.inr (by omega))
  have q1 := hO.o1.out hs (.inr (by omega))
  have q3 := hO.o3.out hs (.inr (by omega))
  have q2 := (hc.out hs (.inl (by omega))).wide hs.size (Nat.le_refl _)
  have hbF : Below lo w (w1.setCell ⟨o, 2, none⟩ (.slice (some ⟨g, 0, none⟩) xs.length xs.length)) := (hb1.mono (by omega)).setCell (p := ⟨o, 2, none⟩) (by show lo ≤ o; omega) _
  have HQ := Lib.hid (And.intro hB2 (And.intro q0 (And.intro q1 (And.intro q3 (And.intro q2 hbF)))))
  clear hs hB2 q0 q1 q2 q3 hbF hc hO H
  go_wp2_with fail
  go_ret
  exact ⟨rfl, g, HQ.out⟩

section
variable (A0 : Option Addr) (n0 c0 : Nat) (t0 : List (Int × List Int)) (A1 : Option Addr) (n1 c1 : Nat) (t1 : List (Int × List Int)) (A2 : Option Addr) (n2 c2 : Nat) (t2 : List (Int × Int)) (A3 : Option Addr) (n3 c3 : Nat) (t3 : List P2) (w : World) (h0 : InTS w w.heap.size A0 n0 t0) (h1 : InTS w w.heap.size A1 n1 t1) (h2 : InC w w.heap.size A2 n2 t2) (h3 : InP2 w w.heap.size A3 n3 t3) (hn0 : n0 ≤ 1048576) (he0 : totT t0 ≤ 1048576) (hn1 : n1 ≤ 1048576) (he1 : totT t1 ≤ 1048576) (hn2 : n2 ≤ 1048576) (hn3 : n3 ≤ 1048576) (he3 : totP2 t3 ≤ 1048576)
include h0 h1 h2 h3 hn0 he0 hn1 he1 hn2 hn3 he3
set_option maxRecDepth 100000 in
set_option maxHeartbeats 4000000 in
theorem optThread_no (hv : annB t0 t1 t2 t3 = false) :
    Calls Tryz.prog 19 #[.agg #[.slice A0 n0 c0, .slice A1 n1 c1, .slice A2 n2 c2, .slice A3 n3 c3], .func (Fn.func 20) #[] #[]] w fun e w' => AnJ w w' e 0 0 0 0 [] [] [] [] false := by
  have hb0 : Below w.heap.size w ((w.alloc (.cells #[.slice A0 n0 c0, .slice A1 n1 c1, .slice A2 n2 c2, .slice A3 n3 c3] 32)).alloc (.cells #[.slice none 0 0, .slice none 0 0, .slice none 0 0, .slice none 0 0] 32)) := bon (bnew _ _) (bnew _ _)
  have hP : BlkIs ((w.alloc (.cells #[.slice A0 n0 c0, .slice A1 n1 c1, .slice A2 n2 c2, .slice A3 n3 c3] 32)).alloc (.cells #[.slice none 0 0, .slice none 0 0, .slice none 0 0, .slice none 0 0] 32)) w.heap.size 32 #[.slice A0 n0 c0, .slice A1 n1 c1, .slice A2 n2 c2, .slice A3 n3 c3] := (blk_new w _ _ _ rfl).next (bnew _ _)
  have hX : BlkIs ((w.alloc (.cells #[.slice A0 n0 c0, .slice A1 n1 c1, .slice A2 n2 c2, .slice A3 n3 c3] 32)).alloc (.cells #[.slice none 0 0, .slice none 0 0, .slice none 0 0, .slice none 0 0] 32)) (w.heap.size + 1) 32 #[.slice none 0 0, .slice none 0 0, .slice none 0 0, .slice none 0 0] := blk_new _ _ _ _ (by simp)
  have hs2 : w.heap.size + 2 ≤ (((w.alloc (.cells #[.slice A0 n0 c0, .slice A1 n1 c1, .slice A2 n2 c2, .slice A3 n3 c3] 32)).alloc (.cells #[.slice none 0 0, .slice none 0 0, .slice none 0 0, .slice none 0 0] 32))).heap.size := by simp
  have HW := Lib.hid (with_no A0 n0 c0 t0 A1 n1 c1 t1 A2 n2 c2 t2 A3 n3 c3 t3 ((w.alloc (.cells #[.slice A0 n0 c0, .slice A1 n1 c1, .slice A2 n2 c2, .slice A3 n3 c3] 32)).alloc (.cells #[.slice none 0 0, .slice none 0 0, .slice none 0 0, .slice none 0 0] 32)) ((h0.next hb0 (Nat.le_refl _)).more hb0.size) ((h1.next hb0 (Nat.le_refl _)).more hb0.size) ((h2.next hb0 (Nat.le_refl _)).more hb0.size) ((h3.next hb0 (Nat.le_refl _)).more hb0.size) hn0 he0 hn1 he1 hn2 hn3 he3 A3 n3 c3 hv)
  clear h0 h1 h2 h3 hv
  go_enter Tryz.func19, Tryz.ntmps19
  go_wp2_with fail
  generalize ((w.alloc (.cells #[.slice A0 n0 c0, .slice A1 n1 c1, .slice A2 n2 c2, .slice A3 n3 c3] 32)).alloc (.cells #[.slice none 0 0, .slice none 0 0, .slice none 0 0, .slice none 0 0] 32)) = W at hb0 hP hX hs2 HW ⊢
  have p0 := hP.cell 0
  have p1 := hP.cell 1
  have p2 := hP.cell 2
  have p3 := hP.cell 3
  simp at p0 p1 p2 p3
  refine HW.out.mono ?_
  rintro e w1 ⟨R0, d0, R1, d1, R2, d2, R3, d3, md0, md1, md2, rfl, o0, o1, o2, o3, hmd, hb1⟩
  have hbA := bnew w1 (.cells #[.slice R0 0 d0, .slice R1 0 d1, .slice R2 0 d2, .slice R3 0 d3] 32)
  have hX1 := (hX.next hb1).next hbA
  have hb01 := bon (bon hb0 hb1) hbA
  clear o0 o1 o2 o3 hX hP
  have f0 := hX1.frozen 0
  have f1 := hX1.frozen 1
  have f2 := hX1.frozen 2
  have f3 := hX1.frozen 3
  have y0 := hX1.cell 0
  have y1 := hX1.cell 1
  have y2 := hX1.cell 2
  have y3 := hX1.cell 3
  simp at y0 y1 y2 y3
  obtain ⟨hF, hgr⟩ := fill4 hX1 (.slice none 0 0) (.slice none 0 0) (.slice none 0 0) (.slice none 0 0)
  have r0 := hF.cell 0
  have r1 := hF.cell 1
  have r2 := hF.cell 2
  have r3 := hF.cell 3
  simp at r0 r1 r2 r3
  have hbF := hb01.trans (only_below hgr (Nat.le_succ _) hb01.size)
  clear hgr hF hX1
  go_wp2_with fail
  refine bodyPost_ret (v := .tuple #[.agg #[.slice none 0 0, .slice none 0 0, .slice none 0 0, .slice none 0 0], .bool false]) (by simp [results, Tryz.results19, go_sem, r0, r1, r2, r3]) rfl ?_
  exact anJ_none hbF (ownP2_none _)

set_option maxRecDepth 100000 in
set_option maxHeartbeats 8000000 in
theorem optThread_yes (hv : annB t0 t1 t2 t3 = true) :
    Calls Tryz.prog 19 #[.agg #[.slice A0 n0 c0, .slice A1 n1 c1, .slice A2 n2 c2, .slice A3 n3 c3], .func (Fn.func 20) #[] #[]] w fun e w' => AnJ w w' e n0 n1 n2 n3 t0 t1 (thrL t2 t3) t3 true := by
  have hl0 := h0.1
  have hl1 := h1.1
  have hl2 := h2.1
  have hl3 := h3.1
  subst hl0 hl1 hl2 hl3
  have hb0 : Below w.heap.size w ((w.alloc (.cells #[.slice A0 t0.length c0, .slice A1 t1.length c1, .slice A2 t2.length c2, .slice A3 t3.length c3] 32)).alloc (.cells #[.slice none 0 0, .slice none 0 0, .slice none 0 0, .slice none 0 0] 32)) := bon (bnew _ _) (bnew _ _)
  have hP : BlkIs ((w.alloc (.cells #[.slice A0 t0.length c0, .slice A1 t1.length c1, .slice A2 t2.length c2, .slice A3 t3.length c3] 32)).alloc (.cells #[.slice none 0 0, .slice none 0 0, .slice none 0 0, .slice none 0 0] 32)) w.heap.size 32 #[.slice A0 t0.length c0, .slice A1 t1.length c1, .slice A2 t2.length c2, .slice A3 t3.length c3] := (blk_new w _ _ _ rfl).next (bnew _ _)
  have hX : BlkIs ((w.alloc (.cells #[.slice A0 t0.length c0, .slice A1 t1.length c1, .slice A2 t2.length c2, .slice A3 t3.length c3] 32)).alloc (.cells #[.slice none 0 0, .slice none 0 0, .slice none 0 0, .slice none 0 0] 32)) (w.heap.size + 1) 32 #[.slice none 0 0, .slice none 0 0, .slice none 0 0, .slice none 0 0] := blk_new _ _ _ _ (by simp)
  have hs2 : w.heap.size + 2 ≤ (((w.alloc (.cells #[.slice A0 t0.length c0, .slice A1 t1.length c1, .slice A2 t2.length c2, .slice A3 t3.length c3] 32)).alloc (.cells #[.slice none 0 0, .slice none 0 0, .slice none 0 0, .slice none 0 0] 32))).heap.size := by simp
  obtain ⟨s0, s1, s2, s3, s3'⟩ := annB_small hv
  have hJ := annB_JB hv
  obtain ⟨R, hR⟩ : ∃ R, thrL t2 t3 = R := ⟨_, rfl⟩
  rw [hR]
  have HW := Lib.hid (with_yes A0 t0.length c0 t0 A1 t1.length c1 t1 A2 t2.length c2 t2 A3 t3.length c3 t3 A3 t3.length c3 t3 ((w.alloc (.cells #[.slice A0 t0.length c0, .slice A1 t1.length c1, .slice A2 t2.length c2, .slice A3 t3.length c3] 32)).alloc (.cells #[.slice none 0 0, .slice none 0 0, .slice none 0 0, .slice none 0 0] 32)) ((h0.next hb0 (Nat.le_refl _)).more hb0.size) ((h1.next hb0 (Nat.le_refl _)).more hb0.size) ((h2.next hb0 (Nat.le_refl _)).more hb0.size) ((h3.next hb0 (Nat.le_refl _)).more hb0.size) ((h3.next hb0 (Nat.le_refl _)).more hb0.size) hn0 he0 hn1 he1 hn2 hn3 he3 hn3 he3 hv (annB_parts hv).2.2.2)
  clear h0 h1 h2 h3 hv s0 s1 s3'
  go_enter Tryz.func19, Tryz.ntmps19
  go_wp2_with fail
  generalize ((w.alloc (.cells #[.slice A0 t0.length c0, .slice A1 t1.length c1, .slice A2 t2.length c2, .slice A3 t3.length c3] 32)).alloc (.cells #[.slice none 0 0, .slice none 0 0, .slice none 0 0, .slice none 0 0] 32)) = W at hb0 hP hX hs2 HW ⊢
  have p0 := hP.cell 0
  have p1 := hP.cell 1
  have p2 := hP.cell 2
  have p3 := hP.cell 3
  simp at p0 p1 p2 p3
  refine HW.out.mono ?_
  rintro e w1 ⟨R0, d0, R1, d1, R2, d2, R3, d3, md0, md1, md2, rfl, o0, o1, o2, o3, hmd, hb1⟩
  have hs1 := hb1.size
  have hbA := bnew w1 (.cells #[.slice R0 t0.length d0, .slice R1 t1.length d1, .slice R2 t2.length d2, .slice R3 t3.length d3] 32)
  have hbO := bnew (w1.alloc (.cells #[.slice R0 t0.length d0, .slice R1 t1.length d1, .slice R2 t2.length d2, .slice R3 t3.length d3] 32)) (.cells #[.slice R0 t0.length d0, .slice R1 t1.length d1, .slice R2 t2.length d2, .slice R3 t3.length d3] 83)
  have hOpt : Opt ((w1.alloc (.cells #[.slice R0 t0.length d0, .slice R1 t1.length d1, .slice R2 t2.length d2, .slice R3 t3.length d3] 32)).alloc (.cells #[.slice R0 t0.length d0, .slice R1 t1.length d1, .slice R2 t2.length d2, .slice R3 t3.length d3] 83)) (w1.heap.size + 1) W.heap.size md0 md1 md2 w1.heap.size R0 t0.length d0 R1 t1.length d1 R2 d2 R3 d3 t0 t1 t2 t3 :=
    ⟨blk_new _ _ _ _ (by simp), (o0.next hbA).next hbO, (o1.next hbA).next hbO, (o2.next hbA).next hbO, (o3.next hbA).next hbO, by omega⟩
  have HC := Lib.hid (threadJumps_c _ _ _ _ _ _ _ _ _ _ _ _ _ _ _ _ _ _ _ _ _ hOpt s2 (by omega) hJ)
  have hXO := ((hX.next hb1).next hbA).next hbO
  have hb0O := bon (bon (bon hb0 hb1) hbA) hbO
  have hsO : w1.heap.size + 2 ≤ ((w1.alloc (.cells #[.slice R0 t0.length d0, .slice R1 t1.length d1, .slice R2 t2.length d2, .slice R3 t3.length d3] 32)).alloc (.cells #[.slice R0 t0.length d0, .slice R1 t1.length d1, .slice R2 t2.length d2, .slice R3 t3.length d3] 83)).heap.size := by simp
  rw [hR] at HC
  clear o0 o1 o2 o3 hX hP HW hOpt hJ hR s2 s3
  go_wp2_with fail
  refine HC.out.mono ?_
  rintro e w6 ⟨rfl, g, hB6, q0, q1, q3, q2, hb6⟩
  have hX1 : BlkIs w6 (w.heap.size + 1) 32 #[.slice none 0 0, .slice none 0 0, .slice none 0 0, .slice none 0 0] := (hb6.block _ (by omega)).trans hXO
  have hs6 := hb6.size
  have f0 := hX1.frozen 0
  have f1 := hX1.frozen 1
  have f2 := hX1.frozen 2
  have f3 := hX1.frozen 3
  have y0 := hX1.cell 0
  have y1 := hX1.cell 1
  have y2 := hX1.cell 2
  have y3 := hX1.cell 3
  simp at y0 y1 y2 y3
  have z0 := hB6.cell 0
  have z1 := hB6.cell 1
  have z2 := hB6.cell 2
  have z3 := hB6.cell 3
  simp at z0 z1 z2 z3
  obtain ⟨hF, hgr⟩ := fill4 hX1 (.slice R0 t0.length d0) (.slice R1 t1.length d1) (.slice (some ⟨g, 0, none⟩) t2.length t2.length) (.slice R3 t3.length d3)
  have r0 := hF.cell 0
  have r1 := hF.cell 1
  have r2 := hF.cell 2
  have r3 := hF.cell 3
  simp at r0 r1 r2 r3
  have hoF : Out (w.heap.size + 1) (w.heap.size + 2) w6 _ := Out.of_grown hgr (fun k hk => by have := Option.some.inj hk; omega)
  have hsF := hoF.size
  have Q0 := q0.out hoF (.inl (by omega))
  have Q1 := q1.out hoF (.inl (by omega))
  have Q2 := q2.out hoF (.inl (by omega))
  have Q3 := q3.out hoF (.inl (by omega))
  have hb06 : Below w.heap.size w w6 := hb0O.trans (hb6.mono (by omega))
  have hbF := hb06.trans (hoF.below (Nat.le_succ _) hb06.size)
  have hQ2 := (Q2.less (lo' := w1.heap.size) (by omega)).wide (hi' := _) hsF (Nat.le_refl _)
  clear hF hgr hX1 hXO HC
  go_wp2_with fail
  refine bodyPost_ret (v := .tuple #[.agg #[.slice R0 t0.length d0, .slice R1 t1.length d1, .slice (some ⟨g, 0, none⟩) t2.length t2.length, .slice R3 t3.length d3], .bool true]) (by simp [results, Tryz.results19, go_sem, r0, r1, r2, r3]) rfl ?_
  exact ⟨_, _, _, _, _, _, _, _, md0, md1, w1.heap.size, rfl, Q0.less (by omega), Q1, hQ2, Q3.less (by omega), ⟨by omega, by omega, by omega, by omega⟩, hbF⟩

set_option maxRecDepth 100000 in
set_option maxHeartbeats 4000000 in
theorem implThread_mid (N0 N1 N2 N3 : Nat) (u0 u1 : List (Int × List Int)) (u2 : List (Int × Int)) (u3 : List P2) (r : Bool)
    (HW0 : ∀ x : World, Below w.heap.size w x → Calls Tryz.prog 19 #[.agg #[.slice A0 n0 c0, .slice A1 n1 c1, .slice A2 n2 c2, .slice A3 n3 c3], .func (Fn.func 20) #[] #[]] x fun e w' => AnJ x w' e N0 N1 N2 N3 u0 u1 u2 u3 r) :
    Calls Tryz.prog 7 #[.agg #[.slice A0 n0 c0, .slice A1 n1 c1, .slice A2 n2 c2, .slice A3 n3 c3]] w fun e w' => AnJ w w' e N0 N1 N2 N3 u0 u1 u2 u3 r := by
  have hb0 : Below w.heap.size w ((w.alloc (.cells #[.slice A0 n0 c0, .slice A1 n1 c1, .slice A2 n2 c2, .slice A3 n3 c3] 32)).alloc (.cells #[.slice none 0 0, .slice none 0 0, .slice none 0 0, .slice none 0 0] 32)) := bon (bnew _ _) (bnew _ _)
  have hP : BlkIs ((w.alloc (.cells #[.slice A0 n0 c0, .slice A1 n1 c1, .slice A2 n2 c2, .slice A3 n3 c3] 32)).alloc (.cells #[.slice none 0 0, .slice none 0 0, .slice none 0 0, .slice none 0 0] 32)) w.heap.size 32 #[.slice A0 n0 c0, .slice A1 n1 c1, .slice A2 n2 c2, .slice A3 n3 c3] := (blk_new w _ _ _ rfl).next (bnew _ _)
  have hX : BlkIs ((w.alloc (.cells #[.slice A0 n0 c0, .slice A1 n1 c1, .slice A2 n2 c2, .slice A3 n3 c3] 32)).alloc (.cells #[.slice none 0 0, .slice none 0 0, .slice none 0 0, .slice none 0 0] 32)) (w.heap.size + 1) 32 #[.slice none 0 0, .slice none 0 0, .slice none 0 0, .slice none 0 0] := blk_new _ _ _ _ (by simp)
  have hs2 : w.heap.size + 2 ≤ (((w.alloc (.cells #[.slice A0 n0 c0, .slice A1 n1 c1, .slice A2 n2 c2, .slice A3 n3 c3] 32)).alloc (.cells #[.slice none 0 0, .slice none 0 0, .slice none 0 0, .slice none 0 0] 32))).heap.size := by simp
  have HW := Lib.hid (HW0 _ hb0)
  clear h0 h1 h2 h3 HW0
  go_enter Tryz.func7, Tryz.ntmps7
  go_wp2_with fail
  generalize ((w.alloc (.cells #[.slice A0 n0 c0, .slice A1 n1 c1, .slice A2 n2 c2, .slice A3 n3 c3] 32)).alloc (.cells #[.slice none 0 0, .slice none 0 0, .slice none 0 0, .slice none 0 0] 32)) = W at hb0 hP hX hs2 HW ⊢
  have p0 := hP.cell 0
  have p1 := hP.cell 1
  have p2 := hP.cell 2
  have p3 := hP.cell 3
  simp at p0 p1 p2 p3
  refine HW.out.mono ?_
  rintro e w1 ⟨R0, d0, R1, d1, R2, d2, R3, d3, md0, md1, md2, rfl, o0, o1, o2, o3, hmd, hb1⟩
  have hs1 := hb1.size
  have hX1 := hX.next hb1
  have hb01 := bon hb0 hb1
  have f0 := hX1.frozen 0
  have f1 := hX1.frozen 1
  have f2 := hX1.frozen 2
  have f3 := hX1.frozen 3
  have y0 := hX1.cell 0
  have y1 := hX1.cell 1
  have y2 := hX1.cell 2
  have y3 := hX1.cell 3
  simp at y0 y1 y2 y3
  obtain ⟨hF, hgr⟩ := fill4 hX1 (.slice R0 N0 d0) (.slice R1 N1 d1) (.slice R2 N2 d2) (.slice R3 N3 d3)
  have r0 := hF.cell 0
  have r1 := hF.cell 1
  have r2 := hF.cell 2
  have r3 := hF.cell 3
  simp at r0 r1 r2 r3
  have hoF : Out (w.heap.size + 1) (w.heap.size + 2) w1 _ := Out.of_grown hgr (fun k hk => by have := Option.some.inj hk; omega)
  have hsF := hoF.size
  have Q0 := o0.out hoF (.inl (by omega))
  have Q1 := o1.out hoF (.inl (by omega))
  have Q2 := o2.out hoF (.inl (by omega))
  have Q3 := o3.out hoF (.inl (by omega))
  have hbF := hb01.trans (hoF.below (Nat.le_succ _) hb01.size)
  have hQ2 := Q2.wide (hi' := _) (show w1.heap.size ≤ _ from hsF) (Nat.le_refl _)
  clear hF hgr hX1 hX hP HW
  go_wp2_with fail
  refine bodyPost_ret (v := .tuple #[.agg #[.slice R0 N0 d0, .slice R1 N1 d1, .slice R2 N2 d2, .slice R3 N3 d3], .bool r]) (by simp [results, Tryz.results7, go_sem, r0, r1, r2, r3]) rfl ?_
  exact ⟨_, _, _, _, _, _, _, _, md0, md1, md2, rfl, Q0.less (by omega), Q1, hQ2, Q3, ⟨by omega, by omega, by omega, by omega⟩, hbF⟩
end
end Go.Proofs.YtglbkbdljjaioaaGreat
