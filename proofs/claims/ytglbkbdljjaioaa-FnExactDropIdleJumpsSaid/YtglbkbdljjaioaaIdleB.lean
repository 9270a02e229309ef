/-
  Several texts in one: ConcP, DropI, Pass, SplM, IdleM, Open, Leave, IdleI. Conditions: as each says.
-/
import Derived.Test.YtglbkbdljjaioaaPtRow
import Derived.Test.YtglbkbdljjaioaaPtsP
import Derived.Lib.AppendZeros
import Derived.Test.YtglbkbdljjaioaaWith
import Derived.Test.YtglbkbdljjaioaaShiftP
import Derived.Test.YtglbkbdljjaioaaDropS
import Derived.IntWalk
import Derived.Lib.SliceRun

/-! slices.Grow of nil and slices.Concat of two lists, at points. Conditions: at most 2^20 points. -/
namespace Go.Proofs.Ytglbkbdljjaioaa
open Go.RowKit
set_option linter.unusedVariables false

theorem ptsF_mono {len l l' : Int} {ps : List P2} (h : ptsF len l' ps = true) (hl : l ≤ l') : ptsF len l ps = true := by
  cases ps with
  | nil => rfl
  | cons p ps =>
    unfold ptsF at h ⊢
    simp only [Bool.and_eq_true, decide_eq_true_eq] at h ⊢
    exact ⟨⟨⟨by omega, h.1.1.2⟩, h.1.2⟩, h.2⟩
theorem ptsF_del {len : Int} : ∀ {ps : List P2} {k : Nat} {l : Int}, ptsF len l ps = true → ptsF len l (ps.take k ++ ps.drop (k + 1)) = true := by
  intro ps
  induction ps with
  | nil => intro k l _; simp [ptsF]
  | cons p ps ih =>
    intro k l h
    have h' := h
    unfold ptsF at h'
    simp only [Bool.and_eq_true, decide_eq_true_eq] at h'
    cases k with
    | zero =>
      show ptsF len l ps = true
      exact ptsF_mono h'.2 (by omega)
    | succ k =>
      show ptsF len l (p :: (ps.take k ++ ps.drop (k + 1))) = true
      unfold ptsF
      simp only [Bool.and_eq_true, decide_eq_true_eq]
      exact ⟨h'.1, ih h'.2⟩
theorem ptsB_del {len : Int} {ps : List P2} {k : Nat} (h : ptsB len ps = true) : ptsB len (ps.take k ++ ps.drop (k + 1)) = true := by
  unfold ptsB at h ⊢
  simp only [Bool.and_eq_true, decide_eq_true_eq] at h ⊢
  exact ⟨by rw [List.length_append, List.length_take, List.length_drop]; omega, ptsF_del h.2⟩
theorem totP2_del (ps : List P2) (k : Nat) : totP2 (ps.take k ++ ps.drop (k + 1)) ≤ totP2 ps := by
  have h1 : totP2 ps = totP2 (ps.take (k + 1)) + totP2 (ps.drop (k + 1)) := by
    unfold totP2
    rw [← List.sum_append, ← List.map_append, List.take_append_drop]
  have h2 : totP2 (ps.take k ++ ps.drop (k + 1)) = totP2 (ps.take k) + totP2 (ps.drop (k + 1)) := by
    unfold totP2
    rw [List.map_append, List.sum_append]
  have h3 : totP2 (ps.take k) ≤ totP2 (ps.take (k + 1)) := by
    have e : ps.take k = (ps.take (k + 1)).take k := by rw [List.take_take, Nat.min_eq_left (Nat.le_succ k)]
    rw [e]
    exact totP2_take _ _
  omega

/-- Points of the caller's in a row of the call's own. -/
def PIn (w : World) (base B : Nat) (v : Value) (n : Nat) (xs : List P2) : Prop :=
  xs.length = n ∧ ∃ cs, w.ownsRow base 40 2 v n cs ∧ ∀ j x, xs[j]? = some x → cs[j * 2]? = some (.int .i64 x.a) ∧ ∃ A' n' c', cs[j * 2 + 1]? = some (.slice A' n' c') ∧ InTS w B A' n' x.s
theorem PIn.out {w : World} {base B n : Nat} {v : Value} {xs : List P2} (h : PIn w base B v n xs) (hB : B ≤ w.heap.size) : ∃ A c, v = .slice A n c ∧ InP2 w w.heap.size A n xs := by
  obtain ⟨h1, cs, h3, h4⟩ := h
  have h3' := h3
  rcases h3.2 with ⟨rfl, hn⟩ | ⟨b, cap, cur, rfl, k2, k3, k4⟩
  · have : xs = [] := List.eq_nil_of_length_eq_zero (by omega)
    subst this
    subst hn
    exact ⟨none, 0, rfl, rfl, fun j t hj => by simp at hj⟩
  · refine ⟨some ⟨b, 0, none⟩, cap, rfl, h1, fun j x hj => ?_⟩
    have hjl : j < xs.length := (List.getElem?_eq_some_iff.1 hj).1
    have hxl := h3.1
    obtain ⟨a, A', n', c', bb, c⟩ := h4 j x hj
    refine ⟨b, 0, rfl, blk_lt k3, A', n', c', ?_, ?_, c.more hB⟩
    · rw [Nat.zero_add, h3.cellAt (j * 2) (by omega), a]
    · rw [Nat.zero_add, h3.cellAt (j * 2 + 1) (by omega), bb]
theorem p2_cells {w : World} {B b off n : Nat} {xs : List P2} (h : InP2 w B (some ⟨b, off, none⟩) n xs) :
    ∃ news : List Value, news.length = n * 2 ∧ (∀ j u, news[j]? = some u → w.cell? ((⟨b, off, none⟩ : Addr).add j) = some u) ∧ (∀ u ∈ news, u.oneCell' = true) ∧
      ∀ j x, xs[j]? = some x → news[j * 2]? = some (.int .i64 x.a) ∧ ∃ A' n' c', news[j * 2 + 1]? = some (.slice A' n' c') ∧ InTS w B A' n' x.s := by
  have hat0 : ∀ j, j < n → ∃ x A' n' c', xs[j]? = some x ∧ w.cell? ⟨b, off + j * 2, none⟩ = some (.int .i64 x.a) ∧ w.cell? ⟨b, off + j * 2 + 1, none⟩ = some (.slice A' n' c') ∧ InTS w B A' n' x.s := by
    intro j hj
    obtain ⟨b', off', x, e, _, hx, A', n', c', h1, h2, h3⟩ := h.at_ hj
    cases e
    exact ⟨x, A', n', c', hx, h1, h2, h3⟩
  have key : ∀ j, j < n * 2 → ∃ u, w.cell? ⟨b, off + j, none⟩ = some u ∧ u.oneCell' = true := by
    intro j hj
    obtain ⟨x, A', n', c', _, h1, h2, h3⟩ := hat0 (j / 2) (by omega)
    by_cases hp : j % 2 = 0
    · exact ⟨_, by rw [show off + j = off + j / 2 * 2 by omega]; exact h1, rfl⟩
    · exact ⟨_, by rw [show off + j = off + j / 2 * 2 + 1 by omega]; exact h2, rfl⟩
  have hat : ∀ j, j < n * 2 → ((List.range (n * 2)).map fun j => (w.cell? ⟨b, off + j, none⟩).getD undef)[j]? = w.cell? ⟨b, off + j, none⟩ := by
    intro j hj
    obtain ⟨u, hu, _⟩ := key j hj
    rw [List.getElem?_map, List.getElem?_range hj, hu]
    simp [hu]
  refine ⟨(List.range (n * 2)).map fun j => (w.cell? ⟨b, off + j, none⟩).getD undef, by simp, fun j u hu => ?_, fun u hu => ?_, fun j x hx => ?_⟩
  · have hj : j < n * 2 := by have := (List.getElem?_eq_some_iff.1 hu).1; simpa using this
    rw [hat j hj] at hu
    rw [show ((⟨b, off, none⟩ : Addr).add j) = ⟨b, off + j, none⟩ by by_cases e : j = 0 <;> simp [Addr.add, e]]
    exact hu
  · obtain ⟨j, hj, rfl⟩ := List.mem_map.1 hu
    obtain ⟨u, hu, h1⟩ := key j (List.mem_range.1 hj)
    simp only [hu]
    exact h1
  · have hj : j < n := by have := (List.getElem?_eq_some_iff.1 hx).1; have := h.1; omega
    obtain ⟨x', A', n', c', hx', h1, h2, h3⟩ := hat0 j hj
    rw [hx] at hx'
    obtain rfl := Option.some.inj hx'
    exact ⟨by rw [hat _ (by omega)]; exact h1, A', n', c', by rw [hat _ (by omega)]; exact h2, h3⟩
theorem app_pin {w : World} {base B k n c : Nat} {v : Value} {A : Option Addr} {ys xs : List P2} (hr : PIn w base B v k ys) (h : InP2 w B A n xs) (hB : B ≤ base) (hbw : base ≤ w.heap.size) (hk : k ≤ 1048576) (hn : n ≤ 1048576) :
    ∃ v' w', (Builtin.append_ #[33, 33] 33 #[v, .slice A n c]).run Try.prog w = .ok v' w' ∧ PIn w' base B v' (k + n) (ys ++ xs) ∧ Below base w w' := by
  obtain ⟨i0, hi, hz0, hz1, hz2⟩ := info_parts infoPoint
  obtain ⟨hl, cs, ho, hc⟩ := hr
  rcases A with _ | ad
  · have hn0 : n = 0 := by
      rcases Nat.eq_zero_or_pos n with h0 | h0
      · exact h0
      · obtain ⟨_, _, _, e, _⟩ := h.at_ (k := 0) h0
        cases e
    subst hn0
    have hxs : xs = [] := List.eq_nil_of_length_eq_zero h.1
    subst hxs
    exact ⟨v, w, nil_any w base _ _ 40 i0 2 Try.underlying33 hi v k _ ho c, (by rw [Nat.add_zero, List.append_nil]; exact ⟨hl, cs, ho, hc⟩), Below.refl _ _⟩
  · obtain ⟨news, l1, l2, l3, l4⟩ : ∃ news : List Value, news.length = n * 2 ∧ (∀ j u, news[j]? = some u → w.cell? (ad.add j) = some u) ∧ (∀ u ∈ news, u.oneCell' = true) ∧
        ∀ j x, xs[j]? = some x → news[j * 2]? = some (.int .i64 x.a) ∧ ∃ A' n' c', news[j * 2 + 1]? = some (.slice A' n' c') ∧ InTS w B A' n' x.s := by
      by_cases hn0 : n = 0
      · have hxs : xs = [] := List.eq_nil_of_length_eq_zero (h.1.trans hn0)
        subst hxs
        exact ⟨[], by simp [hn0], fun j u hu => by simp at hu, fun u hu => by simp at hu, fun j t ht => by simp at ht⟩
      · obtain ⟨b, off, _, e, _⟩ := h.at_ (k := 0) (by omega)
        cases e
        exact p2_cells h
    obtain ⟨v', w', e1, e2, e3, _⟩ := run_append_own w base 33 33 40 i0 (.agg #[.int .i64 0, .slice none 0 0]) 2 32 Try.underlying33 hi hz0 hz1 hz2 rfl (by decide) v k cs ho ad n c news l1 l2 l3 (by unfold maxLen; omega) (by omega) hbw
    have hcl := ho.1
    have hbb : Below base w w' := (Below.refl base w).grown e3 hbw (fun j hj => (ho.lt j hj).1)
    refine ⟨v', w', e1, ⟨by rw [List.length_append, hl, h.1], _, e2, fun j x hj => ?_⟩, hbb⟩
    by_cases hjn : j < ys.length
    · rw [List.getElem?_append_left hjn] at hj
      obtain ⟨a, A', n', c', b, d⟩ := hc j x hj
      exact ⟨by rw [List.getElem?_append_left (by omega)]; exact a, A', n', c', by rw [List.getElem?_append_left (by omega)]; exact b, d.next hbb hB⟩
    · rw [List.getElem?_append_right (by omega)] at hj
      obtain ⟨a, A', n', c', b, d⟩ := l4 _ x hj
      exact ⟨by rw [List.getElem?_append_right (by omega), show j * 2 - cs.length = (j - ys.length) * 2 by omega]; exact a, A', n', c', by rw [List.getElem?_append_right (by omega), show j * 2 + 1 - cs.length = (j - ys.length) * 2 + 1 by omega]; exact b, d.next hbb hB⟩

theorem size_zeroP (n : Nat) : (Builtin.zeroCells (Value.agg #[.int .i64 0, .slice none 0 0]).cells n).size = n * 2 := by
  rw [size_zeroCells]; rfl
set_option maxRecDepth 100000 in
set_option maxHeartbeats 1000000 in
theorem growP_c (n B : Nat) (w : World) (h2 : n ≤ 2097152) : Calls Try.prog 99 #[.slice none 0 0, .int .i64 n] w fun e w' => ∃ v, e = .returned v ∧ PIn w' w.heap.size B v 0 [] ∧ Below w.heap.size w w' := by
  rcases Nat.eq_zero_or_pos n with h1 | h1
  · subst h1
    go_enter Try.func99, Try.ntmps99
    go_wp2_with fail
    go_ret
    exact ⟨_, rfl, ⟨rfl, [], World.ownsRow_nil _ _ _ _, fun j x hj => by simp at hj⟩, Below.refl _ _⟩
  · obtain ⟨i0, hi, hz0, hz1, hz2⟩ := info_parts infoPoint
    have happ := Lib.run_append_nil_zeros (P := Try.prog) w 33 3 33 40 i0 (.agg #[.int .i64 0, .slice none 0 0]) .i64 .i64 Try.underlying33 Try.underlying3 hi hz0 n (by omega) (by rw [hz1]; omega) (by omega) (by rw [hz2]; omega)
    obtain ⟨C, hC⟩ : ∃ C, C = grownCap w n 0 40 := ⟨_, rfl⟩
    have hge : n ≤ C := by rw [hC]; exact grownCap_ge w _ 0 _
    have hle : C ≤ maxLen := by rw [hC]; exact grownCap_le_maxLen w _ 0 _ (by unfold maxLen; omega)
    rw [← hC] at happ
    obtain ⟨Z, hZ⟩ : ∃ Z, Z = Builtin.zeroCells (Value.agg #[.int .i64 0, .slice none 0 0]).cells n ++ Builtin.zeroCells (Value.agg #[.int .i64 0, .slice none 0 0]).cells (C - n) := ⟨_, rfl⟩
    rw [← hZ] at happ
    have hZs : Z.size = C * 2 := by rw [hZ, Array.size_append, size_zeroP, size_zeroP]; omega
    clear hC hZ
    have hown : (w.drew.alloc (.cells Z 40)).ownsRow w.heap.size 40 2 (.slice (some ⟨w.heap.size, 0, none⟩) 0 C) 0 [] := World.ownsRow_made w.drew Z C (Nat.le_refl _) hle hZs
    have HO := Lib.hid hown
    have HB := Lib.hid (show Below w.heap.size w (w.drew.alloc (.cells Z 40)) from (Below.refl w.heap.size w).drew.alloc (Nat.le_refl _) _)
    have hn1 : (1 : Int) ≤ (n : Int) := by omega
    have HAP := Lib.hid happ
    clear hown happ
    go_enter Try.func99, Try.ntmps99
    go_wp2_with (at_builtin; refine Lib.wpList_append_run _ rfl _ _ _ _ rfl _ _ rfl rfl _ _ HAP.out ?_)
    go_ret
    exact ⟨_, rfl, ⟨rfl, [], HO.out, fun j x hj => by simp at hj⟩, HB.out⟩

set_option maxRecDepth 100000 in
set_option maxHeartbeats 2000000 in
theorem concP_c (b : Nat) (A : Option Addr) (n c B : Nat) (xs : List P2) (D : Option Addr) (m d : Nat) (ys : List P2) (w : World) (hP : BlkIs w b 33 #[.slice A n c, .slice D m d]) (h : InP2 w B A n xs) (hl : InP2 w B D m ys) (hB : B ≤ w.heap.size) (hn : n ≤ 1048576) (hm : m ≤ 1048576) :
    Calls Try.prog 61 #[.slice (some ⟨b, 0, none⟩) 2 2] w fun e w' => ∃ A' c', e = .returned (.slice A' (n + m) c') ∧ InP2 w' w'.heap.size A' (n + m) (xs ++ ys) ∧ Below w.heap.size w w' := by
  have HIN := Lib.hid h
  have HIL := Lib.hid hl
  have q0 : w.cell? ⟨b, 0, none⟩ = some (.slice A n c) := hP.cell 0
  have q1 : w.cell? ⟨b, 1, none⟩ = some (.slice D m d) := hP.cell 1
  have HGR := Lib.hid (growP_c (n + m) B w (by omega))
  have HQ := Lib.hid (And.intro q0 q1)
  clear h hl
  go_enter Try.func61, Try.ntmps61
  go_wp2_with fail
  go_loopw [3, 5, 11] (fun x _ i wr => ∃ k : Nat, k ≤ 2 ∧ i = .int .i64 k ∧ (k = 0 ∧ x = .int .i64 0 ∨ k = 1 ∧ x = .int .i64 n ∨ k = 2 ∧ x = .int .i64 ((n : Int) + m)) ∧ Hid (wr = w)) (fun _ _ i _ => 2 - (intOf i).toNat)
  case atStart => exact ⟨0, by omega, rfl, .inl ⟨rfl, rfl⟩, Lib.hid rfl⟩
  case round =>
    obtain ⟨k, hk, rfl, hx, hw⟩ := hrel
    obtain rfl := hw.out
    clear hw
    rcases hx with ⟨rfl, rfl⟩ | ⟨rfl, rfl⟩ | ⟨rfl, rfl⟩
    · go_wp2_with fail
      go_roundw
      case rel => exact ⟨1, by omega, by go_num, .inr (.inl ⟨rfl, by go_num⟩), by first | exact Lib.hid rfl | exact Lib.hid trivial⟩
      case measure => simp [intOf]
    · go_wp2_with fail
      go_roundw
      case rel => exact ⟨2, by omega, by go_num, .inr (.inr ⟨rfl, by go_num⟩), by first | exact Lib.hid rfl | exact Lib.hid trivial⟩
      case measure => simp [intOf]
    · have hcn : ((n + m : Nat) : Int) = (n : Int) + m := by omega
      rw [hcn] at HGR
      clear q0 q1
      go_wp2_with fail
      refine HGR.out.mono ?_
      rintro e w1 ⟨v1, rfl, hown, hb1⟩
      have hs1 := hb1.size
      have HOW := Lib.hid hown
      clear hown HGR
      go_wp2_with fail
      have h00 : (((0 : Nat) : Int)) = 0 := rfl
      go_loopw [6, 8, 27] (fun v _ i wz => ∃ k : Nat, k ≤ 2 ∧ i = .int .i64 k ∧ Below wr.heap.size wr wz ∧ (k = 0 ∧ PIn wz wr.heap.size B v 0 [] ∨ k = 1 ∧ PIn wz wr.heap.size B v n xs ∨ k = 2 ∧ PIn wz wr.heap.size B v (n + m) (xs ++ ys))) (fun _ _ i _ => 2 - (intOf i).toNat)
      case atStart => exact ⟨0, by omega, rfl, hb1, .inl ⟨rfl, HOW.out⟩⟩
      case round =>
        clear HOW
        obtain ⟨k, hk, rfl, hbz, hx⟩ := hrel
        have hsz := hbz.size
        rcases hx with ⟨rfl, hrow⟩ | ⟨rfl, hrow⟩ | ⟨rfl, hrow⟩
        · have q0 := cell_next HQ.out.1 hbz
          obtain ⟨v', w2, e1, e2, e3⟩ := app_pin (c := c) hrow (HIN.out.next hbz hB) hB hsz (by omega) (by omega)
          rw [Nat.zero_add, List.nil_append] at e2
          have E1 := Lib.hid e1
          clear e1
          have hb3 := hbz.trans e3
          go_wp2_with (at_builtin; refine Lib.wpList_append_run _ rfl _ _ _ _ rfl _ _ rfl rfl _ _ E1.out ?_)
          go_roundw
          case rel => exact ⟨1, by omega, by go_num, hb3, .inr (.inl ⟨rfl, e2⟩)⟩
          case measure => simp [intOf]
        · have q1 := cell_next HQ.out.2 hbz
          obtain ⟨v', w2, e1, e2, e3⟩ := app_pin (c := d) hrow (HIL.out.next hbz hB) hB hsz (by omega) (by omega)
          have E1 := Lib.hid e1
          clear e1
          have hb3 := hbz.trans e3
          go_wp2_with (at_builtin; refine Lib.wpList_append_run _ rfl _ _ _ _ rfl _ _ rfl rfl _ _ E1.out ?_)
          go_roundw
          case rel => exact ⟨2, by omega, by go_num, hb3, .inr (.inr ⟨rfl, e2⟩)⟩
          case measure => simp [intOf]
        · obtain ⟨A', c', rfl, hin⟩ := hrow.out (Nat.le_trans hB hsz)
          have HF := Lib.hid hin
          clear hin hrow
          go_wp2_with fail
          go_ret
          exact ⟨A', c', rfl, HF.out, hbz⟩
end Go.Proofs.Ytglbkbdljjaioaa

/-! The program's withPoints for code that is not valid, and its DropPoint. Conditions: at most 2^20 elements and numbers. -/
namespace Go.Proofs.Ytglbkbdljjaioaa
set_option linter.unusedVariables false
set_option linter.unusedSectionVars false
open Go.RowKit

theorem totT_le {ts : List (Int × List Int)} {m : Nat} (h : ∀ t ∈ ts, t.2.length ≤ m) : totT ts ≤ m * ts.length := by
  induction ts with
  | nil => simp [totT]
  | cons t ts ih =>
    have h1 := ih fun u hu => h u (List.mem_cons_of_mem _ hu)
    have h2 := h t (List.mem_cons_self ..)
    unfold totT at h1 ⊢
    simp only [List.map_cons, List.sum_cons, List.length_cons, Nat.mul_add] at h1 ⊢
    omega
theorem oversB_tot {ts : List (Int × List Int)} (h : oversB 6 ts = true) : ts.length ≤ 6 ∧ totT ts ≤ 24 := by
  unfold oversB at h
  simp only [Bool.and_eq_true, decide_eq_true_eq, List.all_eq_true] at h
  have := totT_le (ts := ts) (m := 4) fun t ht => by
    have := h.1 t ht
    unfold overB at this
    simp only [Bool.and_eq_true, decide_eq_true_eq] at this
    omega
  exact ⟨h.2, by omega⟩
theorem ptsF_tot {len : Int} : ∀ {ps : List P2} {l : Int}, ptsF len l ps = true → totP2 ps ≤ 30 * ps.length := by
  intro ps
  induction ps with
  | nil => intro l _; simp [totP2]
  | cons p ps ih =>
    intro l h
    unfold ptsF at h
    simp only [Bool.and_eq_true] at h
    have h1 := ih h.2
    have h2 := oversB_tot h.1.2
    unfold totP2 at h1 ⊢
    simp only [List.map_cons, List.sum_cons, List.length_cons] at h1 ⊢
    unfold P2.tot at h1 ⊢
    omega
theorem annB_tot {t0 t1 : List (Int × List Int)} {xs : List (Int × Int)} {ps : List P2} (h : annB t0 t1 xs ps = true) : totT t0 ≤ 24 ∧ totT t1 ≤ 24 ∧ totP2 ps ≤ 240 := by
  obtain ⟨hc, h0, h1, hp⟩ := annB_parts h
  unfold ptsB at hp
  simp only [Bool.and_eq_true, decide_eq_true_eq] at hp
  have := ptsF_tot hp.2
  exact ⟨(oversB_tot h0).2, (oversB_tot h1).2, by omega⟩
theorem ownTS_none (w : World) (lo hi : Nat) (h : hi ≤ w.heap.size) : OwnTS w lo hi none 0 0 [] :=
  ⟨rfl, h, [], fun _ => .bool false, World.ownsRow_nil _ _ _ _, (fun k hk => by cases hk), (fun j t ht => by simp at ht), (fun i j hi => by omega), (fun i hi => by omega)⟩
theorem ownC_none (w : World) (lo hi : Nat) (h : hi ≤ w.heap.size) : OwnC w lo hi none 0 0 [] := ⟨rfl, World.ownsRow_nil _ _ _ _, (fun j hj => by cases hj), h⟩
theorem anI_none {w w' : World} (hb : Below w.heap.size w w') (hP : OwnP2 w' w'.heap.size w'.heap.size none 0 0 []) : AnI w w' (.returned (.tuple #[.agg #[.slice none 0 0, .slice none 0 0, .slice none 0 0, .slice none 0 0], .bool false])) 0 0 0 0 [] [] [] [] false :=
  ⟨none, 0, none, 0, none, 0, none, 0, w'.heap.size, w'.heap.size, w'.heap.size, rfl, ownTS_none _ _ _ (Nat.le_refl _), ownTS_none _ _ _ (Nat.le_refl _), ownC_none _ _ _ (Nat.le_refl _), hP, ⟨hb.size, Nat.le_refl _, Nat.le_refl _, Nat.le_refl _⟩, hb⟩
theorem ownP2_none (w : World) : OwnP2 w w.heap.size w.heap.size none 0 0 [] := ⟨rfl, Nat.le_refl _, [], fun _ => w.heap.size, World.ownsRow_nil _ _ _ _, (fun k hk => by cases hk), Nat.le_refl _, (fun i hi => by omega), Nat.le_refl _, fun j t hj => by simp at hj⟩

section
variable (A0 : Option Addr) (n0 c0 : Nat) (t0 : List (Int × List Int)) (A1 : Option Addr) (n1 c1 : Nat) (t1 : List (Int × List Int)) (A2 : Option Addr) (n2 c2 : Nat) (t2 : List (Int × Int)) (A3 : Option Addr) (n3 c3 : Nat) (t3 : List P2) (w : World) (h0 : InTS w w.heap.size A0 n0 t0) (h1 : InTS w w.heap.size A1 n1 t1) (h2 : InC w w.heap.size A2 n2 t2) (h3 : InP2 w w.heap.size A3 n3 t3) (hn0 : n0 ≤ 1048576) (he0 : totT t0 ≤ 1048576) (hn1 : n1 ≤ 1048576) (he1 : totT t1 ≤ 1048576) (hn2 : n2 ≤ 1048576) (hn3 : n3 ≤ 1048576) (he3 : totP2 t3 ≤ 1048576)
include h0 h1 h2 h3 hn0 he0 hn1 he1 hn2 hn3 he3
set_option maxRecDepth 100000 in
set_option maxHeartbeats 4000000 in
theorem with_no (A4 : Option Addr) (n4 c4 : Nat) (hv : annB t0 t1 t2 t3 = false) :
    Calls Try.prog 50 #[.agg #[.slice A0 n0 c0, .slice A1 n1 c1, .slice A2 n2 c2, .slice A3 n3 c3], .slice A4 n4 c4] w fun e w' => AnI w w' e 0 0 0 0 [] [] [] [] false := by
  have hb0 : Below w.heap.size w ((w.alloc (.cells #[.slice A0 n0 c0, .slice A1 n1 c1, .slice A2 n2 c2, .slice A3 n3 c3] 35)).alloc (.cells #[.slice none 0 0, .slice none 0 0, .slice none 0 0, .slice none 0 0] 35)) := bon (bnew _ _) (bnew _ _)
  have hX : BlkIs ((w.alloc (.cells #[.slice A0 n0 c0, .slice A1 n1 c1, .slice A2 n2 c2, .slice A3 n3 c3] 35)).alloc (.cells #[.slice none 0 0, .slice none 0 0, .slice none 0 0, .slice none 0 0] 35)) (w.heap.size + 1) 35 #[.slice none 0 0, .slice none 0 0, .slice none 0 0, .slice none 0 0] := blk_new _ _ _ _ (by simp)
  have HV : Hid (∀ x, Below w.heap.size w x → Calls Try.prog 89 #[.agg #[.slice A0 n0 c0, .slice A1 n1 c1, .slice A2 n2 c2, .slice A3 n3 c3]] x fun e w' => e = .returned (.bool false) ∧ Below x.heap.size x w') := fun x hx => by
    have h := implAnn_c A0 n0 c0 t0 A1 n1 c1 t1 A2 n2 c2 t2 A3 n3 c3 t3 x ((h0.next hx (Nat.le_refl _)).more hx.size) ((h1.next hx (Nat.le_refl _)).more hx.size) ((h2.next hx (Nat.le_refl _)).more hx.size) ((h3.next hx (Nat.le_refl _)).more hx.size) hn0 he0 hn1 he1 hn2 hn3 he3
    rw [hv] at h
    exact h
  clear h0 h1 h2 h3 hv
  go_enter Try.func50, Try.ntmps50
  go_wp2_with fail
  generalize ((w.alloc (.cells #[.slice A0 n0 c0, .slice A1 n1 c1, .slice A2 n2 c2, .slice A3 n3 c3] 35)).alloc (.cells #[.slice none 0 0, .slice none 0 0, .slice none 0 0, .slice none 0 0] 35)) = W at hb0 hX ⊢
  refine (HV.out W hb0).mono ?_
  rintro e w1 ⟨rfl, hb1⟩
  have hX1 := hX.next hb1
  have f0 := hX1.frozen 0
  have f1 := hX1.frozen 1
  have f2 := hX1.frozen 2
  have f3 := hX1.frozen 3
  have y0 := hX1.cell 0
  have y1 := hX1.cell 1
  have y2 := hX1.cell 2
  have y3 := hX1.cell 3
  simp at y0 y1 y2 y3
  obtain ⟨hF, hgr⟩ := fill4 hX1 (.slice none 0 0) (.slice none 0 0) (.slice none 0 0) (.slice none 0 0)
  have r0 := hF.cell 0
  have r1 := hF.cell 1
  have r2 := hF.cell 2
  have r3 := hF.cell 3
  simp at r0 r1 r2 r3
  have hbF := (bon hb0 hb1).trans (only_below hgr (Nat.le_succ _) (bon hb0 hb1).size)
  clear hgr hF hX1
  go_wp2_with fail
  refine bodyPost_ret (v := .tuple #[.agg #[.slice none 0 0, .slice none 0 0, .slice none 0 0, .slice none 0 0], .bool false]) (by simp [results, Try.results50, go_sem, r0, r1, r2, r3]) rfl ?_
  exact anI_none hbF (ownP2_none _)

set_option maxRecDepth 100000 in
set_option maxHeartbeats 4000000 in
theorem implDrop_out (i : Int) (hi : ¬ (0 ≤ i ∧ i ≤ (n3 : Int) - 1)) :
    Calls Try.prog 20 #[.agg #[.slice A0 n0 c0, .slice A1 n1 c1, .slice A2 n2 c2, .slice A3 n3 c3], .int .i64 i] w fun e w' => AnI w w' e 0 0 0 0 [] [] [] [] false := by
  have hb0 : Below w.heap.size w ((w.alloc (.cells #[.slice A0 n0 c0, .slice A1 n1 c1, .slice A2 n2 c2, .slice A3 n3 c3] 35)).alloc (.cells #[.slice none 0 0, .slice none 0 0, .slice none 0 0, .slice none 0 0] 35)) := bon (bnew _ _) (bnew _ _)
  have hP : BlkIs ((w.alloc (.cells #[.slice A0 n0 c0, .slice A1 n1 c1, .slice A2 n2 c2, .slice A3 n3 c3] 35)).alloc (.cells #[.slice none 0 0, .slice none 0 0, .slice none 0 0, .slice none 0 0] 35)) w.heap.size 35 #[.slice A0 n0 c0, .slice A1 n1 c1, .slice A2 n2 c2, .slice A3 n3 c3] := (blk_new w _ _ _ rfl).next (bnew _ _)
  have hX1 : BlkIs ((w.alloc (.cells #[.slice A0 n0 c0, .slice A1 n1 c1, .slice A2 n2 c2, .slice A3 n3 c3] 35)).alloc (.cells #[.slice none 0 0, .slice none 0 0, .slice none 0 0, .slice none 0 0] 35)) (w.heap.size + 1) 35 #[.slice none 0 0, .slice none 0 0, .slice none 0 0, .slice none 0 0] := blk_new _ _ _ _ (by simp)
  have hbad : (decide (0 ≤ i) && decide (i ≤ (n3 : Int) - 1)) = false := by simpa using hi
  have HB := Lib.hid (isBetween_i i 0 ((n3 : Int) - 1))
  rw [hbad] at HB
  clear h0 h1 h2 h3 hbad hi
  go_enter Try.func20, Try.ntmps20
  go_wp2_with fail
  generalize ((w.alloc (.cells #[.slice A0 n0 c0, .slice A1 n1 c1, .slice A2 n2 c2, .slice A3 n3 c3] 35)).alloc (.cells #[.slice none 0 0, .slice none 0 0, .slice none 0 0, .slice none 0 0] 35)) = W at hb0 hP hX1 ⊢
  have p3 := hP.cell 3
  simp at p3
  refine (HB.out W).mono ?_
  rintro e w2 ⟨rfl, rfl⟩
  have f0 := hX1.frozen 0
  have f1 := hX1.frozen 1
  have f2 := hX1.frozen 2
  have f3 := hX1.frozen 3
  have y0 := hX1.cell 0
  have y1 := hX1.cell 1
  have y2 := hX1.cell 2
  have y3 := hX1.cell 3
  simp at y0 y1 y2 y3
  obtain ⟨hF, hgr⟩ := fill4 hX1 (.slice none 0 0) (.slice none 0 0) (.slice none 0 0) (.slice none 0 0)
  have r0 := hF.cell 0
  have r1 := hF.cell 1
  have r2 := hF.cell 2
  have r3 := hF.cell 3
  simp at r0 r1 r2 r3
  have hbF := hb0.trans (only_below hgr (Nat.le_succ _) hb0.size)
  clear hgr hF hX1
  go_wp2_with fail
  refine bodyPost_ret (v := .tuple #[.agg #[.slice none 0 0, .slice none 0 0, .slice none 0 0, .slice none 0 0], .bool false]) (by simp [results, Try.results20, go_sem, r0, r1, r2, r3]) rfl ?_
  exact anI_none hbF (ownP2_none _)

set_option maxRecDepth 100000 in
set_option maxHeartbeats 8000000 in
theorem implDrop_mid (k : Nat) (hk : k < n3) (hn38 : n3 ≤ 1048576) (A : Option Addr) (c : Nat) (hcap : n3 ≤ c3) (g off : Nat) (hA3 : A3 = some ⟨g, off, none⟩) (hsl : A = (if c3 = k + 1 then some ⟨g, off, none⟩ else some ⟨g, off + (k + 1) * 2, none⟩)) (hcc : c = c3 - (k + 1))
    (m0 m1 m2 m3 : Nat) (u0 u1 : List (Int × List Int)) (u2 : List (Int × Int)) (u3 : List P2) (r : Bool)
    (HW0 : ∀ (x : World) (A4 : Option Addr) (c4 : Nat), Below w.heap.size w x → InP2 x x.heap.size A4 (n3 - 1) (t3.take k ++ t3.drop (k + 1)) → Calls Try.prog 50 #[.agg #[.slice A0 n0 c0, .slice A1 n1 c1, .slice A2 n2 c2, .slice A3 n3 c3], .slice A4 (n3 - 1) c4] x fun e w' => AnI x w' e m0 m1 m2 m3 u0 u1 u2 u3 r) :
    Calls Try.prog 20 #[.agg #[.slice A0 n0 c0, .slice A1 n1 c1, .slice A2 n2 c2, .slice A3 n3 c3], .int .i64 (k : Int)] w fun e w' => AnI w w' e m0 m1 m2 m3 u0 u1 u2 u3 r := by
  subst hA3 hcc hsl
  have hb0 : Below w.heap.size w ((w.alloc (.cells #[.slice A0 n0 c0, .slice A1 n1 c1, .slice A2 n2 c2, .slice (some ⟨g, off, none⟩) n3 c3] 35)).alloc (.cells #[.slice none 0 0, .slice none 0 0, .slice none 0 0, .slice none 0 0] 35)) := bon (bnew _ _) (bnew _ _)
  have hP : BlkIs ((w.alloc (.cells #[.slice A0 n0 c0, .slice A1 n1 c1, .slice A2 n2 c2, .slice (some ⟨g, off, none⟩) n3 c3] 35)).alloc (.cells #[.slice none 0 0, .slice none 0 0, .slice none 0 0, .slice none 0 0] 35)) w.heap.size 35 #[.slice A0 n0 c0, .slice A1 n1 c1, .slice A2 n2 c2, .slice (some ⟨g, off, none⟩) n3 c3] := (blk_new w _ _ _ rfl).next (bnew _ _)
  have hX1 : BlkIs ((w.alloc (.cells #[.slice A0 n0 c0, .slice A1 n1 c1, .slice A2 n2 c2, .slice (some ⟨g, off, none⟩) n3 c3] 35)).alloc (.cells #[.slice none 0 0, .slice none 0 0, .slice none 0 0, .slice none 0 0] 35)) (w.heap.size + 1) 35 #[.slice none 0 0, .slice none 0 0, .slice none 0 0, .slice none 0 0] := blk_new _ _ _ _ (by simp)
  have hs2 : w.heap.size + 2 ≤ (((w.alloc (.cells #[.slice A0 n0 c0, .slice A1 n1 c1, .slice A2 n2 c2, .slice (some ⟨g, off, none⟩) n3 c3] 35)).alloc (.cells #[.slice none 0 0, .slice none 0 0, .slice none 0 0, .slice none 0 0] 35))).heap.size := by simp
  have hbad : (decide (0 ≤ (k : Int)) && decide ((k : Int) ≤ (n3 : Int) - 1)) = true := by simp; omega
  have HB := Lib.hid (isBetween_i (k : Int) 0 ((n3 : Int) - 1))
  rw [hbad] at HB
  have hlen := Lib.hid h3.1
  have HT : Hid (InP2 w w.heap.size (some ⟨g, off, none⟩) k (t3.take k)) := ⟨by rw [List.length_take, hlen.out]; omega, fun j x hj => by
    have hl := (List.getElem?_eq_some_iff.1 hj).1
    rw [List.length_take] at hl
    rw [List.getElem?_take_of_lt (by omega)] at hj
    exact h3.2 j x hj⟩
  have HD : Hid (InP2 w w.heap.size (if c3 = k + 1 then some ⟨g, off, none⟩ else some ⟨g, off + (k + 1) * 2, none⟩) (n3 - (k + 1)) (t3.drop (k + 1))) := ⟨by rw [List.length_drop, hlen.out], fun j x hj => by
    rw [List.getElem?_drop] at hj
    have hl := (List.getElem?_eq_some_iff.1 hj).1
    have hll := hlen.out
    obtain ⟨b', off', e, hb', A', n', c', q0, q1, q2⟩ := h3.2 _ x hj
    cases e
    refine ⟨g, off + (k + 1) * 2, if_neg (by omega), hb', A', n', c', ?_, ?_, q2⟩
    · rw [show off + (k + 1) * 2 + j * 2 = off + (k + 1 + j) * 2 by omega]; exact q0
    · rw [show off + (k + 1) * 2 + j * 2 + 1 = off + (k + 1 + j) * 2 + 1 by omega]; exact q1⟩
  have HCat : Hid (∀ (x : World) (b : Nat), Below w.heap.size w x → BlkIs x b 33 #[.slice (some ⟨g, off, none⟩) k c3, .slice (if c3 = k + 1 then some ⟨g, off, none⟩ else some ⟨g, off + (k + 1) * 2, none⟩) (n3 - (k + 1)) (c3 - (k + 1))] → Calls Try.prog 61 #[.slice (some ⟨b, 0, none⟩) 2 2] x fun e w' => ∃ A' c', e = .returned (.slice A' (n3 - 1) c') ∧ InP2 w' w'.heap.size A' (n3 - 1) (t3.take k ++ t3.drop (k + 1)) ∧ Below x.heap.size x w') := fun x b hx hb => by
    have h := concP_c b (some ⟨g, off, none⟩) k c3 w.heap.size _ (if c3 = k + 1 then some ⟨g, off, none⟩ else some ⟨g, off + (k + 1) * 2, none⟩) (n3 - (k + 1)) (c3 - (k + 1)) _ x hb (HT.out.next hx (Nat.le_refl _)) (HD.out.next hx (Nat.le_refl _)) hx.size (by omega) (by omega)
    rw [show k + (n3 - (k + 1)) = n3 - 1 by omega] at h
    exact h
  have HW := Lib.hid HW0
  have hkc : k ≤ c3 := by omega
  have hki : (k : Int) + 1 ≤ (n3 : Int) := by omega
  have wa : IntKind.i64.wrap ((k : Int) + 1) = (k : Int) + 1 := IntWalk.i64_in _ (by omega)
  have wb : (0 : Int) ≤ (k : Int) + 1 := by omega
  have wc : ((k : Int) + 1).toNat = k + 1 := by omega
  clear h0 h1 h2 h3 hbad HW0 HT HD
  go_enter Try.func20, Try.ntmps20
  go_wp2_with fail
  generalize ((w.alloc (.cells #[.slice A0 n0 c0, .slice A1 n1 c1, .slice A2 n2 c2, .slice (some ⟨g, off, none⟩) n3 c3] 35)).alloc (.cells #[.slice none 0 0, .slice none 0 0, .slice none 0 0, .slice none 0 0] 35)) = W at hb0 hP hX1 hs2 ⊢
  have a3 := hP.cell 3
  simp at a3
  refine (HB.out W).mono ?_
  rintro e w1 ⟨rfl, rfl⟩
  have X2 : BlkIs W.drew (w.heap.size + 1) 35 #[.slice none 0 0, .slice none 0 0, .slice none 0 0, .slice none 0 0] := hX1
  have p0 : W.drew.cell? ⟨w.heap.size, 0, none⟩ = some (.slice A0 n0 c0) := hP.cell 0
  have p1 : W.drew.cell? ⟨w.heap.size, 1, none⟩ = some (.slice A1 n1 c1) := hP.cell 1
  have p2 : W.drew.cell? ⟨w.heap.size, 2, none⟩ = some (.slice A2 n2 c2) := hP.cell 2
  have p3 : W.drew.cell? ⟨w.heap.size, 3, none⟩ = some (.slice (some ⟨g, off, none⟩) n3 c3) := hP.cell 3
  have hbd : Below w.heap.size w W.drew := hb0.drew
  have hs2' : w.heap.size + 2 ≤ W.drew.heap.size := hs2
  clear hP hX1 a3 HB hs2
  go_wp2_with fail
  by_cases hkk : c3 = k + 1
  · rw [if_pos hkk] at HCat
    subst hkk
    have hkz : (k : Int) ≤ (k : Int) + 1 := by omega
    rw [show k + 1 - (k + 1) = 0 by omega, show n3 - (k + 1) = 0 by omega] at HCat
    refine wp_region_held_drew (S := fun w' => w'.cell? ⟨w.heap.size, 0, none⟩ = some (.slice A0 n0 c0) ∧ w'.cell? ⟨w.heap.size, 1, none⟩ = some (.slice A1 n1 c1) ∧ w'.cell? ⟨w.heap.size, 2, none⟩ = some (.slice A2 n2 c2) ∧ w'.cell? ⟨w.heap.size, 3, none⟩ = some (.slice (some ⟨g, off, none⟩) n3 (k + 1))) (by kernel_rfl) ⟨p0, p1, p2, p3⟩ ?_
    intro hHeld0
    generalize W.drew = w2 at p0 p1 p2 p3 X2 hbd hs2' hHeld0 ⊢
    refine wpAnyH_take (i := 0) (v := ?_) rfl (by kernel_rfl) (by kernel_rfl) (by kernel_rfl) (fun _ _ _ h => h) (Or.inl ⟨by kernel_rfl, ?_⟩) (by assumption) ?_
    rotate_left
    · intro w9 hS9; (try dsimp only at hS9); go_simp; (try with_reducible rfl)
    set_option linter.unusedSimpArgs false in try simp only [Act.put, List.getElem_toArray, List.getElem_cons_succ, List.getElem_cons_zero, List.setIfInBounds_toArray, List.set_cons_zero, List.set_cons_succ]
    refine wpAnyH_take (i := 1) (v := ?_) rfl (by kernel_rfl) (by kernel_rfl) (by kernel_rfl) (fun _ _ _ h => h) (Or.inl ⟨by kernel_rfl, ?_⟩) (by assumption) ?_
    rotate_left
    · intro w9 hS9; (try dsimp only at hS9); go_simp; (try with_reducible rfl)
    set_option linter.unusedSimpArgs false in try simp only [Act.put, List.getElem_toArray, List.getElem_cons_succ, List.getElem_cons_zero, List.setIfInBounds_toArray, List.set_cons_zero, List.set_cons_succ]
    refine wpAnyH_take (i := 2) (v := ?_) rfl (by kernel_rfl) (by kernel_rfl) (by kernel_rfl) (fun _ _ _ h => h) (Or.inl ⟨by kernel_rfl, ?_⟩) (by assumption) ?_
    rotate_left
    · intro w9 hS9; (try dsimp only at hS9); go_simp; (try with_reducible rfl)
    set_option linter.unusedSimpArgs false in try simp only [Act.put, List.getElem_toArray, List.getElem_cons_succ, List.getElem_cons_zero, List.setIfInBounds_toArray, List.set_cons_zero, List.set_cons_succ]
    refine wpAnyH_take (i := 3) (v := ?_) rfl (by kernel_rfl) (by kernel_rfl) (by kernel_rfl) (fun _ _ _ h => h) (Or.inl ⟨by kernel_rfl, ?_⟩) (by assumption) ?_
    rotate_left
    · intro w9 hS9; (try dsimp only at hS9); go_simp; (try with_reducible rfl)
    set_option linter.unusedSimpArgs false in try simp only [Act.put, List.getElem_toArray, List.getElem_cons_succ, List.getElem_cons_zero, List.setIfInBounds_toArray, List.set_cons_zero, List.set_cons_succ]
    refine wpAnyH_take (i := 4) (v := ?_) rfl (by kernel_rfl) (by kernel_rfl) (by kernel_rfl) (fun _ _ _ h => h) (Or.inl ⟨by kernel_rfl, ?_⟩) (by assumption) ?_
    rotate_left
    · intro w9 hS9; (try dsimp only at hS9); go_simp; (try with_reducible rfl)
    set_option linter.unusedSimpArgs false in try simp only [Act.put, List.getElem_toArray, List.getElem_cons_succ, List.getElem_cons_zero, List.setIfInBounds_toArray, List.set_cons_zero, List.set_cons_succ]
    refine wpAnyH_take (i := 5) (v := ?_) rfl (by kernel_rfl) (by kernel_rfl) (by kernel_rfl) (fun _ _ _ h => h) (Or.inl ⟨by kernel_rfl, ?_⟩) (by assumption) ?_
    rotate_left
    · intro w9 hS9; (try dsimp only at hS9); go_simp; (try with_reducible rfl)
    set_option linter.unusedSimpArgs false in try simp only [Act.put, List.getElem_toArray, List.getElem_cons_succ, List.getElem_cons_zero, List.setIfInBounds_toArray, List.set_cons_zero, List.set_cons_succ]
    refine wpAnyH_take (i := 6) (v := ?_) rfl (by kernel_rfl) (by kernel_rfl) (by kernel_rfl) (fun _ _ _ h => h) (Or.inl ⟨by kernel_rfl, ?_⟩) (by assumption) ?_
    rotate_left
    · intro w9 hS9; (try dsimp only at hS9); go_simp; (try with_reducible rfl)
    set_option linter.unusedSimpArgs false in try simp only [Act.put, List.getElem_toArray, List.getElem_cons_succ, List.getElem_cons_zero, List.setIfInBounds_toArray, List.set_cons_zero, List.set_cons_succ]
    refine wpAnyH_take (i := 7) (v := ?_) rfl (by kernel_rfl) (by kernel_rfl) (by kernel_rfl) (fun _ _ _ h => h) (Or.inl ⟨by kernel_rfl, ?_⟩) (by assumption) ?_
    rotate_left
    · intro w9 hS9; (try dsimp only at hS9); go_simp; (try with_reducible rfl)
    set_option linter.unusedSimpArgs false in try simp only [Act.put, List.getElem_toArray, List.getElem_cons_succ, List.getElem_cons_zero, List.setIfInBounds_toArray, List.set_cons_zero, List.set_cons_succ]
    refine wpAnyH_take (i := 8) (v := ?_) rfl (by kernel_rfl) (by kernel_rfl) (by kernel_rfl) (fun _ _ _ h => h) (Or.inl ⟨by kernel_rfl, ?_⟩) (by assumption) ?_
    rotate_left
    · intro w9 hS9; (try dsimp only at hS9); go_simp; (try with_reducible rfl)
    set_option linter.unusedSimpArgs false in try simp only [Act.put, List.getElem_toArray, List.getElem_cons_succ, List.getElem_cons_zero, List.setIfInBounds_toArray, List.set_cons_zero, List.set_cons_succ]
    refine wpAnyH_take (i := 9) (v := ?_) rfl (by kernel_rfl) (by kernel_rfl) (by kernel_rfl) (fun _ _ _ h => h) (Or.inl ⟨by kernel_rfl, ?_⟩) (by assumption) ?_
    rotate_left
    · intro w9 hS9; (try dsimp only at hS9); go_simp; (try with_reducible rfl)
    set_option linter.unusedSimpArgs false in try simp only [Act.put, List.getElem_toArray, List.getElem_cons_succ, List.getElem_cons_zero, List.setIfInBounds_toArray, List.set_cons_zero, List.set_cons_succ]
    refine wpAnyH_ready (rs := [10]) (by kernel_rfl) (by simp) ?_
    refine AllReadyH.cons rfl (fun K hK => ?_) (AllReadyH.nil)
    go_simp
    have pp1 := cell_next p0 (bnew w2 (.cells #[.slice (some ⟨g, off, none⟩) k (k + 1), .slice (some ⟨g, off, none⟩) 0 0] 33))
    have pp2 := cell_next p1 (bnew w2 (.cells #[.slice (some ⟨g, off, none⟩) k (k + 1), .slice (some ⟨g, off, none⟩) 0 0] 33))
    have pp3 := cell_next p2 (bnew w2 (.cells #[.slice (some ⟨g, off, none⟩) k (k + 1), .slice (some ⟨g, off, none⟩) 0 0] 33))
    have pp4 := cell_next p3 (bnew w2 (.cells #[.slice (some ⟨g, off, none⟩) k (k + 1), .slice (some ⟨g, off, none⟩) 0 0] 33))
    have X5 := X2.next (bnew w2 (.cells #[.slice (some ⟨g, off, none⟩) k (k + 1), .slice (some ⟨g, off, none⟩) 0 0] 33))
    have bw6 := bon hbd (bnew w2 (.cells #[.slice (some ⟨g, off, none⟩) k (k + 1), .slice (some ⟨g, off, none⟩) 0 0] 33))
    have hbk : BlkIs (w2.alloc (.cells #[.slice (some ⟨g, off, none⟩) k (k + 1), .slice (some ⟨g, off, none⟩) 0 0] 33)) w2.heap.size 33 #[.slice (some ⟨g, off, none⟩) k (k + 1), .slice (some ⟨g, off, none⟩) 0 0] := blk_new _ _ _ _ rfl
    have hs3 : w.heap.size + 2 ≤ (w2.alloc (.cells #[.slice (some ⟨g, off, none⟩) k (k + 1), .slice (some ⟨g, off, none⟩) 0 0] 33)).heap.size := Nat.le_trans hs2' (bnew w2 (.cells #[.slice (some ⟨g, off, none⟩) k (k + 1), .slice (some ⟨g, off, none⟩) 0 0] 33)).size
    generalize (w2.alloc (.cells #[.slice (some ⟨g, off, none⟩) k (k + 1), .slice (some ⟨g, off, none⟩) 0 0] 33)) = V1 at hs3 hbk X5 bw6 pp1 pp2 pp3 pp4 ⊢
    refine hK.out _ _ ⟨pp1, pp2, pp3, pp4⟩ (fun hHeld7 => ?_)
    clear hK K hHeld0
    set_option linter.unusedSimpArgs false in try simp only [Act.put, List.getElem_toArray, List.getElem_cons_succ, List.getElem_cons_zero, List.setIfInBounds_toArray, List.set_cons_zero, List.set_cons_succ]
    refine wpAnyH_ready (rs := [11]) (by kernel_rfl) (by simp) ?_
    refine AllReadyH.cons rfl (fun K hK => ?_) (AllReadyH.nil)
    go_simp
    go_wp2_with (go_at_call 61; refine (HCat.out _ _ bw6 hbk).mono ?_; rintro e v1 ⟨A4, c4, rfl, hcat, hbc⟩)
    have pp8 := cell_next pp1 hbc
    have pp9 := cell_next pp2 hbc
    have pp10 := cell_next pp3 hbc
    have pp11 := cell_next pp4 hbc
    have X12 := X5.next hbc
    have bw13 := bon bw6 hbc
    refine hK.out _ _ ⟨pp8, pp9, pp10, pp11⟩ (fun hHeld14 => ?_)
    clear hK K hHeld7
    set_option linter.unusedSimpArgs false in try simp only [Act.put, List.getElem_toArray, List.getElem_cons_succ, List.getElem_cons_zero, List.setIfInBounds_toArray, List.set_cons_zero, List.set_cons_succ]
    refine wpAnyH_ready (rs := [12]) (by kernel_rfl) (by simp) ?_
    refine AllReadyH.cons rfl (fun K hK => ?_) (AllReadyH.nil)
    go_simp
    go_wp2_with (go_at_call 50; refine (HW.out _ A4 c4 bw13 hcat).mono ?_; rintro e v2 ⟨R0, d0, R1, d1, R2, d2, R3, d3, md0, md1, md2, rfl, o0, o1, o2, o3, hmd, hbx⟩)
    have pp15 := cell_next pp8 hbx
    have pp16 := cell_next pp9 hbx
    have pp17 := cell_next pp10 hbx
    have pp18 := cell_next pp11 hbx
    have X19 := X12.next hbx
    have bw20 := bon bw13 hbx
    refine hK.out _ _ ⟨pp15, pp16, pp17, pp18⟩ (fun hHeld21 => ?_)
    clear hK K hHeld14
    set_option linter.unusedSimpArgs false in try simp only [Act.put, List.getElem_toArray, List.getElem_cons_succ, List.getElem_cons_zero, List.setIfInBounds_toArray, List.set_cons_zero, List.set_cons_succ]
    refine wpAnyH_take (i := 13) (v := ?_) rfl (by kernel_rfl) (by kernel_rfl) (by kernel_rfl) (fun _ _ _ h => h) (Or.inl ⟨by kernel_rfl, ?_⟩) (by assumption) ?_
    rotate_left
    · intro w9 hS9; (try dsimp only at hS9); go_simp; (try with_reducible rfl)
    set_option linter.unusedSimpArgs false in try simp only [Act.put, List.getElem_toArray, List.getElem_cons_succ, List.getElem_cons_zero, List.setIfInBounds_toArray, List.set_cons_zero, List.set_cons_succ]
    refine wpAnyH_take (i := 14) (v := ?_) rfl (by kernel_rfl) (by kernel_rfl) (by kernel_rfl) (fun _ _ _ h => h) (Or.inl ⟨by kernel_rfl, ?_⟩) (by assumption) ?_
    rotate_left
    · intro w9 hS9; (try dsimp only at hS9); go_simp; (try with_reducible rfl)
    set_option linter.unusedSimpArgs false in try simp only [Act.put, List.getElem_toArray, List.getElem_cons_succ, List.getElem_cons_zero, List.setIfInBounds_toArray, List.set_cons_zero, List.set_cons_succ]
    refine wpAnyH_ready (rs := [15]) (by kernel_rfl) (by simp) ?_
    refine AllReadyH.cons rfl (fun K hK => ?_) (AllReadyH.nil)
    have y0 := X19.cell 0
    have y1 := X19.cell 1
    have y2 := X19.cell 2
    have y3 := X19.cell 3
    simp at y0 y1 y2 y3
    have f0 := X19.frozen 0
    have f1 := X19.frozen 1
    have f2 := X19.frozen 2
    have f3 := X19.frozen 3
    obtain ⟨hF, hgr⟩ := fill4 X19 (.slice R0 m0 d0) (.slice R1 m1 d1) (.slice R2 m2 d2) (.slice R3 m3 d3)
    have hoF : Out (w.heap.size + 1) (w.heap.size + 2) v2 _ := Out.of_grown hgr (fun k hk => by have := Option.some.inj hk; omega)
    go_simp
    refine hK.out _ _ ⟨hoF.cell pp15 (by omega), hoF.cell pp16 (by omega), hoF.cell pp17 (by omega), hoF.cell pp18 (by omega)⟩ (fun hHeld22 => ?_)
    clear hK K hHeld21
    set_option linter.unusedSimpArgs false in try simp only [Act.put, List.getElem_toArray, List.getElem_cons_succ, List.getElem_cons_zero, List.setIfInBounds_toArray, List.set_cons_zero, List.set_cons_succ]
    refine wpAnyH_take (i := 16) (v := ?_) rfl (by kernel_rfl) (by kernel_rfl) (by kernel_rfl) (fun _ _ _ h => h) (Or.inl ⟨by kernel_rfl, ?_⟩) (by assumption) ?_
    rotate_left
    · intro w9 hS9; (try dsimp only at hS9); go_simp; (try with_reducible rfl)
    set_option linter.unusedSimpArgs false in try simp only [Act.put, List.getElem_toArray, List.getElem_cons_succ, List.getElem_cons_zero, List.setIfInBounds_toArray, List.set_cons_zero, List.set_cons_succ]
    refine wpAnyH_done (by kernel_rfl) ?_ _
    have r0 := hF.cell 0
    have r1 := hF.cell 1
    have r2 := hF.cell 2
    have r3 := hF.cell 3
    simp at r0 r1 r2 r3
    have hsz1 : w.heap.size + 2 ≤ v1.heap.size := Nat.le_trans hs3 hbc.size
    have O0 := o0.out hoF (.inl (by omega))
    have O1 := o1.out hoF (.inl (by omega))
    have O2 := o2.out hoF (.inl (by omega))
    have O3 := o3.out hoF (.inl (by omega))
    have bwf := bw20
    have hbF := bwf.trans (hoF.below (Nat.le_succ _) bwf.size)
    have hsF := hoF.size
    clear hF hgr
    go_wp2_with fail
    refine bodyPost_ret (v := .tuple #[.agg #[.slice R0 m0 d0, .slice R1 m1 d1, .slice R2 m2 d2, .slice R3 m3 d3], .bool r]) (by simp [results, Try.results20, go_sem, r0, r1, r2, r3]) rfl ?_
    exact ⟨_, _, _, _, _, _, _, _, md0, md1, md2, rfl, O0.less (by omega), O1, O2, O3.wide (by omega) (Nat.le_refl _), ⟨by omega, by omega, by omega, by omega⟩, hbF⟩
  · rw [if_neg hkk] at HCat
    refine wp_region_held_drew (S := fun w' => w'.cell? ⟨w.heap.size, 0, none⟩ = some (.slice A0 n0 c0) ∧ w'.cell? ⟨w.heap.size, 1, none⟩ = some (.slice A1 n1 c1) ∧ w'.cell? ⟨w.heap.size, 2, none⟩ = some (.slice A2 n2 c2) ∧ w'.cell? ⟨w.heap.size, 3, none⟩ = some (.slice (some ⟨g, off, none⟩) n3 c3)) (by kernel_rfl) ⟨p0, p1, p2, p3⟩ ?_
    intro hHeld0
    generalize W.drew = w2 at p0 p1 p2 p3 X2 hbd hs2' hHeld0 ⊢
    refine wpAnyH_take (i := 0) (v := ?_) rfl (by kernel_rfl) (by kernel_rfl) (by kernel_rfl) (fun _ _ _ h => h) (Or.inl ⟨by kernel_rfl, ?_⟩) (by assumption) ?_
    rotate_left
    · intro w9 hS9; (try dsimp only at hS9); go_simp; (try with_reducible rfl)
    set_option linter.unusedSimpArgs false in try simp only [Act.put, List.getElem_toArray, List.getElem_cons_succ, List.getElem_cons_zero, List.setIfInBounds_toArray, List.set_cons_zero, List.set_cons_succ]
    refine wpAnyH_take (i := 1) (v := ?_) rfl (by kernel_rfl) (by kernel_rfl) (by kernel_rfl) (fun _ _ _ h => h) (Or.inl ⟨by kernel_rfl, ?_⟩) (by assumption) ?_
    rotate_left
    · intro w9 hS9; (try dsimp only at hS9); go_simp; (try with_reducible rfl)
    set_option linter.unusedSimpArgs false in try simp only [Act.put, List.getElem_toArray, List.getElem_cons_succ, List.getElem_cons_zero, List.setIfInBounds_toArray, List.set_cons_zero, List.set_cons_succ]
    refine wpAnyH_take (i := 2) (v := ?_) rfl (by kernel_rfl) (by kernel_rfl) (by kernel_rfl) (fun _ _ _ h => h) (Or.inl ⟨by kernel_rfl, ?_⟩) (by assumption) ?_
    rotate_left
    · intro w9 hS9; (try dsimp only at hS9); go_simp; (try with_reducible rfl)
    set_option linter.unusedSimpArgs false in try simp only [Act.put, List.getElem_toArray, List.getElem_cons_succ, List.getElem_cons_zero, List.setIfInBounds_toArray, List.set_cons_zero, List.set_cons_succ]
    refine wpAnyH_take (i := 3) (v := ?_) rfl (by kernel_rfl) (by kernel_rfl) (by kernel_rfl) (fun _ _ _ h => h) (Or.inl ⟨by kernel_rfl, ?_⟩) (by assumption) ?_
    rotate_left
    · intro w9 hS9; (try dsimp only at hS9); go_simp; (try with_reducible rfl)
    set_option linter.unusedSimpArgs false in try simp only [Act.put, List.getElem_toArray, List.getElem_cons_succ, List.getElem_cons_zero, List.setIfInBounds_toArray, List.set_cons_zero, List.set_cons_succ]
    refine wpAnyH_take (i := 4) (v := ?_) rfl (by kernel_rfl) (by kernel_rfl) (by kernel_rfl) (fun _ _ _ h => h) (Or.inl ⟨by kernel_rfl, ?_⟩) (by assumption) ?_
    rotate_left
    · intro w9 hS9; (try dsimp only at hS9); go_simp; (try with_reducible rfl)
    set_option linter.unusedSimpArgs false in try simp only [Act.put, List.getElem_toArray, List.getElem_cons_succ, List.getElem_cons_zero, List.setIfInBounds_toArray, List.set_cons_zero, List.set_cons_succ]
    refine wpAnyH_take (i := 5) (v := ?_) rfl (by kernel_rfl) (by kernel_rfl) (by kernel_rfl) (fun _ _ _ h => h) (Or.inl ⟨by kernel_rfl, ?_⟩) (by assumption) ?_
    rotate_left
    · intro w9 hS9; (try dsimp only at hS9); go_simp; (try with_reducible rfl)
    set_option linter.unusedSimpArgs false in try simp only [Act.put, List.getElem_toArray, List.getElem_cons_succ, List.getElem_cons_zero, List.setIfInBounds_toArray, List.set_cons_zero, List.set_cons_succ]
    refine wpAnyH_take (i := 6) (v := ?_) rfl (by kernel_rfl) (by kernel_rfl) (by kernel_rfl) (fun _ _ _ h => h) (Or.inl ⟨by kernel_rfl, ?_⟩) (by assumption) ?_
    rotate_left
    · intro w9 hS9; (try dsimp only at hS9); go_simp; (try with_reducible rfl)
    set_option linter.unusedSimpArgs false in try simp only [Act.put, List.getElem_toArray, List.getElem_cons_succ, List.getElem_cons_zero, List.setIfInBounds_toArray, List.set_cons_zero, List.set_cons_succ]
    refine wpAnyH_take (i := 7) (v := ?_) rfl (by kernel_rfl) (by kernel_rfl) (by kernel_rfl) (fun _ _ _ h => h) (Or.inl ⟨by kernel_rfl, ?_⟩) (by assumption) ?_
    rotate_left
    · intro w9 hS9; (try dsimp only at hS9); go_simp; (try with_reducible rfl)
    set_option linter.unusedSimpArgs false in try simp only [Act.put, List.getElem_toArray, List.getElem_cons_succ, List.getElem_cons_zero, List.setIfInBounds_toArray, List.set_cons_zero, List.set_cons_succ]
    refine wpAnyH_take (i := 8) (v := ?_) rfl (by kernel_rfl) (by kernel_rfl) (by kernel_rfl) (fun _ _ _ h => h) (Or.inl ⟨by kernel_rfl, ?_⟩) (by assumption) ?_
    rotate_left
    · intro w9 hS9; (try dsimp only at hS9); go_simp; (try with_reducible rfl)
    set_option linter.unusedSimpArgs false in try simp only [Act.put, List.getElem_toArray, List.getElem_cons_succ, List.getElem_cons_zero, List.setIfInBounds_toArray, List.set_cons_zero, List.set_cons_succ]
    refine wpAnyH_take (i := 9) (v := ?_) rfl (by kernel_rfl) (by kernel_rfl) (by kernel_rfl) (fun _ _ _ h => h) (Or.inl ⟨by kernel_rfl, ?_⟩) (by assumption) ?_
    rotate_left
    · intro w9 hS9; (try dsimp only at hS9); go_simp; (try with_reducible rfl)
    set_option linter.unusedSimpArgs false in try simp only [Act.put, List.getElem_toArray, List.getElem_cons_succ, List.getElem_cons_zero, List.setIfInBounds_toArray, List.set_cons_zero, List.set_cons_succ]
    refine wpAnyH_ready (rs := [10]) (by kernel_rfl) (by simp) ?_
    refine AllReadyH.cons rfl (fun K hK => ?_) (AllReadyH.nil)
    go_simp
    have pp1 := cell_next p0 (bnew w2 (.cells #[.slice (some ⟨g, off, none⟩) k c3, .slice (some ⟨g, off + (k + 1) * 2, none⟩) (n3 - (k + 1)) (c3 - (k + 1))] 33))
    have pp2 := cell_next p1 (bnew w2 (.cells #[.slice (some ⟨g, off, none⟩) k c3, .slice (some ⟨g, off + (k + 1) * 2, none⟩) (n3 - (k + 1)) (c3 - (k + 1))] 33))
    have pp3 := cell_next p2 (bnew w2 (.cells #[.slice (some ⟨g, off, none⟩) k c3, .slice (some ⟨g, off + (k + 1) * 2, none⟩) (n3 - (k + 1)) (c3 - (k + 1))] 33))
    have pp4 := cell_next p3 (bnew w2 (.cells #[.slice (some ⟨g, off, none⟩) k c3, .slice (some ⟨g, off + (k + 1) * 2, none⟩) (n3 - (k + 1)) (c3 - (k + 1))] 33))
    have X5 := X2.next (bnew w2 (.cells #[.slice (some ⟨g, off, none⟩) k c3, .slice (some ⟨g, off + (k + 1) * 2, none⟩) (n3 - (k + 1)) (c3 - (k + 1))] 33))
    have bw6 := bon hbd (bnew w2 (.cells #[.slice (some ⟨g, off, none⟩) k c3, .slice (some ⟨g, off + (k + 1) * 2, none⟩) (n3 - (k + 1)) (c3 - (k + 1))] 33))
    have hbk : BlkIs (w2.alloc (.cells #[.slice (some ⟨g, off, none⟩) k c3, .slice (some ⟨g, off + (k + 1) * 2, none⟩) (n3 - (k + 1)) (c3 - (k + 1))] 33)) w2.heap.size 33 #[.slice (some ⟨g, off, none⟩) k c3, .slice (some ⟨g, off + (k + 1) * 2, none⟩) (n3 - (k + 1)) (c3 - (k + 1))] := blk_new _ _ _ _ rfl
    have hs3 : w.heap.size + 2 ≤ (w2.alloc (.cells #[.slice (some ⟨g, off, none⟩) k c3, .slice (some ⟨g, off + (k + 1) * 2, none⟩) (n3 - (k + 1)) (c3 - (k + 1))] 33)).heap.size := Nat.le_trans hs2' (bnew w2 (.cells #[.slice (some ⟨g, off, none⟩) k c3, .slice (some ⟨g, off + (k + 1) * 2, none⟩) (n3 - (k + 1)) (c3 - (k + 1))] 33)).size
    generalize (w2.alloc (.cells #[.slice (some ⟨g, off, none⟩) k c3, .slice (some ⟨g, off + (k + 1) * 2, none⟩) (n3 - (k + 1)) (c3 - (k + 1))] 33)) = V1 at hs3 hbk X5 bw6 pp1 pp2 pp3 pp4 ⊢
    refine hK.out _ _ ⟨pp1, pp2, pp3, pp4⟩ (fun hHeld7 => ?_)
    clear hK K hHeld0
    set_option linter.unusedSimpArgs false in try simp only [Act.put, List.getElem_toArray, List.getElem_cons_succ, List.getElem_cons_zero, List.setIfInBounds_toArray, List.set_cons_zero, List.set_cons_succ]
    refine wpAnyH_ready (rs := [11]) (by kernel_rfl) (by simp) ?_
    refine AllReadyH.cons rfl (fun K hK => ?_) (AllReadyH.nil)
    go_simp
    go_wp2_with (go_at_call 61; refine (HCat.out _ _ bw6 hbk).mono ?_; rintro e v1 ⟨A4, c4, rfl, hcat, hbc⟩)
    have pp8 := cell_next pp1 hbc
    have pp9 := cell_next pp2 hbc
    have pp10 := cell_next pp3 hbc
    have pp11 := cell_next pp4 hbc
    have X12 := X5.next hbc
    have bw13 := bon bw6 hbc
    refine hK.out _ _ ⟨pp8, pp9, pp10, pp11⟩ (fun hHeld14 => ?_)
    clear hK K hHeld7
    set_option linter.unusedSimpArgs false in try simp only [Act.put, List.getElem_toArray, List.getElem_cons_succ, List.getElem_cons_zero, List.setIfInBounds_toArray, List.set_cons_zero, List.set_cons_succ]
    refine wpAnyH_ready (rs := [12]) (by kernel_rfl) (by simp) ?_
    refine AllReadyH.cons rfl (fun K hK => ?_) (AllReadyH.nil)
    go_simp
    go_wp2_with (go_at_call 50; refine (HW.out _ A4 c4 bw13 hcat).mono ?_; rintro e v2 ⟨R0, d0, R1, d1, R2, d2, R3, d3, md0, md1, md2, rfl, o0, o1, o2, o3, hmd, hbx⟩)
    have pp15 := cell_next pp8 hbx
    have pp16 := cell_next pp9 hbx
    have pp17 := cell_next pp10 hbx
    have pp18 := cell_next pp11 hbx
    have X19 := X12.next hbx
    have bw20 := bon bw13 hbx
    refine hK.out _ _ ⟨pp15, pp16, pp17, pp18⟩ (fun hHeld21 => ?_)
    clear hK K hHeld14
    set_option linter.unusedSimpArgs false in try simp only [Act.put, List.getElem_toArray, List.getElem_cons_succ, List.getElem_cons_zero, List.setIfInBounds_toArray, List.set_cons_zero, List.set_cons_succ]
    refine wpAnyH_take (i := 13) (v := ?_) rfl (by kernel_rfl) (by kernel_rfl) (by kernel_rfl) (fun _ _ _ h => h) (Or.inl ⟨by kernel_rfl, ?_⟩) (by assumption) ?_
    rotate_left
    · intro w9 hS9; (try dsimp only at hS9); go_simp; (try with_reducible rfl)
    set_option linter.unusedSimpArgs false in try simp only [Act.put, List.getElem_toArray, List.getElem_cons_succ, List.getElem_cons_zero, List.setIfInBounds_toArray, List.set_cons_zero, List.set_cons_succ]
    refine wpAnyH_take (i := 14) (v := ?_) rfl (by kernel_rfl) (by kernel_rfl) (by kernel_rfl) (fun _ _ _ h => h) (Or.inl ⟨by kernel_rfl, ?_⟩) (by assumption) ?_
    rotate_left
    · intro w9 hS9; (try dsimp only at hS9); go_simp; (try with_reducible rfl)
    set_option linter.unusedSimpArgs false in try simp only [Act.put, List.getElem_toArray, List.getElem_cons_succ, List.getElem_cons_zero, List.setIfInBounds_toArray, List.set_cons_zero, List.set_cons_succ]
    refine wpAnyH_ready (rs := [15]) (by kernel_rfl) (by simp) ?_
    refine AllReadyH.cons rfl (fun K hK => ?_) (AllReadyH.nil)
    have y0 := X19.cell 0
    have y1 := X19.cell 1
    have y2 := X19.cell 2
    have y3 := X19.cell 3
    simp at y0 y1 y2 y3
    have f0 := X19.frozen 0
    have f1 := X19.frozen 1
    have f2 := X19.frozen 2
    have f3 := X19.frozen 3
    obtain ⟨hF, hgr⟩ := fill4 X19 (.slice R0 m0 d0) (.slice R1 m1 d1) (.slice R2 m2 d2) (.slice R3 m3 d3)
    have hoF : Out (w.heap.size + 1) (w.heap.size + 2) v2 _ := Out.of_grown hgr (fun k hk => by have := Option.some.inj hk; omega)
    go_simp
    refine hK.out _ _ ⟨hoF.cell pp15 (by omega), hoF.cell pp16 (by omega), hoF.cell pp17 (by omega), hoF.cell pp18 (by omega)⟩ (fun hHeld22 => ?_)
    clear hK K hHeld21
    set_option linter.unusedSimpArgs false in try simp only [Act.put, List.getElem_toArray, List.getElem_cons_succ, List.getElem_cons_zero, List.setIfInBounds_toArray, List.set_cons_zero, List.set_cons_succ]
    refine wpAnyH_take (i := 16) (v := ?_) rfl (by kernel_rfl) (by kernel_rfl) (by kernel_rfl) (fun _ _ _ h => h) (Or.inl ⟨by kernel_rfl, ?_⟩) (by assumption) ?_
    rotate_left
    · intro w9 hS9; (try dsimp only at hS9); go_simp; (try with_reducible rfl)
    set_option linter.unusedSimpArgs false in try simp only [Act.put, List.getElem_toArray, List.getElem_cons_succ, List.getElem_cons_zero, List.setIfInBounds_toArray, List.set_cons_zero, List.set_cons_succ]
    refine wpAnyH_done (by kernel_rfl) ?_ _
    have r0 := hF.cell 0
    have r1 := hF.cell 1
    have r2 := hF.cell 2
    have r3 := hF.cell 3
    simp at r0 r1 r2 r3
    have hsz1 : w.heap.size + 2 ≤ v1.heap.size := Nat.le_trans hs3 hbc.size
    have O0 := o0.out hoF (.inl (by omega))
    have O1 := o1.out hoF (.inl (by omega))
    have O2 := o2.out hoF (.inl (by omega))
    have O3 := o3.out hoF (.inl (by omega))
    have bwf := bw20
    have hbF := bwf.trans (hoF.below (Nat.le_succ _) bwf.size)
    have hsF := hoF.size
    clear hF hgr
    go_wp2_with fail
    refine bodyPost_ret (v := .tuple #[.agg #[.slice R0 m0 d0, .slice R1 m1 d1, .slice R2 m2 d2, .slice R3 m3 d3], .bool r]) (by simp [results, Try.results20, go_sem, r0, r1, r2, r3]) rfl ?_
    exact ⟨_, _, _, _, _, _, _, _, md0, md1, md2, rfl, O0.less (by omega), O1, O2, O3.wide (by omega) (Nat.le_refl _), ⟨by omega, by omega, by omega, by omega⟩, hbF⟩
end
end Go.Proofs.Ytglbkbdljjaioaa

/-! Passes over annotated code, as lists: an instruction left out, idle jumps, threaded jumps. No conditions. -/
namespace Go.Proofs.Ytglbkbdljjaioaa
set_option linter.unusedVariables false

/-- An instruction, and a point, behind an instruction k that is left out. -/
def subI (k : Int) (x : Int × Int) : Int × Int := if (x.1 = 5 ∨ x.1 = 6) ∧ k < x.2 then (x.1, x.2 - 1) else x
def subP (k : Int) (p : P2) : P2 := if k < p.a then ⟨p.a - 1, p.s⟩ else p
def leaveC (k : Nat) (xs : List (Int × Int)) : List (Int × Int) := (xs.take k ++ xs.drop (k + 1)).map (subI k)
def leaveP (k : Nat) (ps : List P2) : List P2 := ps.map (subP k)
theorem leaveC_len {k : Nat} {xs : List (Int × Int)} (h : k < xs.length) : (leaveC k xs).length = xs.length - 1 := by
  simp [leaveC]; omega
theorem leaveP_len (k : Nat) (ps : List P2) : (leaveP k ps).length = ps.length := by simp [leaveP]
theorem leaveP_at {k j : Nat} {ps : List P2} {p : P2} (h : ps[j]? = some p) : (leaveP k ps)[j]? = some (subP k p) := by simp [leaveP, h]
theorem subP_s (k : Int) (p : P2) : (subP k p).s = p.s := by unfold subP; split <;> rfl
/-- Whether there is a point at a place. -/
def ptB (ps : List P2) (k : Int) : Bool := ps.any fun p => decide (p.a = k)
theorem ptB_take_no {ps : List P2} {k : Int} {j : Nat} {p : P2} (h : ptB (ps.take j) k = false) (hp : ps[j]? = some p) (hn : p.a ≠ k) : ptB (ps.take (j + 1)) k = false := by
  rw [List.take_add_one, hp]
  unfold ptB at h ⊢
  rw [List.any_append, h]
  simp [hn]
theorem ptB_yes {ps : List P2} {k : Int} {j : Nat} {p : P2} (hp : ps[j]? = some p) (hn : p.a = k) : ptB ps k = true := by
  unfold ptB
  rw [List.any_eq_true]
  exact ⟨p, List.mem_of_getElem? hp, by simp [hn]⟩
theorem ptB_all {ps : List P2} {k : Int} {j : Nat} (h : ptB (ps.take j) k = false) (hj : ps.length ≤ j) : ptB ps k = false := by
  rwa [List.take_of_length_le hj] at h
/-- DropIdleJumps at an instruction, and at all instructions below n, the last one first. -/
def idleB (k : Nat) (xs : List (Int × Int)) (ps : List P2) : Bool := decide (1 < xs.length) && decide (xs[k]? = some (5, (k : Int) + 1)) && !ptB ps k
def idle1 (k : Nat) (s : List (Int × Int) × List P2) : List (Int × Int) × List P2 := if idleB k s.1 s.2 then (leaveC k s.1, leaveP k s.2) else s
def idleN : Nat → List (Int × Int) × List P2 → List (Int × Int) × List P2
  | 0, s => s
  | k + 1, s => idleN k (idle1 k s)
theorem idle1_len {k : Nat} {s : List (Int × Int) × List P2} (h : k < s.1.length) : k ≤ (idle1 k s).1.length ∧ (idle1 k s).1.length ≤ s.1.length ∧ (idle1 k s).2.length = s.2.length := by
  unfold idle1
  split
  · have := leaveC_len h; exact ⟨by simp only; omega, by simp only; omega, leaveP_len _ _⟩
  · exact ⟨by omega, by omega, rfl⟩

/-! ThreadJumps. -/
/-- Whether an instruction of an operation is at a place, and no point. -/
def openB (op : Int) (xs : List (Int × Int)) (ps : List P2) (k : Int) : Bool := decide (0 ≤ k) && (match xs[k.toNat]? with | some x => decide (x.1 = op) | none => false) && !ptB ps k
def nextJ (xs : List (Int × Int)) (k : Int) : Int := match xs[k.toNat]? with | some x => x.2 | none => k
/-- Over i jumps, as long as there is one. -/
def overJ (xs : List (Int × Int)) (k : Int) : Nat → Int
  | 0 => k
  | i + 1 => nextJ xs (overJ xs k i)
def allJ (xs : List (Int × Int)) (ps : List P2) (k : Int) (i : Nat) : Prop := ∀ j, j < i → openB 5 xs ps (overJ xs k j) = true
/-- The end of the jumps from a place on. -/
def FinalJ (xs : List (Int × Int)) (ps : List P2) (k e : Int) : Prop :=
  (∃ i, allJ xs ps k i ∧ openB 5 xs ps (overJ xs k i) = false ∧ e = overJ xs k i) ∨ ((∀ i, allJ xs ps k i) ∧ e = k)
theorem openB_lt {op : Int} {xs : List (Int × Int)} {ps : List P2} {k : Int} (h : openB op xs ps k = true) : 0 ≤ k ∧ k < xs.length := by
  unfold openB at h
  simp only [Bool.and_eq_true, decide_eq_true_eq] at h
  obtain ⟨⟨h0, h1⟩, _⟩ := h
  split at h1
  · rename_i x hx
    have := (List.getElem?_eq_some_iff.1 hx).1
    omega
  · cases h1
theorem allJ_succ {xs : List (Int × Int)} {ps : List P2} {k : Int} {i : Nat} (h : allJ xs ps k i) (ho : openB 5 xs ps (overJ xs k i) = true) : allJ xs ps k (i + 1) := fun j hj => by
  by_cases e : j = i
  · subst e; exact ho
  · exact h j (by omega)
theorem FinalJ.uniq {xs : List (Int × Int)} {ps : List P2} {k e e' : Int} (h : FinalJ xs ps k e) (h' : FinalJ xs ps k e') : e = e' := by
  rcases h with ⟨i, a, b, rfl⟩ | ⟨a, rfl⟩ <;> rcases h' with ⟨j, c, d, rfl⟩ | ⟨c, rfl⟩
  · have : i = j := by
      rcases Nat.lt_trichotomy i j with h | h | h
      · have := c i h; rw [b] at this; cases this
      · exact h
      · have := a j h; rw [d] at this; cases this
    rw [this]
  · have := c (i + 1) i (by omega); rw [b] at this; cases this
  · have := a (j + 1) j (by omega); rw [d] at this; cases this
  · rfl
/-- A way that comes to a place again goes on for ever. -/
theorem overJ_add (xs : List (Int × Int)) (k : Int) (i j : Nat) : overJ xs (overJ xs k i) j = overJ xs k (i + j) := by
  induction j with
  | zero => rfl
  | succ j ih => show nextJ xs _ = nextJ xs _; rw [ih]; rfl
theorem loop_ever {xs : List (Int × Int)} {ps : List P2} {k : Int} {i j : Nat} (h : allJ xs ps k j) (hij : i < j) (he : overJ xs k i = overJ xs k j) : ∀ n, allJ xs ps k n := by
  have key : ∀ n, openB 5 xs ps (overJ xs k n) = true := by
    intro n
    induction n using Nat.strongRecOn with
    | ind n ih =>
      by_cases hn : n < j
      · exact h n hn
      · have e : overJ xs k n = overJ xs k (i + (n - j)) := by
          rw [← overJ_add xs k i, he, overJ_add, show j + (n - j) = n by omega]
        rw [e]
        exact ih _ (by omega)
  exact fun n j _ => key j
/-- Many numbers below n: two of them are one. -/
theorem pigeon : ∀ (n : Nat) (f : Nat → Int), (∀ i, i ≤ n → 0 ≤ f i ∧ f i < n) → ∃ i j, i < j ∧ j ≤ n ∧ f i = f j := by
  intro n
  induction n with
  | zero => intro f h; have := h 0 (Nat.le_refl _); omega
  | succ n ih =>
    intro f h
    by_cases hx : ∃ i, i ≤ n ∧ f i = f (n + 1)
    · obtain ⟨i, hi, e⟩ := hx
      exact ⟨i, n + 1, by omega, Nat.le_refl _, e⟩
    · have hne : ∀ i, i ≤ n → f i ≠ f (n + 1) := fun i hi e => hx ⟨i, hi, e⟩
      have hl := h (n + 1) (Nat.le_refl _)
      obtain ⟨i, j, h1, h2, h3⟩ := ih (fun i => if f i < f (n + 1) then f i else f i - 1) (fun i hi => by
        have h0 := h i (by omega)
        have h1 := hne i hi
        show 0 ≤ (if f i < f (n + 1) then f i else f i - 1) ∧ (if f i < f (n + 1) then f i else f i - 1) < (n : Int)
        split <;> omega)
      refine ⟨i, j, h1, by omega, ?_⟩
      have hi := hne i (by omega)
      have hj := hne j (by omega)
      split at h3 <;> split at h3 <;> omega
theorem ever_of {xs : List (Int × Int)} {ps : List P2} {k : Int} (h : allJ xs ps k (xs.length + 1)) : ∀ n, allJ xs ps k n := by
  obtain ⟨i, j, h1, h2, h3⟩ := pigeon xs.length (overJ xs k) (fun i hi => openB_lt (h i (by omega)))
  exact loop_ever (fun m hm => h m (by omega)) h1 h3
theorem FinalJ.stop {xs : List (Int × Int)} {ps : List P2} {k : Int} {i : Nat} (h : allJ xs ps k i) (hn : openB 5 xs ps (overJ xs k i) = false) : FinalJ xs ps k (overJ xs k i) := .inl ⟨i, h, hn, rfl⟩
theorem FinalJ.long {xs : List (Int × Int)} {ps : List P2} {k : Int} (h : allJ xs ps k (xs.length + 1)) : FinalJ xs ps k k := .inr ⟨ever_of h, rfl⟩
theorem FinalJ.loop {xs : List (Int × Int)} {ps : List P2} {k : Int} {i j : Nat} (h : allJ xs ps k j) (hij : i < j) (he : overJ xs k i = overJ xs k j) : FinalJ xs ps k k := .inr ⟨loop_ever h hij he, rfl⟩
/-- The same, by so many jumps. -/
def finG (xs : List (Int × Int)) (ps : List P2) (k : Int) : Nat → Int → Int
  | 0, _ => k
  | f + 1, now => if openB 5 xs ps now then finG xs ps k f (nextJ xs now) else now
def finJ (xs : List (Int × Int)) (ps : List P2) (k : Int) : Int := finG xs ps k (xs.length + 1) k
theorem finG_is {xs : List (Int × Int)} {ps : List P2} {k : Int} : ∀ (f i : Nat), f + i = xs.length + 1 → allJ xs ps k i → FinalJ xs ps k (finG xs ps k f (overJ xs k i)) := by
  intro f
  induction f with
  | zero => intro i h ha; exact FinalJ.long (by rw [show xs.length + 1 = i by omega]; exact ha)
  | succ f ih =>
    intro i h ha
    unfold finG
    by_cases ho : openB 5 xs ps (overJ xs k i) = true
    · rw [if_pos ho]
      exact ih (i + 1) (by omega) (allJ_succ ha ho)
    · rw [if_neg ho]
      exact FinalJ.stop ha (by simpa using ho)
theorem finJ_is (xs : List (Int × Int)) (ps : List P2) (k : Int) : FinalJ xs ps k (finJ xs ps k) := finG_is (i := 0) _ rfl (fun j hj => by omega)
theorem finJ_eq {xs : List (Int × Int)} {ps : List P2} {k e : Int} (h : FinalJ xs ps k e) : finJ xs ps k = e := (finJ_is xs ps k).uniq h
/-- An instruction, and all of them, behind ThreadJumps. -/
def thr1 (xs : List (Int × Int)) (ps : List P2) (x : Int × Int) : Int × Int :=
  if x.1 = 5 then (if openB 11 xs ps (finJ xs ps x.2) then (11, 0) else (5, finJ xs ps x.2)) else if x.1 = 6 then (6, finJ xs ps x.2) else x
def thrL (xs : List (Int × Int)) (ps : List P2) : List (Int × Int) := xs.map (thr1 xs ps)

/-! Bounds of the numbers. -/
def BndC (xs : List (Int × Int)) : Prop := ∀ x ∈ xs, -1000000 ≤ x.2 ∧ x.2 ≤ 1000000
def BndP (ps : List P2) : Prop := ∀ p ∈ ps, 0 ≤ p.a ∧ p.a ≤ 1000000
theorem BndC.leave {k : Nat} {xs : List (Int × Int)} (h : BndC xs) : BndC (leaveC k xs) := by
  intro x hx
  obtain ⟨y, hy, rfl⟩ := List.mem_map.1 hx
  have hy' : y ∈ xs := by
    rcases List.mem_append.1 hy with hy | hy
    · exact List.mem_of_mem_take hy
    · exact List.mem_of_mem_drop hy
  have := h y hy'
  unfold subI
  split
  · rename_i hc; have := hc.2; simp only; omega
  · exact this
theorem BndP.leave {k : Nat} {ps : List P2} (h : BndP ps) : BndP (leaveP k ps) := by
  intro p hp
  obtain ⟨q, hq, rfl⟩ := List.mem_map.1 hp
  have := h q hq
  unfold subP
  split
  · simp only; omega
  · exact this
/-- Points of which the first i have been changed. -/
def mixF (f : P2 → P2) (i : Nat) (ps : List P2) : List P2 := (ps.take i).map f ++ ps.drop i
theorem mixF_zero (f : P2 → P2) (ps : List P2) : mixF f 0 ps = ps := rfl
theorem mixF_all {f : P2 → P2} {i : Nat} {ps : List P2} (h : ps.length ≤ i) : mixF f i ps = ps.map f := by
  unfold mixF; rw [List.take_of_length_le h, List.drop_of_length_le h, List.append_nil]
theorem mixF_len (f : P2 → P2) (i : Nat) (ps : List P2) : (mixF f i ps).length = ps.length := by
  unfold mixF; rw [List.length_append, List.length_map, List.length_take, List.length_drop]; omega
theorem mixF_at {f : P2 → P2} {i : Nat} {ps : List P2} {p : P2} (h : ps[i]? = some p) : (mixF f i ps)[i]? = some p := by
  have hl := (List.getElem?_eq_some_iff.1 h).1
  unfold mixF
  rw [List.getElem?_append_right (by simp; omega), List.length_map, List.length_take, Nat.min_eq_left (by omega), Nat.sub_self, List.getElem?_drop, Nat.add_zero]
  exact h
theorem mixF_set {f : P2 → P2} {i : Nat} {ps : List P2} {p : P2} (h : ps[i]? = some p) : (mixF f i ps).set i (f p) = mixF f (i + 1) ps := by
  have hl := (List.getElem?_eq_some_iff.1 h).1
  have hln : ((ps.take i).map f).length = i := by simp; omega
  unfold mixF
  rw [List.set_append_right _ _ (by omega), hln, Nat.sub_self, drop_at h, List.set_cons_zero, List.take_add_one, h]
  simp
theorem mixF_same {f : P2 → P2} {i : Nat} {ps : List P2} {p : P2} (h : ps[i]? = some p) (hf : f p = p) : mixF f (i + 1) ps = mixF f i ps := by
  unfold mixF
  rw [drop_at h, List.take_add_one, h]
  simp [hf]
theorem annB_bnd {t0 t1 : List (Int × List Int)} {xs : List (Int × Int)} {ps : List P2} (h : annB t0 t1 xs ps = true) : BndC xs ∧ BndP ps := by
  obtain ⟨hc, _, _, hp⟩ := annB_parts h
  refine ⟨fun x hx => instrB_arg ((codeB_parts hc).2.2 x hx), ?_⟩
  have key : ∀ {ps : List P2} {l : Int}, 0 ≤ l → ptsF (xs.length : Int) l ps = true → BndP ps := by
    intro ps
    induction ps with
    | nil => intro l _ _ p hp; cases hp
    | cons q ps ih =>
      intro l hl h p hp
      unfold ptsF at h
      simp only [Bool.and_eq_true, decide_eq_true_eq] at h
      have hx := (codeB_parts hc).2.1
      rcases List.mem_cons.1 hp with rfl | hp
      · omega
      · exact ih (by omega) h.2 p hp
  unfold ptsB at hp
  simp only [Bool.and_eq_true, decide_eq_true_eq] at hp
  exact key (Int.le_refl 0) hp.2
end Go.Proofs.Ytglbkbdljjaioaa

/-! The model's splice of one instruction that is left out. Conditions: valid code. -/
namespace Go.Proofs.Ytglbkbdljjaioaa
set_option linter.unusedVariables false
open Go.RowKit

set_option maxRecDepth 100000 in
set_option maxHeartbeats 2000000 in
theorem l09Point_c (b : Nat) (A : Option Addr) (n c B : Nat) (ps : List P2) (k : Int) (w : World) (p3 : w.cell? ⟨b, 3, none⟩ = some (.slice A n c)) (h : InP2 w B A n ps) (hn : n ≤ 1048576) :
    Calls Try.prog 112 #[.pointer (some ⟨b, 0, none⟩), .int .i64 k] w fun e w' => e = .returned (.bool (ptB ps k)) ∧ w = w' := by
  have hl := Lib.hid h.1
  go_enter Try.func112, Try.ntmps112
  go_wp2_with fail
  go_loop [5] (fun i => ∃ j : Nat, j ≤ n ∧ i = .int .i64 j ∧ Hid (ptB (ps.take j) k = false)) (fun i => n - (intOf i).toNat)
  case atStart => exact ⟨0, Nat.zero_le _, rfl, Lib.hid rfl⟩
  case round =>
    obtain ⟨j, hj, rfl, ha⟩ := hrel
    by_cases hlt : j < n
    · obtain ⟨b', off, x, rfl, hb, hx, A0, n0, c0, q0, q1, kf⟩ := h.at_ hlt
      clear q1 kf
      by_cases hk : x.a = k
      · have e0 : (x.a == k) = true := by simp [hk]
        have HN := Lib.hid (ptB_yes hx hk)
        clear hx ha hk
        go_wp2_with fail
        go_ret
        exact ⟨ret_bool HN.out.symm, rfl⟩
      · have e0 : (x.a == k) = false := by simp [hk]
        have HS := Lib.hid (ptB_take_no ha.out hx hk)
        clear hx ha hk
        go_wp2_with fail
        go_round
        case rel => exact ⟨j + 1, by omega, by go_num, HS⟩
        case measure => simp [intOf]; omega
    · have HN := Lib.hid (ptB_all ha.out (by rw [hl.out]; omega))
      clear ha
      go_wp2_with fail
      go_ret
      exact ⟨ret_bool HN.out.symm, rfl⟩

theorem l09Jumps_c (p q : Int) (w : World) : Calls Try.prog 124 #[.agg #[.int .i64 p, .int .i64 q]] w fun e w' => e = .returned (.bool (decide (p = 5 ∨ p = 6))) ∧ Below w.heap.size w w' := by
  by_cases h5 : p = 5
  · have e5 : (p == 5) = true := by simp [h5]
    clear h5
    go_enter Try.func124, Try.ntmps124
    go_wp2_with fail
    go_ret
    exact ⟨ret_bool (by simp_all), bnew _ _⟩
  · have e5 : (p == 5) = false := by simp [h5]
    by_cases h6 : p = 6
    · have e6 : (p == 6) = true := by simp [h6]
      clear h5 h6
      go_enter Try.func124, Try.ntmps124
      go_wp2_with fail
      go_ret
      exact ⟨ret_bool (by simp_all), bnew _ _⟩
    · have e6 : (p == 6) = false := by simp [h6]
      clear h5 h6
      go_enter Try.func124, Try.ntmps124
      go_wp2_with fail
      go_ret
      exact ⟨ret_bool (by simp_all), bnew _ _⟩

theorem PRow.set_a {w : World} {base n g c : Nat} {xs : List P2} {j : Nat} {x : P2} {z : Int} (h : PRow w base (.slice (some ⟨g, 0, none⟩) n c) n xs) (hx : xs[j]? = some x) : PRow (w.setCell ⟨g, j * 2, none⟩ (.int .i64 z)) base (.slice (some ⟨g, 0, none⟩) n c) n (xs.set j ⟨z, x.s⟩) := by
  obtain ⟨h1, cs, h3, h4⟩ := h
  have hjl := (List.getElem?_eq_some_iff.1 hx).1
  have hcl := h3.1
  refine ⟨by rw [List.length_set]; exact h1, _, (h3.stored (j * 2) (.int .i64 z)).1, fun i y hi => ?_⟩
  have hno := own_noP h3
  have hg : w.grownBy (w.setCell ⟨g, j * 2, none⟩ (.int .i64 z)) (some g) := only_set
  rw [List.getElem?_set] at hi
  split at hi
  · rename_i e
    subst e
    obtain rfl := Option.some.inj hi
    obtain ⟨a, A', c', b, d⟩ := h4 j x hx
    exact ⟨List.getElem?_set_self (by omega), A', c', by rw [List.getElem?_set_ne (by omega)]; exact b, d.kept hg hno⟩
  · obtain ⟨a, A', c', b, d⟩ := h4 i y hi
    exact ⟨by rw [List.getElem?_set_ne (by omega)]; exact a, A', c', by rw [List.getElem?_set_ne (by omega)]; exact b, d.kept hg hno⟩
theorem subI_no {k : Int} {x : Int × Int} (h : ¬ ((x.1 = 5 ∨ x.1 = 6) ∧ k < x.2)) : subI k x = x := if_neg h
theorem subI_yes {k : Int} {x : Int × Int} (h : (x.1 = 5 ∨ x.1 = 6) ∧ k < x.2) : subI k x = (x.1, x.2 - 1) := if_pos h
theorem subP_no {k : Int} {p : P2} (h : ¬ k < p.a) : subP k p = p := if_neg h
theorem subP_yes {k : Int} {p : P2} (h : k < p.a) : subP k p = ⟨p.a - 1, p.s⟩ := if_pos h
theorem inC_take {w : World} {B n k : Nat} {A : Option Addr} {xs : List (Int × Int)} (h : InC w B A n xs) (hk : k ≤ n) : InC w B A k (xs.take k) := by
  refine ⟨by rw [List.length_take, h.1]; omega, fun j x hj => ?_⟩
  have hl := (List.getElem?_eq_some_iff.1 hj).1
  rw [List.length_take] at hl
  rw [List.getElem?_take_of_lt (by omega)] at hj
  exact h.2 j x hj
theorem inC_drop {w : World} {B n k g : Nat} {xs : List (Int × Int)} (h : InC w B (some ⟨g, 0, none⟩) n xs) : InC w B (some ⟨g, k * 2, none⟩) (n - k) (xs.drop k) := by
  refine ⟨by rw [List.length_drop, h.1], fun j x hj => ?_⟩
  rw [List.getElem?_drop] at hj
  obtain ⟨b, off, e, hb, q0, q1⟩ := h.2 _ x hj
  cases e
  refine ⟨g, k * 2, rfl, hb, ?_, ?_⟩
  · rw [show k * 2 + j * 2 = 0 + (k + j) * 2 by omega]; exact q0
  · rw [show k * 2 + j * 2 + 1 = 0 + (k + j) * 2 + 1 by omega]; exact q1
theorem ownC_cap {w : World} {base n c : Nat} {A : Option Addr} {xs : List Value} (h : w.ownsRow base 66 2 (.slice A n c) n xs) (hn : 0 < n) : ∃ g, A = some ⟨g, 0, none⟩ ∧ n ≤ c ∧ base ≤ g := by
  rcases h.2 with ⟨h', hn'⟩ | ⟨b, cap, cur, k1, k2, k3, k4, _⟩
  · omega
  · injection k1 with e1 e2 e3
    exact ⟨b, e1, by omega, k2⟩

/-- Annotated code in rows of the model's own. -/
structure AnM (w : World) (base : Nat) (B0 : Option Addr) (B1 : Option Addr) (B2 : Option Addr) (d2 : Nat) (B3 : Option Addr) (d3 : Nat) (t0 t1 : List (Int × List Int)) (t2 : List (Int × Int)) (t3 : List P2) : Prop where
  f0 : TsL w B0 t0.length t0
  f1 : TsL w B1 t1.length t1
  f2 : w.ownsRow base 66 2 (.slice B2 t2.length d2) t2.length (flatC t2)
  f3 : PRow w base (.slice B3 t3.length d3) t3.length t3
section
variable {w w' : World} {base d2 d3 : Nat} {B0 B1 B2 B3 : Option Addr} {t0 t1 : List (Int × List Int)} {t2 : List (Int × Int)} {t3 : List P2}
theorem AnM.kept {r : Option Nat} (h : AnM w base B0 B1 B2 d2 B3 d3 t0 t1 t2 t3) (hg : w.grownBy w' r) (hi : ∀ k cs, r = some k → w.heap[k]? ≠ some (.cells cs 2 (0, 0))) (ht : ∀ k cs, r = some k → w.heap[k]? ≠ some (.cells cs 74 (0, 0)))
    (hc : ∀ k cs, r = some k → w.heap[k]? ≠ some (.cells cs 66 (0, 0))) (hp : ∀ k cs, r = some k → w.heap[k]? ≠ some (.cells cs 40 (0, 0))) : AnM w' base B0 B1 B2 d2 B3 d3 t0 t1 t2 t3 :=
  ⟨h.f0.kept hg (fun k cs e => ⟨hi k cs e, ht k cs e⟩), h.f1.kept hg (fun k cs e => ⟨hi k cs e, ht k cs e⟩), own_kept h.f2 hg hc, h.f3.kept hg (fun k cs e => ⟨hi k cs e, ht k cs e⟩) hp⟩
theorem AnM.next (h : AnM w base B0 B1 B2 d2 B3 d3 t0 t1 t2 t3) (hb : Below w.heap.size w w') : AnM w' base B0 B1 B2 d2 B3 d3 t0 t1 t2 t3 :=
  h.kept (r := none) (grown_of hb) (fun k cs e => by cases e) (fun k cs e => by cases e) (fun k cs e => by cases e) (fun k cs e => by cases e)
theorem AnM.less {base' : Nat} (h : AnM w base B0 B1 B2 d2 B3 d3 t0 t1 t2 t3) (hb : base' ≤ base) : AnM w base' B0 B1 B2 d2 B3 d3 t0 t1 t2 t3 := ⟨h.f0, h.f1, own_less h.f2 hb, h.f3.less hb⟩
end

theorem app_csN {w : World} {B base k n c : Nat} {v : Value} {A : Option Addr} {ys xs : List (Int × Int)} (hr : w.ownsRow base 66 2 v k (flatC ys)) (h : InC w B A n xs) (hbw : base ≤ w.heap.size) (hk : k ≤ 100000) (hn : n ≤ 100000) (hyl : ys.length = k) :
    ∃ A' c' w', (Builtin.append_ #[32, 32] 32 #[v, .slice A n c]).run Try.prog w = .ok (.slice A' (k + n) c') w' ∧ w'.ownsRow base 66 2 (.slice A' (k + n) c') (k + n) (flatC (ys ++ xs)) ∧ w.grownBy w' v.ownBlock ∧ Below base w w' := by
  obtain ⟨i0, hi, hz0, hz1, hz2⟩ := info_parts infoInstr
  obtain ⟨v', w', h1, h2, h3⟩ : ∃ v' w', (Builtin.append_ #[32, 32] 32 #[v, .slice A n c]).run Try.prog w = .ok v' w' ∧ w'.ownsRow base 66 2 v' (k + n) (flatC (ys ++ xs)) ∧ w.grownBy w' v.ownBlock := by
    rcases A with _ | ad
    · have hn0 : n = 0 := by
        rcases Nat.eq_zero_or_pos n with h0 | h0
        · exact h0
        · obtain ⟨_, _, _, e, _⟩ := h.at_ (k := 0) h0
          cases e
      subst hn0
      have hxs : xs = [] := List.eq_nil_of_length_eq_zero h.1
      subst hxs
      exact ⟨v, w, nil_any w base _ _ 66 i0 2 Try.underlying32 hi v k _ hr c, (by simpa using hr), grown_of (Below.refl _ _)⟩
    · obtain ⟨v', w', e1, e2, e3, _⟩ := run_append_own w base 32 32 66 i0 (.agg #[.int .i64 0, .int .i64 0]) 2 16 Try.underlying32 hi hz0 hz1 hz2 rfl (by decide) v k _ hr ad n c (flatC xs) (by rw [flatC_len, h.1]) (flatC_news h) (flatC_one xs) (by unfold maxLen; omega) (by omega) hbw
      rw [← flatC_app] at e2
      exact ⟨v', w', e1, e2, e3⟩
  obtain ⟨A', c', rfl, _⟩ := own_sliceC h2 (by rw [List.length_append, hyl, h.1])
  exact ⟨A', c', w', h1, h2, h3, (Below.refl base w).grown h3 hbw (fun j hj => (hr.lt j hj).1)⟩

/-- Boxes and rows while a splice makes its code. -/
structure SpS (u : World) (g x base : Nat) (cs : Array Value) (C0 C1 : Option Addr) (v3 : Value) (t0 t1 : List (Int × List Int)) (t3 : List P2) : Prop where
  hg : BlkIs u g 35 cs
  hx : BlkIs u x 35 #[.slice none 0 0, .slice none 0 0, .slice none 0 0, .slice none 0 0]
  h0 : TsL u C0 t0.length t0
  h1 : TsL u C1 t1.length t1
  h3 : PRow u base v3 t3.length t3
section
variable {u u' : World} {g x base : Nat} {cs : Array Value} {C0 C1 : Option Addr} {v3 : Value} {t0 t1 : List (Int × List Int)} {t3 : List P2}
theorem SpS.next (h : SpS u g x base cs C0 C1 v3 t0 t1 t3) (hb : Below u.heap.size u u') : SpS u' g x base cs C0 C1 v3 t0 t1 t3 := ⟨h.hg.next hb, h.hx.next hb, h.h0.next hb, h.h1.next hb, h.h3.next hb⟩
theorem SpS.row {b n : Nat} {v : Value} {xs : List Value} (h : SpS u g x base cs C0 C1 v3 t0 t1 t3) (ho : u.ownsRow b 66 2 v n xs) (hg : u.grownBy u' v.ownBlock) : SpS u' g x base cs C0 C1 v3 t0 t1 t3 :=
  ⟨blk_grown h.hg ho (by decide) hg, blk_grown h.hx ho (by decide) hg, h.h0.kept hg (fun k cs e => ⟨own_not ho (by decide) k cs e, own_not ho (by decide) k cs e⟩), h.h1.kept hg (fun k cs e => ⟨own_not ho (by decide) k cs e, own_not ho (by decide) k cs e⟩), h.h3.kept hg (fun k cs e => ⟨own_not ho (by decide) k cs e, own_not ho (by decide) k cs e⟩) (own_not ho (by decide))⟩
theorem SpS.set (h : SpS u g x base cs C0 C1 v3 t0 t1 t3) (hne : x ≠ g) (i : Nat) (v : Value) : SpS (u.setCell ⟨g, i, none⟩ v) g x base (cs.setIfInBounds i v) C0 C1 v3 t0 t1 t3 :=
  have hn := fun k cs e => And.intro (blk_not h.hg (e' := 2) (by decide) k cs e) (blk_not h.hg (e' := 74) (by decide) k cs e)
  ⟨h.hg.set i v, h.hx.far hne i v, h.h0.kept only_set hn, h.h1.kept only_set hn, h.h3.kept only_set hn (blk_not h.hg (by decide))⟩
theorem SpS.setP {n c gp j : Nat} {p : P2} {z : Int} (h : SpS u g x base cs C0 C1 (.slice (some ⟨gp, 0, none⟩) n c) t0 t1 t3) (hn : t3.length = n) (hp : t3[j]? = some p) : SpS (u.setCell ⟨gp, j * 2, none⟩ (.int .i64 z)) g x base cs C0 C1 (.slice (some ⟨gp, 0, none⟩) n c) t0 t1 (t3.set j ⟨z, p.s⟩) := by
  subst hn
  obtain ⟨_, cs', ho, _⟩ := h.h3
  have hg : u.grownBy (u.setCell ⟨gp, j * 2, none⟩ (.int .i64 z)) (Value.slice (some ⟨gp, 0, none⟩) t3.length c).ownBlock := only_set (g := gp)
  have hs := h.h3.set_a (z := z) hp
  refine ⟨blk_grown h.hg ho (by decide) hg, blk_grown h.hx ho (by decide) hg, h.h0.kept hg (own_noP ho), h.h1.kept hg (own_noP ho), ?_⟩
  rw [List.length_set]
  exact hs
end

set_option maxRecDepth 100000 in
set_option maxHeartbeats 8000000 in
theorem l09Splice_c (b base : Nat) (B0 : Option Addr) (d0 : Nat) (B1 : Option Addr) (d1 : Nat) (B2 : Option Addr) (d2 : Nat) (B3 : Option Addr) (d3 : Nat) (t0 t1 : List (Int × List Int)) (t2 : List (Int × Int)) (t3 : List P2) (k q : Nat) (w : World)
    (hP : BlkIs w b 35 #[.slice B0 t0.length d0, .slice B1 t1.length d1, .slice B2 t2.length d2, .slice B3 t3.length d3]) (hM : AnM w base B0 B1 B2 d2 B3 d3 t0 t1 t2 t3)
    (s0 : t0.length ≤ 1000 ∧ ∀ t ∈ t0, t.2.length ≤ 100000) (s1 : t1.length ≤ 1000 ∧ ∀ t ∈ t1, t.2.length ≤ 100000) (s2 : t2.length ≤ 1000) (s3 : t3.length ≤ 1000 ∧ ∀ p ∈ t3, p.s.length ≤ 1000 ∧ ∀ t ∈ p.s, t.2.length ≤ 100000)
    (hk : k < t2.length) (hbc : BndC t2) (hbp : BndP t3) :
    Calls Try.prog 113 #[.pointer (some ⟨b, 0, none⟩), .int .i64 (k : Int), .int .i64 1, .slice (some ⟨q, 0, none⟩) 0 0] w fun e w' => ∃ C0 e0 C1 e1 C2 e2 C3 e3, e = .returned (.agg #[.slice C0 t0.length e0, .slice C1 t1.length e1, .slice C2 (leaveC k t2).length e2, .slice C3 (leaveP k t3).length e3]) ∧ AnM w' w.heap.size C0 C1 C2 e2 C3 e3 t0 t1 (leaveC k t2) (leaveP k t3) ∧ Below w.heap.size w w' := by
  have hb0 := bnew w (.cells #[.slice none 0 0, .slice none 0 0, .slice none 0 0, .slice none 0 0] 35)
  have hX : BlkIs (w.alloc (.cells #[.slice none 0 0, .slice none 0 0, .slice none 0 0, .slice none 0 0] 35)) w.heap.size 35 #[.slice none 0 0, .slice none 0 0, .slice none 0 0, .slice none 0 0] := blk_new _ _ _ _ rfl
  have hsz : (w.alloc (.cells #[.slice none 0 0, .slice none 0 0, .slice none 0 0, .slice none 0 0] 35)).heap.size = w.heap.size + 1 := by simp
  obtain ⟨gB, rfl, hcap, hgB⟩ := ownC_cap hM.f2 (by omega)
  have hin2 : InC w w.heap.size (some ⟨gB, 0, none⟩) t2.length t2 := (OwnC.of_own hM.f2 rfl).all
  obtain ⟨A3', c3', hv3, hPt3⟩ := hM.f3.out
  injection hv3 with i1 i2 i3
  subst i1
  clear i2 i3
  have HOwn := Lib.hid (l08Own_c b B0 t0.length d0 t0 B1 t1.length d1 t1 (some ⟨gB, 0, none⟩) t2.length d2 t2 B3 t3.length d3 t3 w.heap.size _ (hP.next hb0) (hM.f0.inn.next hb0 (Nat.le_refl _)) (hM.f1.inn.next hb0 (Nat.le_refl _)) (hin2.next hb0 (Nat.le_refl _)) (hPt3.inn.next hb0 (Nat.le_refl _)) hb0.size s0.1 s0.2 s1.1 s1.2 s2 s3.1 s3.2)
  have HIN := Lib.hid hin2
  have HBC := Lib.hid hbc
  have HBP := Lib.hid hbp
  have HP := Lib.hid hP
  clear hM hin2 hPt3 s0 s1 hbc hbp hP
  go_enter Try.func113, Try.ntmps113
  go_wp2_with fail
  generalize w.alloc (.cells #[.slice none 0 0, .slice none 0 0, .slice none 0 0, .slice none 0 0] 35) = W at hb0 hX hsz HOwn ⊢
  refine HOwn.out.mono ?_
  rintro e w2 ⟨C0, e0, C1, e1, C2, e2, C3, e3, rfl, hT0, hT1, hC, hR, hb2⟩
  have hs2 := hb2.size
  have hbw2 := bon hb0 hb2
  have hbA := bnew w2 (.cells #[.slice C0 t0.length e0, .slice C1 t1.length e1, .slice C2 t2.length e2, .slice C3 t3.length e3] 35)
  have hbE := bnew (w2.alloc (.cells #[.slice C0 t0.length e0, .slice C1 t1.length e1, .slice C2 t2.length e2, .slice C3 t3.length e3] 35)) (.cells #[] 66)
  have hbAE := bon hbA hbE
  obtain ⟨V, hV⟩ : ∃ V, V = (w2.alloc (.cells #[.slice C0 t0.length e0, .slice C1 t1.length e1, .slice C2 t2.length e2, .slice C3 t3.length e3] 35)).alloc (.cells #[] 66) := ⟨_, rfl⟩
  have hS : SpS V w2.heap.size w.heap.size W.heap.size #[.slice C0 t0.length e0, .slice C1 t1.length e1, .slice C2 t2.length e2, .slice C3 t3.length e3] C0 C1 (.slice C3 t3.length e3) t0 t1 t3 := by
    rw [hV]
    exact ⟨(blk_new w2 _ _ _ rfl).next hbE, ((hX.next hb2).next hbA).next hbE, (hT0.next hbA).next hbE, (hT1.next hbA).next hbE, (hR.next hbA).next hbE⟩
  have hE : V.ownsRow (w2.heap.size + 1) 66 2 (.slice (some ⟨w2.heap.size + 1, 0, none⟩) 0 0) 0 (flatC []) := by
    have h := own_empty2 (w2.alloc (.cells #[.slice C0 t0.length e0, .slice C1 t1.length e1, .slice C2 t2.length e2, .slice C3 t3.length e3] 35)) 66
    rw [show (w2.alloc (.cells #[.slice C0 t0.length e0, .slice C1 t1.length e1, .slice C2 t2.length e2, .slice C3 t3.length e3] 35)).heap.size = w2.heap.size + 1 by simp, ← hV] at h
    exact h
  have hbV : Below w.heap.size w V := by rw [hV]; exact bon hbw2 hbAE
  have hsV : w2.heap.size + 1 ≤ V.heap.size := by rw [hV]; simp
  clear hT0 hT1 hC hR hX hbA hbE hbAE HOwn
  obtain ⟨D1, f1, w3, x1, r1, g1, b1⟩ := app_csN (c := d2) hE (inC_take (HIN.out.next hbV (Nat.le_refl _)) (Nat.le_of_lt hk)) hsV (by omega) (by omega) rfl
  have hS3 := hS.row hE g1
  have hb3 := hbV.trans (b1.mono (by omega))
  rw [Nat.zero_add, List.nil_append] at r1
  rw [Nat.zero_add] at x1
  obtain ⟨D2, f2, w4, x2, r2, g2, b2⟩ := app_csN (A := some ⟨q, 0, none⟩) (n := 0) (c := 0) (B := 0) (xs := []) r1 ⟨rfl, fun j x hj => by simp at hj⟩ (Nat.le_trans hsV b1.size) (by omega) (by omega) (by rw [List.length_take]; omega)
  have hS4 := hS3.row r1 g2
  have hb4 := hb3.trans (b2.mono (by omega))
  rw [Nat.add_zero, List.append_nil] at r2
  rw [Nat.add_zero] at x2
  have X1 := Lib.hid x1
  have X2 := Lib.hid x2
  have hne : w.heap.size ≠ w2.heap.size := by omega
  have p2 := (HP.out.next hbV).cell 2
  simp at p2
  have hkd : k ≤ d2 := by omega
  have z2 := hS4.hg.cell 2
  have y2 := hS4.hg.frozen 2
  simp at z2
  have hS5 := hS4.set hne 2 (.slice D2 k f2)
  have hb5 := hb4.setCell (p := ⟨w2.heap.size, 2, none⟩) (show w.heap.size ≤ w2.heap.size by omega) (.slice D2 k f2)
  have r5 := own_kept (w' := w4.setCell ⟨w2.heap.size, 2, none⟩ (.slice D2 k f2)) r2 (r := some w2.heap.size) only_set (blk_not hS4.hg (by decide))
  have hsw5 : w2.heap.size + 1 ≤ w4.heap.size := Nat.le_trans hsV (Nat.le_trans b1.size b2.size)
  subst hV
  clear x1 x2 hS hS3 hS4 hE r1 r2 g1 g2
  go_upto_region 4 with (at_builtin; first | (refine Lib.wpList_append_run ((w2.alloc (.cells #[.slice C0 t0.length e0, .slice C1 t1.length e1, .slice C2 t2.length e2, .slice C3 t3.length e3] 35)).alloc (.cells #[] 66)) rfl _ _ _ _ rfl _ _ rfl rfl _ _ X1.out ?_) | (refine Lib.wpList_append_run w3 rfl _ _ _ _ rfl _ _ rfl rfl _ _ X2.out ?_) | fail)
  have hsz5 : w4.heap.size = (w4.setCell ⟨w2.heap.size, 2, none⟩ (.slice D2 k f2)).heap.size := by simp
  have hS6 : SpS (w4.setCell ⟨w2.heap.size, 2, none⟩ (.slice D2 k f2)) w2.heap.size w.heap.size W.heap.size #[.slice C0 t0.length e0, .slice C1 t1.length e1, .slice D2 k f2, .slice C3 t3.length e3] C0 C1 (.slice C3 t3.length e3) t0 t1 t3 := by simpa using hS5
  generalize w4.setCell ⟨w2.heap.size, 2, none⟩ (.slice D2 k f2) = w5 at hS6 hb5 r5 hsz5 ⊢
  have hsw : w2.heap.size + 1 ≤ w5.heap.size := by omega
  have HPC : Hid (BlkIs w b 35 #[.slice B0 t0.length d0, .slice B1 t1.length d1, .slice (some ⟨gB, 0, none⟩) t2.length d2, .slice B3 t3.length d3]) := HP
  have pb := (HPC.out.next hb5).cell 2
  simp at pb
  clear hS5 X1 X2 p2 z2 y2 b1 b2 hsw5 hsz5 hsV hbV hb3 hb4
  have hlim : (k : Int) + 1 ≤ (t2.length : Int) := by omega
  have wa : IntKind.i64.wrap ((k : Int) + 1) = (k : Int) + 1 := IntWalk.i64_in _ (by omega)
  have wb : (0 : Int) ≤ (k : Int) + 1 := by omega
  have wd : ((k : Int) + 1).toNat = k + 1 := by omega
  have pd : w5.drew.cell? ⟨b, 2, none⟩ = some (.slice (some ⟨gB, 0, none⟩) t2.length d2) := pb
  have hS6d : SpS w5.drew w2.heap.size w.heap.size W.heap.size #[.slice C0 t0.length e0, .slice C1 t1.length e1, .slice D2 k f2, .slice C3 t3.length e3] C0 C1 (.slice C3 t3.length e3) t0 t1 t3 := ⟨hS6.hg, hS6.hx, hS6.h0, hS6.h1, hS6.h3⟩
  have r5d : w5.drew.ownsRow (w2.heap.size + 1) 66 2 (.slice D2 k f2) k (flatC (t2.take k)) := r5
  have hb5d : Below w.heap.size w w5.drew := hb5.drew
  have hswd : w2.heap.size + 1 ≤ w5.drew.heap.size := hsw
  have hLl : (t2.take k ++ t2.drop (k + 1)).length = t2.length - 1 := by rw [List.length_append, List.length_take, List.length_drop]; omega
  have hAp : ∀ (A : Option Addr) (c : Nat), InC w5.drew w.heap.size A (t2.length - (k + 1)) (t2.drop (k + 1)) → ∃ (D3 : Option Addr) (f3 : Nat) (w6 : World), (Builtin.append_ #[32, 32] 32 #[.slice D2 k f2, .slice A (t2.length - (k + 1)) c]).run Try.prog w5.drew = .ok (.slice D3 (t2.length - 1) f3) w6 ∧ w6.ownsRow (w2.heap.size + 1) 66 2 (.slice D3 (t2.length - 1) f3) (t2.length - 1) (flatC (t2.take k ++ t2.drop (k + 1))) ∧
      SpS w6 w2.heap.size w.heap.size W.heap.size #[.slice C0 t0.length e0, .slice C1 t1.length e1, .slice D2 k f2, .slice C3 t3.length e3] C0 C1 (.slice C3 t3.length e3) t0 t1 t3 ∧ Below w.heap.size w w6 := by
    intro A c hA
    obtain ⟨D3, f3, w6, x3, r3, g3, b3⟩ := app_csN (c := c) r5d hA hswd (by omega) (by omega) (by rw [List.length_take]; omega)
    rw [show k + (t2.length - (k + 1)) = t2.length - 1 by omega] at x3 r3
    exact ⟨D3, f3, w6, x3, r3, hS6d.row r5d g3, hb5d.trans (b3.mono (by omega))⟩
  have HAp := Lib.hid hAp
  have HLL := Lib.hid hLl
  clear hAp hLl r5 hS6 hb5 hsw pb
  go_cut [] (fun wx => ∃ D3 f3, SpS wx w2.heap.size w.heap.size W.heap.size #[.slice C0 t0.length e0, .slice C1 t1.length e1, .slice D3 (t2.length - 1) f3, .slice C3 t3.length e3] C0 C1 (.slice C3 t3.length e3) t0 t1 t3 ∧ wx.ownsRow (w2.heap.size + 1) 66 2 (.slice D3 (t2.length - 1) f3) (t2.length - 1) (flatC (t2.take k ++ t2.drop (k + 1))) ∧ Below w.heap.size w wx)
  case first =>
    have hS6 := hS6d
    by_cases hdk : d2 = k + 1
    · subst hdk
      have hkz : (k : Int) ≤ (k : Int) + 1 := by omega
      obtain ⟨D3, f3, w6, x3, r3, hS7, hb7⟩ := HAp.out (some ⟨gB, 0, none⟩) 0 ⟨by rw [List.length_drop], fun j x hj => by rw [List.getElem?_drop] at hj; have := (List.getElem?_eq_some_iff.1 hj).1; omega⟩
      rw [show t2.length - (k + 1) = 0 by omega] at x3
      have pb6 := (HPC.out.next hb7).cell 2
      simp at pb6
      clear HAp
      refine wp_region_held_drew (S := fun w' => w'.cell? ⟨b, 2, none⟩ = some (.slice (some ⟨gB, 0, none⟩) t2.length (k + 1))) (by kernel_rfl) pd ?_
      intro hHeld0
      refine wpAnyH_take (i := 0) (v := ?_) rfl (by kernel_rfl) (by kernel_rfl) (by kernel_rfl) (fun _ _ _ h => h) (Or.inl ⟨by kernel_rfl, ?_⟩) (by assumption) ?_
      rotate_left
      · intro w9 hS9; (try dsimp only at hS9); go_simp; (try with_reducible rfl)
      set_option linter.unusedSimpArgs false in try simp only [Act.put, List.getElem_toArray, List.getElem_cons_succ, List.getElem_cons_zero, List.setIfInBounds_toArray, List.set_cons_zero, List.set_cons_succ]
      refine wpAnyH_take (i := 2) (v := ?_) rfl (by kernel_rfl) (by kernel_rfl) (by kernel_rfl) (fun _ _ _ h => h) (Or.inl ⟨by kernel_rfl, ?_⟩) (by assumption) ?_
      rotate_left
      · intro w9 hS9; (try dsimp only at hS9); go_simp; (try with_reducible rfl)
      set_option linter.unusedSimpArgs false in try simp only [Act.put, List.getElem_toArray, List.getElem_cons_succ, List.getElem_cons_zero, List.setIfInBounds_toArray, List.set_cons_zero, List.set_cons_succ]
      refine wpAnyH_take (i := 3) (v := ?_) rfl (by kernel_rfl) (by kernel_rfl) (by kernel_rfl) (fun _ _ _ h => h) (Or.inl ⟨by kernel_rfl, ?_⟩) (by assumption) ?_
      rotate_left
      · intro w9 hS9; (try dsimp only at hS9); go_simp; (try with_reducible rfl)
      set_option linter.unusedSimpArgs false in try simp only [Act.put, List.getElem_toArray, List.getElem_cons_succ, List.getElem_cons_zero, List.setIfInBounds_toArray, List.set_cons_zero, List.set_cons_succ]
      refine wpAnyH_take (i := 4) (v := ?_) rfl (by kernel_rfl) (by kernel_rfl) (by kernel_rfl) (fun _ _ _ h => h) (Or.inl ⟨by kernel_rfl, ?_⟩) (by assumption) ?_
      rotate_left
      · intro w9 hS9; (try dsimp only at hS9); go_simp; (try with_reducible rfl)
      set_option linter.unusedSimpArgs false in try simp only [Act.put, List.getElem_toArray, List.getElem_cons_succ, List.getElem_cons_zero, List.setIfInBounds_toArray, List.set_cons_zero, List.set_cons_succ]
      refine wpAnyH_take (i := 5) (v := ?_) rfl (by kernel_rfl) (by kernel_rfl) (by kernel_rfl) (fun _ _ _ h => h) (Or.inl ⟨by kernel_rfl, ?_⟩) (by assumption) ?_
      rotate_left
      · intro w9 hS9; (try dsimp only at hS9); go_simp; (try with_reducible rfl)
      set_option linter.unusedSimpArgs false in try simp only [Act.put, List.getElem_toArray, List.getElem_cons_succ, List.getElem_cons_zero, List.setIfInBounds_toArray, List.set_cons_zero, List.set_cons_succ]
      refine wpAnyH_take (i := 6) (v := ?_) rfl (by kernel_rfl) (by kernel_rfl) (by kernel_rfl) (fun _ _ _ h => h) (Or.inl ⟨by kernel_rfl, ?_⟩) (by assumption) ?_
      rotate_left
      · intro w9 hS9; (try dsimp only at hS9); go_simp; (try with_reducible rfl)
      set_option linter.unusedSimpArgs false in try simp only [Act.put, List.getElem_toArray, List.getElem_cons_succ, List.getElem_cons_zero, List.setIfInBounds_toArray, List.set_cons_zero, List.set_cons_succ]
      refine wpAnyH_take (i := 7) (v := ?_) rfl (by kernel_rfl) (by kernel_rfl) (by kernel_rfl) (fun _ _ _ h => h) (Or.inl ⟨by kernel_rfl, ?_⟩) (by assumption) ?_
      rotate_left
      · intro w9 hS9; (try dsimp only at hS9); go_simp; (try with_reducible rfl)
      set_option linter.unusedSimpArgs false in try simp only [Act.put, List.getElem_toArray, List.getElem_cons_succ, List.getElem_cons_zero, List.setIfInBounds_toArray, List.set_cons_zero, List.set_cons_succ]
      refine wpAnyH_take (i := 8) (v := ?_) rfl (by kernel_rfl) (by kernel_rfl) (by kernel_rfl) (fun _ _ _ h => h) (Or.inl ⟨by kernel_rfl, ?_⟩) (by assumption) ?_
      rotate_left
      · intro w9 hS9; (try dsimp only at hS9); go_simp; (try with_reducible rfl)
      set_option linter.unusedSimpArgs false in try simp only [Act.put, List.getElem_toArray, List.getElem_cons_succ, List.getElem_cons_zero, List.setIfInBounds_toArray, List.set_cons_zero, List.set_cons_succ]
      refine wpAnyH_take (i := 9) (v := ?_) rfl (by kernel_rfl) (by kernel_rfl) (by kernel_rfl) (fun _ _ _ h => h) (Or.inl ⟨by kernel_rfl, ?_⟩) (by assumption) ?_
      rotate_left
      · intro w9 hS9; (try dsimp only at hS9); go_simp; (try with_reducible rfl)
      set_option linter.unusedSimpArgs false in try simp only [Act.put, List.getElem_toArray, List.getElem_cons_succ, List.getElem_cons_zero, List.setIfInBounds_toArray, List.set_cons_zero, List.set_cons_succ]
      refine wpAnyH_ready (rs := [1]) (by kernel_rfl) (by simp) ?_
      refine AllReadyH.cons rfl (fun K hK => ?_) (AllReadyH.nil)
      have z1 := hS6.hg.cell 2
      simp at z1
      go_simp
      refine hK.out _ _ pd (fun hHeld2 => ?_)
      clear hK K hHeld0
      set_option linter.unusedSimpArgs false in try simp only [Act.put, List.getElem_toArray, List.getElem_cons_succ, List.getElem_cons_zero, List.setIfInBounds_toArray, List.set_cons_zero, List.set_cons_succ]
      refine wpAnyH_ready (rs := [10]) (by kernel_rfl) (by simp) ?_
      refine AllReadyH.cons rfl (fun K hK => ?_) (AllReadyH.nil)
      refine Eq.mpr (if_pos (by kernel_rfl)) ?_
      refine wp_app_run _ _ 32 rfl (.slice D2 k f2) (.slice (some ⟨gB, 0, none⟩) 0 0) rfl rfl (.slice D3 (t2.length - 1) f3) w6 x3 ?_
      clear x3
      refine hK.out _ _ pb6 (fun hHeld3 => ?_)
      clear hK K hHeld2
      set_option linter.unusedSimpArgs false in try simp only [Act.put, List.getElem_toArray, List.getElem_cons_succ, List.getElem_cons_zero, List.setIfInBounds_toArray, List.set_cons_zero, List.set_cons_succ]
      refine wpAnyH_take (i := 11) (v := ?_) rfl (by kernel_rfl) (by kernel_rfl) (by kernel_rfl) (fun _ _ _ h => h) (Or.inl ⟨by kernel_rfl, ?_⟩) (by assumption) ?_
      rotate_left
      · intro w9 hS9; (try dsimp only at hS9); go_simp; (try with_reducible rfl)
      set_option linter.unusedSimpArgs false in try simp only [Act.put, List.getElem_toArray, List.getElem_cons_succ, List.getElem_cons_zero, List.setIfInBounds_toArray, List.set_cons_zero, List.set_cons_succ]
      refine wpAnyH_ready (rs := [12]) (by kernel_rfl) (by simp) ?_
      refine AllReadyH.cons rfl (fun K hK => ?_) (AllReadyH.nil)
      have z2 := hS7.hg.cell 2
      have f2_ := hS7.hg.frozen 2
      simp at z2
      have hS8 := hS7.set hne 2 (.slice D3 (t2.length - 1) f3)
      have hb8 := hb7.setCell (p := ⟨w2.heap.size, 2, none⟩) (show w.heap.size ≤ w2.heap.size by omega) (.slice D3 (t2.length - 1) f3)
      have r8 := own_kept (w' := w6.setCell ⟨w2.heap.size, 2, none⟩ (.slice D3 (t2.length - 1) f3)) r3 (r := some w2.heap.size) only_set (blk_not hS7.hg (by decide))
      have pb8 := (HPC.out.next hb8).cell 2
      simp at pb8
      go_simp
      refine hK.out _ _ pb8 (fun hHeld4 => ?_)
      clear hK K hHeld3
      set_option linter.unusedSimpArgs false in try simp only [Act.put, List.getElem_toArray, List.getElem_cons_succ, List.getElem_cons_zero, List.setIfInBounds_toArray, List.set_cons_zero, List.set_cons_succ]
      refine wpAnyH_done (by kernel_rfl) ?_ _
      go_wp2_with fail
      go_meet
      exact ⟨_, _, by simpa using hS8, r8, hb8⟩
    · obtain ⟨D3, f3, w6, x3, r3, hS7, hb7⟩ := HAp.out (some ⟨gB, (k + 1) * 2, none⟩) (d2 - (k + 1)) (inC_drop (HIN.out.next hb5d (Nat.le_refl _)))
      have pb6 := (HPC.out.next hb7).cell 2
      simp at pb6
      clear HAp
      refine wp_region_held_drew (S := fun w' => w'.cell? ⟨b, 2, none⟩ = some (.slice (some ⟨gB, 0, none⟩) t2.length d2)) (by kernel_rfl) pd ?_
      intro hHeld0
      refine wpAnyH_take (i := 0) (v := ?_) rfl (by kernel_rfl) (by kernel_rfl) (by kernel_rfl) (fun _ _ _ h => h) (Or.inl ⟨by kernel_rfl, ?_⟩) (by assumption) ?_
      rotate_left
      · intro w9 hS9; (try dsimp only at hS9); go_simp; (try with_reducible rfl)
      set_option linter.unusedSimpArgs false in try simp only [Act.put, List.getElem_toArray, List.getElem_cons_succ, List.getElem_cons_zero, List.setIfInBounds_toArray, List.set_cons_zero, List.set_cons_succ]
      refine wpAnyH_take (i := 2) (v := ?_) rfl (by kernel_rfl) (by kernel_rfl) (by kernel_rfl) (fun _ _ _ h => h) (Or.inl ⟨by kernel_rfl, ?_⟩) (by assumption) ?_
      rotate_left
      · intro w9 hS9; (try dsimp only at hS9); go_simp; (try with_reducible rfl)
      set_option linter.unusedSimpArgs false in try simp only [Act.put, List.getElem_toArray, List.getElem_cons_succ, List.getElem_cons_zero, List.setIfInBounds_toArray, List.set_cons_zero, List.set_cons_succ]
      refine wpAnyH_take (i := 3) (v := ?_) rfl (by kernel_rfl) (by kernel_rfl) (by kernel_rfl) (fun _ _ _ h => h) (Or.inl ⟨by kernel_rfl, ?_⟩) (by assumption) ?_
      rotate_left
      · intro w9 hS9; (try dsimp only at hS9); go_simp; (try with_reducible rfl)
      set_option linter.unusedSimpArgs false in try simp only [Act.put, List.getElem_toArray, List.getElem_cons_succ, List.getElem_cons_zero, List.setIfInBounds_toArray, List.set_cons_zero, List.set_cons_succ]
      refine wpAnyH_take (i := 4) (v := ?_) rfl (by kernel_rfl) (by kernel_rfl) (by kernel_rfl) (fun _ _ _ h => h) (Or.inl ⟨by kernel_rfl, ?_⟩) (by assumption) ?_
      rotate_left
      · intro w9 hS9; (try dsimp only at hS9); go_simp; (try with_reducible rfl)
      set_option linter.unusedSimpArgs false in try simp only [Act.put, List.getElem_toArray, List.getElem_cons_succ, List.getElem_cons_zero, List.setIfInBounds_toArray, List.set_cons_zero, List.set_cons_succ]
      refine wpAnyH_take (i := 5) (v := ?_) rfl (by kernel_rfl) (by kernel_rfl) (by kernel_rfl) (fun _ _ _ h => h) (Or.inl ⟨by kernel_rfl, ?_⟩) (by assumption) ?_
      rotate_left
      · intro w9 hS9; (try dsimp only at hS9); go_simp; (try with_reducible rfl)
      set_option linter.unusedSimpArgs false in try simp only [Act.put, List.getElem_toArray, List.getElem_cons_succ, List.getElem_cons_zero, List.setIfInBounds_toArray, List.set_cons_zero, List.set_cons_succ]
      refine wpAnyH_take (i := 6) (v := ?_) rfl (by kernel_rfl) (by kernel_rfl) (by kernel_rfl) (fun _ _ _ h => h) (Or.inl ⟨by kernel_rfl, ?_⟩) (by assumption) ?_
      rotate_left
      · intro w9 hS9; (try dsimp only at hS9); go_simp; (try with_reducible rfl)
      set_option linter.unusedSimpArgs false in try simp only [Act.put, List.getElem_toArray, List.getElem_cons_succ, List.getElem_cons_zero, List.setIfInBounds_toArray, List.set_cons_zero, List.set_cons_succ]
      refine wpAnyH_take (i := 7) (v := ?_) rfl (by kernel_rfl) (by kernel_rfl) (by kernel_rfl) (fun _ _ _ h => h) (Or.inl ⟨by kernel_rfl, ?_⟩) (by assumption) ?_
      rotate_left
      · intro w9 hS9; (try dsimp only at hS9); go_simp; (try with_reducible rfl)
      set_option linter.unusedSimpArgs false in try simp only [Act.put, List.getElem_toArray, List.getElem_cons_succ, List.getElem_cons_zero, List.setIfInBounds_toArray, List.set_cons_zero, List.set_cons_succ]
      refine wpAnyH_take (i := 8) (v := ?_) rfl (by kernel_rfl) (by kernel_rfl) (by kernel_rfl) (fun _ _ _ h => h) (Or.inl ⟨by kernel_rfl, ?_⟩) (by assumption) ?_
      rotate_left
      · intro w9 hS9; (try dsimp only at hS9); go_simp; (try with_reducible rfl)
      set_option linter.unusedSimpArgs false in try simp only [Act.put, List.getElem_toArray, List.getElem_cons_succ, List.getElem_cons_zero, List.setIfInBounds_toArray, List.set_cons_zero, List.set_cons_succ]
      refine wpAnyH_take (i := 9) (v := ?_) rfl (by kernel_rfl) (by kernel_rfl) (by kernel_rfl) (fun _ _ _ h => h) (Or.inl ⟨by kernel_rfl, ?_⟩) (by assumption) ?_
      rotate_left
      · intro w9 hS9; (try dsimp only at hS9); go_simp; (try with_reducible rfl)
      set_option linter.unusedSimpArgs false in try simp only [Act.put, List.getElem_toArray, List.getElem_cons_succ, List.getElem_cons_zero, List.setIfInBounds_toArray, List.set_cons_zero, List.set_cons_succ]
      refine wpAnyH_ready (rs := [1]) (by kernel_rfl) (by simp) ?_
      refine AllReadyH.cons rfl (fun K hK => ?_) (AllReadyH.nil)
      have z1 := hS6.hg.cell 2
      simp at z1
      go_simp
      refine hK.out _ _ pd (fun hHeld2 => ?_)
      clear hK K hHeld0
      set_option linter.unusedSimpArgs false in try simp only [Act.put, List.getElem_toArray, List.getElem_cons_succ, List.getElem_cons_zero, List.setIfInBounds_toArray, List.set_cons_zero, List.set_cons_succ]
      refine wpAnyH_ready (rs := [10]) (by kernel_rfl) (by simp) ?_
      refine AllReadyH.cons rfl (fun K hK => ?_) (AllReadyH.nil)
      refine Eq.mpr (if_pos (by kernel_rfl)) ?_
      refine wp_app_run _ _ 32 rfl (.slice D2 k f2) (.slice (some ⟨gB, (k + 1) * 2, none⟩) (t2.length - (k + 1)) (d2 - (k + 1))) rfl rfl (.slice D3 (t2.length - 1) f3) w6 x3 ?_
      clear x3
      refine hK.out _ _ pb6 (fun hHeld3 => ?_)
      clear hK K hHeld2
      set_option linter.unusedSimpArgs false in try simp only [Act.put, List.getElem_toArray, List.getElem_cons_succ, List.getElem_cons_zero, List.setIfInBounds_toArray, List.set_cons_zero, List.set_cons_succ]
      refine wpAnyH_take (i := 11) (v := ?_) rfl (by kernel_rfl) (by kernel_rfl) (by kernel_rfl) (fun _ _ _ h => h) (Or.inl ⟨by kernel_rfl, ?_⟩) (by assumption) ?_
      rotate_left
      · intro w9 hS9; (try dsimp only at hS9); go_simp; (try with_reducible rfl)
      set_option linter.unusedSimpArgs false in try simp only [Act.put, List.getElem_toArray, List.getElem_cons_succ, List.getElem_cons_zero, List.setIfInBounds_toArray, List.set_cons_zero, List.set_cons_succ]
      refine wpAnyH_ready (rs := [12]) (by kernel_rfl) (by simp) ?_
      refine AllReadyH.cons rfl (fun K hK => ?_) (AllReadyH.nil)
      have z2 := hS7.hg.cell 2
      have f2_ := hS7.hg.frozen 2
      simp at z2
      have hS8 := hS7.set hne 2 (.slice D3 (t2.length - 1) f3)
      have hb8 := hb7.setCell (p := ⟨w2.heap.size, 2, none⟩) (show w.heap.size ≤ w2.heap.size by omega) (.slice D3 (t2.length - 1) f3)
      have r8 := own_kept (w' := w6.setCell ⟨w2.heap.size, 2, none⟩ (.slice D3 (t2.length - 1) f3)) r3 (r := some w2.heap.size) only_set (blk_not hS7.hg (by decide))
      have pb8 := (HPC.out.next hb8).cell 2
      simp at pb8
      go_simp
      refine hK.out _ _ pb8 (fun hHeld4 => ?_)
      clear hK K hHeld3
      set_option linter.unusedSimpArgs false in try simp only [Act.put, List.getElem_toArray, List.getElem_cons_succ, List.getElem_cons_zero, List.setIfInBounds_toArray, List.set_cons_zero, List.set_cons_succ]
      refine wpAnyH_done (by kernel_rfl) ?_ _
      go_wp2_with fail
      go_meet
      exact ⟨_, _, by simpa using hS8, r8, hb8⟩
  case rest =>
    obtain ⟨D3, f3, hS, hr, hb⟩ := hcut
    obtain ⟨L, YL⟩ : ∃ x, Hid (t2.take k ++ t2.drop (k + 1) = x) := ⟨_, Lib.hid rfl⟩
    have hLb : Hid (BndC L) := by
      show BndC L
      rw [← YL.out]
      intro x hx
      rcases List.mem_append.1 hx with hx | hx
      · exact HBC.out x (List.mem_of_mem_take hx)
      · exact HBC.out x (List.mem_of_mem_drop hx)
    have hLn : L.length = t2.length - 1 := by rw [← YL.out]; exact HLL.out
    rw [YL.out] at hr
    rw [← turned_zero (subI k) L, ← hLn] at hr
    rw [← hLn] at hS
    have HEnd : Hid (leaveC k t2 = L.map (subI k)) := by show leaveC k t2 = _; rw [← YL.out]; rfl
    have hLl : L.length ≤ 1000 := by omega
    have HPE : Hid (leaveP k t3 = t3.map (subP k)) := rfl
    clear HAp HLL HBC YL hLn hS6d r5d hb5d hswd pd wa wb wd hlim hkd
    go_wp2_with fail
    go_loopw [11] (fun i wr => ∃ j : Nat, j ≤ L.length ∧ i = .int .i64 j ∧ SpS wr w2.heap.size w.heap.size W.heap.size #[.slice C0 t0.length e0, .slice C1 t1.length e1, .slice D3 L.length f3, .slice C3 t3.length e3] C0 C1 (.slice C3 t3.length e3) t0 t1 t3 ∧ wr.ownsRow (w2.heap.size + 1) 66 2 (.slice D3 L.length f3) L.length (flatC (turned (subI k) L j)) ∧ Below w.heap.size w wr) (fun i _ => L.length - (intOf i).toNat)
    case atStart => exact ⟨0, Nat.zero_le _, rfl, hS, hr, hb⟩
    case round =>
      clear hS hr hb
      obtain ⟨j, hj, rfl, hS, hr, hb⟩ := hrel
      by_cases hlt : j < L.length
      · obtain ⟨x, hx⟩ : ∃ x, L[j]? = some x := ⟨_, List.getElem?_eq_getElem hlt⟩
        have hxb := hLb.out x (List.mem_of_getElem? hx)
        obtain ⟨g3, rfl, hcap3, hg3⟩ := ownC_cap hr (by omega)
        obtain ⟨c0, c1⟩ := flatC_at (turned_at (subI k) hx)
        have z2 := hS.hg.cell 2
        simp at z2
        have hll : (turned (subI k) L j).length = L.length := turned_len _ _ _
        have q0 := hr.cellAt (j * 2) (by omega)
        have q1 := hr.cellAt (j * 2 + 1) (by omega)
        rw [c0] at q0
        rw [c1] at q1
        have hbx := bnew wr (.cells #[.int .i64 x.1, .int .i64 x.2] 66)
        by_cases hjmp : x.1 = 5 ∨ x.1 = 6
        · have HJ0 := l09Jumps_c x.1 x.2 wr
          rw [decide_eq_true hjmp] at HJ0
          have HJ := Lib.hid HJ0
          by_cases hgt : (k : Int) < x.2
          · have HT := Lib.hid (turned_succ (subI k) hx)
            have HY := Lib.hid (subI_yes (k := (k : Int)) ⟨hjmp, hgt⟩)
            have HX := Lib.hid (turned_at (subI k) hx)
            clear HJ0 hx hjmp c0 c1 hll
            go_wp2_with fail
            refine HJ.out.mono ?_
            rintro e w7 ⟨rfl, hb7⟩
            have hS7 := hS.next hb7
            have hr7 := own_below hr hb7
            have u2 := cell_next z2 hb7
            have u0 := cell_next q0 hb7
            have u1 := cell_next q1 hb7
            have v1 := hr7.frozenAt (j * 2 + 1)
            have hst := (hr7.stored (j * 2 + 1) (.int .i64 (x.2 - 1))).1
            rw [flatC_set2 (x.2 - 1) HX.out, ← HY.out, HT.out] at hst
            have hS8 := hS7.row hr7 (u' := w7.setCell ⟨g3, j * 2 + 1, none⟩ (.int .i64 (x.2 - 1))) (only_set (g := g3))
            have hb8 := (bon hb hb7).setCell (p := ⟨g3, j * 2 + 1, none⟩) (show w.heap.size ≤ g3 by omega) (.int .i64 (x.2 - 1))
            clear HT HY HX hS7 hr7 hS hr
            go_wp2_with fail
            go_roundw
            case rel => exact ⟨j + 1, by omega, by go_num, hS8, hst, hb8⟩
            case measure => simp [intOf]; omega
          · have HT := Lib.hid (turned_same (subI k) hx (subI_no (k := (k : Int)) (fun h => hgt h.2)))
            clear HJ0 hx hjmp c0 c1 hll
            go_wp2_with fail
            refine HJ.out.mono ?_
            rintro e w7 ⟨rfl, hb7⟩
            have hS7 := hS.next hb7
            have hr7 := own_below hr hb7
            rw [HT.out] at hr7
            have u2 := cell_next z2 hb7
            have u1 := cell_next q1 hb7
            have hb8 := bon hb hb7
            clear HT hS hr
            go_wp2_with fail
            go_roundw
            case rel => exact ⟨j + 1, by omega, by go_num, hS7, hr7, hb8⟩
            case measure => simp [intOf]; omega
        · have HJ0 := l09Jumps_c x.1 x.2 wr
          rw [decide_eq_false hjmp] at HJ0
          have HJ := Lib.hid HJ0
          have HT := Lib.hid (turned_same (subI k) hx (subI_no (k := (k : Int)) (fun h => hjmp h.1)))
          clear HJ0 hx hjmp c0 c1 hll
          go_wp2_with fail
          refine HJ.out.mono ?_
          rintro e w7 ⟨rfl, hb7⟩
          have hS7 := hS.next hb7
          have hr7 := own_below hr hb7
          rw [HT.out] at hr7
          have hb8 := bon hb hb7
          clear HT hS hr
          go_wp2_with fail
          go_roundw
          case rel => exact ⟨j + 1, by omega, by go_num, hS7, hr7, hb8⟩
          case measure => simp [intOf]; omega
      · have e : j = L.length := by omega
        subst e
        rw [turned_all _ (Nat.le_refl _), ← HEnd.out] at hr
        have z2 := hS.hg.cell 2
        have z3 := hS.hg.cell 3
        simp at z2 z3
        have hS0 : SpS wr w2.heap.size w.heap.size W.heap.size #[.slice C0 t0.length e0, .slice C1 t1.length e1, .slice D3 L.length f3, .slice C3 t3.length e3] C0 C1 (.slice C3 t3.length e3) t0 t1 (mixF (subP k) 0 t3) := hS
        have hCr : wr.ownsRow (w2.heap.size + 1) 66 2 (.slice D3 (leaveC k t2).length f3) (leaveC k t2).length (flatC (leaveC k t2)) := by
          have e : (leaveC k t2).length = L.length := by rw [HEnd.out, List.length_map]
          rw [e]; exact hr
        have HLn : Hid (L.length = (leaveC k t2).length) := by show _ = _; rw [HEnd.out, List.length_map]
        clear hS hlt hr
        go_wp2_with fail
        go_loopw [12] (fun i wr => ∃ j : Nat, j ≤ t3.length ∧ i = .int .i64 j ∧ SpS wr w2.heap.size w.heap.size W.heap.size #[.slice C0 t0.length e0, .slice C1 t1.length e1, .slice D3 L.length f3, .slice C3 t3.length e3] C0 C1 (.slice C3 t3.length e3) t0 t1 (mixF (subP k) j t3) ∧ wr.ownsRow (w2.heap.size + 1) 66 2 (.slice D3 (leaveC k t2).length f3) (leaveC k t2).length (flatC (leaveC k t2)) ∧ Below w.heap.size w wr) (fun i _ => t3.length - (intOf i).toNat)
        case atStart => exact ⟨0, Nat.zero_le _, rfl, hS0, hCr, hb⟩
        case round =>
          clear hS0 hCr hb z2 z3
          obtain ⟨j, hj, rfl, hS, hr, hb⟩ := hrel
          by_cases hlt : j < t3.length
          · obtain ⟨p, hp⟩ : ∃ p, t3[j]? = some p := ⟨_, List.getElem?_eq_getElem hlt⟩
            have hpb := HBP.out p (List.mem_of_getElem? hp)
            have h3 := hS.h3
            rw [mixF_len] at h3
            obtain ⟨g4, rfl, hcap4⟩ := h3.cap (by omega)
            have hg4 : W.heap.size ≤ g4 := by
              obtain ⟨_, cs', ho, _⟩ := h3
              exact (ho.lt g4 rfl).1
            obtain ⟨_, cs', ho, hc⟩ := h3
            obtain ⟨c0, _⟩ := hc j p (mixF_at hp)
            have hcl := ho.1
            have q0 := ho.cellAt (j * 2) (by omega)
            rw [c0] at q0
            have v0 := ho.frozenAt (j * 2)
            have z3 := hS.hg.cell 3
            simp at z3
            by_cases hgt : (k : Int) < p.a
            · have HY := Lib.hid (subP_yes (k := (k : Int)) hgt)
              have HT := Lib.hid (mixF_set (f := subP k) hp)
              have hS8 := hS.setP (z := p.a - 1) (mixF_len _ _ _) (mixF_at hp)
              rw [← HY.out, HT.out] at hS8
              have hr8 := own_kept (w' := wr.setCell ⟨g4, j * 2, none⟩ (.int .i64 (p.a - 1))) hr (r := (Value.slice (some ⟨g4, 0, none⟩) t3.length e3).ownBlock) (only_set (g := g4)) (own_not ho (by decide))
              have hb8 := hb.setCell (p := ⟨g4, j * 2, none⟩) (show w.heap.size ≤ g4 by omega) (.int .i64 (p.a - 1))
              clear hS hr ho hc c0 HT HY hp
              go_wp2_with fail
              go_roundw
              case rel => exact ⟨j + 1, by omega, by go_num, hS8, hr8, hb8⟩
              case measure => simp [intOf]; omega
            · have HT := Lib.hid (mixF_same (f := subP k) hp (subP_no (k := (k : Int)) hgt))
              rw [← HT.out] at hS
              clear ho hc c0 HT hp
              go_wp2_with fail
              go_roundw
              case rel => exact ⟨j + 1, by omega, by go_num, hS, hr, hb⟩
              case measure => simp [intOf]; omega
          · have e : j = t3.length := by omega
            subst e
            rw [mixF_all (Nat.le_refl _), ← HPE.out] at hS
            have z0 := hS.hg.cell 0
            have z1 := hS.hg.cell 1
            have z2 := hS.hg.cell 2
            have z3 := hS.hg.cell 3
            simp at z0 z1 z2 z3
            have hX := hS.hx
            have f0 := hX.frozen 0
            have f1 := hX.frozen 1
            have f2 := hX.frozen 2
            have f3' := hX.frozen 3
            have y0 := hX.cell 0
            have y1 := hX.cell 1
            have y2 := hX.cell 2
            have y3 := hX.cell 3
            simp at y0 y1 y2 y3
            obtain ⟨hF, hgr⟩ := fill4 hX (.slice C0 t0.length e0) (.slice C1 t1.length e1) (.slice D3 L.length f3) (.slice C3 t3.length e3)
            have r0 := hF.cell 0
            have r1 := hF.cell 1
            have r2 := hF.cell 2
            have r3 := hF.cell 3
            simp at r0 r1 r2 r3
            have hA : AnM wr w.heap.size C0 C1 D3 f3 C3 e3 t0 t1 (leaveC k t2) (leaveP k t3) := ⟨hS.h0, hS.h1, own_less hr (by omega), by
              have h := hS.h3
              rw [leaveP_len] at h ⊢
              exact h.less (by omega)⟩
            have hAF := hA.kept hgr (blk_not hX (by decide)) (blk_not hX (by decide)) (blk_not hX (by decide)) (blk_not hX (by decide))
            have hbF := hb.trans (only_below hgr (Nat.le_refl _) hb.size)
            have HAF := Lib.hid hAF
            have HPL := Lib.hid (leaveP_len k t3)
            clear hF hgr hA hAF hX hS hr hlt
            go_wp2_with fail
            refine bodyPost_ret (v := .agg #[.slice C0 t0.length e0, .slice C1 t1.length e1, .slice D3 L.length f3, .slice C3 t3.length e3]) (by simp [results, Try.results113, go_sem, r0, r1, r2, r3]) rfl ?_
            exact ⟨C0, e0, C1, e1, D3, f3, C3, e3, by rw [HLn.out, HPL.out], HAF.out, hbF⟩
end Go.Proofs.Ytglbkbdljjaioaa

/-! The model's DropIdleJumps. Conditions: at most 2^20 elements and numbers. -/
namespace Go.Proofs.Ytglbkbdljjaioaa
set_option linter.unusedVariables false
set_option linter.unusedSectionVars false
open Go.RowKit

theorem idleB_op {k : Nat} {xs : List (Int × Int)} {ps : List P2} {x : Int × Int} (hx : xs[k]? = some x) (h : x ≠ (5, (k : Int) + 1)) : idleB k xs ps = false := by
  unfold idleB; rw [hx, decide_eq_false (p := some x = some (5, (k : Int) + 1)) (fun e => h (Option.some.inj e))]; simp
theorem idleB_pt {k : Nat} {xs : List (Int × Int)} {ps : List P2} (h : ptB ps k = true) : idleB k xs ps = false := by unfold idleB; rw [h]; simp
theorem idleB_len {k : Nat} {xs : List (Int × Int)} {ps : List P2} (h : ¬ 1 < xs.length) : idleB k xs ps = false := by unfold idleB; rw [decide_eq_false h]; rfl
theorem idleB_yes {k : Nat} {xs : List (Int × Int)} {ps : List P2} (hx : xs[k]? = some (5, (k : Int) + 1)) (h : ptB ps k = false) (hl : 1 < xs.length) : idleB k xs ps = true := by unfold idleB; rw [hx, h, decide_eq_true hl]; simp
theorem idle1_no {k : Nat} {xs : List (Int × Int)} {ps : List P2} (h : idleB k xs ps = false) : idle1 k (xs, ps) = (xs, ps) := by unfold idle1; rw [if_neg (by simp [h])]
theorem idle1_yes {k : Nat} {xs : List (Int × Int)} {ps : List P2} (h : idleB k xs ps = true) : idle1 k (xs, ps) = (leaveC k xs, leaveP k ps) := by unfold idle1; rw [if_pos (by simp [h])]
def SmP (ps : List P2) : Prop := ps.length ≤ 1000 ∧ ∀ p ∈ ps, p.s.length ≤ 1000 ∧ ∀ t ∈ p.s, t.2.length ≤ 100000
theorem SmP.leave {k : Nat} {ps : List P2} (h : SmP ps) : SmP (leaveP k ps) := by
  refine ⟨by rw [leaveP_len]; exact h.1, fun p hp => ?_⟩
  obtain ⟨q, hq, rfl⟩ := List.mem_map.1 hp
  rw [subP_s]
  exact h.2 q hq
/-- What stays the same while idle jumps are left out from place i - 1 down. -/
structure IdS (i : Nat) (R : List (Int × Int) × List P2) (xs : List (Int × Int)) (ps : List P2) : Prop where
  res : R = idleN i (xs, ps)
  len : i ≤ xs.length
  max : xs.length ≤ 1000
  bc : BndC xs
  bp : BndP ps
  sm : SmP ps
theorem IdS.no {k : Nat} {R : List (Int × Int) × List P2} {xs : List (Int × Int)} {ps : List P2} (h : IdS (k + 1) R xs ps) (hi : idleB k xs ps = false) : IdS k R xs ps :=
  ⟨by rw [h.res]; show idleN k (idle1 k (xs, ps)) = _; rw [idle1_no hi], by have := h.len; omega, h.max, h.bc, h.bp, h.sm⟩
theorem IdS.yes {k : Nat} {R : List (Int × Int) × List P2} {xs : List (Int × Int)} {ps : List P2} (h : IdS (k + 1) R xs ps) (hi : idleB k xs ps = true) : IdS k R (leaveC k xs) (leaveP k ps) := by
  have hl := leaveC_len (k := k) (xs := xs) (by have := h.len; omega)
  have := h.len
  have := h.max
  exact ⟨by rw [h.res]; show idleN k (idle1 k (xs, ps)) = _; rw [idle1_yes hi], by omega, by omega, h.bc.leave, h.bp.leave, h.sm.leave⟩

set_option maxRecDepth 100000 in
set_option maxHeartbeats 8000000 in
theorem l09Idle_c (b base : Nat) (A0 : Option Addr) (c0 : Nat) (t0 : List (Int × List Int)) (A1 : Option Addr) (c1 : Nat) (t1 : List (Int × List Int)) (A2 : Option Addr) (c2 : Nat) (t2 : List (Int × Int)) (A3 : Option Addr) (c3 : Nat) (t3 : List P2) (B : Nat) (w : World) (R : List (Int × Int) × List P2)
    (hP : BlkIs w b 35 #[.slice A0 t0.length c0, .slice A1 t1.length c1, .slice A2 t2.length c2, .slice A3 t3.length c3]) (h0 : InTS w B A0 t0.length t0) (h1 : InTS w B A1 t1.length t1) (h2 : InC w B A2 t2.length t2) (h3 : InP2 w B A3 t3.length t3) (hB : B ≤ w.heap.size)
    (s0 : t0.length ≤ 1000 ∧ ∀ t ∈ t0, t.2.length ≤ 100000) (s1 : t1.length ≤ 1000 ∧ ∀ t ∈ t1, t.2.length ≤ 100000) (hI : IdS t2.length R t2 t3) :
    Calls Try.prog 82 #[.pointer (some ⟨b, 0, none⟩)] w fun e w' => ∃ C0 e0 C1 e1 C2 e2 C3 e3, e = .returned (.agg #[.slice C0 t0.length e0, .slice C1 t1.length e1, .slice C2 R.1.length e2, .slice C3 R.2.length e3]) ∧ AnM w' w.heap.size C0 C1 C2 e2 C3 e3 t0 t1 R.1 R.2 ∧ Below w.heap.size w w' := by
  have hb0 := bnew w (.cells #[.slice none 0 0, .slice none 0 0, .slice none 0 0, .slice none 0 0] 35)
  have hX : BlkIs (w.alloc (.cells #[.slice none 0 0, .slice none 0 0, .slice none 0 0, .slice none 0 0] 35)) w.heap.size 35 #[.slice none 0 0, .slice none 0 0, .slice none 0 0, .slice none 0 0] := blk_new _ _ _ _ rfl
  have hsz : (w.alloc (.cells #[.slice none 0 0, .slice none 0 0, .slice none 0 0, .slice none 0 0] 35)).heap.size = w.heap.size + 1 := by simp
  have HOwn := Lib.hid (l08Own_c b A0 t0.length c0 t0 A1 t1.length c1 t1 A2 t2.length c2 t2 A3 t3.length c3 t3 B _ (hP.next hb0) (h0.next hb0 hB) (h1.next hb0 hB) (h2.next hb0 hB) (h3.next hb0 hB) (Nat.le_trans hB hb0.size) s0.1 s0.2 s1.1 s1.2 hI.max hI.sm.1 hI.sm.2)
  have HI := Lib.hid hI
  have HS0 := Lib.hid s0
  have HS1 := Lib.hid s1
  have HP := Lib.hid hP
  have hmx := hI.max
  clear h0 h1 h2 h3 hP hI
  go_enter Try.func82, Try.ntmps82
  go_wp2_with fail
  generalize (w.alloc (.cells #[.slice none 0 0, .slice none 0 0, .slice none 0 0, .slice none 0 0] 35)) = W at hb0 hX hsz HOwn ⊢
  refine HOwn.out.mono ?_
  rintro e w2 ⟨C0, e0, C1, e1, C2, e2, C3, e3, rfl, hT0, hT1, hC, hR, hb2⟩
  have hs2 := hb2.size
  have hbw2 := bon hb0 hb2
  have hbA := bnew w2 (.cells #[.slice C0 t0.length e0, .slice C1 t1.length e1, .slice C2 t2.length e2, .slice C3 t3.length e3] 35)
  have hG : BlkIs (w2.alloc (.cells #[.slice C0 t0.length e0, .slice C1 t1.length e1, .slice C2 t2.length e2, .slice C3 t3.length e3] 35)) w2.heap.size 35 #[.slice C0 t0.length e0, .slice C1 t1.length e1, .slice C2 t2.length e2, .slice C3 t3.length e3] := blk_new _ _ _ _ rfl
  have hM : AnM (w2.alloc (.cells #[.slice C0 t0.length e0, .slice C1 t1.length e1, .slice C2 t2.length e2, .slice C3 t3.length e3] 35)) w.heap.size C0 C1 C2 e2 C3 e3 t0 t1 t2 t3 := (AnM.mk hT0 hT1 (own_less hC (by omega)) (hR.less (by omega))).next hbA
  have hXA := (hX.next hb2).next hbA
  have hbF := bon hbw2 hbA
  have hPb := (HP.out.next hbF).cell 2
  simp at hPb
  clear hT0 hT1 hC hR hX HOwn
  go_wp2_with fail
  generalize w2.alloc (.cells #[.slice C0 t0.length e0, .slice C1 t1.length e1, .slice C2 t2.length e2, .slice C3 t3.length e3] 35) = V at hG hM hXA hbF hPb hbA ⊢
  go_loopw [4] (fun z wr => ∃ (i : Nat) (xs : List (Int × Int)) (ps : List P2) (D0 : Option Addr) (g0 : Nat) (D1 : Option Addr) (g1 : Nat) (D2 : Option Addr) (g2 : Nat) (D3 : Option Addr) (g3 : Nat), z = .int .i64 ((i : Int) - 1) ∧ Hid (IdS i R xs ps) ∧ BlkIs wr w2.heap.size 35 #[.slice D0 t0.length g0, .slice D1 t1.length g1, .slice D2 xs.length g2, .slice D3 ps.length g3] ∧ AnM wr w.heap.size D0 D1 D2 g2 D3 g3 t0 t1 xs ps ∧ BlkIs wr w.heap.size 35 #[.slice none 0 0, .slice none 0 0, .slice none 0 0, .slice none 0 0] ∧ Below w.heap.size w wr ∧ w2.heap.size < wr.heap.size) (fun z _ => (intOf z + 1).toNat)
  case atStart => exact ⟨t2.length, t2, t3, _, _, _, _, _, _, _, _, rfl, HI, hG, hM, hXA, hbF, hG.lt⟩
  case round =>
    clear hG hM hXA hbF hPb hbA
    obtain ⟨i, xs, ps, D0, g0, D1, g1, D2, g2, D3, g3, rfl, hI, hG, hM, hX, hb, hsw⟩ := hrel
    rcases Nat.eq_zero_or_pos i with rfl | hi
    · have HR := Lib.hid hI.out.res
      have z0 := hG.cell 0
      have z1 := hG.cell 1
      have z2 := hG.cell 2
      have z3 := hG.cell 3
      simp at z0 z1 z2 z3
      have f0 := hX.frozen 0
      have f1 := hX.frozen 1
      have f2 := hX.frozen 2
      have f3 := hX.frozen 3
      have y0 := hX.cell 0
      have y1 := hX.cell 1
      have y2 := hX.cell 2
      have y3 := hX.cell 3
      simp at y0 y1 y2 y3
      obtain ⟨hF, hgr⟩ := fill4 hX (.slice D0 t0.length g0) (.slice D1 t1.length g1) (.slice D2 xs.length g2) (.slice D3 ps.length g3)
      have r0 := hF.cell 0
      have r1 := hF.cell 1
      have r2 := hF.cell 2
      have r3 := hF.cell 3
      simp at r0 r1 r2 r3
      have HA := Lib.hid (hM.kept hgr (blk_not hX (by decide)) (blk_not hX (by decide)) (blk_not hX (by decide)) (blk_not hX (by decide)))
      have hbE := hb.trans (only_below hgr (Nat.le_refl _) hb.size)
      have hz0 : ((0 : Nat) : Int) - 1 = -1 := rfl
      rw [hz0]
      clear hF hgr hM hX hG hI hz0
      go_wp2_with fail
      refine bodyPost_ret (v := .agg #[.slice D0 t0.length g0, .slice D1 t1.length g1, .slice D2 xs.length g2, .slice D3 ps.length g3]) (by simp [results, Try.results82, go_sem, r0, r1, r2, r3]) rfl ?_
      rw [HR.out]
      exact ⟨_, _, _, _, _, _, _, _, rfl, HA.out, hbE⟩
    · obtain ⟨k, rfl⟩ : ∃ k, i = k + 1 := ⟨i - 1, by omega⟩
      have hki : ((k + 1 : Nat) : Int) - 1 = (k : Int) := by omega
      rw [hki]
      have hxl := hI.out.len
      have hxm := hI.out.max
      obtain ⟨x, hx⟩ : ∃ x, xs[k]? = some x := ⟨_, List.getElem?_eq_getElem (by omega)⟩
      obtain ⟨gD, rfl, hcapD, hgD⟩ := ownC_cap hM.f2 (by omega)
      obtain ⟨f0, f1⟩ := flatC_at hx
      have z2 := hG.cell 2
      simp at z2
      have q0 := hM.f2.cellAt (k * 2) (by omega)
      have q1 := hM.f2.cellAt (k * 2 + 1) (by omega)
      rw [f0] at q0
      rw [f1] at q1
      have hbx := bnew wr (.cells #[.int .i64 x.1, .int .i64 x.2] 66)
      have hlk : k < xs.length := by omega
      have hGx := hG.next hbx
      have hMx := hM.next hbx
      have hXx := hX.next hbx
      have hbX := bon hb hbx
      have hswx : w2.heap.size < (wr.alloc (.cells #[.int .i64 x.1, .int .i64 x.2] 66)).heap.size := Nat.lt_of_lt_of_le hsw hbx.size
      have wa : IntKind.i64.wrap ((k : Int) + 1) = (k : Int) + 1 := IntWalk.i64_in _ (by omega)
      by_cases h5 : x.1 = 5
      · have e5 : (x.1 == 5) = true := by simp [h5]
        by_cases h6 : x.2 = (k : Int) + 1
        · have e6 : (x.2 == (k : Int) + 1) = true := by simp [h6]
          have hxe : x = (5, (k : Int) + 1) := Prod.ext h5 h6
          have hp3 := hGx.cell 3
          simp at hp3
          obtain ⟨A3', c3', hv3, hPt3⟩ := hMx.f3.out
          injection hv3 with i1 i2 i3
          subst i1
          clear i2 i3
          have HPT := Lib.hid (l09Point_c w2.heap.size D3 ps.length g3 _ ps (k : Int) _ hp3 hPt3.inn (by have := hI.out.sm.1; omega))
          cases hpt : ptB ps (k : Int) with
          | true =>
            have HN := Lib.hid (hI.out.no (idleB_pt hpt))
            rw [hpt] at HPT
            clear hx f0 f1 h5 h6 hxe hpt hPt3 hI hki
            go_wp2_with fail
            refine HPT.out.mono ?_
            rintro e w5 ⟨rfl, rfl⟩
            go_wp2_with fail
            go_roundw
            case rel => exact ⟨k, xs, ps, _, _, _, _, _, _, _, _, by go_num, HN, hGx, hMx, hXx, hbX, hswx⟩
            case measure => simp [intOf]
          | false =>
            rw [hpt] at HPT
            have zx2 := hGx.cell 2
            simp at zx2
            by_cases hl1 : 1 < xs.length
            · have hl1' : (1 : Int) < (xs.length : Int) := by omega
              rw [hxe] at hx
              have HY := Lib.hid (hI.out.yes (idleB_yes hx hpt hl1))
              have hbq := bnew (wr.alloc (.cells #[.int .i64 x.1, .int .i64 x.2] 66)) (.cells #[] 66)
              have HSP := Lib.hid (l09Splice_c w2.heap.size w.heap.size D0 g0 D1 g1 (some ⟨gD, 0, none⟩) g2 D3 g3 t0 t1 xs ps k (wr.heap.size + 1) _ (hGx.next hbq) (hMx.next hbq) HS0.out HS1.out hxm hI.out.sm hlk hI.out.bc hI.out.bp)
              have hGq := hGx.next hbq
              have hXq := hXx.next hbq
              have hbQ := bon hbX hbq
              clear hx f0 f1 h5 h6 hxe hpt hPt3 hI hki
              go_wp2_with fail
              refine HPT.out.mono ?_
              rintro e w5 ⟨rfl, rfl⟩
              go_wp2_with fail
              refine HSP.out.mono ?_
              rintro e w6 ⟨E0, j0, E1, j1, E2, j2, E3, j3, rfl, hA, hb6⟩
              have hG6 := hGq.next hb6
              have hX6 := hXq.next hb6
              have hb06 := bon hbQ hb6
              have y0 := hG6.frozen 0
              have y1 := hG6.frozen 1
              have y2 := hG6.frozen 2
              have y3 := hG6.frozen 3
              have u0 := hG6.cell 0
              have u1 := hG6.cell 1
              have u2 := hG6.cell 2
              have u3 := hG6.cell 3
              simp at u0 u1 u2 u3
              obtain ⟨hF, hgr⟩ := fill4 hG6 (.slice E0 t0.length j0) (.slice E1 t1.length j1) (.slice E2 (leaveC k xs).length j2) (.slice E3 (leaveP k ps).length j3)
              have hA7 := (hA.kept hgr (blk_not hG6 (by decide)) (blk_not hG6 (by decide)) (blk_not hG6 (by decide)) (blk_not hG6 (by decide))).less hbQ.size
              have hne : w.heap.size ≠ w2.heap.size := by omega
              have hX7 := (((hX6.far hne 0 (.slice E0 t0.length j0)).far hne 1 (.slice E1 t1.length j1)).far hne 2 (.slice E2 (leaveC k xs).length j2)).far hne 3 (.slice E3 (leaveP k ps).length j3)
              have hb7 := hb06.trans (only_below hgr (show w.heap.size ≤ w2.heap.size by omega) hb06.size)
              have hsw7 := hF.lt
              clear hG6 hX6 hgr hA HSP HPT
              go_wp2_with fail
              go_roundw
              case rel => exact ⟨k, leaveC k xs, leaveP k ps, _, _, _, _, _, _, _, _, by go_num, HY, hF, hA7, hX7, hb7, hsw7⟩
              case measure => simp [intOf]
            · have hl1' : ¬ (1 : Int) < (xs.length : Int) := by omega
              have HN := Lib.hid (hI.out.no (idleB_len (k := k) (ps := ps) hl1))
              clear hx f0 f1 h5 h6 hxe hpt hPt3 hI hki
              go_wp2_with fail
              refine HPT.out.mono ?_
              rintro e w5 ⟨rfl, rfl⟩
              go_wp2_with fail
              go_roundw
              case rel => exact ⟨k, xs, ps, _, _, _, _, _, _, _, _, by go_num, HN, hGx, hMx, hXx, hbX, hswx⟩
              case measure => simp [intOf]
        · have e6 : (x.2 == (k : Int) + 1) = false := by simp [h6]
          have HN := Lib.hid (hI.out.no (idleB_op hx (fun e => h6 (by rw [e]))))
          clear hx f0 f1 h5 h6 hI hki
          go_wp2_with fail
          go_roundw
          case rel => exact ⟨k, xs, ps, _, _, _, _, _, _, _, _, by go_num, HN, hGx, hMx, hXx, hbX, hswx⟩
          case measure => simp [intOf]
      · have e5 : (x.1 == 5) = false := by simp [h5]
        have HN := Lib.hid (hI.out.no (idleB_op hx (fun e => h5 (by rw [e]))))
        clear hx f0 f1 h5 hI hki
        go_wp2_with fail
        go_roundw
        case rel => exact ⟨k, xs, ps, _, _, _, _, _, _, _, _, by go_num, HN, hGx, hMx, hXx, hbX, hswx⟩
        case measure => simp [intOf]
section
variable (A0 : Option Addr) (n0 c0 : Nat) (t0 : List (Int × List Int)) (A1 : Option Addr) (n1 c1 : Nat) (t1 : List (Int × List Int)) (A2 : Option Addr) (n2 c2 : Nat) (t2 : List (Int × Int)) (A3 : Option Addr) (n3 c3 : Nat) (t3 : List P2) (w : World) (h0 : InTS w w.heap.size A0 n0 t0) (h1 : InTS w w.heap.size A1 n1 t1) (h2 : InC w w.heap.size A2 n2 t2) (h3 : InP2 w w.heap.size A3 n3 t3) (hn0 : n0 ≤ 1048576) (he0 : totT t0 ≤ 1048576) (hn1 : n1 ≤ 1048576) (he1 : totT t1 ≤ 1048576) (hn2 : n2 ≤ 1048576) (hn3 : n3 ≤ 1048576) (he3 : totP2 t3 ≤ 1048576)
include h0 h1 h2 h3 hn0 he0 hn1 he1 hn2 hn3 he3
set_option maxRecDepth 100000 in
set_option maxHeartbeats 4000000 in
theorem specIdle_no (hv : annB t0 t1 t2 t3 = false) :
    Calls Try.prog 39 #[.agg #[.slice A0 n0 c0, .slice A1 n1 c1, .slice A2 n2 c2, .slice A3 n3 c3]] w fun e w' => AnS w w' e 0 0 0 0 [] [] [] [] false := by
  have hb0 : Below w.heap.size w ((w.alloc (.cells #[.slice A0 n0 c0, .slice A1 n1 c1, .slice A2 n2 c2, .slice A3 n3 c3] 35)).alloc (.cells #[.slice none 0 0, .slice none 0 0, .slice none 0 0, .slice none 0 0] 35)) := bon (bnew _ _) (bnew _ _)
  have hP : BlkIs ((w.alloc (.cells #[.slice A0 n0 c0, .slice A1 n1 c1, .slice A2 n2 c2, .slice A3 n3 c3] 35)).alloc (.cells #[.slice none 0 0, .slice none 0 0, .slice none 0 0, .slice none 0 0] 35)) w.heap.size 35 #[.slice A0 n0 c0, .slice A1 n1 c1, .slice A2 n2 c2, .slice A3 n3 c3] := (blk_new w _ _ _ rfl).next (bnew _ _)
  have hX : BlkIs ((w.alloc (.cells #[.slice A0 n0 c0, .slice A1 n1 c1, .slice A2 n2 c2, .slice A3 n3 c3] 35)).alloc (.cells #[.slice none 0 0, .slice none 0 0, .slice none 0 0, .slice none 0 0] 35)) (w.heap.size + 1) 35 #[.slice none 0 0, .slice none 0 0, .slice none 0 0, .slice none 0 0] := blk_new _ _ _ _ (by simp)
  have HC0 := l08Is_c w.heap.size A0 n0 c0 t0 A1 n1 c1 t1 A2 n2 c2 t2 A3 n3 c3 t3 w.heap.size _ hP (h0.next hb0 (Nat.le_refl _)) (h1.next hb0 (Nat.le_refl _)) (h2.next hb0 (Nat.le_refl _)) (h3.next hb0 (Nat.le_refl _)) hb0.size hn0 he0 hn1 he1 hn2 hn3 he3
  rw [hv] at HC0
  have HC := Lib.hid HC0
  clear HC0 hv h0 h1 h2 h3
  go_enter Try.func39, Try.ntmps39
  go_wp2_with fail
  generalize ((w.alloc (.cells #[.slice A0 n0 c0, .slice A1 n1 c1, .slice A2 n2 c2, .slice A3 n3 c3] 35)).alloc (.cells #[.slice none 0 0, .slice none 0 0, .slice none 0 0, .slice none 0 0] 35)) = W at hb0 hP hX HC ⊢
  refine HC.out.mono ?_
  rintro e w1 ⟨rfl, hb1⟩
  have hX1 := hX.next hb1
  have f0 := hX1.frozen 0
  have f1 := hX1.frozen 1
  have f2 := hX1.frozen 2
  have f3 := hX1.frozen 3
  have y0 := hX1.cell 0
  have y1 := hX1.cell 1
  have y2 := hX1.cell 2
  have y3 := hX1.cell 3
  simp at y0 y1 y2 y3
  obtain ⟨hF, hgr⟩ := fill4 hX1 (.slice none 0 0) (.slice none 0 0) (.slice none 0 0) (.slice none 0 0)
  have r0 := hF.cell 0
  have r1 := hF.cell 1
  have r2 := hF.cell 2
  have r3 := hF.cell 3
  simp at r0 r1 r2 r3
  have hbF := (bon hb0 hb1).trans (only_below hgr (Nat.le_succ _) (bon hb0 hb1).size)
  clear hgr hF hX1
  go_wp2_with fail
  refine bodyPost_ret (v := .tuple #[.agg #[.slice none 0 0, .slice none 0 0, .slice none 0 0, .slice none 0 0], .bool false]) (by simp [results, Try.results39, go_sem, r0, r1, r2, r3]) rfl ?_
  exact ⟨none, 0, none, 0, none, 0, none, 0, rfl, inTS_none _ _, inTS_none _ _, inC_none _ _, inP2_none _ _, hbF⟩

set_option maxRecDepth 100000 in
set_option maxHeartbeats 4000000 in
theorem specIdle_yes (hv : annB t0 t1 t2 t3 = true) :
    Calls Try.prog 39 #[.agg #[.slice A0 n0 c0, .slice A1 n1 c1, .slice A2 n2 c2, .slice A3 n3 c3]] w fun e w' => AnS w w' e n0 n1 (idleN n2 (t2, t3)).1.length (idleN n2 (t2, t3)).2.length t0 t1 (idleN n2 (t2, t3)).1 (idleN n2 (t2, t3)).2 true := by
  have hb0 : Below w.heap.size w ((w.alloc (.cells #[.slice A0 n0 c0, .slice A1 n1 c1, .slice A2 n2 c2, .slice A3 n3 c3] 35)).alloc (.cells #[.slice none 0 0, .slice none 0 0, .slice none 0 0, .slice none 0 0] 35)) := bon (bnew _ _) (bnew _ _)
  have hP : BlkIs ((w.alloc (.cells #[.slice A0 n0 c0, .slice A1 n1 c1, .slice A2 n2 c2, .slice A3 n3 c3] 35)).alloc (.cells #[.slice none 0 0, .slice none 0 0, .slice none 0 0, .slice none 0 0] 35)) w.heap.size 35 #[.slice A0 n0 c0, .slice A1 n1 c1, .slice A2 n2 c2, .slice A3 n3 c3] := (blk_new w _ _ _ rfl).next (bnew _ _)
  have hX : BlkIs ((w.alloc (.cells #[.slice A0 n0 c0, .slice A1 n1 c1, .slice A2 n2 c2, .slice A3 n3 c3] 35)).alloc (.cells #[.slice none 0 0, .slice none 0 0, .slice none 0 0, .slice none 0 0] 35)) (w.heap.size + 1) 35 #[.slice none 0 0, .slice none 0 0, .slice none 0 0, .slice none 0 0] := blk_new _ _ _ _ (by simp)
  have HC0 := l08Is_c w.heap.size A0 n0 c0 t0 A1 n1 c1 t1 A2 n2 c2 t2 A3 n3 c3 t3 w.heap.size _ hP (h0.next hb0 (Nat.le_refl _)) (h1.next hb0 (Nat.le_refl _)) (h2.next hb0 (Nat.le_refl _)) (h3.next hb0 (Nat.le_refl _)) hb0.size hn0 he0 hn1 he1 hn2 hn3 he3
  rw [hv] at HC0
  have HC := Lib.hid HC0
  have hl0 := h0.1
  have hl1 := h1.1
  have hl2 := h2.1
  have hl3 := h3.1
  subst hl0 hl1 hl2 hl3
  obtain ⟨s0, s1, s2, s3, s3'⟩ := annB_small hv
  have hbd := annB_bnd hv
  have hI : IdS t2.length (idleN t2.length (t2, t3)) t2 t3 := ⟨rfl, Nat.le_refl _, by omega, hbd.1, hbd.2, ⟨by omega, s3'⟩⟩
  have HIdle : Hid (∀ x, Below w.heap.size w x → BlkIs x w.heap.size 35 #[.slice A0 t0.length c0, .slice A1 t1.length c1, .slice A2 t2.length c2, .slice A3 t3.length c3] → Calls Try.prog 82 #[.pointer (some ⟨w.heap.size, 0, none⟩)] x fun e w' => ∃ C0 e0 C1 e1 C2 e2 C3 e3, e = .returned (.agg #[.slice C0 t0.length e0, .slice C1 t1.length e1, .slice C2 (idleN t2.length (t2, t3)).1.length e2, .slice C3 (idleN t2.length (t2, t3)).2.length e3]) ∧ AnM w' x.heap.size C0 C1 C2 e2 C3 e3 t0 t1 (idleN t2.length (t2, t3)).1 (idleN t2.length (t2, t3)).2 ∧ Below x.heap.size x w') :=
    fun x hx hPx => l09Idle_c w.heap.size 0 A0 c0 t0 A1 c1 t1 A2 c2 t2 A3 c3 t3 w.heap.size x _ hPx (h0.next hx (Nat.le_refl _)) (h1.next hx (Nat.le_refl _)) (h2.next hx (Nat.le_refl _)) (h3.next hx (Nat.le_refl _)) hx.size s0 s1 hI
  generalize idleN t2.length (t2, t3) = R at HIdle ⊢
  clear HC0 hv h0 h1 h2 h3 s0 s1 s2 s3 s3' hbd hI
  go_enter Try.func39, Try.ntmps39
  go_wp2_with fail
  generalize ((w.alloc (.cells #[.slice A0 t0.length c0, .slice A1 t1.length c1, .slice A2 t2.length c2, .slice A3 t3.length c3] 35)).alloc (.cells #[.slice none 0 0, .slice none 0 0, .slice none 0 0, .slice none 0 0] 35)) = W at hb0 hP hX HC ⊢
  refine HC.out.mono ?_
  rintro e w1 ⟨rfl, hb1⟩
  have hb01 := bon hb0 hb1
  have HG := Lib.hid (HIdle.out w1 hb01 (hP.next hb1))
  have HX1 := Lib.hid (hX.next hb1)
  clear HIdle hP hX HC
  go_wp2_with fail
  refine HG.out.mono ?_
  rintro e w2 ⟨C0, e0, C1, e1, C2, e2, C3, e3, rfl, hA, hb2⟩
  have hX1 := HX1.out.next hb2
  have f0 := hX1.frozen 0
  have f1 := hX1.frozen 1
  have f2 := hX1.frozen 2
  have f3 := hX1.frozen 3
  have y0 := hX1.cell 0
  have y1 := hX1.cell 1
  have y2 := hX1.cell 2
  have y3 := hX1.cell 3
  simp at y0 y1 y2 y3
  obtain ⟨hF, hgr⟩ := fill4 hX1 (.slice C0 t0.length e0) (.slice C1 t1.length e1) (.slice C2 R.1.length e2) (.slice C3 R.2.length e3)
  have r0 := hF.cell 0
  have r1 := hF.cell 1
  have r2 := hF.cell 2
  have r3 := hF.cell 3
  simp at r0 r1 r2 r3
  have hb02 := bon hb01 hb2
  have hbF := hb02.trans (only_below hgr (Nat.le_succ _) hb02.size)
  have hA2 := hA.kept hgr (blk_not hX1 (by decide)) (blk_not hX1 (by decide)) (blk_not hX1 (by decide)) (blk_not hX1 (by decide))
  obtain ⟨A3', c3', hv3, hPt3⟩ := hA2.f3.out
  injection hv3 with i1 i2 i3
  subst i1
  have HQ := Lib.hid (And.intro hA2.f0.inn (And.intro hA2.f1.inn (And.intro (OwnC.of_own hA2.f2 rfl).all hPt3.inn)))
  clear hF hgr hA hA2 hX1 HX1 HG i2 i3 hPt3
  go_wp2_with fail
  refine bodyPost_ret (v := .tuple #[.agg #[.slice C0 t0.length e0, .slice C1 t1.length e1, .slice C2 R.1.length e2, .slice C3 R.2.length e3], .bool true]) (by simp [results, Try.results39, go_sem, r0, r1, r2, r3]) rfl ?_
  exact ⟨C0, e0, C1, e1, C2, e2, C3, e3, rfl, HQ.out.1, HQ.out.2.1, HQ.out.2.2.1, HQ.out.2.2.2, hbF⟩
end
end Go.Proofs.Ytglbkbdljjaioaa

/-! The program's optimiser: whether a place is open; one instruction deleted. Conditions: valid code. -/
namespace Go.Proofs.Ytglbkbdljjaioaa
set_option linter.unusedVariables false
open Go.RowKit

set_option maxRecDepth 100000 in
theorem atPlace_c (P : Nat) (a k : Int) (A : Option Addr) (n c : Nat) (w : World) (hP : w.cell? ⟨P, 0, none⟩ = some (.int .i64 k)) :
    Calls Try.prog 142 #[.agg #[.int .i64 a, .slice A n c], .pointer (some ⟨P, 0, none⟩)] w fun e w' => e = .returned (.bool (a == k)) ∧ Below w.heap.size w w' := by
  have hb := bnew w (.cells #[.int .i64 a, .slice A n c] 40)
  have p0 := cell_next hP hb
  go_enter Try.func142, Try.ntmps142
  go_wp2_with fail
  go_ret
  exact ⟨rfl, hb⟩

set_option maxRecDepth 100000 in
set_option maxHeartbeats 4000000 in
theorem indexP_c (P : Nat) (k : Int) (A : Option Addr) (n c B : Nat) (ps : List P2) (w : World) (hP : w.cell? ⟨P, 0, none⟩ = some (.int .i64 k)) (h : InP2 w B A n ps) (hB : B ≤ w.heap.size) (hn : n ≤ 1048576) :
    Calls Try.prog 141 #[.slice A n c, .func (Fn.func 142) #[] #[.pointer (some ⟨P, 0, none⟩)]] w fun e w' => ∃ r : Int, e = .returned (.int .i64 r) ∧ (r == -1) = !ptB ps k ∧ Below w.heap.size w w' := by
  have hlen := Lib.hid h.1
  go_enter Try.func141, Try.ntmps141
  go_wp2_with fail
  go_loopw [5, 8] (fun _ q wr => ∃ j : Nat, j ≤ n ∧ q = .int .i64 j ∧ Hid (ptB (ps.take j) k = false) ∧ Below w.heap.size w wr) (fun _ q _ => n - (intOf q).toNat)
  case atStart => exact ⟨0, Nat.zero_le _, rfl, Lib.hid rfl, Below.refl _ _⟩
  case round =>
    obtain ⟨j, hj, rfl, ha, hb⟩ := hrel
    by_cases hlt : j < n
    · obtain ⟨b, off, x, rfl, hbB, hx, A0, n0, c0, q0, q1, kf⟩ := (h.next hb hB).at_ hlt
      have HC := Lib.hid (atPlace_c P x.a k A0 n0 c0 wr (cell_next hP hb))
      clear kf
      by_cases hk : x.a = k
      · have e0 : (x.a == k) = true := by simp [hk]
        have HN := Lib.hid (ptB_yes hx hk)
        rw [e0] at HC
        clear hx ha hk
        go_wp2_with fail
        refine HC.out.mono ?_
        rintro e w1 ⟨rfl, hb1⟩
        go_wp2_with fail
        go_ret
        exact ⟨(j : Int), rfl, (by rw [HN.out]; first | (simp; done) | (simp; omega)), bon hb hb1⟩
      · have e0 : (x.a == k) = false := by simp [hk]
        have HS := Lib.hid (ptB_take_no ha.out hx hk)
        rw [e0] at HC
        clear hx ha hk
        go_wp2_with fail
        refine HC.out.mono ?_
        rintro e w1 ⟨rfl, hb1⟩
        go_wp2_with fail
        go_roundw
        case rel => exact ⟨j + 1, by omega, by go_num, HS, bon hb hb1⟩
        case measure => simp [intOf]; omega
    · have HN := Lib.hid (ptB_all ha.out (by rw [hlen.out]; omega))
      clear ha
      go_wp2_with fail
      go_ret
      exact ⟨-1, rfl, by rw [HN.out]; rfl, hb⟩

set_option maxRecDepth 100000 in
set_option maxHeartbeats 4000000 in
theorem pointAt_c (v0 v1 v2 : Value) (k : Int) (A : Option Addr) (n c B : Nat) (ps : List P2) (w : World) (h : InP2 w B A n ps) (hB : B ≤ w.heap.size) (hn : n ≤ 1048576) :
    Calls Try.prog 125 #[.agg #[v0, v1, v2, .slice A n c], .int .i64 k] w fun e w' => ∃ r : Int, e = .returned (.int .i64 r) ∧ (r == -1) = !ptB ps k ∧ Below w.heap.size w w' := by
  have hb0 : Below w.heap.size w ((w.alloc (.cells #[v0, v1, v2, .slice A n c] 35)).alloc (.cells #[.int .i64 k] 2)) := bon (bnew _ _) (bnew _ _)
  have p3 : ((w.alloc (.cells #[v0, v1, v2, .slice A n c] 35)).alloc (.cells #[.int .i64 k] 2)).cell? ⟨w.heap.size, 3, none⟩ = some (.slice A n c) := by simp
  have pk : ((w.alloc (.cells #[v0, v1, v2, .slice A n c] 35)).alloc (.cells #[.int .i64 k] 2)).cell? ⟨w.heap.size + 1, 0, none⟩ = some (.int .i64 k) := by simp
  have HC := Lib.hid (indexP_c (w.heap.size + 1) k A n c B ps _ pk (h.next hb0 hB) (Nat.le_trans hB hb0.size) hn)
  clear pk h
  go_enter Try.func125, Try.ntmps125
  go_wp2_with fail
  refine HC.out.mono ?_
  rintro e w1 ⟨r, rfl, hr, hb1⟩
  have HR := Lib.hid hr
  clear hr
  go_wp2_with fail
  go_ret
  exact ⟨r, rfl, HR.out, bon hb0 hb1⟩

set_option maxRecDepth 100000 in
set_option maxHeartbeats 4000000 in
/-- isOpen at a place within the code. -/
theorem isOpen_c (o : Nat) (v0 v1 : Value) (A : Option Addr) (n c B : Nat) (xs : List (Int × Int)) (D : Option Addr) (m d : Nat) (ps : List P2) (k : Nat) (op : Int) (x : Int × Int) (w : World) (hP : BlkIs w o 171 #[v0, v1, .slice A n c, .slice D m d]) (h1 : InC w B A n xs) (h2 : InP2 w B D m ps) (hB : B ≤ w.heap.size) (hn : n ≤ 1000) (hm : m ≤ 1048576) (hx : xs[k]? = some x) (r : Bool) (hr : r = (decide (x.1 = op) && !ptB ps (k : Int))) :
    Calls Try.prog 114 #[.pointer (some ⟨o, 0, none⟩), .int .i64 (k : Int), .int .i64 op] w fun e w' => e = .returned (.bool r) ∧ Below w.heap.size w w' := by
  have hkn : k < n := by have := (List.getElem?_eq_some_iff.1 hx).1; have := h1.1; omega
  obtain ⟨b, off, y, rfl, hb, hy, q0, q1⟩ := h1.at_ hkn
  obtain rfl : x = y := by rw [hx] at hy; exact Option.some.inj hy
  have p0 := hP.cell 0
  have p1 := hP.cell 1
  have p2 := hP.cell 2
  have p3 := hP.cell 3
  simp at p0 p1 p2 p3
  have hki : (k : Int) < (n : Int) := by omega
  have HC := Lib.hid (pointAt_c v0 v1 (.slice (some ⟨b, off, none⟩) n c) (k : Int) D m d B ps w h2 hB hm)
  clear h1 h2 hx hy q1
  by_cases ho : x.1 = op
  · have e0 : (x.1 == op) = true := by simp [ho]
    rw [decide_eq_true ho] at hr
    cases hpt : ptB ps (k : Int) with
    | true =>
      rw [hpt] at hr HC
      subst hr
      clear ho hpt
      go_enter Try.func114, Try.ntmps114
      go_wp2_with fail
      refine HC.out.mono ?_
      rintro e w1 ⟨r', rfl, hr', hb1⟩
      have er : (r' == -1) = false := hr'
      clear hr'
      go_wp2_with fail
      go_ret
      exact ⟨rfl, hb1⟩
    | false =>
      rw [hpt] at hr HC
      subst hr
      clear ho hpt
      go_enter Try.func114, Try.ntmps114
      go_wp2_with fail
      refine HC.out.mono ?_
      rintro e w1 ⟨r', rfl, hr', hb1⟩
      have er : (r' == -1) = true := hr'
      clear hr'
      go_wp2_with fail
      go_ret
      exact ⟨rfl, hb1⟩
  · have e0 : (x.1 == op) = false := by simp [ho]
    rw [decide_eq_false ho, Bool.false_and] at hr
    subst hr
    clear ho HC
    go_enter Try.func114, Try.ntmps114
    go_wp2_with fail
    go_ret
    exact ⟨rfl, Below.refl _ _⟩
end Go.Proofs.Ytglbkbdljjaioaa

/-! The program's optimiser: an instruction left out. Conditions: valid code. -/
namespace Go.Proofs.Ytglbkbdljjaioaa
set_option linter.unusedVariables false
open Go.RowKit

set_option maxRecDepth 100000 in
set_option maxHeartbeats 1000000 in
theorem hasPlace_o (p q : Int) (w : World) :
    Calls Try.prog 127 #[.agg #[.int .i64 p, .int .i64 q]] w fun e w' => e = .returned (.bool (decide (p = 5 ∨ p = 6))) ∧ Below w.heap.size w w' := by
  have hb0 := bnew w (.cells #[.int .i64 p, .int .i64 q] 66)
  by_cases h5 : p = 5
  · rw [decide_eq_true (.inl h5)]
    have e5 : (p == 5) = true := by simp [h5]
    clear h5
    go_enter Try.func127, Try.ntmps127
    go_wp2_with fail
    go_ret
    exact ⟨rfl, hb0⟩
  · have e5 : (p == 5) = false := by simp [h5]
    by_cases h6 : p = 6
    · rw [decide_eq_true (.inr h6)]
      have e6 : (p == 6) = true := by simp [h6]
      clear h5 h6
      go_enter Try.func127, Try.ntmps127
      go_wp2_with fail
      go_ret
      exact ⟨rfl, hb0⟩
    · rw [decide_eq_false (fun h => h.elim h5 h6)]
      have e6 : (p == 6) = false := by simp [h6]
      clear h5 h6
      go_enter Try.func127, Try.ntmps127
      go_wp2_with fail
      go_ret
      exact ⟨rfl, hb0⟩

theorem cut_own2 {W : World} {base : Nat} {e : TypeId} {A : Option Addr} {n c k : Nat} {xs : List Value} (h : W.ownsRow base e 2 (.slice A n c) n xs) (hk : k ≤ n) : W.ownsRow base e 2 (.slice A k c) k (xs.take (k * 2)) := by
  refine ⟨by rw [List.length_take, h.1]; omega, ?_⟩
  rcases h.2 with ⟨h', hn⟩ | ⟨g, cap, cur, h1, h2, h3, h4, h5, h6, h7⟩
  · injection h' with a b c'
    have : k = 0 := by omega
    subst this
    exact .inl ⟨by rw [a, c'], rfl⟩
  · injection h1 with a b c'
    subst c'
    exact .inr ⟨g, c, cur, by rw [a], h2, h3, by omega, h5, h6, by rw [← h7, List.take_take]; congr 1; omega⟩
theorem flatC_cut (xs : List (Int × Int)) (k : Nat) : (flatC xs).take (k * 2) = flatC (xs.take k) := by
  induction xs generalizing k with
  | nil => simp [flatC]
  | cons x xs ih =>
    cases k with
    | zero => simp [flatC]
    | succ k =>
      have := ih k
      unfold flatC at this ⊢
      rw [show (k + 1) * 2 = k * 2 + 2 by omega]
      simp only [List.flatMap_cons, List.take_succ_cons, List.cons_append, List.nil_append]
      rw [this]
theorem run_clear_C (w : World) (g o c : Nat) (ty : TypeId) (hc : ∀ j, j < 2 → (w.cell? ⟨g, o + j, none⟩).isSome = true) (hf : ∀ j, j < 2 → w.frozen? ⟨g, o + j, none⟩ = false) :
    (Builtin.clear_ #[32] ty #[.slice (some ⟨g, o, none⟩) 1 c]).run Try.prog w = .ok (.tuple #[]) (w.setCells g o [.int .i64 0, .int .i64 0]) := by
  have hv : ∀ w, (zeroValue 66).run Try.prog w = .ok (.agg #[.int .i64 0, .int .i64 0]) w := fun w => by kernel_rfl
  have hst := run_storeCells_cells (P := Try.prog) g o [.int .i64 0, .int .i64 0] 0 w (by simpa using hc) (by simpa using hf) (by intro v hv'; simp at hv'; subst hv'; rfl)
  simp only [Nat.add_zero] at hst
  have hzc : (Builtin.zeroCells (Value.agg #[.int .i64 0, .int .i64 0]).cells 1).toList = [.int .i64 0, .int .i64 0] := by kernel_rfl
  simp [Builtin.clear_, run_underlying Try.underlying32, hv, hzc, hst]

set_option maxRecDepth 100000 in
set_option maxHeartbeats 4000000 in
theorem deleteC_c (lo hi g m c k : Nat) (xs : List (Int × Int)) (w : World) (h : OwnC w lo hi (some ⟨g, 0, none⟩) (m + 1) c xs) (hk : k ≤ m) (hm : m ≤ 1000) :
    Calls Try.prog 126 #[.slice (some ⟨g, 0, none⟩) (m + 1) c, .int .i64 (k : Int), .int .i64 ((k : Int) + 1)] w fun e w' => e = .returned (.slice (some ⟨g, 0, none⟩) m c) ∧ OwnC w' lo hi (some ⟨g, 0, none⟩) m c (xs.take k ++ xs.drop (k + 1)) ∧ w.grownBy w' (some g) := by
  obtain ⟨i0, hi', hz0, hz1, hz2⟩ := info_parts infoInstr
  have hxl := h.1
  have hcap : m + 1 ≤ c := by
    rcases h.2.1.2 with ⟨h', hn⟩ | ⟨g', cap, cur, k1, _, _, k4, _⟩
    · omega
    · injection k1 with _ _ k1; omega
  obtain ⟨wd, hwd⟩ : ∃ x, x = w.drew := ⟨_, rfl⟩
  have hd : OwnC wd lo hi (some ⟨g, 0, none⟩) (m + 1) c xs := by rw [hwd]; exact h
  have hin : InC wd hi (some ⟨g, 0, none⟩) (m + 1) xs := hd.inn
  have hcut := cut_own2 hd.2.1 (show k ≤ m + 1 by omega)
  rw [flatC_cut] at hcut
  have hAp : ∀ (a : Addr) (cc : Nat), InC wd hi (some a) (m + 1 - (k + 1)) (xs.drop (k + 1)) → ∃ w2 w3, (Builtin.append_ #[32, 32] 32 #[.slice (some ⟨g, 0, none⟩) k c, .slice (some a) (m + 1 - (k + 1)) cc]).run Try.prog wd = .ok (.slice (some ⟨g, 0, none⟩) m c) w2 ∧
      (∀ ty c', (Builtin.clear_ #[32] ty #[.slice (some ⟨g, m * 2, none⟩) 1 c']).run Try.prog w2 = .ok (.tuple #[]) w3) ∧ OwnC w3 lo hi (some ⟨g, 0, none⟩) m c (xs.take k ++ xs.drop (k + 1)) ∧ wd.grownBy w3 (some g) := by
    intro a cc hA
    obtain ⟨w2, e1, e2, e3⟩ := run_append_fits (P := Try.prog) (w := wd) lo 32 32 66 i0 2 Try.underlying32 hi' hz1 g k c _ hcut a (m + 1 - (k + 1)) cc (flatC (xs.drop (k + 1))) (by rw [flatC_len, List.length_drop]; omega) (flatC_news hA) (flatC_one _) (by omega)
    rw [← flatC_app, show k + (m + 1 - (k + 1)) = m by omega] at e2
    rw [show k + (m + 1 - (k + 1)) = m by omega] at e1
    -- the whole block behind the append
    obtain ⟨cur, hcur, hcs⟩ : ∃ cur, w2.heap[g]? = some (.cells cur 66 (0, 0)) ∧ cur.size = c * 2 := by
      rcases e2.2 with ⟨h', _⟩ | ⟨g', cap, cur, k1, _, k3, _, _, k6, _⟩
      · cases h'
      · injection k1 with a1 a2 a3
        injection a1 with a1
        injection a1 with a1
        subst a1 a3
        exact ⟨cur, k3, k6⟩
    have hBk : BlkIs w2 g 66 cur := hcur
    have hc0 : ∀ j, j < 2 → (w2.cell? ⟨g, m * 2 + j, none⟩).isSome = true := fun j hj => by
      rw [hBk.cell, Array.getElem?_eq_getElem (by omega)]; rfl
    have hf0 : ∀ j, j < 2 → w2.frozen? ⟨g, m * 2 + j, none⟩ = false := fun j hj => hBk.frozen _
    refine ⟨w2, _, e1, fun ty c' => run_clear_C w2 g (m * 2) c' ty hc0 hf0, ?_, ?_⟩
    · have hset : (w2.setCells g (m * 2) [.int .i64 0, .int .i64 0]) = (w2.setCell ⟨g, m * 2, none⟩ (.int .i64 0)).setCell ⟨g, m * 2 + 1, none⟩ (.int .i64 0) := rfl
      rw [hset]
      have hB2 := (hBk.set (m * 2) (.int .i64 0)).set (m * 2 + 1) (.int .i64 0)
      refine ⟨by rw [List.length_append, List.length_take, List.length_drop]; omega, ?_, hd.2.2.1, by simp; have := e3.size; have := hd.2.2.2; omega⟩
      refine ⟨e2.1, .inr ⟨g, c, _, rfl, ?_, hB2, by omega, ?_, by simp [hcs], ?_⟩⟩
      · exact (hd.2.1.lt g rfl).1
      · rcases hd.2.1.2 with ⟨h', _⟩ | ⟨g', cap, cur', k1, _, _, _, k5, _⟩
        · cases h'
        · injection k1 with _ _ a3; omega
      · rcases e2.2 with ⟨h', _⟩ | ⟨g', cap, cur', k1, _, k3, _, _, k6, k7⟩
        · cases h'
        · injection k1 with a1 a2 a3
          injection a1 with a1
          injection a1 with a1
          subst a1 a3
          rw [hcur] at k3
          injection k3 with k3
          injection k3 with k3
          subst k3
          rw [← k7]
          simp only [Array.toList_setIfInBounds]
          rw [List.take_set_of_le (by omega), List.take_set_of_le (by omega)]
    · exact only_trans (only_trans e3 (only_set (g := g))) (only_set (g := g))
  have HAp := Lib.hid hAp
  have hk1 : (k : Int) + 1 ≤ (m : Int) + 1 := by omega
  have hk2 : (m : Int) + 1 ≤ (c : Int) := by omega
  have hk3 : ((k : Int) == (k : Int) + 1) = false := by simp; omega
  have hk4 : (k : Int) ≤ (k : Int) + 1 := by omega
  have hk5 : ¬ c = m := by omega
  have hk6 : (m : Int) ≤ (m : Int) + 1 := by omega
  have hk7 : k ≤ c := by omega
  have hk8 : (0 : Int) ≤ (k : Int) + 1 := by omega
  have wa : IntKind.i64.wrap ((k : Int) + 1) = (k : Int) + 1 := IntWalk.i64_in _ (by omega)
  have hIN := Lib.hid hin
  clear hAp hcut h hin hd
  by_cases hck : c = k + 1
  · subst hck
    have hkm : k = m := by omega
    obtain ⟨w2, w3, x1, hclr, hF, hG⟩ := HAp.out ⟨g, 0, none⟩ 0 ⟨by rw [List.length_drop]; omega, fun j x hj => by rw [List.getElem?_drop] at hj; have := (List.getElem?_eq_some_iff.1 hj).1; omega⟩
    rw [show m + 1 - (k + 1) = 0 by omega] at x1
    have X1 := Lib.hid x1
    have HF := Lib.hid hF
    have HG : Hid (w.grownBy w3 (some g)) := by subst hwd; exact ⟨hG.os, hG.tape, hG.output, hG.size, hG.block⟩
    subst hwd
    clear x1 hF hG HAp hkm
    go_enter Try.func126, Try.ntmps126
    go_wp2_with fail
    refine wp_region_held_drew (S := fun _ => True) (by kernel_rfl) trivial ?_
    intro hHeld0
    refine wpAnyH_take (i := 0) (v := ?_) rfl (by kernel_rfl) (by kernel_rfl) (by kernel_rfl) (fun _ _ _ h => h) (Or.inl ⟨by kernel_rfl, ?_⟩) (by assumption) ?_
    rotate_left
    · intro w9 hS9; (try dsimp only at hS9); go_simp; (try with_reducible rfl)
    set_option linter.unusedSimpArgs false in try simp only [Act.put, List.getElem_toArray, List.getElem_cons_succ, List.getElem_cons_zero, List.setIfInBounds_toArray, List.set_cons_zero, List.set_cons_succ]
    refine wpAnyH_take (i := 1) (v := ?_) rfl (by kernel_rfl) (by kernel_rfl) (by kernel_rfl) (fun _ _ _ h => h) (Or.inl ⟨by kernel_rfl, ?_⟩) (by assumption) ?_
    rotate_left
    · intro w9 hS9; (try dsimp only at hS9); go_simp; (try with_reducible rfl)
    set_option linter.unusedSimpArgs false in try simp only [Act.put, List.getElem_toArray, List.getElem_cons_succ, List.getElem_cons_zero, List.setIfInBounds_toArray, List.set_cons_zero, List.set_cons_succ]
    refine wpAnyH_take (i := 2) (v := ?_) rfl (by kernel_rfl) (by kernel_rfl) (by kernel_rfl) (fun _ _ _ h => h) (Or.inl ⟨by kernel_rfl, ?_⟩) (by assumption) ?_
    rotate_left
    · intro w9 hS9; (try dsimp only at hS9); go_simp; (try with_reducible rfl)
    set_option linter.unusedSimpArgs false in try simp only [Act.put, List.getElem_toArray, List.getElem_cons_succ, List.getElem_cons_zero, List.setIfInBounds_toArray, List.set_cons_zero, List.set_cons_succ]
    refine wpAnyH_take (i := 3) (v := ?_) rfl (by kernel_rfl) (by kernel_rfl) (by kernel_rfl) (fun _ _ _ h => h) (Or.inl ⟨by kernel_rfl, ?_⟩) (by assumption) ?_
    rotate_left
    · intro w9 hS9; (try dsimp only at hS9); go_simp; (try with_reducible rfl)
    set_option linter.unusedSimpArgs false in try simp only [Act.put, List.getElem_toArray, List.getElem_cons_succ, List.getElem_cons_zero, List.setIfInBounds_toArray, List.set_cons_zero, List.set_cons_succ]
    refine wpAnyH_take (i := 4) (v := ?_) rfl (by kernel_rfl) (by kernel_rfl) (by kernel_rfl) (fun _ _ _ h => h) (Or.inl ⟨by kernel_rfl, ?_⟩) (by assumption) ?_
    rotate_left
    · intro w9 hS9; (try dsimp only at hS9); go_simp; (try with_reducible rfl)
    set_option linter.unusedSimpArgs false in try simp only [Act.put, List.getElem_toArray, List.getElem_cons_succ, List.getElem_cons_zero, List.setIfInBounds_toArray, List.set_cons_zero, List.set_cons_succ]
    refine wpAnyH_take (i := 5) (v := ?_) rfl (by kernel_rfl) (by kernel_rfl) (by kernel_rfl) (fun _ _ _ h => h) (Or.inl ⟨by kernel_rfl, ?_⟩) (by assumption) ?_
    rotate_left
    · intro w9 hS9; (try dsimp only at hS9); go_simp; (try with_reducible rfl)
    set_option linter.unusedSimpArgs false in try simp only [Act.put, List.getElem_toArray, List.getElem_cons_succ, List.getElem_cons_zero, List.setIfInBounds_toArray, List.set_cons_zero, List.set_cons_succ]
    refine wpAnyH_ready (rs := [6]) (by kernel_rfl) (by simp) ?_
    refine AllReadyH.cons rfl (fun K hK => ?_) (AllReadyH.nil)
    refine Eq.mpr (if_pos (by kernel_rfl)) ?_
    refine wp_app_run _ _ 32 rfl (.slice (some ⟨g, 0, none⟩) k (k + 1)) (.slice (some ⟨g, 0, none⟩) 0 0) rfl rfl (.slice (some ⟨g, 0, none⟩) m (k + 1)) w2 X1.out ?_
    refine hK.out _ _ trivial (fun hHeld1 => ?_)
    clear hK K hHeld0
    set_option linter.unusedSimpArgs false in try simp only [Act.put, List.getElem_toArray, List.getElem_cons_succ, List.getElem_cons_zero, List.setIfInBounds_toArray, List.set_cons_zero, List.set_cons_succ]
    refine wpAnyH_take (i := 7) (v := ?_) rfl (by kernel_rfl) (by kernel_rfl) (by kernel_rfl) (fun _ _ _ h => h) (Or.inl ⟨by kernel_rfl, ?_⟩) (by assumption) ?_
    rotate_left
    · intro w9 hS9; (try dsimp only at hS9); go_simp; (try with_reducible rfl)
    set_option linter.unusedSimpArgs false in try simp only [Act.put, List.getElem_toArray, List.getElem_cons_succ, List.getElem_cons_zero, List.setIfInBounds_toArray, List.set_cons_zero, List.set_cons_succ]
    refine wpAnyH_done (by kernel_rfl) ?_ _
    go_wp2_with fail
    go_ret
    exact ⟨rfl, HF.out, HG.out⟩
  · obtain ⟨w2, w3, x1, hclr, hF, hG⟩ := HAp.out ⟨g, (k + 1) * 2, none⟩ (c - (k + 1)) (inC_drop hIN.out)
    rw [show m + 1 - (k + 1) = m - k by omega] at x1
    have X1 := Lib.hid x1
    have HF := Lib.hid hF
    have HG : Hid (w.grownBy w3 (some g)) := by subst hwd; exact ⟨hG.os, hG.tape, hG.output, hG.size, hG.block⟩
    subst hwd
    clear x1 hF hG HAp
    go_enter Try.func126, Try.ntmps126
    go_wp2_with fail
    refine wp_region_held_drew (S := fun _ => True) (by kernel_rfl) trivial ?_
    intro hHeld0
    refine wpAnyH_take (i := 0) (v := ?_) rfl (by kernel_rfl) (by kernel_rfl) (by kernel_rfl) (fun _ _ _ h => h) (Or.inl ⟨by kernel_rfl, ?_⟩) (by assumption) ?_
    rotate_left
    · intro w9 hS9; (try dsimp only at hS9); go_simp; (try with_reducible rfl)
    set_option linter.unusedSimpArgs false in try simp only [Act.put, List.getElem_toArray, List.getElem_cons_succ, List.getElem_cons_zero, List.setIfInBounds_toArray, List.set_cons_zero, List.set_cons_succ]
    refine wpAnyH_take (i := 1) (v := ?_) rfl (by kernel_rfl) (by kernel_rfl) (by kernel_rfl) (fun _ _ _ h => h) (Or.inl ⟨by kernel_rfl, ?_⟩) (by assumption) ?_
    rotate_left
    · intro w9 hS9; (try dsimp only at hS9); go_simp; (try with_reducible rfl)
    set_option linter.unusedSimpArgs false in try simp only [Act.put, List.getElem_toArray, List.getElem_cons_succ, List.getElem_cons_zero, List.setIfInBounds_toArray, List.set_cons_zero, List.set_cons_succ]
    refine wpAnyH_take (i := 2) (v := ?_) rfl (by kernel_rfl) (by kernel_rfl) (by kernel_rfl) (fun _ _ _ h => h) (Or.inl ⟨by kernel_rfl, ?_⟩) (by assumption) ?_
    rotate_left
    · intro w9 hS9; (try dsimp only at hS9); go_simp; (try with_reducible rfl)
    set_option linter.unusedSimpArgs false in try simp only [Act.put, List.getElem_toArray, List.getElem_cons_succ, List.getElem_cons_zero, List.setIfInBounds_toArray, List.set_cons_zero, List.set_cons_succ]
    refine wpAnyH_take (i := 3) (v := ?_) rfl (by kernel_rfl) (by kernel_rfl) (by kernel_rfl) (fun _ _ _ h => h) (Or.inl ⟨by kernel_rfl, ?_⟩) (by assumption) ?_
    rotate_left
    · intro w9 hS9; (try dsimp only at hS9); go_simp; (try with_reducible rfl)
    set_option linter.unusedSimpArgs false in try simp only [Act.put, List.getElem_toArray, List.getElem_cons_succ, List.getElem_cons_zero, List.setIfInBounds_toArray, List.set_cons_zero, List.set_cons_succ]
    refine wpAnyH_take (i := 4) (v := ?_) rfl (by kernel_rfl) (by kernel_rfl) (by kernel_rfl) (fun _ _ _ h => h) (Or.inl ⟨by kernel_rfl, ?_⟩) (by assumption) ?_
    rotate_left
    · intro w9 hS9; (try dsimp only at hS9); go_simp; (try with_reducible rfl)
    set_option linter.unusedSimpArgs false in try simp only [Act.put, List.getElem_toArray, List.getElem_cons_succ, List.getElem_cons_zero, List.setIfInBounds_toArray, List.set_cons_zero, List.set_cons_succ]
    refine wpAnyH_take (i := 5) (v := ?_) rfl (by kernel_rfl) (by kernel_rfl) (by kernel_rfl) (fun _ _ _ h => h) (Or.inl ⟨by kernel_rfl, ?_⟩) (by assumption) ?_
    rotate_left
    · intro w9 hS9; (try dsimp only at hS9); go_simp; (try with_reducible rfl)
    set_option linter.unusedSimpArgs false in try simp only [Act.put, List.getElem_toArray, List.getElem_cons_succ, List.getElem_cons_zero, List.setIfInBounds_toArray, List.set_cons_zero, List.set_cons_succ]
    refine wpAnyH_ready (rs := [6]) (by kernel_rfl) (by simp) ?_
    refine AllReadyH.cons rfl (fun K hK => ?_) (AllReadyH.nil)
    refine Eq.mpr (if_pos (by kernel_rfl)) ?_
    refine wp_app_run _ _ 32 rfl (.slice (some ⟨g, 0, none⟩) k c) (.slice (some ⟨g, (k + 1) * 2, none⟩) (m - k) (c - (k + 1))) rfl rfl (.slice (some ⟨g, 0, none⟩) m c) w2 X1.out ?_
    refine hK.out _ _ trivial (fun hHeld1 => ?_)
    clear hK K hHeld0
    set_option linter.unusedSimpArgs false in try simp only [Act.put, List.getElem_toArray, List.getElem_cons_succ, List.getElem_cons_zero, List.setIfInBounds_toArray, List.set_cons_zero, List.set_cons_succ]
    refine wpAnyH_take (i := 7) (v := ?_) rfl (by kernel_rfl) (by kernel_rfl) (by kernel_rfl) (fun _ _ _ h => h) (Or.inl ⟨by kernel_rfl, ?_⟩) (by assumption) ?_
    rotate_left
    · intro w9 hS9; (try dsimp only at hS9); go_simp; (try with_reducible rfl)
    set_option linter.unusedSimpArgs false in try simp only [Act.put, List.getElem_toArray, List.getElem_cons_succ, List.getElem_cons_zero, List.setIfInBounds_toArray, List.set_cons_zero, List.set_cons_succ]
    refine wpAnyH_done (by kernel_rfl) ?_ _
    go_wp2_with fail
    go_ret
    exact ⟨rfl, HF.out, HG.out⟩

theorem OwnP2.set_a {w : World} {lo hi n c g j : Nat} {ps : List P2} {p : P2} {z : Int} (h : OwnP2 w lo hi (some ⟨g, 0, none⟩) n c ps) (hp : ps[j]? = some p) :
    OwnP2 (w.setCell ⟨g, j * 2, none⟩ (.int .i64 z)) lo hi (some ⟨g, 0, none⟩) n c (ps.set j ⟨z, p.s⟩) := by
  obtain ⟨h1, h2, xs, f, h3, h4, h5, h6, h7, h8⟩ := h
  have hjl := (List.getElem?_eq_some_iff.1 hp).1
  have hcl := h3.1
  have hg := h4 g rfl
  have ho : Out g (g + 1) w (w.setCell ⟨g, j * 2, none⟩ (.int .i64 z)) := out_set (Out.refl _ _ _) (by omega)
  have hout : ∀ i t, ps[i]? = some t → g + 1 ≤ f i ∨ f (i + 1) ≤ g := fun i t hi => by
    have hil : i < n := by have := (List.getElem?_eq_some_iff.1 hi).1; omega
    have m1 : f 0 ≤ f i := mono_le h6 (Nat.zero_le _) (by omega)
    have m2 : f (i + 1) ≤ f n := mono_le h6 (by omega) (Nat.le_refl _)
    omega
  refine ⟨by rw [List.length_set]; exact h1, by simpa using h2, _, f, (h3.stored (j * 2) (.int .i64 z)).1, h4, h5, h6, h7, fun i t hi => ?_⟩
  rw [List.getElem?_set] at hi
  split at hi
  · rename_i e
    subst e
    obtain rfl := Option.some.inj hi
    obtain ⟨A0, n0, c0, ⟨q0, q1⟩, k0, e0⟩ := h8 j p hp
    exact ⟨A0, n0, c0, ⟨List.getElem?_set_self (by omega), by rw [List.getElem?_set_ne (by omega)]; exact q1⟩, k0.out ho (hout j p hp), e0⟩
  · rename_i e
    obtain ⟨A0, n0, c0, ⟨q0, q1⟩, k0, e0⟩ := h8 i t hi
    exact ⟨A0, n0, c0, ⟨by rw [List.getElem?_set_ne (by omega)]; exact q0, by rw [List.getElem?_set_ne (by omega)]; exact q1⟩, k0.out ho (hout i t hi), e0⟩

/-- The optimiser's block and the rows of its code. -/
structure Opt (u : World) (o lo m0 m1 m2 hi : Nat) (R0 : Option Addr) (n0 d0 : Nat) (R1 : Option Addr) (n1 d1 : Nat) (A : Option Addr) (d2 : Nat) (D : Option Addr) (d3 : Nat) (t0 t1 : List (Int × List Int)) (xs : List (Int × Int)) (ps : List P2) : Prop where
  hb : BlkIs u o 171 #[.slice R0 n0 d0, .slice R1 n1 d1, .slice A xs.length d2, .slice D ps.length d3]
  o0 : OwnTS u lo m0 R0 n0 d0 t0
  o1 : OwnTS u m0 m1 R1 n1 d1 t1
  o2 : OwnC u m1 m2 A xs.length d2 xs
  o3 : OwnP2 u m2 hi D ps.length d3 ps
  sz : lo ≤ m0 ∧ m0 ≤ m1 ∧ m1 ≤ m2 ∧ m2 ≤ hi ∧ hi ≤ o
section
variable {u u' : World} {o lo m0 m1 m2 hi n0 d0 n1 d1 d2 d3 : Nat} {R0 R1 A D : Option Addr} {t0 t1 : List (Int × List Int)} {xs : List (Int × Int)} {ps : List P2}
theorem blk_out {w w' : World} {g l h : Nat} {t : TypeId} {cs : Array Value} (hb : BlkIs w g t cs) (ho : Out l h w w') (hg : g < l ∨ h ≤ g) : BlkIs w' g t cs := (ho.block g hb.lt (by omega)).trans hb
theorem Opt.next (h : Opt u o lo m0 m1 m2 hi R0 n0 d0 R1 n1 d1 A d2 D d3 t0 t1 xs ps) (hb : Below u.heap.size u u') : Opt u' o lo m0 m1 m2 hi R0 n0 d0 R1 n1 d1 A d2 D d3 t0 t1 xs ps :=
  ⟨h.hb.next hb, h.o0.next hb, h.o1.next hb, h.o2.next hb, h.o3.next hb, h.sz⟩
/-- The code in its row is changed: other code of the same length. -/
theorem Opt.code {ys : List (Int × Int)} (h : Opt u o lo m0 m1 m2 hi R0 n0 d0 R1 n1 d1 A d2 D d3 t0 t1 xs ps) (hl : ys.length = xs.length) (ho : Out m1 m2 u u') (hc : OwnC u' m1 m2 A ys.length d2 ys) : Opt u' o lo m0 m1 m2 hi R0 n0 d0 R1 n1 d1 A d2 D d3 t0 t1 ys ps :=
  have z := h.sz
  ⟨by rw [hl]; exact blk_out h.hb ho (.inr (by omega)), h.o0.out ho (.inr (by omega)), h.o1.out ho (.inr (Nat.le_refl _)), hc, h.o3.out ho (.inl (Nat.le_refl _)), z⟩
/-- Other code, whose slice has been put into the block. -/
theorem Opt.put {ys : List (Int × Int)} {w1 : World} (h : Opt u o lo m0 m1 m2 hi R0 n0 d0 R1 n1 d1 A d2 D d3 t0 t1 xs ps) (ho : Out m1 m2 u w1) (hc : OwnC w1 m1 m2 A ys.length d2 ys) : Opt (w1.setCell ⟨o, 2, none⟩ (.slice A ys.length d2)) o lo m0 m1 m2 hi R0 n0 d0 R1 n1 d1 A d2 D d3 t0 t1 ys ps := by
  have z := h.sz
  have hB := blk_out h.hb ho (.inr (by omega))
  have hs : Out o (o + 1) w1 (w1.setCell ⟨o, 2, none⟩ (.slice A ys.length d2)) := out_set (Out.refl _ _ _) (by omega)
  have hB2 := hB.set 2 (.slice A ys.length d2)
  simp at hB2
  exact ⟨hB2, (h.o0.out ho (.inr (by omega))).out hs (.inr (by omega)), (h.o1.out ho (.inr (Nat.le_refl _))).out hs (.inr (by omega)), hc.out hs (.inr (by omega)), (h.o3.out ho (.inl (Nat.le_refl _))).out hs (.inr (by omega)), z⟩
theorem Opt.pts {qs : List P2} (h : Opt u o lo m0 m1 m2 hi R0 n0 d0 R1 n1 d1 A d2 D d3 t0 t1 xs ps) (hl : qs.length = ps.length) (ho : Out m2 hi u u') (hc : OwnP2 u' m2 hi D qs.length d3 qs) : Opt u' o lo m0 m1 m2 hi R0 n0 d0 R1 n1 d1 A d2 D d3 t0 t1 xs qs :=
  have z := h.sz
  ⟨by rw [hl]; exact blk_out h.hb ho (.inr (by omega)), h.o0.out ho (.inr (by omega)), h.o1.out ho (.inr (by omega)), h.o2.out ho (.inr (Nat.le_refl _)), hc, z⟩
end

set_option maxRecDepth 100000 in
set_option maxHeartbeats 8000000 in
theorem leaveOut_c (o lo m0 m1 m2 hi : Nat) (R0 : Option Addr) (n0 d0 : Nat) (R1 : Option Addr) (n1 d1 : Nat) (A : Option Addr) (d2 : Nat) (D : Option Addr) (d3 : Nat) (t0 t1 : List (Int × List Int)) (xs : List (Int × Int)) (ps : List P2) (k : Nat) (w : World)
    (h : Opt w o lo m0 m1 m2 hi R0 n0 d0 R1 n1 d1 A d2 D d3 t0 t1 xs ps) (hk : k < xs.length) (hm : xs.length ≤ 1000) (hp : ps.length ≤ 1000) (hbc : BndC xs) (hbp : BndP ps) :
    Calls Try.prog 115 #[.pointer (some ⟨o, 0, none⟩), .int .i64 (k : Int)] w fun e w' => e = .returned (.tuple #[]) ∧ Opt w' o lo m0 m1 m2 hi R0 n0 d0 R1 n1 d1 A d2 D d3 t0 t1 (leaveC k xs) (leaveP k ps) ∧ Below lo w w' := by
  obtain ⟨m, hxm⟩ : ∃ m, xs.length = m + 1 := ⟨xs.length - 1, by omega⟩
  have hsz := h.sz
  obtain ⟨g, rfl, hcap, hg⟩ := ownC_cap h.o2.2.1 (by omega)
  have hgh := h.o2.2.2.1 g rfl
  have p2 := h.hb.cell 2
  simp at p2
  rw [hxm] at p2
  have ho2 := h.o2
  rw [hxm] at ho2
  have HD := Lib.hid (deleteC_c m1 m2 g m d2 k xs w ho2 (by omega) (by omega))
  have wa : IntKind.i64.wrap ((k : Int) + 1) = (k : Int) + 1 := IntWalk.i64_in _ (by omega)
  have HL : Hid ((xs.take k ++ xs.drop (k + 1)).length = m) := by show _ = _; rw [List.length_append, List.length_take, List.length_drop]; omega
  have HBC := Lib.hid hbc
  have HBP := Lib.hid hbp
  have H := Lib.hid h
  have hlo : lo ≤ w.heap.size := by have := h.hb.lt; omega
  clear ho2 hbc hbp h
  go_enter Try.func115, Try.ntmps115
  go_wp2_with fail
  refine HD.out.mono ?_
  rintro e w1 ⟨rfl, hc1, hg1⟩
  have hO1 : Out m1 m2 w w1 := Out.of_grown hg1 (fun j hj => by have := Option.some.inj hj; omega)
  obtain ⟨L, YL⟩ : ∃ x, Hid (xs.take k ++ xs.drop (k + 1) = x) := ⟨_, Lib.hid rfl⟩
  have hLb : Hid (BndC L) := by
    show BndC L
    rw [← YL.out]
    intro x hx
    rcases List.mem_append.1 hx with hx | hx
    · exact HBC.out x (List.mem_of_mem_take hx)
    · exact HBC.out x (List.mem_of_mem_drop hx)
  have hLn : L.length = m := by rw [← YL.out]; exact HL.out
  rw [YL.out] at hc1
  subst hLn
  have hB1 := blk_out H.out.hb hO1 (.inr (by omega))
  have f2 := hB1.frozen 2
  have y2 := hB1.cell 2
  simp at y2
  have hP := H.out.put hO1 hc1
  have HEnd : Hid (leaveC k xs = L.map (subI k)) := by show leaveC k xs = _; rw [← YL.out]; rfl
  have HPE : Hid (leaveP k ps = ps.map (subP k)) := rfl
  have hb2 : Below lo w (w1.setCell ⟨o, 2, none⟩ (.slice (some ⟨g, 0, none⟩) L.length d2)) := (hO1.below (by omega) hlo).setCell (p := ⟨o, 2, none⟩) (show lo ≤ o by omega) _
  have hT : turned (subI k) L 0 = L := turned_zero _ _
  clear HD HL HBC YL hB1 hc1 hg1 hO1 H
  have HM : Hid (mixF (subP k) 0 ps = ps) := rfl
  have hLl : L.length ≤ 1000 := by omega
  go_upto_region 1 with (fail)
  generalize w1.setCell ⟨o, 2, none⟩ (.slice (some ⟨g, 0, none⟩) L.length d2) = w2 at hP hb2 ⊢
  clear y2 f2
  have z2 := hP.hb.cell 2
  simp at z2
  have hP0 : Hid (Opt w2 o lo m0 m1 m2 hi R0 n0 d0 R1 n1 d1 (some ⟨g, 0, none⟩) d2 D d3 t0 t1 (turned (subI k) L 0) ps) := by show Opt _ _ _ _ _ _ _ _ _ _ _ _ _ _ _ _ _ _ _ _ _; rw [hT]; exact hP
  clear hP hT
  go_wp2_with fail
  go_loopw [4, 5, 27] (fun _ _ i wr => ∃ j : Nat, j ≤ L.length ∧ i = .int .i64 j ∧ Hid (Opt wr o lo m0 m1 m2 hi R0 n0 d0 R1 n1 d1 (some ⟨g, 0, none⟩) d2 D d3 t0 t1 (turned (subI k) L j) ps) ∧ Below lo w wr) (fun _ _ i _ => L.length - (intOf i).toNat)
  case atStart => exact ⟨0, Nat.zero_le _, rfl, hP0, hb2⟩
  case round =>
    clear hP0 hb2 z2
    obtain ⟨j, hj, rfl, hP, hb⟩ := hrel
    have hos := hP.out.hb.lt
    by_cases hlt : j < L.length
    · obtain ⟨x, hx⟩ : ∃ x, L[j]? = some x := ⟨_, List.getElem?_eq_getElem hlt⟩
      have hxb := hLb.out x (List.mem_of_getElem? hx)
      have hll : (turned (subI k) L j).length = L.length := turned_len _ _ _
      obtain ⟨c0, c1⟩ := flatC_at (turned_at (subI k) hx)
      have z2 := hP.out.hb.cell 2
      simp [hll] at z2
      have q0 := hP.out.o2.2.1.cellAt (j * 2) (by omega)
      have q1 := hP.out.o2.2.1.cellAt (j * 2 + 1) (by omega)
      rw [c0] at q0
      rw [c1] at q1
      have HJ0 := hasPlace_o x.1 x.2 wr
      by_cases hjmp : x.1 = 5 ∨ x.1 = 6
      · rw [decide_eq_true hjmp] at HJ0
        have HJ := Lib.hid HJ0
        by_cases hgt : (k : Int) < x.2
        · have HT := Lib.hid (turned_succ (subI k) hx)
          have HY := Lib.hid (subI_yes (k := (k : Int)) ⟨hjmp, hgt⟩)
          have HX := Lib.hid (turned_at (subI k) hx)
          clear HJ0 hx hjmp c0 c1 hll
          go_wp2_with fail
          refine HJ.out.mono ?_
          rintro e w7 ⟨rfl, hb7⟩
          have hP7 := hP.out.next hb7
          have u2 := cell_next z2 hb7
          have u0 := cell_next q0 hb7
          have u1 := cell_next q1 hb7
          have v1 := hP7.o2.2.1.frozenAt (j * 2 + 1)
          have hst := (hP7.o2.2.1.stored (j * 2 + 1) (.int .i64 (x.2 - 1))).1
          rw [flatC_set2 (x.2 - 1) HX.out, ← HY.out, HT.out] at hst
          have hO8 : Out m1 m2 w7 (w7.setCell ⟨g, j * 2 + 1, none⟩ (.int .i64 (x.2 - 1))) := out_set (Out.refl _ _ _) (by omega)
          have hl8 : (turned (subI k) L (j + 1)).length = (turned (subI k) L j).length := by rw [turned_len, turned_len]
          have hP8 := Lib.hid (hP7.code hl8 hO8 ⟨rfl, (by rw [hl8]; exact hst), hP7.o2.2.2.1, Nat.le_trans hP7.o2.2.2.2 hO8.size⟩)
          have hb8 := (hb.trans (hb7.mono (by omega))).setCell (p := ⟨g, j * 2 + 1, none⟩) (show lo ≤ g by omega) (.int .i64 (x.2 - 1))
          clear HT HY HX hP7 hst hl8
          go_wp2_with fail
          go_roundw
          case rel => exact ⟨j + 1, by omega, by go_num, hP8, hb8⟩
          case measure => simp [intOf]; omega
        · have HT := Lib.hid (turned_same (subI k) hx (subI_no (k := (k : Int)) (fun h => hgt h.2)))
          clear HJ0 hx hjmp c0 c1 hll
          go_wp2_with fail
          refine HJ.out.mono ?_
          rintro e w7 ⟨rfl, hb7⟩
          have hP7 := Lib.hid (hP.out.next hb7)
          rw [HT.out] at hP7
          have u2 := cell_next z2 hb7
          have u1 := cell_next q1 hb7
          have hb8 := hb.trans (hb7.mono (by omega))
          clear HT
          go_wp2_with fail
          go_roundw
          case rel => exact ⟨j + 1, by omega, by go_num, hP7, hb8⟩
          case measure => simp [intOf]; omega
      · rw [decide_eq_false hjmp] at HJ0
        have HJ := Lib.hid HJ0
        have HT := Lib.hid (turned_same (subI k) hx (subI_no (k := (k : Int)) (fun h => hjmp h.1)))
        clear HJ0 hx hjmp c0 c1 hll
        go_wp2_with fail
        refine HJ.out.mono ?_
        rintro e w7 ⟨rfl, hb7⟩
        have hP7 := Lib.hid (hP.out.next hb7)
        rw [HT.out] at hP7
        have hb8 := hb.trans (hb7.mono (by omega))
        clear HT
        go_wp2_with fail
        go_roundw
        case rel => exact ⟨j + 1, by omega, by go_num, hP7, hb8⟩
        case measure => simp [intOf]; omega
    · have e : j = L.length := by omega
      subst e
      rw [turned_all _ (Nat.le_refl _), ← HEnd.out] at hP
      have hM0 : Hid (Opt wr o lo m0 m1 m2 hi R0 n0 d0 R1 n1 d1 (some ⟨g, 0, none⟩) d2 D d3 t0 t1 (leaveC k xs) (mixF (subP k) 0 ps)) := hP
      have z3 := hP.out.hb.cell 3
      simp at z3
      clear hP hlt
      go_wp2_with fail
      go_loopw [6, 7, 63] (fun _ _ i wr => ∃ j : Nat, j ≤ ps.length ∧ i = .int .i64 j ∧ Hid (Opt wr o lo m0 m1 m2 hi R0 n0 d0 R1 n1 d1 (some ⟨g, 0, none⟩) d2 D d3 t0 t1 (leaveC k xs) (mixF (subP k) j ps)) ∧ Below lo w wr) (fun _ _ i _ => ps.length - (intOf i).toNat)
      case atStart => exact ⟨0, Nat.zero_le _, rfl, hM0, hb⟩
      case round =>
        clear hM0 hb z3
        obtain ⟨j, hj, rfl, hP, hb⟩ := hrel
        by_cases hlt : j < ps.length
        · obtain ⟨p, hpp⟩ : ∃ p, ps[j]? = some p := ⟨_, List.getElem?_eq_getElem hlt⟩
          have hpb := HBP.out p (List.mem_of_getElem? hpp)
          have hml := mixF_len (subP k) j ps
          have z3 := hP.out.hb.cell 3
          simp [hml] at z3
          obtain ⟨g4, hg4e, hg4⟩ : ∃ g4, D = some ⟨g4, 0, none⟩ ∧ (m2 ≤ g4 ∧ g4 < hi) := by
            obtain ⟨h1, h2, xs', f, h3, h4, _⟩ := hP.out.o3
            rcases h3.2 with ⟨h', hn'⟩ | ⟨b', cap, cur, e1, e2, _⟩
            · omega
            · injection e1 with e1
              refine ⟨b', e1, e2, ?_⟩
              subst e1
              exact (h4 b' rfl).1
          subst hg4e
          obtain ⟨q0, v0⟩ : wr.cell? ⟨g4, j * 2, none⟩ = some (.int .i64 p.a) ∧ wr.frozen? ⟨g4, j * 2, none⟩ = false := by
            obtain ⟨h1, h2, xs', f, h3, h4, h5, h6, h7, h8⟩ := hP.out.o3
            obtain ⟨_, _, _, ⟨q0, _⟩, _⟩ := h8 j p (mixF_at hpp)
            exact ⟨by rw [h3.cellAt (j * 2) (by omega)]; exact q0, h3.frozenAt _⟩
          by_cases hgt : (k : Int) < p.a
          · have HY := Lib.hid (subP_yes (k := (k : Int)) hgt)
            have HT := Lib.hid (mixF_set (f := subP k) hpp)
            have hO8 : Out m2 hi wr (wr.setCell ⟨g4, j * 2, none⟩ (.int .i64 (p.a - 1))) := out_set (Out.refl _ _ _) (by omega)
            have hl8 : (mixF (subP k) (j + 1) ps).length = (mixF (subP k) j ps).length := by rw [mixF_len, mixF_len]
            have hs8 := hP.out.o3.set_a (z := p.a - 1) (mixF_at hpp)
            rw [← HY.out, HT.out] at hs8
            have hP8 := Lib.hid (hP.out.pts hl8 hO8 (by rw [hl8]; exact hs8))
            have hb8 := hb.setCell (p := ⟨g4, j * 2, none⟩) (show lo ≤ g4 by omega) (.int .i64 (p.a - 1))
            clear HY HT hs8 hl8 hpp hml
            go_wp2_with fail
            go_roundw
            case rel => exact ⟨j + 1, by omega, by go_num, hP8, hb8⟩
            case measure => simp [intOf]; omega
          · have HT := Lib.hid (mixF_same (f := subP k) hpp (subP_no (k := (k : Int)) hgt))
            rw [← HT.out] at hP
            clear HT hpp hml
            go_wp2_with fail
            go_roundw
            case rel => exact ⟨j + 1, by omega, by go_num, hP, hb⟩
            case measure => simp [intOf]; omega
        · have e : j = ps.length := by omega
          subst e
          rw [mixF_all (Nat.le_refl _), ← HPE.out] at hP
          go_wp2_with fail
          go_end0
          exact ⟨rfl, hP.out, hb⟩
end Go.Proofs.Ytglbkbdljjaioaa

/-! The program's DropIdleJumps. Conditions: at most 2^20 elements and numbers. -/
namespace Go.Proofs.Ytglbkbdljjaioaa
set_option linter.unusedVariables false
set_option linter.unusedSectionVars false
open Go.RowKit

set_option maxRecDepth 100000 in
set_option maxHeartbeats 8000000 in
theorem dropIdle_c (o lo m0 m1 m2 hi : Nat) (R0 : Option Addr) (n0 d0 : Nat) (R1 : Option Addr) (n1 d1 : Nat) (A : Option Addr) (d2 : Nat) (D : Option Addr) (d3 : Nat) (t0 t1 : List (Int × List Int)) (xs0 : List (Int × Int)) (ps0 : List P2) (R : List (Int × Int) × List P2) (w : World)
    (h : Opt w o lo m0 m1 m2 hi R0 n0 d0 R1 n1 d1 A d2 D d3 t0 t1 xs0 ps0) (hI : IdS xs0.length R xs0 ps0) :
    Calls Try.prog 84 #[.pointer (some ⟨o, 0, none⟩)] w fun e w' => e = .returned (.pointer (some ⟨o, 0, none⟩)) ∧ Opt w' o lo m0 m1 m2 hi R0 n0 d0 R1 n1 d1 A d2 D d3 t0 t1 R.1 R.2 ∧ Below lo w w' := by
  have p2 := h.hb.cell 2
  simp at p2
  have hmx := hI.max
  have hlo : lo ≤ w.heap.size := by have := h.hb.lt; have := h.sz; omega
  have hsz := h.sz
  have H := Lib.hid h
  have HI := Lib.hid hI
  clear h hI
  go_enter Try.func84, Try.ntmps84
  go_wp2_with fail
  go_loopw [3] (fun z wr => ∃ (i : Nat) (xs : List (Int × Int)) (ps : List P2), z = .int .i64 ((i : Int) - 1) ∧ Hid (IdS i R xs ps) ∧ Hid (Opt wr o lo m0 m1 m2 hi R0 n0 d0 R1 n1 d1 A d2 D d3 t0 t1 xs ps) ∧ Below lo w wr) (fun z _ => (intOf z + 1).toNat)
  case atStart => exact ⟨xs0.length, xs0, ps0, rfl, HI, H, Below.refl _ _⟩
  case round =>
    clear HI H p2
    obtain ⟨i, xs, ps, rfl, hI, hP, hb⟩ := hrel
    have hos := hP.out.hb.lt
    rcases Nat.eq_zero_or_pos i with rfl | hi0
    · have HR := Lib.hid hI.out.res
      have hz0 : ((0 : Nat) : Int) - 1 = -1 := rfl
      rw [hz0]
      clear hz0 hI
      go_wp2_with fail
      go_ret
      rw [HR.out]
      exact ⟨rfl, hP.out, hb⟩
    · obtain ⟨k, rfl⟩ : ∃ k, i = k + 1 := ⟨i - 1, by omega⟩
      have hki : ((k + 1 : Nat) : Int) - 1 = (k : Int) := by omega
      rw [hki]
      have hxl := hI.out.len
      have hxm := hI.out.max
      have hpm := hI.out.sm.1
      obtain ⟨x, hx⟩ : ∃ x, xs[k]? = some x := ⟨_, List.getElem?_eq_getElem (by omega)⟩
      have z2 := hP.out.hb.cell 2
      simp at z2
      have wa : IntKind.i64.wrap ((k : Int) + 1) = (k : Int) + 1 := IntWalk.i64_in _ (by omega)
      by_cases hl1 : 1 < xs.length
      · have hl1' : (1 : Int) < (xs.length : Int) := by omega
        have hlk : k < xs.length := by omega
        obtain ⟨rr, hrr⟩ : ∃ rr, rr = (decide (x.1 = 5) && !ptB ps (k : Int)) := ⟨_, rfl⟩
        have HO := Lib.hid (isOpen_c o _ _ A xs.length d2 wr.heap.size xs D ps.length d3 ps k 5 x wr hP.out.hb hP.out.o2.all hP.out.o3.all (Nat.le_refl _) hxm (by omega) hx rr hrr)
        cases rr with
        | false =>
          have HN : Hid (IdS k R xs ps) := by
            refine hI.out.no ?_
            by_cases h5 : x.1 = 5
            · have : ptB ps (k : Int) = true := by simpa [h5] using hrr
              exact idleB_pt this
            · exact idleB_op hx (fun e => h5 (by rw [e]))
          clear hx hrr hI hki
          go_wp2_with fail
          refine HO.out.mono ?_
          rintro e w5 ⟨rfl, hb5⟩
          have hP5 := Lib.hid (hP.out.next hb5)
          have hb05 := hb.trans (hb5.mono (by omega))
          go_wp2_with fail
          go_roundw
          case rel => exact ⟨k, xs, ps, by go_num, HN, hP5, hb05⟩
          case measure => simp [intOf]
        | true =>
          obtain ⟨h5, hpt⟩ : x.1 = 5 ∧ ptB ps (k : Int) = false := by simpa using hrr.symm
          obtain ⟨g, hAg, hcap, hg⟩ := ownC_cap hP.out.o2.2.1 (by omega)
          subst hAg
          obtain ⟨c0, c1⟩ := flatC_at hx
          have q1 := hP.out.o2.2.1.cellAt (k * 2 + 1) (by omega)
          rw [c1] at q1
          by_cases h6 : x.2 = (k : Int) + 1
          · have e6 : (x.2 == (k : Int) + 1) = true := by simp [h6]
            have hxe : x = (5, (k : Int) + 1) := Prod.ext h5 h6
            rw [hxe] at hx
            have HY := Lib.hid (hI.out.yes (idleB_yes hx hpt hl1))
            have HBc := Lib.hid hI.out.bc
            have HBp := Lib.hid hI.out.bp
            clear hx hrr h5 hpt h6 hxe c0 c1 hI hki
            go_wp2_with fail
            refine HO.out.mono ?_
            rintro e w5 ⟨rfl, hb5⟩
            have hP5 := hP.out.next hb5
            have u2 := cell_next z2 hb5
            have u1 := cell_next q1 hb5
            have hb05 := hb.trans (hb5.mono (by omega))
            have HL := Lib.hid (leaveOut_c o lo m0 m1 m2 hi R0 n0 d0 R1 n1 d1 _ d2 D d3 t0 t1 xs ps k w5 hP5 hlk hxm hpm HBc.out HBp.out)
            clear hP5
            go_wp2_with fail
            refine HL.out.mono ?_
            rintro e w6 ⟨rfl, hP6, hb6⟩
            have HP6 := Lib.hid hP6
            have hb06 := hb05.trans hb6
            clear hP6
            go_wp2_with fail
            go_roundw
            case rel => exact ⟨k, leaveC k xs, leaveP k ps, by go_num, HY, HP6, hb06⟩
            case measure => simp [intOf]
          · have e6 : (x.2 == (k : Int) + 1) = false := by simp [h6]
            have HN := Lib.hid (hI.out.no (idleB_op hx (fun e => h6 (by rw [e]))))
            clear hx hrr h5 hpt h6 c0 c1 hI hki
            go_wp2_with fail
            refine HO.out.mono ?_
            rintro e w5 ⟨rfl, hb5⟩
            have hP5 := Lib.hid (hP.out.next hb5)
            have u2 := cell_next z2 hb5
            have u1 := cell_next q1 hb5
            have hb05 := hb.trans (hb5.mono (by omega))
            go_wp2_with fail
            go_roundw
            case rel => exact ⟨k, xs, ps, by go_num, HN, hP5, hb05⟩
            case measure => simp [intOf]
      · have hl1' : ¬ (1 : Int) < (xs.length : Int) := by omega
        have HN := Lib.hid (hI.out.no (idleB_len (k := k) (ps := ps) hl1))
        clear hx hI hki
        go_wp2_with fail
        go_roundw
        case rel => exact ⟨k, xs, ps, by go_num, HN, hP, hb⟩
        case measure => simp [intOf]
section
variable (A0 : Option Addr) (n0 c0 : Nat) (t0 : List (Int × List Int)) (A1 : Option Addr) (n1 c1 : Nat) (t1 : List (Int × List Int)) (A2 : Option Addr) (n2 c2 : Nat) (t2 : List (Int × Int)) (A3 : Option Addr) (n3 c3 : Nat) (t3 : List P2) (w : World) (h0 : InTS w w.heap.size A0 n0 t0) (h1 : InTS w w.heap.size A1 n1 t1) (h2 : InC w w.heap.size A2 n2 t2) (h3 : InP2 w w.heap.size A3 n3 t3) (hn0 : n0 ≤ 1048576) (he0 : totT t0 ≤ 1048576) (hn1 : n1 ≤ 1048576) (he1 : totT t1 ≤ 1048576) (hn2 : n2 ≤ 1048576) (hn3 : n3 ≤ 1048576) (he3 : totP2 t3 ≤ 1048576)
include h0 h1 h2 h3 hn0 he0 hn1 he1 hn2 hn3 he3
set_option maxRecDepth 100000 in
set_option maxHeartbeats 4000000 in
theorem optIdle_no (hv : annB t0 t1 t2 t3 = false) :
    Calls Try.prog 83 #[.agg #[.slice A0 n0 c0, .slice A1 n1 c1, .slice A2 n2 c2, .slice A3 n3 c3], .func (Fn.func 84) #[] #[]] w fun e w' => AnI w w' e 0 0 0 0 [] [] [] [] false := by
  have hb0 : Below w.heap.size w ((w.alloc (.cells #[.slice A0 n0 c0, .slice A1 n1 c1, .slice A2 n2 c2, .slice A3 n3 c3] 35)).alloc (.cells #[.slice none 0 0, .slice none 0 0, .slice none 0 0, .slice none 0 0] 35)) := bon (bnew _ _) (bnew _ _)
  have hP : BlkIs ((w.alloc (.cells #[.slice A0 n0 c0, .slice A1 n1 c1, .slice A2 n2 c2, .slice A3 n3 c3] 35)).alloc (.cells #[.slice none 0 0, .slice none 0 0, .slice none 0 0, .slice none 0 0] 35)) w.heap.size 35 #[.slice A0 n0 c0, .slice A1 n1 c1, .slice A2 n2 c2, .slice A3 n3 c3] := (blk_new w _ _ _ rfl).next (bnew _ _)
  have hX : BlkIs ((w.alloc (.cells #[.slice A0 n0 c0, .slice A1 n1 c1, .slice A2 n2 c2, .slice A3 n3 c3] 35)).alloc (.cells #[.slice none 0 0, .slice none 0 0, .slice none 0 0, .slice none 0 0] 35)) (w.heap.size + 1) 35 #[.slice none 0 0, .slice none 0 0, .slice none 0 0, .slice none 0 0] := blk_new _ _ _ _ (by simp)
  have hs2 : w.heap.size + 2 ≤ (((w.alloc (.cells #[.slice A0 n0 c0, .slice A1 n1 c1, .slice A2 n2 c2, .slice A3 n3 c3] 35)).alloc (.cells #[.slice none 0 0, .slice none 0 0, .slice none 0 0, .slice none 0 0] 35))).heap.size := by simp
  have HW := Lib.hid (with_no A0 n0 c0 t0 A1 n1 c1 t1 A2 n2 c2 t2 A3 n3 c3 t3 ((w.alloc (.cells #[.slice A0 n0 c0, .slice A1 n1 c1, .slice A2 n2 c2, .slice A3 n3 c3] 35)).alloc (.cells #[.slice none 0 0, .slice none 0 0, .slice none 0 0, .slice none 0 0] 35)) ((h0.next hb0 (Nat.le_refl _)).more hb0.size) ((h1.next hb0 (Nat.le_refl _)).more hb0.size) ((h2.next hb0 (Nat.le_refl _)).more hb0.size) ((h3.next hb0 (Nat.le_refl _)).more hb0.size) hn0 he0 hn1 he1 hn2 hn3 he3 A3 n3 c3 hv)
  clear h0 h1 h2 h3 hv
  go_enter Try.func83, Try.ntmps83
  go_wp2_with fail
  generalize ((w.alloc (.cells #[.slice A0 n0 c0, .slice A1 n1 c1, .slice A2 n2 c2, .slice A3 n3 c3] 35)).alloc (.cells #[.slice none 0 0, .slice none 0 0, .slice none 0 0, .slice none 0 0] 35)) = W at hb0 hP hX hs2 HW ⊢
  have p0 := hP.cell 0
  have p1 := hP.cell 1
  have p2 := hP.cell 2
  have p3 := hP.cell 3
  simp at p0 p1 p2 p3
  refine HW.out.mono ?_
  rintro e w1 ⟨R0, d0, R1, d1, R2, d2, R3, d3, md0, md1, md2, rfl, o0, o1, o2, o3, hmd, hb1⟩
  have hbA := bnew w1 (.cells #[.slice R0 0 d0, .slice R1 0 d1, .slice R2 0 d2, .slice R3 0 d3] 35)
  have hX1 := (hX.next hb1).next hbA
  have hb01 := bon (bon hb0 hb1) hbA
  clear o0 o1 o2 o3 hX hP
  have f0 := hX1.frozen 0
  have f1 := hX1.frozen 1
  have f2 := hX1.frozen 2
  have f3 := hX1.frozen 3
  have y0 := hX1.cell 0
  have y1 := hX1.cell 1
  have y2 := hX1.cell 2
  have y3 := hX1.cell 3
  simp at y0 y1 y2 y3
  obtain ⟨hF, hgr⟩ := fill4 hX1 (.slice none 0 0) (.slice none 0 0) (.slice none 0 0) (.slice none 0 0)
  have r0 := hF.cell 0
  have r1 := hF.cell 1
  have r2 := hF.cell 2
  have r3 := hF.cell 3
  simp at r0 r1 r2 r3
  have hbF := hb01.trans (only_below hgr (Nat.le_succ _) hb01.size)
  clear hgr hF hX1
  go_wp2_with fail
  refine bodyPost_ret (v := .tuple #[.agg #[.slice none 0 0, .slice none 0 0, .slice none 0 0, .slice none 0 0], .bool false]) (by simp [results, Try.results83, go_sem, r0, r1, r2, r3]) rfl ?_
  exact anI_none hbF (ownP2_none _)

set_option maxRecDepth 100000 in
set_option maxHeartbeats 8000000 in
theorem optIdle_yes (hv : annB t0 t1 t2 t3 = true) :
    Calls Try.prog 83 #[.agg #[.slice A0 n0 c0, .slice A1 n1 c1, .slice A2 n2 c2, .slice A3 n3 c3], .func (Fn.func 84) #[] #[]] w fun e w' => AnI w w' e n0 n1 (idleN n2 (t2, t3)).1.length (idleN n2 (t2, t3)).2.length t0 t1 (idleN n2 (t2, t3)).1 (idleN n2 (t2, t3)).2 true := by
  have hl0 := h0.1
  have hl1 := h1.1
  have hl2 := h2.1
  have hl3 := h3.1
  subst hl0 hl1 hl2 hl3
  have hb0 : Below w.heap.size w ((w.alloc (.cells #[.slice A0 t0.length c0, .slice A1 t1.length c1, .slice A2 t2.length c2, .slice A3 t3.length c3] 35)).alloc (.cells #[.slice none 0 0, .slice none 0 0, .slice none 0 0, .slice none 0 0] 35)) := bon (bnew _ _) (bnew _ _)
  have hP : BlkIs ((w.alloc (.cells #[.slice A0 t0.length c0, .slice A1 t1.length c1, .slice A2 t2.length c2, .slice A3 t3.length c3] 35)).alloc (.cells #[.slice none 0 0, .slice none 0 0, .slice none 0 0, .slice none 0 0] 35)) w.heap.size 35 #[.slice A0 t0.length c0, .slice A1 t1.length c1, .slice A2 t2.length c2, .slice A3 t3.length c3] := (blk_new w _ _ _ rfl).next (bnew _ _)
  have hX : BlkIs ((w.alloc (.cells #[.slice A0 t0.length c0, .slice A1 t1.length c1, .slice A2 t2.length c2, .slice A3 t3.length c3] 35)).alloc (.cells #[.slice none 0 0, .slice none 0 0, .slice none 0 0, .slice none 0 0] 35)) (w.heap.size + 1) 35 #[.slice none 0 0, .slice none 0 0, .slice none 0 0, .slice none 0 0] := blk_new _ _ _ _ (by simp)
  have hs2 : w.heap.size + 2 ≤ (((w.alloc (.cells #[.slice A0 t0.length c0, .slice A1 t1.length c1, .slice A2 t2.length c2, .slice A3 t3.length c3] 35)).alloc (.cells #[.slice none 0 0, .slice none 0 0, .slice none 0 0, .slice none 0 0] 35))).heap.size := by simp
  obtain ⟨s0, s1, s2, s3, s3'⟩ := annB_small hv
  have hbd := annB_bnd hv
  have HI : Hid (IdS t2.length (idleN t2.length (t2, t3)) t2 t3) := ⟨rfl, Nat.le_refl _, by omega, hbd.1, hbd.2, ⟨by omega, s3'⟩⟩
  have HW := Lib.hid (with_yes A0 t0.length c0 t0 A1 t1.length c1 t1 A2 t2.length c2 t2 A3 t3.length c3 t3 A3 t3.length c3 t3 ((w.alloc (.cells #[.slice A0 t0.length c0, .slice A1 t1.length c1, .slice A2 t2.length c2, .slice A3 t3.length c3] 35)).alloc (.cells #[.slice none 0 0, .slice none 0 0, .slice none 0 0, .slice none 0 0] 35)) ((h0.next hb0 (Nat.le_refl _)).more hb0.size) ((h1.next hb0 (Nat.le_refl _)).more hb0.size) ((h2.next hb0 (Nat.le_refl _)).more hb0.size) ((h3.next hb0 (Nat.le_refl _)).more hb0.size) ((h3.next hb0 (Nat.le_refl _)).more hb0.size) hn0 he0 hn1 he1 hn2 hn3 he3 hn3 he3 hv (annB_parts hv).2.2.2)
  generalize idleN t2.length (t2, t3) = R at HI ⊢
  clear h0 h1 h2 h3 hv s0 s1 s2 s3 s3' hbd
  go_enter Try.func83, Try.ntmps83
  go_wp2_with fail
  generalize ((w.alloc (.cells #[.slice A0 t0.length c0, .slice A1 t1.length c1, .slice A2 t2.length c2, .slice A3 t3.length c3] 35)).alloc (.cells #[.slice none 0 0, .slice none 0 0, .slice none 0 0, .slice none 0 0] 35)) = W at hb0 hP hX hs2 HW ⊢
  have p0 := hP.cell 0
  have p1 := hP.cell 1
  have p2 := hP.cell 2
  have p3 := hP.cell 3
  simp at p0 p1 p2 p3
  refine HW.out.mono ?_
  rintro e w1 ⟨R0, d0, R1, d1, R2, d2, R3, d3, md0, md1, md2, rfl, o0, o1, o2, o3, hmd, hb1⟩
  have hs1 := hb1.size
  have hbA := bnew w1 (.cells #[.slice R0 t0.length d0, .slice R1 t1.length d1, .slice R2 t2.length d2, .slice R3 t3.length d3] 35)
  have hbO := bnew (w1.alloc (.cells #[.slice R0 t0.length d0, .slice R1 t1.length d1, .slice R2 t2.length d2, .slice R3 t3.length d3] 35)) (.cells #[.slice R0 t0.length d0, .slice R1 t1.length d1, .slice R2 t2.length d2, .slice R3 t3.length d3] 171)
  have hOpt : Opt ((w1.alloc (.cells #[.slice R0 t0.length d0, .slice R1 t1.length d1, .slice R2 t2.length d2, .slice R3 t3.length d3] 35)).alloc (.cells #[.slice R0 t0.length d0, .slice R1 t1.length d1, .slice R2 t2.length d2, .slice R3 t3.length d3] 171)) (w1.heap.size + 1) W.heap.size md0 md1 md2 w1.heap.size R0 t0.length d0 R1 t1.length d1 R2 d2 R3 d3 t0 t1 t2 t3 :=
    ⟨blk_new _ _ _ _ (by simp), (o0.next hbA).next hbO, (o1.next hbA).next hbO, (o2.next hbA).next hbO, (o3.next hbA).next hbO, by omega⟩
  have HC := Lib.hid (dropIdle_c _ _ _ _ _ _ _ _ _ _ _ _ _ _ _ _ _ _ _ _ R _ hOpt HI.out)
  have hXO := ((hX.next hb1).next hbA).next hbO
  have hb0O := bon (bon (bon hb0 hb1) hbA) hbO
  have hsO : w1.heap.size + 2 ≤ ((w1.alloc (.cells #[.slice R0 t0.length d0, .slice R1 t1.length d1, .slice R2 t2.length d2, .slice R3 t3.length d3] 35)).alloc (.cells #[.slice R0 t0.length d0, .slice R1 t1.length d1, .slice R2 t2.length d2, .slice R3 t3.length d3] 171)).heap.size := by simp
  clear o0 o1 o2 o3 hX hP HI HW hOpt
  go_wp2_with fail
  refine HC.out.mono ?_
  rintro e w6 ⟨rfl, hO6, hb6⟩
  have hX1 : BlkIs w6 (w.heap.size + 1) 35 #[.slice none 0 0, .slice none 0 0, .slice none 0 0, .slice none 0 0] := (hb6.block _ (by omega)).trans hXO
  have hs6 := hb6.size
  have f0 := hX1.frozen 0
  have f1 := hX1.frozen 1
  have f2 := hX1.frozen 2
  have f3 := hX1.frozen 3
  have y0 := hX1.cell 0
  have y1 := hX1.cell 1
  have y2 := hX1.cell 2
  have y3 := hX1.cell 3
  simp at y0 y1 y2 y3
  have z0 := hO6.hb.cell 0
  have z1 := hO6.hb.cell 1
  have z2 := hO6.hb.cell 2
  have z3 := hO6.hb.cell 3
  simp at z0 z1 z2 z3
  obtain ⟨hF, hgr⟩ := fill4 hX1 (.slice R0 t0.length d0) (.slice R1 t1.length d1) (.slice R2 R.1.length d2) (.slice R3 R.2.length d3)
  have r0 := hF.cell 0
  have r1 := hF.cell 1
  have r2 := hF.cell 2
  have r3 := hF.cell 3
  simp at r0 r1 r2 r3
  have hoF : Out (w.heap.size + 1) (w.heap.size + 2) w6 _ := Out.of_grown hgr (fun k hk => by have := Option.some.inj hk; omega)
  have hsF := hoF.size
  have hz := hO6.sz
  have Q0 := hO6.o0.out hoF (.inl (by omega))
  have Q1 := hO6.o1.out hoF (.inl (by omega))
  have Q2 := hO6.o2.out hoF (.inl (by omega))
  have Q3 := hO6.o3.out hoF (.inl (by omega))
  have hb06 : Below w.heap.size w w6 := hb0O.trans (hb6.mono (by omega))
  have hbF := hb06.trans (hoF.below (Nat.le_succ _) hb06.size)
  have hQ3 := Q3.wide (hi' := _) (show w1.heap.size ≤ _ from by omega) (Nat.le_refl _)
  clear hF hgr hX1 hXO HC
  go_wp2_with fail
  refine bodyPost_ret (v := .tuple #[.agg #[.slice R0 t0.length d0, .slice R1 t1.length d1, .slice R2 R.1.length d2, .slice R3 R.2.length d3], .bool true]) (by simp [results, Try.results83, go_sem, r0, r1, r2, r3]) rfl ?_
  exact ⟨_, _, _, _, _, _, _, _, md0, md1, md2, rfl, Q0.less (by omega), Q1, Q2, hQ3, ⟨by omega, by omega, by omega, by omega⟩, hbF⟩

set_option maxRecDepth 100000 in
set_option maxHeartbeats 4000000 in
theorem implIdle_mid (N0 N1 N2 N3 : Nat) (u0 u1 : List (Int × List Int)) (u2 : List (Int × Int)) (u3 : List P2) (r : Bool)
    (HW0 : ∀ x : World, Below w.heap.size w x → Calls Try.prog 83 #[.agg #[.slice A0 n0 c0, .slice A1 n1 c1, .slice A2 n2 c2, .slice A3 n3 c3], .func (Fn.func 84) #[] #[]] x fun e w' => AnI x w' e N0 N1 N2 N3 u0 u1 u2 u3 r) :
    Calls Try.prog 40 #[.agg #[.slice A0 n0 c0, .slice A1 n1 c1, .slice A2 n2 c2, .slice A3 n3 c3]] w fun e w' => AnI w w' e N0 N1 N2 N3 u0 u1 u2 u3 r := by
  have hb0 : Below w.heap.size w ((w.alloc (.cells #[.slice A0 n0 c0, .slice A1 n1 c1, .slice A2 n2 c2, .slice A3 n3 c3] 35)).alloc (.cells #[.slice none 0 0, .slice none 0 0, .slice none 0 0, .slice none 0 0] 35)) := bon (bnew _ _) (bnew _ _)
  have hP : BlkIs ((w.alloc (.cells #[.slice A0 n0 c0, .slice A1 n1 c1, .slice A2 n2 c2, .slice A3 n3 c3] 35)).alloc (.cells #[.slice none 0 0, .slice none 0 0, .slice none 0 0, .slice none 0 0] 35)) w.heap.size 35 #[.slice A0 n0 c0, .slice A1 n1 c1, .slice A2 n2 c2, .slice A3 n3 c3] := (blk_new w _ _ _ rfl).next (bnew _ _)
  have hX : BlkIs ((w.alloc (.cells #[.slice A0 n0 c0, .slice A1 n1 c1, .slice A2 n2 c2, .slice A3 n3 c3] 35)).alloc (.cells #[.slice none 0 0, .slice none 0 0, .slice none 0 0, .slice none 0 0] 35)) (w.heap.size + 1) 35 #[.slice none 0 0, .slice none 0 0, .slice none 0 0, .slice none 0 0] := blk_new _ _ _ _ (by simp)
  have hs2 : w.heap.size + 2 ≤ (((w.alloc (.cells #[.slice A0 n0 c0, .slice A1 n1 c1, .slice A2 n2 c2, .slice A3 n3 c3] 35)).alloc (.cells #[.slice none 0 0, .slice none 0 0, .slice none 0 0, .slice none 0 0] 35))).heap.size := by simp
  have HW := Lib.hid (HW0 _ hb0)
  clear h0 h1 h2 h3 HW0
  go_enter Try.func40, Try.ntmps40
  go_wp2_with fail
  generalize ((w.alloc (.cells #[.slice A0 n0 c0, .slice A1 n1 c1, .slice A2 n2 c2, .slice A3 n3 c3] 35)).alloc (.cells #[.slice none 0 0, .slice none 0 0, .slice none 0 0, .slice none 0 0] 35)) = W at hb0 hP hX hs2 HW ⊢
  have p0 := hP.cell 0
  have p1 := hP.cell 1
  have p2 := hP.cell 2
  have p3 := hP.cell 3
  simp at p0 p1 p2 p3
  refine HW.out.mono ?_
  rintro e w1 ⟨R0, d0, R1, d1, R2, d2, R3, d3, md0, md1, md2, rfl, o0, o1, o2, o3, hmd, hb1⟩
  have hs1 := hb1.size
  have hX1 := hX.next hb1
  have hb01 := bon hb0 hb1
  have f0 := hX1.frozen 0
  have f1 := hX1.frozen 1
  have f2 := hX1.frozen 2
  have f3 := hX1.frozen 3
  have y0 := hX1.cell 0
  have y1 := hX1.cell 1
  have y2 := hX1.cell 2
  have y3 := hX1.cell 3
  simp at y0 y1 y2 y3
  obtain ⟨hF, hgr⟩ := fill4 hX1 (.slice R0 N0 d0) (.slice R1 N1 d1) (.slice R2 N2 d2) (.slice R3 N3 d3)
  have r0 := hF.cell 0
  have r1 := hF.cell 1
  have r2 := hF.cell 2
  have r3 := hF.cell 3
  simp at r0 r1 r2 r3
  have hoF : Out (w.heap.size + 1) (w.heap.size + 2) w1 _ := Out.of_grown hgr (fun k hk => by have := Option.some.inj hk; omega)
  have hsF := hoF.size
  have Q0 := o0.out hoF (.inl (by omega))
  have Q1 := o1.out hoF (.inl (by omega))
  have Q2 := o2.out hoF (.inl (by omega))
  have Q3 := o3.out hoF (.inl (by omega))
  have hbF := hb01.trans (hoF.below (Nat.le_succ _) hb01.size)
  have hQ3 := Q3.wide (hi' := _) (show w1.heap.size ≤ _ from hsF) (Nat.le_refl _)
  clear hF hgr hX1 hX hP HW
  go_wp2_with fail
  refine bodyPost_ret (v := .tuple #[.agg #[.slice R0 N0 d0, .slice R1 N1 d1, .slice R2 N2 d2, .slice R3 N3 d3], .bool r]) (by simp [results, Try.results40, go_sem, r0, r1, r2, r3]) rfl ?_
  exact ⟨_, _, _, _, _, _, _, _, md0, md1, md2, rfl, Q0.less (by omega), Q1, Q2, hQ3, ⟨by omega, by omega, by omega, by omega⟩, hbF⟩
end
end Go.Proofs.Ytglbkbdljjaioaa
