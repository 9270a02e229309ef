/-
  slices.Grow of nil and slices.Concat of two lists, at points. Conditions: at most 2^20 points.
-/
import Derived.Test.YtglbkbdljjaioaaPtRow
import Derived.Test.YtglbkbdljjaioaaPtsP
import Derived.Lib.AppendZeros
namespace Go.Proofs.Ytglbkbdljjaioaa
open Go.RowKit
set_option linter.unusedVariables false

theorem ptsF_mono {len l l' : Int} {ps : List P2} (h : ptsF len l' ps = true) (hl : l ≤ l') : ptsF len l ps = true := by
  cases ps with
  | nil => rfl
  | cons p ps =>
    unfold ptsF at h ⊢
    simp only [Bool.and_eq_true, decide_eq_true_eq] at h ⊢
    exact ⟨⟨⟨by omega, h.1.1.2⟩, h.1.2⟩, h.2⟩
theorem ptsF_del {len : Int} : ∀ {ps : List P2} {k : Nat} {l : Int}, ptsF len l ps = true → ptsF len l (ps.take k ++ ps.drop (k + 1)) = true := by
  intro ps
  induction ps with
  | nil => intro k l _; simp [ptsF]
  | cons p ps ih =>
    intro k l h
    have h' := h
    unfold ptsF at h'
    simp only [Bool.and_eq_true, decide_eq_true_eq] at h'
    cases k with
    | zero =>
      show ptsF len l ps = true
      exact ptsF_mono h'.2 (by omega)
    | succ k =>
      show ptsF len l (p :: (ps.take k ++ ps.drop (k + 1))) = true
      unfold ptsF
      simp only [Bool.and_eq_true, decide_eq_true_eq]
      exact ⟨h'.1, ih h'.2⟩
theorem ptsB_del {len : Int} {ps : List P2} {k : Nat} (h : ptsB len ps = true) : ptsB len (ps.take k ++ ps.drop (k + 1)) = true := by
  unfold ptsB at h ⊢
  simp only [Bool.and_eq_true, decide_eq_true_eq] at h ⊢
  exact ⟨by rw [List.length_append, List.length_take, List.length_drop]; omega, ptsF_del h.2⟩
theorem totP2_del (ps : List P2) (k : Nat) : totP2 (ps.take k ++ ps.drop (k + 1)) ≤ totP2 ps := by
  have h1 : totP2 ps = totP2 (ps.take (k + 1)) + totP2 (ps.drop (k + 1)) := by
    unfold totP2
    rw [← List.sum_append, ← List.map_append, List.take_append_drop]
  have h2 : totP2 (ps.take k ++ ps.drop (k + 1)) = totP2 (ps.take k) + totP2 (ps.drop (k + 1)) := by
    unfold totP2
    rw [List.map_append, List.sum_append]
  have h3 : totP2 (ps.take k) ≤ totP2 (ps.take (k + 1)) := by
    have e : ps.take k = (ps.take (k + 1)).take k := by rw [List.take_take, Nat.min_eq_left (Nat.le_succ k)]
    rw [e]
    exact totP2_take _ _
  omega

/-- Points of the caller's in a row of the call's own. -/
def PIn (w : World) (base B : Nat) (v : Value) (n : Nat) (xs : List P2) : Prop :=
  xs.length = n ∧ ∃ cs, w.ownsRow base 40 2 v n cs ∧ ∀ j x, xs[j]? = some x → cs[j * 2]? = some (.int .i64 x.a) ∧ ∃ A' n' c', cs[j * 2 + 1]? = some (.slice A' n' c') ∧ InTS w B A' n' x.s
theorem PIn.out {w : World} {base B n : Nat} {v : Value} {xs : List P2} (h : PIn w base B v n xs) (hB : B ≤ w.heap.size) : ∃ A c, v = .slice A n c ∧ InP2 w w.heap.size A n xs := by
  obtain ⟨h1, cs, h3, h4⟩ := h
  have h3' := h3
  rcases h3.2 with ⟨rfl, hn⟩ | ⟨b, cap, cur, rfl, k2, k3, k4⟩
  · have : xs = [] := List.eq_nil_of_length_eq_zero (by omega)
    subst this
    subst hn
    exact ⟨none, 0, rfl, rfl, fun j t hj => by simp at hj⟩
  · refine ⟨some ⟨b, 0, none⟩, cap, rfl, h1, fun j x hj => ?_⟩
    have hjl : j < xs.length := (List.getElem?_eq_some_iff.1 hj).1
    have hxl := h3.1
    obtain ⟨a, A', n', c', bb, c⟩ := h4 j x hj
    refine ⟨b, 0, rfl, blk_lt k3, A', n', c', ?_, ?_, c.more hB⟩
    · rw [Nat.zero_add, h3.cellAt (j * 2) (by omega), a]
    · rw [Nat.zero_add, h3.cellAt (j * 2 + 1) (by omega), bb]
theorem p2_cells {w : World} {B b off n : Nat} {xs : List P2} (h : InP2 w B (some ⟨b, off, none⟩) n xs) :
    ∃ news : List Value, news.length = n * 2 ∧ (∀ j u, news[j]? = some u → w.cell? ((⟨b, off, none⟩ : Addr).add j) = some u) ∧ (∀ u ∈ news, u.oneCell' = true) ∧
      ∀ j x, xs[j]? = some x → news[j * 2]? = some (.int .i64 x.a) ∧ ∃ A' n' c', news[j * 2 + 1]? = some (.slice A' n' c') ∧ InTS w B A' n' x.s := by
  have hat0 : ∀ j, j < n → ∃ x A' n' c', xs[j]? = some x ∧ w.cell? ⟨b, off + j * 2, none⟩ = some (.int .i64 x.a) ∧ w.cell? ⟨b, off + j * 2 + 1, none⟩ = some (.slice A' n' c') ∧ InTS w B A' n' x.s := by
    intro j hj
    obtain ⟨b', off', x, e, _, hx, A', n', c', h1, h2, h3⟩ := h.at_ hj
    cases e
    exact ⟨x, A', n', c', hx, h1, h2, h3⟩
  have key : ∀ j, j < n * 2 → ∃ u, w.cell? ⟨b, off + j, none⟩ = some u ∧ u.oneCell' = true := by
    intro j hj
    obtain ⟨x, A', n', c', _, h1, h2, h3⟩ := hat0 (j / 2) (by omega)
    by_cases hp : j % 2 = 0
    · exact ⟨_, by rw [show off + j = off + j / 2 * 2 by omega]; exact h1, rfl⟩
    · exact ⟨_, by rw [show off + j = off + j / 2 * 2 + 1 by omega]; exact h2, rfl⟩
  have hat : ∀ j, j < n * 2 → ((List.range (n * 2)).map fun j => (w.cell? ⟨b, off + j, none⟩).getD undef)[j]? = w.cell? ⟨b, off + j, none⟩ := by
    intro j hj
    obtain ⟨u, hu, _⟩ := key j hj
    rw [List.getElem?_map, List.getElem?_range hj, hu]
    simp [hu]
  refine ⟨(List.range (n * 2)).map fun j => (w.cell? ⟨b, off + j, none⟩).getD undef, by simp, fun j u hu => ?_, fun u hu => ?_, fun j x hx => ?_⟩
  · have hj : j < n * 2 := by have := (List.getElem?_eq_some_iff.1 hu).1; simpa using this
    rw [hat j hj] at hu
    rw [show ((⟨b, off, none⟩ : Addr).add j) = ⟨b, off + j, none⟩ by by_cases e : j = 0 <;> simp [Addr.add, e]]
    exact hu
  · obtain ⟨j, hj, rfl⟩ := List.mem_map.1 hu
    obtain ⟨u, hu, h1⟩ := key j (List.mem_range.1 hj)
    simp only [hu]
    exact h1
  · have hj : j < n := by have := (List.getElem?_eq_some_iff.1 hx).1; have := h.1; omega
    obtain ⟨x', A', n', c', hx', h1, h2, h3⟩ := hat0 j hj
    rw [hx] at hx'
    obtain rfl := Option.some.inj hx'
    exact ⟨by rw [hat _ (by omega)]; exact h1, A', n', c', by rw [hat _ (by omega)]; exact h2, h3⟩
theorem app_pin {w : World} {base B k n c : Nat} {v : Value} {A : Option Addr} {ys xs : List P2} (hr : PIn w base B v k ys) (h : InP2 w B A n xs) (hB : B ≤ base) (hbw : base ≤ w.heap.size) (hk : k ≤ 1048576) (hn : n ≤ 1048576) :
    ∃ v' w', (Builtin.append_ #[33, 33] 33 #[v, .slice A n c]).run Try.prog w = .ok v' w' ∧ PIn w' base B v' (k + n) (ys ++ xs) ∧ Below base w w' := by
  obtain ⟨i0, hi, hz0, hz1, hz2⟩ := info_parts infoPoint
  obtain ⟨hl, cs, ho, hc⟩ := hr
  rcases A with _ | ad
  · have hn0 : n = 0 := by
      rcases Nat.eq_zero_or_pos n with h0 | h0
      · exact h0
      · obtain ⟨_, _, _, e, _⟩ := h.at_ (k := 0) h0
        cases e
    subst hn0
    have hxs : xs = [] := List.eq_nil_of_length_eq_zero h.1
    subst hxs
    exact ⟨v, w, nil_any w base _ _ 40 i0 2 Try.underlying33 hi v k _ ho c, (by rw [Nat.add_zero, List.append_nil]; exact ⟨hl, cs, ho, hc⟩), Below.refl _ _⟩
  · obtain ⟨news, l1, l2, l3, l4⟩ : ∃ news : List Value, news.length = n * 2 ∧ (∀ j u, news[j]? = some u → w.cell? (ad.add j) = some u) ∧ (∀ u ∈ news, u.oneCell' = true) ∧
        ∀ j x, xs[j]? = some x → news[j * 2]? = some (.int .i64 x.a) ∧ ∃ A' n' c', news[j * 2 + 1]? = some (.slice A' n' c') ∧ InTS w B A' n' x.s := by
      by_cases hn0 : n = 0
      · have hxs : xs = [] := List.eq_nil_of_length_eq_zero (h.1.trans hn0)
        subst hxs
        exact ⟨[], by simp [hn0], fun j u hu => by simp at hu, fun u hu => by simp at hu, fun j t ht => by simp at ht⟩
      · obtain ⟨b, off, _, e, _⟩ := h.at_ (k := 0) (by omega)
        cases e
        exact p2_cells h
    obtain ⟨v', w', e1, e2, e3, _⟩ := run_append_own w base 33 33 40 i0 (.agg #[.int .i64 0, .slice none 0 0]) 2 32 Try.underlying33 hi hz0 hz1 hz2 rfl (by decide) v k cs ho ad n c news l1 l2 l3 (by unfold maxLen; omega) (by omega) hbw
    have hcl := ho.1
    have hbb : Below base w w' := (Below.refl base w).grown e3 hbw (fun j hj => (ho.lt j hj).1)
    refine ⟨v', w', e1, ⟨by rw [List.length_append, hl, h.1], _, e2, fun j x hj => ?_⟩, hbb⟩
    by_cases hjn : j < ys.length
    · rw [List.getElem?_append_left hjn] at hj
      obtain ⟨a, A', n', c', b, d⟩ := hc j x hj
      exact ⟨by rw [List.getElem?_append_left (by omega)]; exact a, A', n', c', by rw [List.getElem?_append_left (by omega)]; exact b, d.next hbb hB⟩
    · rw [List.getElem?_append_right (by omega)] at hj
      obtain ⟨a, A', n', c', b, d⟩ := l4 _ x hj
      exact ⟨by rw [List.getElem?_append_right (by omega), show j * 2 - cs.length = (j - ys.length) * 2 by omega]; exact a, A', n', c', by rw [List.getElem?_append_right (by omega), show j * 2 + 1 - cs.length = (j - ys.length) * 2 + 1 by omega]; exact b, d.next hbb hB⟩

theorem size_zeroP (n : Nat) : (Builtin.zeroCells (Value.agg #[.int .i64 0, .slice none 0 0]).cells n).size = n * 2 := by
  rw [size_zeroCells]; rfl
set_option maxRecDepth 100000 in
set_option maxHeartbeats 1000000 in
theorem growP_c (n B : Nat) (w : World) (h2 : n ≤ 2097152) : Calls Try.prog 99 #[.slice none 0 0, .int .i64 n] w fun e w' => ∃ v, e = .returned v ∧ PIn w' w.heap.size B v 0 [] ∧ Below w.heap.size w w' := by
  rcases Nat.eq_zero_or_pos n with h1 | h1
  · subst h1
    go_enter Try.func99, Try.ntmps99
    go_wp2_with fail
    go_ret
    exact ⟨_, rfl, ⟨rfl, [], World.ownsRow_nil _ _ _ _, fun j x hj => by simp at hj⟩, Below.refl _ _⟩
  · obtain ⟨i0, hi, hz0, hz1, hz2⟩ := info_parts infoPoint
    have happ := Lib.run_append_nil_zeros (P := Try.prog) w 33 3 33 40 i0 (.agg #[.int .i64 0, .slice none 0 0]) .i64 .i64 Try.underlying33 Try.underlying3 hi hz0 n (by omega) (by rw [hz1]; omega) (by omega) (by rw [hz2]; omega)
    obtain ⟨C, hC⟩ : ∃ C, C = grownCap w n 0 40 := ⟨_, rfl⟩
    have hge : n ≤ C := by rw [hC]; exact grownCap_ge w _ 0 _
    have hle : C ≤ maxLen := by rw [hC]; exact grownCap_le_maxLen w _ 0 _ (by unfold maxLen; omega)
    rw [← hC] at happ
    obtain ⟨Z, hZ⟩ : ∃ Z, Z = Builtin.zeroCells (Value.agg #[.int .i64 0, .slice none 0 0]).cells n ++ Builtin.zeroCells (Value.agg #[.int .i64 0, .slice none 0 0]).cells (C - n) := ⟨_, rfl⟩
    rw [← hZ] at happ
    have hZs : Z.size = C * 2 := by rw [hZ, Array.size_append, size_zeroP, size_zeroP]; omega
    clear hC hZ
    have hown : (w.drew.alloc (.cells Z 40)).ownsRow w.heap.size 40 2 (.slice (some ⟨w.heap.size, 0, none⟩) 0 C) 0 [] := World.ownsRow_made w.drew Z C (Nat.le_refl _) hle hZs
    have HO := Lib.hid hown
    have HB := Lib.hid (show Below w.heap.size w (w.drew.alloc (.cells Z 40)) from (Below.refl w.heap.size w).drew.alloc (Nat.le_refl _) _)
    have hn1 : (1 : Int) ≤ (n : Int) := by omega
    have HAP := Lib.hid happ
    clear hown happ
    go_enter Try.func99, Try.ntmps99
    go_wp2_with (at_builtin; refine Lib.wpList_append_run _ rfl _ _ _ _ rfl _ _ rfl rfl _ _ HAP.out ?_)
    go_ret
    exact ⟨_, rfl, ⟨rfl, [], HO.out, fun j x hj => by simp at hj⟩, HB.out⟩

set_option maxRecDepth 100000 in
set_option maxHeartbeats 2000000 in
theorem concP_c (b : Nat) (A : Option Addr) (n c B : Nat) (xs : List P2) (D : Option Addr) (m d : Nat) (ys : List P2) (w : World) (hP : BlkIs w b 33 #[.slice A n c, .slice D m d]) (h : InP2 w B A n xs) (hl : InP2 w B D m ys) (hB : B ≤ w.heap.size) (hn : n ≤ 1048576) (hm : m ≤ 1048576) :
    Calls Try.prog 61 #[.slice (some ⟨b, 0, none⟩) 2 2] w fun e w' => ∃ A' c', e = .returned (.slice A' (n + m) c') ∧ InP2 w' w'.heap.size A' (n + m) (xs ++ ys) ∧ Below w.heap.size w w' := by
  have HIN := Lib.hid h
  have HIL := Lib.hid hl
  have q0 : w.cell? ⟨b, 0, none⟩ = some (.slice A n c) := hP.cell 0
  have q1 : w.cell? ⟨b, 1, none⟩ = some (.slice D m d) := hP.cell 1
  have HGR := Lib.hid (growP_c (n + m) B w (by omega))
  have HQ := Lib.hid (And.intro q0 q1)
  clear h hl
  go_enter Try.func61, Try.ntmps61
  go_wp2_with fail
  go_loopw [3, 5, 11] (fun x _ i wr => ∃ k : Nat, k ≤ 2 ∧ i = .int .i64 k ∧ (k = 0 ∧ x = .int .i64 0 ∨ k = 1 ∧ x = .int .i64 n ∨ k = 2 ∧ x = .int .i64 ((n : Int) + m)) ∧ Hid (wr = w)) (fun _ _ i _ => 2 - (intOf i).toNat)
  case atStart => exact ⟨0, by omega, rfl, .inl ⟨rfl, rfl⟩, Lib.hid rfl⟩
  case round =>
    obtain ⟨k, hk, rfl, hx, hw⟩ := hrel
    obtain rfl := hw.out
    clear hw
    rcases hx with ⟨rfl, rfl⟩ | ⟨rfl, rfl⟩ | ⟨rfl, rfl⟩
    · go_wp2_with fail
      go_roundw
      case rel => exact ⟨1, by omega, by go_num, .inr (.inl ⟨rfl, by go_num⟩), by first | exact Lib.hid rfl | exact Lib.hid trivial⟩
      case measure => simp [intOf]
    · go_wp2_with fail
      go_roundw
      case rel => exact ⟨2, by omega, by go_num, .inr (.inr ⟨rfl, by go_num⟩), by first | exact Lib.hid rfl | exact Lib.hid trivial⟩
      case measure => simp [intOf]
    · have hcn : ((n + m : Nat) : Int) = (n : Int) + m := by omega
      rw [hcn] at HGR
      clear q0 q1
      go_wp2_with fail
      refine HGR.out.mono ?_
      rintro e w1 ⟨v1, rfl, hown, hb1⟩
      have hs1 := hb1.size
      have HOW := Lib.hid hown
      clear hown HGR
      go_wp2_with fail
      have h00 : (((0 : Nat) : Int)) = 0 := rfl
      go_loopw [6, 8, 27] (fun v _ i wz => ∃ k : Nat, k ≤ 2 ∧ i = .int .i64 k ∧ Below wr.heap.size wr wz ∧ (k = 0 ∧ PIn wz wr.heap.size B v 0 [] ∨ k = 1 ∧ PIn wz wr.heap.size B v n xs ∨ k = 2 ∧ PIn wz wr.heap.size B v (n + m) (xs ++ ys))) (fun _ _ i _ => 2 - (intOf i).toNat)
      case atStart => exact ⟨0, by omega, rfl, hb1, .inl ⟨rfl, HOW.out⟩⟩
      case round =>
        clear HOW
        obtain ⟨k, hk, rfl, hbz, hx⟩ := hrel
        have hsz := hbz.size
        rcases hx with ⟨rfl, hrow⟩ | ⟨rfl, hrow⟩ | ⟨rfl, hrow⟩
        · have q0 := cell_next HQ.out.1 hbz
          obtain ⟨v', w2, e1, e2, e3⟩ := app_pin (c := c) hrow (HIN.out.next hbz hB) hB hsz (by omega) (by omega)
          rw [Nat.zero_add, List.nil_append] at e2
          have E1 := Lib.hid e1
          clear e1
          have hb3 := hbz.trans e3
          go_wp2_with (at_builtin; refine Lib.wpList_append_run _ rfl _ _ _ _ rfl _ _ rfl rfl _ _ E1.out ?_)
          go_roundw
          case rel => exact ⟨1, by omega, by go_num, hb3, .inr (.inl ⟨rfl, e2⟩)⟩
          case measure => simp [intOf]
        · have q1 := cell_next HQ.out.2 hbz
          obtain ⟨v', w2, e1, e2, e3⟩ := app_pin (c := d) hrow (HIL.out.next hbz hB) hB hsz (by omega) (by omega)
          have E1 := Lib.hid e1
          clear e1
          have hb3 := hbz.trans e3
          go_wp2_with (at_builtin; refine Lib.wpList_append_run _ rfl _ _ _ _ rfl _ _ rfl rfl _ _ E1.out ?_)
          go_roundw
          case rel => exact ⟨2, by omega, by go_num, hb3, .inr (.inr ⟨rfl, e2⟩)⟩
          case measure => simp [intOf]
        · obtain ⟨A', c', rfl, hin⟩ := hrow.out (Nat.le_trans hB hsz)
          have HF := Lib.hid hin
          clear hin hrow
          go_wp2_with fail
          go_ret
          exact ⟨A', c', rfl, HF.out, hbz⟩
end Go.Proofs.Ytglbkbdljjaioaa
