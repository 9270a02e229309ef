/-
  slices.Grow of nil and slices.Concat, at Term: a new row. Conditions: at most 1000 terms.
-/
import Derived.Test.YtapndnkcmmpdjaaCtx
import Derived.Lib.AppendZeros
namespace Go.Proofs.Ytapndnkcmmpdjaa
open Go.RowKit
set_option linter.unusedVariables false

theorem size_zeroT (n : Nat) : (Builtin.zeroCells (Value.agg #[.int .i64 0, .slice none 0 0]).cells n).size = n * 2 := by
  rw [size_zeroCells]; rfl
set_option maxRecDepth 100000 in
set_option maxHeartbeats 1000000 in
theorem grow_c (n : Nat) (w : World) (h1 : 1 ≤ n) (h2 : n ≤ 1000) : Calls Try.prog 68 #[.slice none 0 0, .int .i64 n] w fun e w' => ∃ g cap, e = .returned (.slice (some ⟨g, 0, none⟩) 0 cap) ∧ w'.ownsRow w.heap.size 41 2 (.slice (some ⟨g, 0, none⟩) 0 cap) 0 [] ∧ Below w.heap.size w w' := by
  obtain ⟨i0, hi, hz0, hz1, hz2⟩ := info_parts infoTerm2
  have happ := Lib.run_append_nil_zeros (P := Try.prog) w 27 3 27 41 i0 (.agg #[.int .i64 0, .slice none 0 0]) .i64 .i64 Try.underlying27 Try.underlying3 hi hz0 n (by omega) (by rw [hz1]; omega) (by omega) (by rw [hz2]; omega)
  obtain ⟨C, hC⟩ : ∃ C, C = grownCap w n 0 41 := ⟨_, rfl⟩
  have hge : n ≤ C := by rw [hC]; exact grownCap_ge w _ 0 _
  have hle : C ≤ maxLen := by rw [hC]; exact grownCap_le_maxLen w _ 0 _ (by unfold maxLen; omega)
  rw [← hC] at happ
  obtain ⟨Z, hZ⟩ : ∃ Z, Z = Builtin.zeroCells (Value.agg #[.int .i64 0, .slice none 0 0]).cells n ++ Builtin.zeroCells (Value.agg #[.int .i64 0, .slice none 0 0]).cells (C - n) := ⟨_, rfl⟩
  rw [← hZ] at happ
  have hZs : Z.size = C * 2 := by rw [hZ, Array.size_append, size_zeroT, size_zeroT]; omega
  clear hC hZ
  have hown : (w.drew.alloc (.cells Z 41)).ownsRow w.heap.size 41 2 (.slice (some ⟨w.heap.size, 0, none⟩) 0 C) 0 [] := World.ownsRow_made w.drew Z C (Nat.le_refl _) hle hZs
  have HO := Lib.hid hown
  have hb := bnew w.drew (.cells Z 41)
  have HB := Lib.hid (show Below w.heap.size w (w.drew.alloc (.cells Z 41)) from (Below.refl w.heap.size w).drew.alloc (Nat.le_refl _) _)
  have hn1 : (1 : Int) ≤ (n : Int) := by omega
  have HAP := Lib.hid happ
  clear hown happ hb
  go_enter Try.func68, Try.ntmps68
  go_wp2_with (at_builtin; refine Lib.wpList_append_run _ rfl _ _ _ _ rfl _ _ rfl rfl _ _ HAP.out ?_)
  go_ret
  exact ⟨w.heap.size, C, rfl, HO.out, HB.out⟩
theorem ts_cells {w : World} {B b off n : Nat} {ts : List (Int × List Int)} (h : InTS w B (some ⟨b, off, none⟩) n ts) :
    ∃ news : List Value, news.length = n * 2 ∧ (∀ j u, news[j]? = some u → w.cell? ((⟨b, off, none⟩ : Addr).add j) = some u) ∧ (∀ u ∈ news, u.oneCell' = true) ∧
      ∀ j t, ts[j]? = some t → news[j * 2]? = some (.int .i64 t.1) ∧ ∃ A' n' c', news[j * 2 + 1]? = some (.slice A' n' c') ∧ InL w B A' n' t.2 := by
  have key : ∀ j, j < n * 2 → ∃ u, w.cell? ⟨b, off + j, none⟩ = some u ∧ u.oneCell' = true := by
    intro j hj
    obtain ⟨b', off', A', n', c', t, e, hb, ht, h1, h2, h3⟩ := h.at_ (k := j / 2) (by omega)
    cases e
    by_cases hp : j % 2 = 0
    · exact ⟨_, by rw [show off + j = off + j / 2 * 2 by omega]; exact h1, rfl⟩
    · exact ⟨_, by rw [show off + j = off + j / 2 * 2 + 1 by omega]; exact h2, rfl⟩
  have hat : ∀ j, j < n * 2 → ((List.range (n * 2)).map fun j => (w.cell? ⟨b, off + j, none⟩).getD undef)[j]? = w.cell? ⟨b, off + j, none⟩ := by
    intro j hj
    obtain ⟨u, hu, _⟩ := key j hj
    rw [List.getElem?_map, List.getElem?_range hj, hu]
    simp [hu]
  refine ⟨(List.range (n * 2)).map fun j => (w.cell? ⟨b, off + j, none⟩).getD undef, by simp, fun j u hu => ?_, fun u hu => ?_, fun j t ht => ?_⟩
  · have hj : j < n * 2 := by have := (List.getElem?_eq_some_iff.1 hu).1; simpa using this
    rw [hat j hj] at hu
    rw [show ((⟨b, off, none⟩ : Addr).add j) = ⟨b, off + j, none⟩ by by_cases e : j = 0 <;> simp [Addr.add, e]]
    exact hu
  · obtain ⟨j, hj, rfl⟩ := List.mem_map.1 hu
    obtain ⟨u, hu, h1⟩ := key j (List.mem_range.1 hj)
    simp only [hu]
    exact h1
  · have hj : j < n := by have := (List.getElem?_eq_some_iff.1 ht).1; have := h.1; omega
    obtain ⟨b', off', A', n', c', t', e, hb, ht', h1, h2, h3⟩ := h.at_ hj
    cases e
    rw [ht] at ht'
    obtain rfl := Option.some.inj ht'
    exact ⟨by rw [hat _ (by omega), ← Nat.add_zero (off + j * 2)]; exact h1, A', n', c', by rw [hat _ (by omega)]; exact h2, h3⟩
/-- Terms of the caller's in a row of one's own. -/
def RowIn (w : World) (base B : Nat) (v : Value) (n : Nat) (ts : List (Int × List Int)) : Prop :=
  ts.length = n ∧ ∃ xs, w.ownsRow base 41 2 v n xs ∧ ∀ j t, ts[j]? = some t → xs[j * 2]? = some (.int .i64 t.1) ∧ ∃ A' n' c', xs[j * 2 + 1]? = some (.slice A' n' c') ∧ InL w B A' n' t.2
theorem app_ts {w : World} {B base g cap n c : Nat} {A : Option Addr} {ts : List (Int × List Int)} (hr : w.ownsRow base 41 2 (.slice (some ⟨g, 0, none⟩) 0 cap) 0 []) (h : InTS w B A n ts) (hB : B ≤ base) (hbw : base ≤ w.heap.size) (hn : n ≤ 1000) :
    ∃ v' w', (Builtin.append_ #[27, 27] 27 #[.slice (some ⟨g, 0, none⟩) 0 cap, .slice A n c]).run Try.prog w = .ok v' w' ∧ RowIn w' base B v' n ts ∧ Below base w w' := by
  obtain ⟨i0, hi, hz0, hz1, hz2⟩ := info_parts infoTerm2
  by_cases h0 : n = 0 ∧ A = none
  · obtain ⟨rfl, rfl⟩ := h0
    have hts : ts = [] := List.eq_nil_of_length_eq_zero h.1
    subst hts
    refine ⟨.slice (some ⟨g, 0, none⟩) 0 cap, w, ?_, ⟨rfl, [], hr, fun j t hj => by simp at hj⟩, Below.refl _ _⟩
    simp [Builtin.append_, run_underlying Try.underlying27, sizeOf, typeInfo, hi, Builtin.lenOf, Builtin.firstCells, loadCells, loadCellsFrom, storeCells]
  · obtain ⟨ad, rfl, news, l1, l2, l3, l4⟩ : ∃ ad : Addr, A = some ad ∧ ∃ news : List Value, news.length = n * 2 ∧ (∀ j u, news[j]? = some u → w.cell? (ad.add j) = some u) ∧ (∀ u ∈ news, u.oneCell' = true) ∧
        ∀ j t, ts[j]? = some t → news[j * 2]? = some (.int .i64 t.1) ∧ ∃ A' n' c', news[j * 2 + 1]? = some (.slice A' n' c') ∧ InL w B A' n' t.2 := by
      by_cases hn0 : n = 0
      · obtain ⟨ad, had⟩ : ∃ ad, A = some ad := by
          cases A with
          | none => exact absurd ⟨hn0, rfl⟩ h0
          | some ad => exact ⟨ad, rfl⟩
        have hts : ts = [] := List.eq_nil_of_length_eq_zero (h.1.trans hn0)
        subst hts
        exact ⟨ad, had, [], by simp [hn0], fun j u hu => by simp at hu, fun u hu => by simp at hu, fun j t ht => by simp at ht⟩
      · obtain ⟨b, off, _, _, _, _, e, _⟩ := h.at_ (k := 0) (by omega)
        subst e
        exact ⟨_, rfl, ts_cells h⟩
    obtain ⟨v', w', e1, e2, e3, _⟩ := run_append_own w base 27 27 41 i0 (.agg #[.int .i64 0, .slice none 0 0]) 2 32 Try.underlying27 hi hz0 hz1 hz2 rfl (by decide) _ 0 [] hr ad n c news l1 l2 l3 (by unfold maxLen; omega) (by omega) hbw
    have hbb : Below base w w' := (Below.refl base w).grown e3 hbw (fun j hj => (hr.lt j hj).1)
    rw [Nat.zero_add, List.nil_append] at e2
    exact ⟨v', w', e1, ⟨h.1, news, e2, fun j t hj => by obtain ⟨a1, A', n', c', a2, a3⟩ := l4 j t hj; exact ⟨a1, A', n', c', a2, a3.next hbb hB⟩⟩, hbb⟩
theorem app_one {w : World} {B base g1 n c0' : Nat} {c0 : Int} {zs : List Int} {D : Option Addr} {m d : Nat} {v : Value} {ts : List (Int × List Int)} (hr : RowIn w base B v n ts) (h : BlkIs w g1 41 #[.int .i64 c0, .slice D m d]) (hl : InL w B D m zs) (hB : B ≤ base) (hbw : base ≤ w.heap.size) (hn : n ≤ 1000) :
    ∃ A' c' w', (Builtin.append_ #[27, 27] 27 #[v, .slice (some ⟨g1, 0, none⟩) 1 1]).run Try.prog w = .ok (.slice A' (n + 1) c') w' ∧ InTS w' w'.heap.size A' (n + 1) (ts ++ [(c0, zs)]) ∧ Below base w w' := by
  obtain ⟨i0, hi, hz0, hz1, hz2⟩ := info_parts infoTerm2
  obtain ⟨h1, xs, hx, hxs⟩ := hr
  obtain ⟨v', w', e1, e2, e3, _⟩ := run_append_own w base 27 27 41 i0 (.agg #[.int .i64 0, .slice none 0 0]) 2 32 Try.underlying27 hi hz0 hz1 hz2 rfl (by decide) v n xs hx ⟨g1, 0, none⟩ 1 1 [.int .i64 c0, .slice D m d] rfl (World.news_of_block (cs := #[.int .i64 c0, .slice D m d]) h) (two_one rfl rfl) (by unfold maxLen; omega) (by omega) hbw
  have hbb : Below base w w' := (Below.refl base w).grown e3 hbw (fun j hj => (hx.lt j hj).1)
  have hxl := hx.1
  have hrl := e2.1
  have hsz := hbb.size
  rcases e2.2 with ⟨_, hz⟩ | ⟨g, cap, cur, rfl, k2, _⟩
  · omega
  · refine ⟨some ⟨g, 0, none⟩, cap, w', e1, ⟨by simp [h1], fun j u hj => ?_⟩, hbb⟩
    have hjl := (List.getElem?_eq_some_iff.1 hj).1
    simp at hjl
    by_cases hjn : j < ts.length
    · rw [List.getElem?_append_left hjn] at hj
      obtain ⟨a, A', n', c', b, cc⟩ := hxs j u hj
      have ck := (cc.next hbb hB).more (show B ≤ w'.heap.size by omega)
      refine ⟨g, 0, A', n', c', rfl, (e2.lt g rfl).2, ?_, ?_, ck.1, ck.2⟩
      · rw [Nat.zero_add, e2.cellAt (j * 2) (by omega), List.getElem?_append_left (by omega), a]
      · rw [Nat.zero_add, e2.cellAt (j * 2 + 1) (by omega), List.getElem?_append_left (by omega), b]
    · have hje : j = ts.length := by omega
      subst hje
      rw [List.getElem?_append_right (Nat.le_refl _), Nat.sub_self] at hj
      obtain rfl : (c0, zs) = u := by simpa using hj
      have hi' := (hl.next hbb hB).more (show B ≤ w'.heap.size by omega)
      refine ⟨g, 0, D, m, d, rfl, (e2.lt g rfl).2, ?_, ?_, hi'.1, hi'.2⟩
      · rw [Nat.zero_add, e2.cellAt (ts.length * 2) (by omega), List.getElem?_append_right (by omega), show ts.length * 2 - xs.length = 0 by omega]; rfl
      · rw [Nat.zero_add, e2.cellAt (ts.length * 2 + 1) (by omega), List.getElem?_append_right (by omega), show ts.length * 2 + 1 - xs.length = 1 by omega]; rfl

set_option maxRecDepth 100000 in
set_option maxHeartbeats 1000000 in
theorem concat_c (b g1 : Nat) (A : Option Addr) (n c B : Nat) (ts : List (Int × List Int)) (c0 : Int) (D : Option Addr) (m d : Nat) (zs : List Int) (w : World) (hP : BlkIs w b 27 #[.slice A n c, .slice (some ⟨g1, 0, none⟩) 1 1]) (hG : BlkIs w g1 41 #[.int .i64 c0, .slice D m d]) (h : InTS w B A n ts) (hl : InL w B D m zs) (hB : B ≤ w.heap.size) (hn : n ≤ 100) :
    Calls Try.prog 48 #[.slice (some ⟨b, 0, none⟩) 2 2] w fun e w' => ∃ A' c', e = .returned (.slice A' (n + 1) c') ∧ InTS w' w'.heap.size A' (n + 1) (ts ++ [(c0, zs)]) ∧ Below w.heap.size w w' := by
  have HIN := Lib.hid h
  have HIL := Lib.hid hl
  have q0 : w.cell? ⟨b, 0, none⟩ = some (.slice A n c) := hP.cell 0
  have q1 : w.cell? ⟨b, 1, none⟩ = some (.slice (some ⟨g1, 0, none⟩) 1 1) := hP.cell 1
  have HGR := Lib.hid (grow_c (n + 1) w (by omega) (by omega))
  have HQ := Lib.hid (And.intro q0 q1)
  have HG := Lib.hid hG
  clear h hl
  go_enter Try.func48, Try.ntmps48
  go_wp2_with fail
  go_loopw [3, 5, 11] (fun x _ i wr => ∃ k : Nat, k ≤ 2 ∧ i = .int .i64 k ∧ (k = 0 ∧ x = .int .i64 0 ∨ k = 1 ∧ x = .int .i64 n ∨ k = 2 ∧ x = .int .i64 ((n : Int) + 1)) ∧ Hid (wr = w)) (fun _ _ i _ => 2 - (intOf i).toNat)
  case atStart => exact ⟨0, by omega, rfl, .inl ⟨rfl, rfl⟩, Lib.hid rfl⟩
  case round =>
    obtain ⟨k, hk, rfl, hx, hw⟩ := hrel
    obtain rfl := hw.out
    clear hw
    rcases hx with ⟨rfl, rfl⟩ | ⟨rfl, rfl⟩ | ⟨rfl, rfl⟩
    · go_wp2_with fail
      go_roundw
      case rel => exact ⟨1, by omega, by go_num, .inr (.inl ⟨rfl, by go_num⟩), by first | exact Lib.hid rfl | exact Lib.hid trivial⟩
      case measure => simp [intOf]
    · go_wp2_with fail
      go_roundw
      case rel => exact ⟨2, by omega, by go_num, .inr (.inr ⟨rfl, by go_num⟩), by first | exact Lib.hid rfl | exact Lib.hid trivial⟩
      case measure => simp [intOf]
    · have hcn : ((n + 1 : Nat) : Int) = (n : Int) + 1 := by omega
      rw [hcn] at HGR
      clear q0 q1
      go_wp2_with fail
      refine HGR.out.mono ?_
      rintro e w1 ⟨g, cap, rfl, hown, hb1⟩
      have hs1 := hb1.size
      have HOW := Lib.hid hown
      clear hown HGR
      go_wp2_with fail
      have h00 : (((0 : Nat) : Int)) = 0 := rfl
      go_loopw [6, 8, 27] (fun v _ i wz => ∃ k : Nat, k ≤ 2 ∧ i = .int .i64 k ∧ Below wr.heap.size wr wz ∧ (k = 0 ∧ v = .slice (some ⟨g, 0, none⟩) 0 cap ∧ wz.ownsRow wr.heap.size 41 2 (.slice (some ⟨g, 0, none⟩) 0 cap) 0 [] ∨ k = 1 ∧ RowIn wz wr.heap.size B v n ts ∨ k = 2 ∧ ∃ A' c', v = .slice A' (n + 1) c' ∧ InTS wz wz.heap.size A' (n + 1) (ts ++ [(c0, zs)]))) (fun _ _ i _ => 2 - (intOf i).toNat)
      case atStart => exact ⟨0, by omega, rfl, hb1, .inl ⟨rfl, rfl, HOW.out⟩⟩
      case round =>
        clear HOW
        obtain ⟨k, hk, rfl, hbz, hx⟩ := hrel
        have hsz := hbz.size
        rcases hx with ⟨rfl, rfl, hown⟩ | ⟨rfl, hrow⟩ | ⟨rfl, A', c', rfl, hin⟩
        · have q0 := cell_next HQ.out.1 hbz
          obtain ⟨v', w2, e1, e2, e3⟩ := app_ts hown (HIN.out.next hbz hB) hB hsz (by omega)
          have E1 := Lib.hid e1
          clear e1
          have hb3 := hbz.trans e3
          go_wp2_with (at_builtin; refine Lib.wpList_append_run _ rfl _ _ _ _ rfl _ _ rfl rfl _ _ E1.out ?_)
          go_roundw
          case rel => exact ⟨1, by omega, by go_num, hb3, .inr (.inl ⟨rfl, e2⟩)⟩
          case measure => simp [intOf]
        · have q1 := cell_next HQ.out.2 hbz
          obtain ⟨A', c', w2, e1, e2, e3⟩ := app_one (c0' := 0) hrow ((hbz.block g1 HG.out.lt).trans HG.out) (HIL.out.next hbz hB) hB hsz (by omega)
          have E1 := Lib.hid e1
          clear e1
          have hb3 := hbz.trans e3
          go_wp2_with (at_builtin; refine Lib.wpList_append_run _ rfl _ _ _ _ rfl _ _ rfl rfl _ _ E1.out ?_)
          go_roundw
          case rel => exact ⟨2, by omega, by go_num, hb3, .inr (.inr ⟨rfl, A', c', rfl, e2⟩)⟩
          case measure => simp [intOf]
        · go_wp2_with fail
          go_ret
          exact ⟨A', c', rfl, hin, hbz⟩
end Go.Proofs.Ytapndnkcmmpdjaa
