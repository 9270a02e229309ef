/-
  The model's splice of one instruction that is left out. Conditions: valid code.
-/
import Derived.Test.YtglbkbdljjaioaaGreatDropS
import Derived.Test.YtglbkbdljjaioaaGreatPass
import Derived.IntWalk
namespace Go.Proofs.YtglbkbdljjaioaaGreat
set_option linter.unusedVariables false
open Go.RowKit

set_option maxRecDepth 100000 in
set_option maxHeartbeats 2000000 in
theorem l09Point_c (b : Nat) (A : Option Addr) (n c B : Nat) (ps : List P2) (k : Int) (w : World) (p3 : w.cell? ⟨b, 3, none⟩ = some (.slice A n c)) (h : InP2 w B A n ps) (hn : n ≤ 1048576) :
    Calls Tryz.prog 38 #[.pointer (some ⟨b, 0, none⟩), .int .i64 k] w fun e w' => e = .returned (.bool (ptB ps k)) ∧ w = w' := by
  have hl := Lib.hid h.1
  go_enter Tryz.func38, Tryz.ntmps38
  go_wp2_with fail
  go_loop [5] (fun i => ∃ j : Nat, j ≤ n ∧ i = .int .i64 j ∧ Hid (ptB (ps.take j) k = false)) (fun i => n - (intOf i).toNat)
  case atStart => exact ⟨0, Nat.zero_le _, rfl, Lib.hid rfl⟩
  case round =>
    obtain ⟨j, hj, rfl, ha⟩ := hrel
    by_cases hlt : j < n
    · obtain ⟨b', off, x, rfl, hb, hx, A0, n0, c0, q0, q1, kf⟩ := h.at_ hlt
      clear q1 kf
      by_cases hk : x.a = k
      · have e0 : (x.a == k) = true := by simp [hk]
        have HN := Lib.hid (ptB_yes hx hk)
        clear hx ha hk
        go_wp2_with fail
        go_ret
        exact ⟨ret_bool HN.out.symm, rfl⟩
      · have e0 : (x.a == k) = false := by simp [hk]
        have HS := Lib.hid (ptB_take_no ha.out hx hk)
        clear hx ha hk
        go_wp2_with fail
        go_round
        case rel => exact ⟨j + 1, by omega, by go_num, HS⟩
        case measure => simp [intOf]; omega
    · have HN := Lib.hid (ptB_all ha.out (by rw [hl.out]; omega))
      clear ha
      go_wp2_with fail
      go_ret
      exact ⟨ret_bool HN.out.symm, rfl⟩

theorem l09Jumps_c (p q : Int) (w : World) : Calls Tryz.prog 36 #[.agg #[.int .i64 p, .int .i64 q]] w fun e w' => e = .returned (.bool (decide (p = 5 ∨ p = 6))) ∧ Below w.heap.size w w' := by
  by_cases h5 : p = 5
  · have e5 : (p == 5) = true := by simp [h5]
    clear h5
    go_enter Tryz.func36, Tryz.ntmps36
    go_wp2_with fail
    go_ret
    exact ⟨ret_bool (by simp_all), bnew _ _⟩
  · have e5 : (p == 5) = false := by simp [h5]
    by_cases h6 : p = 6
    · have e6 : (p == 6) = true := by simp [h6]
      clear h5 h6
      go_enter Tryz.func36, Tryz.ntmps36
      go_wp2_with fail
      go_ret
      exact ⟨ret_bool (by simp_all), bnew _ _⟩
    · have e6 : (p == 6) = false := by simp [h6]
      clear h5 h6
      go_enter Tryz.func36, Tryz.ntmps36
      go_wp2_with fail
      go_ret
      exact ⟨ret_bool (by simp_all), bnew _ _⟩

theorem PRow.set_a {w : World} {base n g c : Nat} {xs : List P2} {j : Nat} {x : P2} {z : Int} (h : PRow w base (.slice (some ⟨g, 0, none⟩) n c) n xs) (hx : xs[j]? = some x) : PRow (w.setCell ⟨g, j * 2, none⟩ (.int .i64 z)) base (.slice (some ⟨g, 0, none⟩) n c) n (xs.set j ⟨z, x.s⟩) := by
  obtain ⟨h1, cs, h3, h4⟩ := h
  have hjl := (List.getElem?_eq_some_iff.1 hx).1
  have hcl := h3.1
  refine ⟨by rw [List.length_set]; exact h1, _, (h3.stored (j * 2) (.int .i64 z)).1, fun i y hi => ?_⟩
  have hno := own_noP h3
  have hg : w.grownBy (w.setCell ⟨g, j * 2, none⟩ (.int .i64 z)) (some g) := only_set
  rw [List.getElem?_set] at hi
  split at hi
  · rename_i e
    subst e
    obtain rfl := Option.some.inj hi
    obtain ⟨a, A', c', b, d⟩ := h4 j x hx
    exact ⟨List.getElem?_set_self (by omega), A', c', by rw [List.getElem?_set_ne (by omega)]; exact b, d.kept hg hno⟩
  · obtain ⟨a, A', c', b, d⟩ := h4 i y hi
    exact ⟨by rw [List.getElem?_set_ne (by omega)]; exact a, A', c', by rw [List.getElem?_set_ne (by omega)]; exact b, d.kept hg hno⟩
theorem subI_no {k : Int} {x : Int × Int} (h : ¬ ((x.1 = 5 ∨ x.1 = 6) ∧ k < x.2)) : subI k x = x := if_neg h
theorem subI_yes {k : Int} {x : Int × Int} (h : (x.1 = 5 ∨ x.1 = 6) ∧ k < x.2) : subI k x = (x.1, x.2 - 1) := if_pos h
theorem subP_no {k : Int} {p : P2} (h : ¬ k < p.a) : subP k p = p := if_neg h
theorem subP_yes {k : Int} {p : P2} (h : k < p.a) : subP k p = ⟨p.a - 1, p.s⟩ := if_pos h
theorem inC_take {w : World} {B n k : Nat} {A : Option Addr} {xs : List (Int × Int)} (h : InC w B A n xs) (hk : k ≤ n) : InC w B A k (xs.take k) := by
  refine ⟨by rw [List.length_take, h.1]; omega, fun j x hj => ?_⟩
  have hl := (List.getElem?_eq_some_iff.1 hj).1
  rw [List.length_take] at hl
  rw [List.getElem?_take_of_lt (by omega)] at hj
  exact h.2 j x hj
theorem inC_drop {w : World} {B n k g : Nat} {xs : List (Int × Int)} (h : InC w B (some ⟨g, 0, none⟩) n xs) : InC w B (some ⟨g, k * 2, none⟩) (n - k) (xs.drop k) := by
  refine ⟨by rw [List.length_drop, h.1], fun j x hj => ?_⟩
  rw [List.getElem?_drop] at hj
  obtain ⟨b, off, e, hb, q0, q1⟩ := h.2 _ x hj
  cases e
  refine ⟨g, k * 2, rfl, hb, ?_, ?_⟩
  · rw [show k * 2 + j * 2 = 0 + (k + j) * 2 by omega]; exact q0
  · rw [show k * 2 + j * 2 + 1 = 0 + (k + j) * 2 + 1 by omega]; exact q1
theorem ownC_cap {w : World} {base n c : Nat} {A : Option Addr} {xs : List Value} (h : w.ownsRow base 73 2 (.slice A n c) n xs) (hn : 0 < n) : ∃ g, A = some ⟨g, 0, none⟩ ∧ n ≤ c ∧ base ≤ g := by
  rcases h.2 with ⟨h', hn'⟩ | ⟨b, cap, cur, k1, k2, k3, k4, _⟩
  · omega
  · injection k1 with e1 e2 e3
    exact ⟨b, e1, by omega, k2⟩

/-- Annotated code in rows of the model's own. -/
structure AnM (w : World) (base : Nat) (B0 : Option Addr) (B1 : Option Addr) (B2 : Option Addr) (d2 : Nat) (B3 : Option Addr) (d3 : Nat) (t0 t1 : List (Int × List Int)) (t2 : List (Int × Int)) (t3 : List P2) : Prop where
  f0 : TsL w B0 t0.length t0
  f1 : TsL w B1 t1.length t1
  f2 : w.ownsRow base 73 2 (.slice B2 t2.length d2) t2.length (flatC t2)
  f3 : PRow w base (.slice B3 t3.length d3) t3.length t3
section
variable {w w' : World} {base d2 d3 : Nat} {B0 B1 B2 B3 : Option Addr} {t0 t1 : List (Int × List Int)} {t2 : List (Int × Int)} {t3 : List P2}
theorem AnM.kept {r : Option Nat} (h : AnM w base B0 B1 B2 d2 B3 d3 t0 t1 t2 t3) (hg : w.grownBy w' r) (hi : ∀ k cs, r = some k → w.heap[k]? ≠ some (.cells cs 2 (0, 0))) (ht : ∀ k cs, r = some k → w.heap[k]? ≠ some (.cells cs 76 (0, 0)))
    (hc : ∀ k cs, r = some k → w.heap[k]? ≠ some (.cells cs 73 (0, 0))) (hp : ∀ k cs, r = some k → w.heap[k]? ≠ some (.cells cs 69 (0, 0))) : AnM w' base B0 B1 B2 d2 B3 d3 t0 t1 t2 t3 :=
  ⟨h.f0.kept hg (fun k cs e => ⟨hi k cs e, ht k cs e⟩), h.f1.kept hg (fun k cs e => ⟨hi k cs e, ht k cs e⟩), own_kept h.f2 hg hc, h.f3.kept hg (fun k cs e => ⟨hi k cs e, ht k cs e⟩) hp⟩
theorem AnM.next (h : AnM w base B0 B1 B2 d2 B3 d3 t0 t1 t2 t3) (hb : Below w.heap.size w w') : AnM w' base B0 B1 B2 d2 B3 d3 t0 t1 t2 t3 :=
  h.kept (r := none) (grown_of hb) (fun k cs e => by cases e) (fun k cs e => by cases e) (fun k cs e => by cases e) (fun k cs e => by cases e)
theorem AnM.less {base' : Nat} (h : AnM w base B0 B1 B2 d2 B3 d3 t0 t1 t2 t3) (hb : base' ≤ base) : AnM w base' B0 B1 B2 d2 B3 d3 t0 t1 t2 t3 := ⟨h.f0, h.f1, own_less h.f2 hb, h.f3.less hb⟩
end

theorem app_csN {w : World} {B base k n c : Nat} {v : Value} {A : Option Addr} {ys xs : List (Int × Int)} (hr : w.ownsRow base 73 2 v k (flatC ys)) (h : InC w B A n xs) (hbw : base ≤ w.heap.size) (hk : k ≤ 100000) (hn : n ≤ 100000) (hyl : ys.length = k) :
    ∃ A' c' w', (Builtin.append_ #[29, 29] 29 #[v, .slice A n c]).run Tryz.prog w = .ok (.slice A' (k + n) c') w' ∧ w'.ownsRow base 73 2 (.slice A' (k + n) c') (k + n) (flatC (ys ++ xs)) ∧ w.grownBy w' v.ownBlock ∧ Below base w w' := by
  obtain ⟨i0, hi, hz0, hz1, hz2⟩ := info_parts infoInstr
  obtain ⟨v', w', h1, h2, h3⟩ : ∃ v' w', (Builtin.append_ #[29, 29] 29 #[v, .slice A n c]).run Tryz.prog w = .ok v' w' ∧ w'.ownsRow base 73 2 v' (k + n) (flatC (ys ++ xs)) ∧ w.grownBy w' v.ownBlock := by
    rcases A with _ | ad
    · have hn0 : n = 0 := by
        rcases Nat.eq_zero_or_pos n with h0 | h0
        · exact h0
        · obtain ⟨_, _, _, e, _⟩ := h.at_ (k := 0) h0
          cases e
      subst hn0
      have hxs : xs = [] := List.eq_nil_of_length_eq_zero h.1
      subst hxs
      exact ⟨v, w, nil_any w base _ _ 73 i0 2 Tryz.underlying29 hi v k _ hr c, (by simpa using hr), grown_of (Below.refl _ _)⟩
    · obtain ⟨v', w', e1, e2, e3, _⟩ := run_append_own w base 29 29 73 i0 (.agg #[.int .i64 0, .int .i64 0]) 2 16 Tryz.underlying29 hi hz0 hz1 hz2 rfl (by decide) v k _ hr ad n c (flatC xs) (by rw [flatC_len, h.1]) (flatC_news h) (flatC_one xs) (by unfold maxLen; omega) (by omega) hbw
      rw [← flatC_app] at e2
      exact ⟨v', w', e1, e2, e3⟩
  obtain ⟨A', c', rfl, _⟩ := own_sliceC h2 (by rw [List.length_append, hyl, h.1])
  exact ⟨A', c', w', h1, h2, h3, (Below.refl base w).grown h3 hbw (fun j hj => (hr.lt j hj).1)⟩

/-- Boxes and rows while a splice makes its code. -/
structure SpS (u : World) (g x base : Nat) (cs : Array Value) (C0 C1 : Option Addr) (v3 : Value) (t0 t1 : List (Int × List Int)) (t3 : List P2) : Prop where
  hg : BlkIs u g 32 cs
  hx : BlkIs u x 32 #[.slice none 0 0, .slice none 0 0, .slice none 0 0, .slice none 0 0]
  h0 : TsL u C0 t0.length t0
  h1 : TsL u C1 t1.length t1
  h3 : PRow u base v3 t3.length t3
section
variable {u u' : World} {g x base : Nat} {cs : Array Value} {C0 C1 : Option Addr} {v3 : Value} {t0 t1 : List (Int × List Int)} {t3 : List P2}
theorem SpS.next (h : SpS u g x base cs C0 C1 v3 t0 t1 t3) (hb : Below u.heap.size u u') : SpS u' g x base cs C0 C1 v3 t0 t1 t3 := ⟨h.hg.next hb, h.hx.next hb, h.h0.next hb, h.h1.next hb, h.h3.next hb⟩
theorem SpS.row {b n : Nat} {v : Value} {xs : List Value} (h : SpS u g x base cs C0 C1 v3 t0 t1 t3) (ho : u.ownsRow b 73 2 v n xs) (hg : u.grownBy u' v.ownBlock) : SpS u' g x base cs C0 C1 v3 t0 t1 t3 :=
  ⟨blk_grown h.hg ho (by decide) hg, blk_grown h.hx ho (by decide) hg, h.h0.kept hg (fun k cs e => ⟨own_not ho (by decide) k cs e, own_not ho (by decide) k cs e⟩), h.h1.kept hg (fun k cs e => ⟨own_not ho (by decide) k cs e, own_not ho (by decide) k cs e⟩), h.h3.kept hg (fun k cs e => ⟨own_not ho (by decide) k cs e, own_not ho (by decide) k cs e⟩) (own_not ho (by decide))⟩
theorem SpS.set (h : SpS u g x base cs C0 C1 v3 t0 t1 t3) (hne : x ≠ g) (i : Nat) (v : Value) : SpS (u.setCell ⟨g, i, none⟩ v) g x base (cs.setIfInBounds i v) C0 C1 v3 t0 t1 t3 :=
  have hn := fun k cs e => And.intro (blk_not h.hg (e' := 2) (by decide) k cs e) (blk_not h.hg (e' := 76) (by decide) k cs e)
  ⟨h.hg.set i v, h.hx.far hne i v, h.h0.kept only_set hn, h.h1.kept only_set hn, h.h3.kept only_set hn (blk_not h.hg (by decide))⟩
theorem SpS.setP {n c gp j : Nat} {p : P2} {z : Int} (h : SpS u g x base cs C0 C1 (.slice (some ⟨gp, 0, none⟩) n c) t0 t1 t3) (hn : t3.length = n) (hp : t3[j]? = some p) : SpS (u.setCell ⟨gp, j * 2, none⟩ (.int .i64 z)) g x base cs C0 C1 (.slice (some ⟨gp, 0, none⟩) n c) t0 t1 (t3.set j ⟨z, p.s⟩) := by
  subst hn
  obtain ⟨_, cs', ho, _⟩ := h.h3
  have hg : u.grownBy (u.setCell ⟨gp, j * 2, none⟩ (.int .i64 z)) (Value.slice (some ⟨gp, 0, none⟩) t3.length c).ownBlock := only_set (g := gp)
  have hs := h.h3.set_a (z := z) hp
  refine ⟨blk_grown h.hg ho (by decide) hg, blk_grown h.hx ho (by decide) hg, h.h0.kept hg (own_noP ho), h.h1.kept hg (own_noP ho), ?_⟩
  rw [List.length_set]
  exact hs
end

end Go.Proofs.YtglbkbdljjaioaaGreat

