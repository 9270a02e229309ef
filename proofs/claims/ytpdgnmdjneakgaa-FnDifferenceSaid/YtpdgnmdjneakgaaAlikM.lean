/-
  The kinds of states, in the model. Conditions: a policy with at most 1000 states.
-/
import Derived.Test.YtpdgnmdjneakgaaMinQ
import Derived.Test.YtpdgnmdjneakgaaPolS
import Derived.Test.YtpdgnmdjneakgaaAppend
namespace Go.Proofs.Ytpdgnmdjneakgaa
set_option linter.unusedVariables false
open Go.RowKit

theorem InLL.cell_atR {w : World} {B : Nat} {A : Option Addr} {n : Nat} {xs : List (List Int)} (h : InLL w B A n xs) (ok : RectP xs) {s e : Nat} (hs : s < n) (he : e < 4) :
    ∃ b off A0 c0 b2 off2, A = some ⟨b, off, none⟩ ∧ w.cell? ⟨b, off + s, none⟩ = some (.slice A0 4 c0) ∧ A0 = some ⟨b2, off2, none⟩ ∧ w.cell? ⟨b2, off2 + e, none⟩ = some (.int .i64 (nxP xs s e)) := by
  obtain ⟨b, off, x, hA, hb, hx, A0, n0, c0, hc, hin⟩ := h.at_ hs
  obtain ⟨r, hr, hl, hz, _, _⟩ := ok.at_ (s := s) (e := e) (by rw [h.1]; exact hs) he
  obtain rfl : x = r := by rw [hx] at hr; exact Option.some.inj hr
  obtain rfl : n0 = 4 := by have := hin.1; omega
  obtain ⟨b2, off2, z, hA2, hb2, hz2, hcz⟩ := hin.2.int_at (k := e) (by omega)
  obtain rfl : z = nxP xs s e := by rw [hz] at hz2; exact (Option.some.inj hz2).symm
  exact ⟨b, off, A0, c0, b2, off2, hA, hc, hA2, hcz⟩

/-- The first states of each kind, as a list of numbers. -/
def repL (xs : List (List Int)) (t : Nat) : List Int := (List.range xs.length).map fun s => (rep xs t s : Int)
theorem repL_len (xs : List (List Int)) (t : Nat) : (repL xs t).length = xs.length := by simp [repL]
theorem repL_at {xs : List (List Int)} {t s : Nat} (h : s < xs.length) : (repL xs t)[s]? = some (rep xs t s : Int) := by simp [repL, h]
theorem repL_zero (xs : List (List Int)) : repL xs 0 = List.replicate xs.length 0 := by
  apply List.ext_getElem (by simp [repL])
  intro i h1 h2
  simp [repL, rep_zero]
theorem rep_cell {w : World} {B : Nat} {A : Option Addr} {n t s : Nat} {xs : List (List Int)} (h : InL w B A n (repL xs t)) (hs : s < xs.length) : ∃ b off, A = some ⟨b, off, none⟩ ∧ w.cell? ⟨b, off + s, none⟩ = some (.int .i64 (rep xs t s : Int)) := by
  obtain ⟨b, off, z, hA, hb, hz, hc⟩ := h.2.int_at (k := s) (by rw [repL_len]; exact hs)
  rw [repL_at hs] at hz
  obtain rfl := Option.some.inj hz
  exact ⟨b, off, hA, hc⟩

/-- What is known behind j events. -/
def AlkJ (xs : List (List Int)) (t a b j : Nat) : Prop := ∀ e, e < j → (nxP xs a e < 0 ↔ nxP xs b e < 0) ∧ (¬ nxP xs a e < 0 → eqB xs t (nxP xs a e).toNat (nxP xs b e).toNat = true)
theorem AlkJ.none {xs : List (List Int)} {t a b j : Nat} (h : AlkJ xs t a b j) (ha : nxP xs a j < 0) (hb : nxP xs b j < 0) : AlkJ xs t a b (j + 1) := fun e he => by
  rcases Nat.lt_or_ge e j with k | k
  · exact h e k
  · obtain rfl : e = j := by omega
    exact ⟨⟨fun _ => hb, fun _ => ha⟩, fun x => absurd ha x⟩
theorem AlkJ.some {xs : List (List Int)} {t a b j : Nat} (h : AlkJ xs t a b j) (ha : ¬ nxP xs a j < 0) (hb : ¬ nxP xs b j < 0) (hr : rep xs t (nxP xs a j).toNat = rep xs t (nxP xs b j).toNat) : AlkJ xs t a b (j + 1) := fun e he => by
  rcases Nat.lt_or_ge e j with k | k
  · exact h e k
  · obtain rfl : e = j := by omega
    exact ⟨⟨fun x => absurd x ha, fun x => absurd x hb⟩, fun _ => rep_iff.1 hr⟩
theorem alk_end {xs : List (List Int)} {t a b : Nat} (h : AlkJ xs t a b 4) : eqB xs (t + 1) a b = true := eqB_succ.2 h
theorem alk_one {xs : List (List Int)} {t a b j : Nat} (hj : j < 4) (h : ¬ (nxP xs a j < 0 ↔ nxP xs b j < 0)) : eqB xs (t + 1) a b = false := by
  cases e : eqB xs (t + 1) a b with
  | false => rfl
  | true => exact absurd (eqB_succ.1 e j hj).1 h
theorem alk_two {xs : List (List Int)} {t a b j : Nat} (hj : j < 4) (ha : ¬ nxP xs a j < 0) (h : rep xs t (nxP xs a j).toNat ≠ rep xs t (nxP xs b j).toNat) : eqB xs (t + 1) a b = false := by
  cases e : eqB xs (t + 1) a b with
  | false => rfl
  | true => exact absurd (rep_iff.2 ((eqB_succ.1 e j hj).2 ha)) h
theorem alk_three {xs : List (List Int)} {t a b : Nat} (h : rep xs t a ≠ rep xs t b) : eqB xs (t + 1) a b = false := by
  cases e : eqB xs (t + 1) a b with
  | false => rfl
  | true => exact absurd (rep_iff.2 (eqB_less e)) h

set_option maxRecDepth 100000 in
set_option maxHeartbeats 2000000 in
theorem l10Alike_c (b o : Nat) (A : Option Addr) (n c B : Nat) (xs : List (List Int)) (t : Nat) (Ac : Option Addr) (cc x y : Nat) (w : World) (p0 : w.cell? ⟨b, o, none⟩ = some (.slice A n c)) (h : InLL w B A n xs) (hc : InL w B Ac n (repL xs t)) (ok : RectP xs) (hx : x < n) (hy : y < n) (hn : n ≤ 1000) :
    Calls Try.prog 53 #[.pointer (some ⟨b, o, none⟩), .slice Ac n cc, .int .i64 (x : Int), .int .i64 (y : Int)] w fun v w' => v = .returned (.bool (eqB xs (t + 1) x y)) ∧ ∃ d, w' = w.drewN d := by
  have hxn : xs.length = n := h.1
  obtain ⟨bc, oc, rfl, qx⟩ := rep_cell hc (s := x) (by omega)
  obtain ⟨bc', oc', e1, qy⟩ := rep_cell hc (s := y) (by omega)
  injection e1 with e1; injection e1 with e1 e2
  subst e1 e2
  have HOK := Lib.hid ok
  have HX := Lib.hid h
  have HC := Lib.hid hc
  clear h hc ok
  have i1 : (x : Int) < (n : Int) := by omega
  have i2 : (y : Int) < (n : Int) := by omega
  by_cases hr : rep xs t x = rep xs t y
  · have HA0 : Hid (AlkJ xs t x y 0) := fun e he => by omega
    have r1 : ((rep xs t x : Int) == (rep xs t y : Int)) = true := by rw [hr]; simp
    have r2 : ((rep xs t x : Int) != (rep xs t y : Int)) = false := by rw [hr]; simp
    generalize rep xs t x = rx at qx hr r1 r2
    generalize rep xs t y = ry at qy hr r1 r2
    subst hr
    go_enter Try.func53, Try.ntmps53
    go_wp2_with fail
    go_quiet (fail)
    go_wp2_with fail
    go_loopw [9, 10, 11] (fun i _ _ wr => ∃ (j d : Nat), j ≤ 4 ∧ i = .int .i64 j ∧ wr = w.drewN d ∧ Hid (AlkJ xs t x y j)) (fun i _ _ _ => 4 - (intOf i).toNat)
    case atStart => exact ⟨0, _, Nat.zero_le _, rfl, rfl, HA0⟩
    case round =>
      clear HA0
      obtain ⟨j, d, hj, rfl, rfl, hA⟩ := hrel
      by_cases hlt : j < 4
      · obtain ⟨b1, o1, A1, c1, b2, o2, rfl, q1, rfl, q2⟩ := HX.out.cell_atR HOK.out (s := x) (e := j) hx hlt
        obtain ⟨b1', o1', A1', c1', b3, o3, e3, q3, rfl, q4⟩ := HX.out.cell_atR HOK.out (s := y) (e := j) hy hlt
        injection e3 with e3; injection e3 with e3 e4
        subst e3 e4
        have i3 : (j : Int) < 4 := by omega
        have hp1 := HOK.out.nx (s := x) (e := j) (by omega) hlt
        have hp2 := HOK.out.nx (s := y) (e := j) (by omega) hlt
        by_cases ha : nxP xs x j < 0
        · by_cases hb : nxP xs y j < 0
          · have HS : Hid (AlkJ xs t x y (j + 1)) := hA.out.none ha hb
            have k1 : decide (nxP xs x j < 0) = true := decide_eq_true ha
            have k2 : decide (nxP xs y j < 0) = true := decide_eq_true hb
            have k3 : decide (0 ≤ nxP xs x j) = false := decide_eq_false (by omega)
            generalize nxP xs x j = u at q2 ha k1 k3 hp1
            generalize nxP xs y j = v at q4 hb k2 hp2
            go_wp2_with fail
            go_quiet (fail)
            go_wp2_with fail
            go_roundw
            case rel => exact ⟨j + 1, _, by omega, by go_num, by first | rfl | exact (World.drewN_drewN _ _ _), HS⟩
            case measure => simp [intOf]; omega
          · have HF : Hid (eqB xs (t + 1) x y = false) := alk_one hlt (fun k => hb (k.1 ha))
            have k1 : decide (nxP xs x j < 0) = true := decide_eq_true ha
            have k2 : decide (nxP xs y j < 0) = false := decide_eq_false hb
            have k3 : decide (0 ≤ nxP xs x j) = false := decide_eq_false (by omega)
            generalize nxP xs x j = u at q2 ha k1 k3 hp1
            generalize nxP xs y j = v at q4 hb k2 hp2
            go_wp2_with fail
            go_quiet (fail)
            go_wp2_with fail
            go_ret
            rw [HF.out]
            exact ⟨rfl, by first | exact ⟨_, rfl⟩ | exact ⟨_, World.drewN_drewN _ _ _⟩⟩
        · by_cases hb : nxP xs y j < 0
          · have HF : Hid (eqB xs (t + 1) x y = false) := alk_one hlt (fun k => ha (k.2 hb))
            have k1 : decide (nxP xs x j < 0) = false := decide_eq_false ha
            have k2 : decide (nxP xs y j < 0) = true := decide_eq_true hb
            have k3 : decide (0 ≤ nxP xs x j) = true := decide_eq_true (by omega)
            generalize nxP xs x j = u at q2 ha k1 k3 hp1
            generalize nxP xs y j = v at q4 hb k2 hp2
            go_wp2_with fail
            go_quiet (fail)
            go_wp2_with fail
            go_ret
            rw [HF.out]
            exact ⟨rfl, by first | exact ⟨_, rfl⟩ | exact ⟨_, World.drewN_drewN _ _ _⟩⟩
          · obtain ⟨bc', oc', e5, qu⟩ := rep_cell HC.out (s := (nxP xs x j).toNat) (hp1 ha)
            injection e5 with e5; injection e5 with e5 e6
            subst e5 e6
            obtain ⟨bc', oc', e5, qv⟩ := rep_cell HC.out (s := (nxP xs y j).toNat) (hp2 hb)
            injection e5 with e5; injection e5 with e5 e6
            subst e5 e6
            have k1 : decide (nxP xs x j < 0) = false := decide_eq_false ha
            have k2 : decide (nxP xs y j < 0) = false := decide_eq_false hb
            have k3 : decide (0 ≤ nxP xs x j) = true := decide_eq_true (by omega)
            obtain ⟨u, hu⟩ : ∃ u : Nat, nxP xs x j = u := ⟨(nxP xs x j).toNat, by omega⟩
            obtain ⟨v, hv⟩ : ∃ v : Nat, nxP xs y j = v := ⟨(nxP xs y j).toNat, by omega⟩
            have hpu := hp1 ha
            have hpv := hp2 hb
            by_cases hr : rep xs t (nxP xs x j).toNat = rep xs t (nxP xs y j).toNat
            · have HS : Hid (AlkJ xs t x y (j + 1)) := hA.out.some ha hb hr
              have r3 : ((rep xs t (nxP xs x j).toNat : Int) == (rep xs t (nxP xs y j).toNat : Int)) = true := by rw [hr]; simp
              have r4 : ((rep xs t (nxP xs x j).toNat : Int) != (rep xs t (nxP xs y j).toNat : Int)) = false := by rw [hr]; simp
              rw [hu] at q2 k1 k3 qu r3 r4 hpu
              rw [hv] at q4 k2 qv r3 r4 hpv
              rw [Int.toNat_natCast] at qu r3 r4 hpu
              rw [Int.toNat_natCast] at qv r3 r4 hpv
              generalize rep xs t u = ru at qu r3 r4
              generalize rep xs t v = rv at qv r3 r4
              have i5 : (u : Int) < (n : Int) := by omega
              have i6 : (v : Int) < (n : Int) := by omega
              clear hr hp1 hp2 ha hb hu hv
              go_wp2_with fail
              go_quiet (fail)
              go_wp2_with fail
              go_roundw
              case rel => exact ⟨j + 1, _, by omega, by go_num, by first | rfl | exact (World.drewN_drewN _ _ _), HS⟩
              case measure => simp [intOf]; omega
            · have HF : Hid (eqB xs (t + 1) x y = false) := alk_two hlt ha hr
              have r3 : ((rep xs t (nxP xs x j).toNat : Int) == (rep xs t (nxP xs y j).toNat : Int)) = false := by simp only [beq_eq_false_iff_ne, ne_eq]; omega
              have r4 : ((rep xs t (nxP xs x j).toNat : Int) != (rep xs t (nxP xs y j).toNat : Int)) = true := by simp only [bne_iff_ne, ne_eq]; omega
              rw [hu] at q2 k1 k3 qu r3 r4 hpu
              rw [hv] at q4 k2 qv r3 r4 hpv
              rw [Int.toNat_natCast] at qu r3 r4 hpu
              rw [Int.toNat_natCast] at qv r3 r4 hpv
              generalize rep xs t u = ru at qu r3 r4
              generalize rep xs t v = rv at qv r3 r4
              have i5 : (u : Int) < (n : Int) := by omega
              have i6 : (v : Int) < (n : Int) := by omega
              clear hr hp1 hp2 ha hb hu hv
              go_wp2_with fail
              go_quiet (fail)
              go_wp2_with fail
              go_ret
              rw [HF.out]
              exact ⟨rfl, by first | exact ⟨_, rfl⟩ | exact ⟨_, World.drewN_drewN _ _ _⟩⟩
      · obtain rfl : j = 4 := by omega
        have HF : Hid (eqB xs (t + 1) x y = true) := alk_end hA.out
        go_wp2_with fail
        go_ret
        rw [HF.out]
        exact ⟨rfl, _, rfl⟩
  · have HF : Hid (eqB xs (t + 1) x y = false) := alk_three hr
    have r1 : ((rep xs t x : Int) == (rep xs t y : Int)) = false := by simp only [beq_eq_false_iff_ne, ne_eq]; omega
    have r2 : ((rep xs t x : Int) != (rep xs t y : Int)) = true := by simp only [bne_iff_ne, ne_eq]; omega
    generalize rep xs t x = rx at qx hr r1 r2
    generalize rep xs t y = ry at qy hr r1 r2
    go_enter Try.func53, Try.ntmps53
    go_wp2_with fail
    go_quiet (fail)
    go_wp2_with fail
    go_ret
    rw [HF.out]
    exact ⟨rfl, by first | exact ⟨_, rfl⟩ | exact ⟨_, World.drewN_drewN _ _ _⟩⟩
end Go.Proofs.Ytpdgnmdjneakgaa
