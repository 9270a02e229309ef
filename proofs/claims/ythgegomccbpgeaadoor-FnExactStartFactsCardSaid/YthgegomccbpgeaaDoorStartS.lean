/-
  The facts of a start, and whether they hold: the model's functions; HoldsAt of both. Conditions: at most 2^20 elements, terms, coefficients and numbers; the table elementForms holds what the program's text lays.
-/
import Derived.Test.YthgegomccbpgeaaDoorStart
namespace Go.Proofs.YthgegomccbpgeaaDoor
set_option linter.unusedVariables false
open Go.RowKit

theorem evTo_same {t : Int × List Int} {vs vs' : List Int} (h : ∀ k, vs.getD k 0 = vs'.getD k 0) : ∀ k : Nat, evTo t vs k = evTo t vs' k
  | 0 => rfl
  | k + 1 => by simp only [evTo]; rw [evTo_same h k, h k]

set_option maxRecDepth 100000 in
set_option maxHeartbeats 2000000 in
theorem l04Start_c (b : Nat) (D : Option Addr) (m d : Nat) (xs : List S8) (B : Nat) (s : Int) (w : World) (h : InST w B D m xs) (hB : B ≤ w.heap.size) (p1 : w.cell? ⟨b, 1, none⟩ = some (.slice D m d)) (hm : m ≤ 1048576) :
    Calls Tryd.prog 16 #[.pointer (some ⟨b, 0, none⟩), .int .i64 s] w fun e w' => e = .returned (.bool (decide (-1 ≤ s ∧ s < (loopsU xs m).length))) ∧ Below w.heap.size w w' := by
  have C1 : Calls Tryd.prog 34 #[.pointer (some ⟨b, 0, none⟩)] w fun e w' => ∃ LA Lc, e = .returned (.slice LA (loopsU xs m).length Lc) ∧ Below w.heap.size w w' := by
    refine (l04Loops_c b D m d xs B w h hB p1 hm).mono ?_
    rintro e w1 ⟨v, rfl, hown, hb1⟩
    obtain ⟨A1, c1, rfl, _⟩ := own_slice hown
    exact ⟨A1, c1, rfl, hb1⟩
  have HC := Lib.hid C1
  have HL := loopsU_len xs m
  have HK : Hid (∀ W, Calls Tryd.prog 33 #[.int .i64 s, .int .i64 (-1), .int .i64 (((loopsU xs m).length : Int) - 1)] W fun e w' => e = .returned (.bool (decide (-1 ≤ s ∧ s < (loopsU xs m).length))) ∧ W = w') := fun W => by
    have h1 := l00In_k s (-1) (((loopsU xs m).length : Int) - 1) W
    rw [show decide (-1 ≤ s ∧ s ≤ ((loopsU xs m).length : Int) - 1) = decide (-1 ≤ s ∧ s < (loopsU xs m).length) from by rw [Bool.eq_iff_iff]; simp; omega] at h1
    exact h1
  clear C1 h p1
  generalize decide (-1 ≤ s ∧ s < (loopsU xs m).length) = bb at HK ⊢
  generalize (loopsU xs m) = ls at HC HL HK
  go_enter Tryd.func16, Tryd.ntmps16
  go_wp2_with fail
  refine HC.out.mono ?_
  rintro e w1 ⟨LA, Lc, rfl, hb1⟩
  go_wp2_with fail
  refine (HK.out _).mono ?_
  rintro e w2 ⟨rfl, rfl⟩
  go_wp2_with fail
  go_ret
  exact ⟨rfl, hb1⟩

set_option maxRecDepth 100000 in
set_option maxHeartbeats 4000000 in
theorem l04Facts_c (b : Nat) (A : Option Addr) (n c : Nat) (ts : List (Int × List Int)) (D : Option Addr) (m d : Nat) (xs : List S8) (E : Option Addr) (q e' B : Nat) (us : List (Int × List Int)) (s : Int) (w : World) (h : PIn w B A n ts D m xs E q us) (hB : B ≤ w.heap.size)
    (p0 : w.cell? ⟨b, 0, none⟩ = some (.slice A n c)) (p1 : w.cell? ⟨b, 1, none⟩ = some (.slice D m d)) (hp : progB ts xs us = true) (hs : -1 ≤ s ∧ s < (loopsU xs m).length) :
    Calls Tryd.prog 17 #[.pointer (some ⟨b, 0, none⟩), .int .i64 s] w fun e w' => ∃ v, e = .returned v ∧ FRow w' w.heap.size v (startR ts xs us s).1.length (startR ts xs us s).1 ∧ Below w.heap.size w w' := by
  have hlm : xs.length = m := h.2.1.1
  have hln : ts.length = n := h.1.1
  obtain ⟨hpre, hall, _, h30⟩ := prog_parts hp
  obtain ⟨R, HR⟩ : ∃ R, Hid (startR ts xs us s = R) := ⟨_, rfl⟩
  rw [HR.out]
  by_cases h1 : s < 0
  · have hs1 : s = -1 := by omega
    subst hs1
    have HE : Hid (R = (ts, true)) := HR.out.symm.trans (startR_entry hp)
    obtain rfl := HE.out
    have hpp := overs_parts hpre
    have HEC := Lib.hid (l02OwnAll_c A n c B ts w h.1 hB (by omega) (fun t ht => by have := (hpp.2 t ht).2; omega))
    clear hp HR HE hall hpp h hs
    go_enter Tryd.func17, Tryd.ntmps17
    go_wp2_with fail
    refine HEC.out.mono ?_
    rintro e w2 ⟨v, rfl, hf, hb2⟩
    go_wp2_with fail
    go_ret
    exact ⟨v, rfl, by rw [hln]; exact hf, hb2⟩
  · obtain ⟨k, rfl⟩ := Int.eq_ofNat_of_zero_le (show 0 ≤ s by omega)
    have hkl : k < (loopsU xs xs.length).length := by rw [hlm]; omega
    have HE : Hid (R = (factsAt xs k, true)) := HR.out.symm.trans (startR_loop hp hkl)
    obtain rfl := HE.out
    obtain ⟨i, x, hli, hxi, hfx, hil⟩ := factsAt_is hkl
    rw [hfx]
    have hxf := stmt_facts (hall x (List.mem_of_getElem? hxi))
    have HXF := Lib.hid hxf.2
    have hx6 := hxf.1
    obtain ⟨bb, off, x', rfl, hbb, hx', As, ns, cs, Ai, ni, ci, Af, nf, cf, q0, q1', q2, q3, q4, q5, q6, q7, k1, k2, k3⟩ := h.2.1.at_ (k := i) (by omega)
    obtain rfl : x = x' := by rw [hxi] at hx'; exact Option.some.inj hx'
    have HL := loopsU_len xs m
    have C1 : Calls Tryd.prog 34 #[.pointer (some ⟨b, 0, none⟩)] w.drew fun e w' => ∃ lb lo Lc, e = .returned (.slice (some ⟨lb, lo, none⟩) (loopsU xs m).length Lc) ∧ w'.cell? ⟨lb, lo + k, none⟩ = some (.int .i64 (i : Int)) ∧ Below w.drew.heap.size w.drew w' := by
      refine (l04Loops_c b (some ⟨bb, off, none⟩) m d xs B w.drew h.2.1 hB p1 (by omega)).mono ?_
      rintro e w1 ⟨v, rfl, hown, hb1⟩
      obtain ⟨A1, c1, rfl, _⟩ := own_slice hown
      obtain ⟨lb, lo, y, rfl, hlb, hy, hlc⟩ := (OwnL.of_own hown).all.2.int_at (k := k) (by rw [← hlm]; exact hkl)
      rw [← hlm] at hy
      rw [hli] at hy
      obtain rfl := Option.some.inj hy
      exact ⟨lb, lo, c1, rfl, hlc, hb1⟩
    have HC := Lib.hid C1
    have HEC := Lib.hid (fun (W : World) (hb : Below w.drew.heap.size w.drew W) => l02OwnAll_c Af nf cf B x.f W (InTS.next (show InTS w.drew B Af nf x.f from k3) hb (show B ≤ w.heap.size by omega)) (Nat.le_trans (show B ≤ w.drew.heap.size by show B ≤ w.heap.size; omega) hb.size) (by have := k3.1; omega) (fun t ht => by have := (HXF.out t ht).2; omega))
    have hnf := Lib.hid k3.1
    have hkm : (k : Int) < ((loopsU xs m).length : Int) := by omega
    have him : (i : Int) < (m : Int) := by omega
    have hk0 : ¬ (k : Int) < 0 := by omega
    clear hp HR HE hall hxf hfx hli hx' hxi C1 h q0 q1' q2 q3 q4 q5 q6 k1 k2 k3 hkl
    generalize (loopsU xs m) = ls at HC HL hkm hs
    go_enter Tryd.func17, Tryd.ntmps17
    go_wp2_with fail
    go_region_with (first | (go_at_call 34; refine HC.out.mono ?_; rintro e w2 ⟨lb, lo, Lc, rfl, hlc, hb2⟩; have p1' := cell_on p1 hb2; have q7' := cell_on q7 hb2) | (go_at_call 35; refine (HEC.out _ hb2).mono ?_; rintro e w3 ⟨v, rfl, hf, hb3⟩) | fail)
    all_goals
      go_wp2_with fail
      go_ret
      exact ⟨v, rfl, by rw [hnf.out]; exact ⟨hf.1, by obtain ⟨_, xs', hx, hxx⟩ := hf; exact ⟨xs', own_less hx (bstep hb2).size, hxx⟩⟩, bon (bstep hb2) hb3⟩
end Go.Proofs.YthgegomccbpgeaaDoor
