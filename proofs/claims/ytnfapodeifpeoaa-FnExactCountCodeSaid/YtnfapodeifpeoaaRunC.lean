/-
  The model's RunCode and CountCode. Conditions: at most 2^20 instructions and numbers.
-/
import Derived.Test.YtnfapodeifpeoaaRunS
namespace Go.Proofs.Ytnfapodeifpeoaa
set_option linter.unusedVariables false
open Go.RowKit

theorem l03Fuel_c (n : Int) (w : World) : Calls Try.prog 67 #[.int .i64 n] w fun e w' => e = .returned (.bool (fuelB n)) ∧ w = w' := by
  go_enter Try.func67, Try.ntmps67
  go_wp2_with fail
  refine (l00In_i n 0 2000 w).mono ?_
  rintro e w1 ⟨rfl, rfl⟩
  go_wp2_with fail
  go_ret
  exact ⟨rfl, rfl⟩
theorem runB_parts {cs : List (Int × Int)} {vs zs : List Int} {f : Int} (h : runB cs vs zs f = true) : codeB cs = true ∧ stB vs zs = true ∧ fuelB f = true ∧ CfV vs zs [] 0 ∧ 0 ≤ f ∧ f ≤ 2000 := by
  unfold runB at h
  simp only [Bool.and_eq_true] at h
  obtain ⟨h1, h2, h3⟩ := h
  have h2' := h2
  unfold stB at h2'
  simp only [Bool.and_eq_true] at h2'
  have a := numsB_parts h2'.1
  have d := numsB_parts h2'.2
  have h3' := h3
  unfold fuelB at h3'
  simp at h3'
  exact ⟨h1, h2, h3, ⟨a.1, d.1, Nat.zero_le _, a.2, d.2, (fun x hx => by cases hx), Int.le_refl _, by omega⟩, h3'.1, h3'.2⟩
theorem runN_len {cs : List (Int × Int)} {vs zs : List Int} {f : Int} (h : runB cs vs zs f = true) : (runN cs f.toNat (c0R vs zs)).1.1.length = 4 ∧ (runN cs f.toNat (c0R vs zs)).1.2.1.length = 8 ∧ (runN cs f.toNat (c0R vs zs)).2.1.length ≤ 2000 := by
  obtain ⟨h1, _, _, v, f0, f1⟩ := runB_parts h
  have a := runN_valid h1 f.toNat (c0R vs zs) v
  have b := (runN_places h1 f.toNat (c0R vs zs) v).1
  exact ⟨a.lv, a.lz, by omega⟩
theorem runR_len (cs : List (Int × Int)) (vs zs : List Int) (f : Int) : (runR cs vs zs f).1.1.length ≤ 1000 ∧ (runR cs vs zs f).1.2.length ≤ 1000 ∧ (runR cs vs zs f).2.1.length ≤ 2000 := by
  cases h : runB cs vs zs f with
  | false => rw [runR_no h]; simp
  | true =>
    rw [runR_yes h]
    obtain ⟨a, b, c⟩ := runN_len h
    have d := evR_len cs (runN cs f.toNat (c0R vs zs)).2.1
    refine ⟨?_, ?_, ?_⟩
    · show (runN cs f.toNat (c0R vs zs)).1.1.length ≤ 1000; omega
    · show (runN cs f.toNat (c0R vs zs)).1.2.1.length ≤ 1000; omega
    · show (evR cs (runN cs f.toNat (c0R vs zs)).2.1).length ≤ 2000; omega
theorem cntR_len (cs : List (Int × Int)) (vs zs : List Int) (f : Int) : (cntR cs vs zs f).1.length ≤ 1000 := by
  cases h : runB cs vs zs f with
  | false => rw [cntR_no h]; simp
  | true =>
    rw [cntR_yes h]
    show (countR cs.length _).length ≤ 1000
    rw [countR_len]
    have := (codeB_parts (runB_parts h).1).2.1
    omega

set_option maxRecDepth 100000 in
set_option maxHeartbeats 4000000 in
theorem specCount_c (C : Option Addr) (k cc : Nat) (cs : List (Int × Int)) (A : Option Addr) (n c : Nat) (vs : List Int) (A' : Option Addr) (m c' : Nat) (zs : List Int) (f : Int) (w : World)
    (hc : InC w w.heap.size C k cs) (h0 : InL w w.heap.size A n vs) (h1 : InL w w.heap.size A' m zs) (hk : k ≤ 1048576) (hn : n ≤ 1048576) (hm : m ≤ 1048576) :
    Calls Try.prog 41 #[.slice C k cc, .agg #[.slice A n c, .slice A' m c'], .int .i64 f] w fun e w' => ∃ R d, e = .returned (.tuple #[.slice R (cntR cs vs zs f).1.length d, .bool (cntR cs vs zs f).2]) ∧ OwnL w' w.heap.size w'.heap.size R (cntR cs vs zs f).1.length d (cntR cs vs zs f).1 ∧ Below w.heap.size w w' := by
  have hb0 := bnew w (.cells #[.slice A n c, .slice A' m c'] 42)
  have hP : BlkIs (w.alloc (.cells #[.slice A n c, .slice A' m c'] 42)) w.heap.size 42 #[.slice A n c, .slice A' m c'] := blk_new _ _ _ _ rfl
  have hsz : (w.alloc (.cells #[.slice A n c, .slice A' m c'] 42)).heap.size = w.heap.size + 1 := by simp
  have HC := Lib.hid (hc.next hb0 (Nat.le_refl _))
  have H0 := Lib.hid (h0.next hb0 (Nat.le_refl _))
  have H1 := Lib.hid (h1.next hb0 (Nat.le_refl _))
  have HIS0 := l07Is_c C k cc w.heap.size cs _ HC.out hb0.size hk
  have HFU0 := fun x => l03Fuel_c f x
  obtain ⟨R, HR⟩ : ∃ R, Hid (cntR cs vs zs f = R) := ⟨_, rfl⟩
  rw [HR.out]
  have hkk := hc.1
  clear hc h0 h1
  cases hv : runB cs vs zs f with
  | false =>
    have HN := Lib.hid (HR.out.symm.trans (cntR_no hv))
    cases hcb : codeB cs with
    | false =>
      rw [hcb] at HIS0
      have HIS := Lib.hid HIS0
      clear HIS0 HFU0 hv hcb
      go_enter Try.func41, Try.ntmps41
      go_wp2_with fail
      generalize w.alloc (.cells #[.slice A n c, .slice A' m c'] 42) = W at hb0 hP hsz HIS HC H0 H1 ⊢
      refine HIS.out.mono ?_
      rintro e w1 ⟨rfl, hb1⟩
      have hbf := bon hb0 hb1
      go_wp2_with fail
      go_ret2
      rw [HN.out]
      exact ⟨none, 0, rfl, own_none _ _ _ hbf.size (Nat.le_refl _), hbf⟩
    | true =>
      rw [hcb] at HIS0
      have HIS := Lib.hid HIS0
      obtain ⟨bs, hbs⟩ : ∃ b, Hid (stB vs zs = b) := ⟨_, rfl⟩
      obtain ⟨bf, hbf0⟩ : ∃ b, Hid (fuelB f = b) := ⟨_, rfl⟩
      have hand : (bs && bf) = false := by have h := hv; unfold runB at h; rw [hcb, hbs.out, hbf0.out] at h; simpa using h
      rw [hbf0.out] at HFU0
      have HFU := Lib.hid HFU0
      clear HIS0 HFU0 hv hcb
      go_enter Try.func41, Try.ntmps41
      go_wp2_with fail
      generalize w.alloc (.cells #[.slice A n c, .slice A' m c'] 42) = W at hb0 hP hsz HIS HC H0 H1 ⊢
      refine HIS.out.mono ?_
      rintro e w1 ⟨rfl, hb1⟩
      have hbf := bon hb0 hb1
      have hP1 := hP.next hb1
      have HST0 := l03State_c w.heap.size 0 A n c vs A' m c' zs w.heap.size w1 (hP1.cell 0) (hP1.cell 1) (H0.out.next hb1 (by omega)) (H1.out.next hb1 (by omega)) hn hm
      rw [hbs.out] at HST0
      have HST := Lib.hid HST0
      clear HST0 hP hP1 HIS hb1
      cases bs with
      | false =>
        go_wp2_with fail
        refine HST.out.mono ?_
        rintro e w2 ⟨rfl, rfl⟩
        go_wp2_with fail
        go_ret2
        rw [HN.out]
        exact ⟨none, 0, rfl, own_none _ _ _ hbf.size (Nat.le_refl _), hbf⟩
      | true =>
        obtain rfl : bf = false := by simpa using hand
        go_wp2_with fail
        refine HST.out.mono ?_
        rintro e w2 ⟨rfl, rfl⟩
        go_wp2_with fail
        refine (HFU.out _).mono ?_
        rintro e w2 ⟨rfl, rfl⟩
        go_wp2_with fail
        go_ret2
        rw [HN.out]
        exact ⟨none, 0, rfl, own_none _ _ _ hbf.size (Nat.le_refl _), hbf⟩
  | true =>
    obtain ⟨hcode, hst, hfu, v, hf0, hf1⟩ := runB_parts hv
    have HN := Lib.hid (HR.out.symm.trans (cntR_yes hv))
    obtain rfl : n = 4 := by rw [← H0.out.1]; exact v.lv
    obtain rfl : m = 8 := by rw [← H1.out.1]; exact v.lz
    rw [hcode] at HIS0
    rw [hfu] at HFU0
    have HIS := Lib.hid HIS0
    have HFU := Lib.hid HFU0
    have HV := Lib.hid v
    have HSTB := Lib.hid hst
    have HCODE := Lib.hid hcode
    clear HIS0 HFU0 hv hcode hst hfu v
    go_enter Try.func41, Try.ntmps41
    go_wp2_with fail
    generalize w.alloc (.cells #[.slice A 4 c, .slice A' 8 c'] 42) = W at hb0 hP hsz HIS HC H0 H1 ⊢
    refine HIS.out.mono ?_
    rintro e w1 ⟨rfl, hb1⟩
    have hbf := bon hb0 hb1
    have hs1 := hb1.size
    have hP1 := hP.next hb1
    have HST0 := l03State_c w.heap.size 0 A 4 c vs A' 8 c' zs w.heap.size w1 (hP1.cell 0) (hP1.cell 1) (H0.out.next hb1 (by omega)) (H1.out.next hb1 (by omega)) hn hm
    rw [HSTB.out] at HST0
    have HST := Lib.hid HST0
    have HRU := Lib.hid (l07Run_c C k cc cs w.heap.size A c vs A' c' zs f w.heap.size w1 (hP1.cell 0) (hP1.cell 1) (H0.out.next hb1 (by omega)) (H1.out.next hb1 (by omega)) (HC.out.next hb1 (by omega)) (by omega) HCODE.out HV.out hf0 hf1)
    clear HST0 hP hP1 HIS hb1 HC H0 H1
    go_wp2_with fail
    refine HST.out.mono ?_
    rintro e w2 ⟨rfl, rfl⟩
    go_wp2_with fail
    refine (HFU.out _).mono ?_
    rintro e w2 ⟨rfl, rfl⟩
    go_wp2_with fail
    refine HRU.out.mono ?_
    rintro e w3 ⟨X, cx, X', cx', E, ce, K, ck, rfl, o1, o2, o3, o4, hb3⟩
    have HO4 := Lib.hid o4
    have hs3 := hb3.size
    clear o1 o2 o3 o4 HRU HST HFU
    go_wp2_with fail
    go_ret2
    have hbA := bnew w3 (.cells #[.slice X 4 cx, .slice X' 8 cx'] 42)
    have g4 := HO4.out.next hbA
    have hsA := hbA.size
    rw [HN.out]
    refine ⟨K, ck, by show _ = Ending.returned (.tuple #[.slice K (countR cs.length (runN cs f.toNat (c0R vs zs)).2.1).length ck, .bool true]); rw [countR_len, hkk]; rfl, ?_, bon (bon hbf hb3) hbA⟩
    show OwnL _ _ _ K (countR cs.length (runN cs f.toNat (c0R vs zs)).2.1).length ck (countR cs.length (runN cs f.toNat (c0R vs zs)).2.1)
    rw [countR_len, hkk]
    exact (g4.less (by omega)).wide (by omega) (Nat.le_refl _)
end Go.Proofs.Ytnfapodeifpeoaa
