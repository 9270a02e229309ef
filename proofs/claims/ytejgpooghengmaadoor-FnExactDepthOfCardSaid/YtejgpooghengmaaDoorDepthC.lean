/-
  The greatest depth: the model's DepthOf and the program's. Conditions: at most 2^20 nodes, and as many coefficients and multipliers.
-/
import Derived.Test.YtejgpooghengmaaDoorDepth
namespace Go.Proofs.YtejgpooghengmaaDoor
set_option linter.unusedVariables false
open Go.RowKit Go.Shelf Go.Deep

def dpt (xs : List N5) : Nat → Nat
  | 0 => 0
  | q + 1 => max (dpt xs q) (levN xs q)
theorem dpt_all (xs : List N5) : ∀ q k, k < q → levN xs k ≤ dpt xs q
  | 0, k, h => by omega
  | q + 1, k, h => by
    unfold dpt
    rcases Nat.lt_succ_iff_lt_or_eq.1 h with h | rfl
    · have := dpt_all xs q k h; omega
    · omega
theorem dpt_one (xs : List N5) : ∀ q, 0 < q → ∃ k, k < q ∧ levN xs k = dpt xs q
  | 0, h => by omega
  | 1, _ => ⟨0, by omega, by simp [dpt]⟩
  | q + 2, _ => by
    obtain ⟨k, h1, h2⟩ := dpt_one xs (q + 1) (by omega)
    show ∃ k, k < q + 2 ∧ levN xs k = max (dpt xs (q + 1)) (levN xs (q + 1))
    by_cases h : dpt xs (q + 1) ≤ levN xs (q + 1)
    · exact ⟨q + 1, by omega, by omega⟩
    · exact ⟨k, by omega, by omega⟩
theorem dpt_le (xs : List N5) : ∀ q, dpt xs q ≤ q
  | 0 => Nat.le_refl _
  | q + 1 => by
    have := dpt_le xs q
    have := levN_le xs (q + 1) q (by omega)
    unfold dpt
    omega
/-- The depth of a proof, and whether it is one. -/
def depR (xs : List N5) : Int × Bool := if proofB xs = true then (((dpt xs xs.length : Nat) : Int), true) else (0, false)
theorem depR_no {xs : List N5} (h : proofB xs = false) : depR xs = (0, false) := if_neg (by rw [h]; simp)
theorem depR_yes {xs : List N5} (h : proofB xs = true) : depR xs = (((dpt xs xs.length : Nat) : Int), true) := if_pos h
def pI : Option Nat → Int
  | none => -1
  | some i => i
def pB (k : Nat) : Option Nat → Bool
  | none => false
  | some i => ((i : Int) + 1 == (k : Int))

theorem l00Max_d (a b : Nat) (w : World) : Calls Tryd.prog 57 #[.int .i64 (a : Int), .int .i64 (b : Int)] w fun e w' => e = .returned (.int .i64 ((max a b : Nat) : Int)) ∧ w = w' := by
  by_cases h : (b : Int) < (a : Int)
  · have e : max a b = a := by omega
    rw [e]
    go_enter Tryd.func57, Tryd.ntmps57
    go_wp2_with fail
    go_ret
    exact ⟨rfl, rfl⟩
  · have e : max a b = b := by omega
    rw [e]
    go_enter Tryd.func57, Tryd.ntmps57
    go_wp2_with fail
    go_ret
    exact ⟨rfl, rfl⟩

set_option maxRecDepth 100000 in
set_option maxHeartbeats 4000000 in
theorem l05Parent_c (A : Option Addr) (n c B : Nat) (xs : List N5) (k : Nat) (w : World) (h : InN5 w B A n xs) (hp : proofB xs = true) (hk : k < n) :
    Calls Tryd.prog 56 #[.slice A n c, .int .i64 (k : Int)] w fun e w' => e = .returned (.tuple #[.int .i64 (pI (parB xs k k)), .bool (pB k (parB xs k k))]) ∧ w = w' := by
  have hlen := Lib.hid h.1
  have HP := Lib.hid hp
  have h60 := (proofB_parts hp).2.1
  rw [h.1] at h60
  clear hp
  go_enter Tryd.func56, Tryd.ntmps56
  go_wp2_with fail
  go_loop [6] (fun i => ∃ m : Nat, m ≤ k ∧ i = .int .i64 ((m : Int) - 1) ∧ Hid (parB xs k m = parB xs k k)) (fun i => (intOf i + 1).toNat)
  case atStart => exact ⟨k, Nat.le_refl _, rfl, rfl⟩
  case round =>
    obtain ⟨m, hm, rfl, HM⟩ := hrel
    match m, hm, HM with
    | 0, hm, HM =>
      have e0 : ((0 : Nat) : Int) - 1 = -1 := rfl
      rw [e0]
      go_wp2_with fail
      go_ret2
      rw [← HM.out]
      exact ⟨rfl, rfl⟩
    | m + 1, hm, HM =>
      have e1 : ((m + 1 : Nat) : Int) - 1 = (m : Int) := by omega
      rw [e1]
      obtain ⟨b, off, x, rfl, hb, hx, A0, n0, c0, A1, n1, c1, q0, q1, q2, q3, q4, k0, k1⟩ := h.at_ (k := m) (by omega)
      have hg : Hid ((xs.getD m default).k = x.k) := by show _ = _; rw [List.getD_eq_getElem?_getD, hx]; rfl
      have hE := endOf_is (k := m) HP.out (by have := hlen.out; omega)
      have HE0 := l05End_c (some ⟨b, off, none⟩) n c B xs m w h (by omega) (by omega)
      rw [hE.1] at HE0
      have HE := Lib.hid HE0
      clear HE0 hE q1 q2 q3 q4 k0 k1 hx
      obtain ⟨E, hEE⟩ : ∃ E, Hid (endOf xs m = E) := ⟨_, rfl⟩
      rw [hEE.out] at HE
      by_cases hk1 : x.k = 1
      · have ho : Hid (parB xs k m = parB xs k k) := by
          show _ = _
          rw [← HM.out, parB, if_neg]
          unfold openB
          rw [decide_eq_false (fun a => a.1 (hg.out.trans hk1))]; simp
        rw [hk1] at q0
        go_wp2_with fail
        go_round
        case rel => exact ⟨m, by omega, (by first | rfl | go_num), ho⟩
        case measure => simp [intOf] <;> omega
      · by_cases hEk : (E : Int) ≤ (k : Int)
        · have ho : Hid (parB xs k m = parB xs k k) := by
            show _ = _
            rw [← HM.out, parB, if_neg]
            unfold openB
            rw [decide_eq_false (fun a => by have := a.2; rw [hEE.out] at this; omega)]; simp
          go_wp2_with fail
          refine HE.out.mono ?_
          rintro e w1 ⟨rfl, rfl⟩
          go_wp2_with fail
          go_round
          case rel => exact ⟨m, by omega, (by first | rfl | go_num), ho⟩
          case measure => simp [intOf] <;> omega
        · have ho : Hid (parB xs k k = some m) := by
            show _ = _
            rw [← HM.out, parB, if_pos]
            unfold openB
            exact decide_eq_true ⟨fun a => hk1 (hg.out.symm.trans a), by rw [hEE.out]; omega⟩
          have hEk3 : ¬ E ≤ k := by omega
          have g1 : (x.k == 1) = false := by simp [hk1]
          clear hEk
          go_wp2_with fail
          refine HE.out.mono ?_
          rintro e w1 ⟨rfl, rfl⟩
          go_wp2_with fail
          go_ret2
          rw [ho.out]
          exact ⟨rfl, rfl⟩

set_option maxRecDepth 100000 in
set_option maxHeartbeats 4000000 in
theorem specDepth_c (A : Option Addr) (n c B : Nat) (xs : List N5) (w : World) (h : InN5 w B A n xs) (hn : n ≤ 1048576) (he : totN5 xs ≤ 1048576) :
    Calls Tryd.prog 19 #[.slice A n c] w fun e w' => e = .returned (.tuple #[.int .i64 (depR xs).1, .bool (depR xs).2]) ∧ Below w.heap.size w w' := by
  have hlen := h.1
  have HI := Lib.hid (l05Is_c A n c B xs w h hn he)
  cases hp : proofB xs with
  | false =>
    have HR := Lib.hid (depR_no hp)
    rw [hp] at HI
    clear h hp
    go_enter Tryd.func19, Tryd.ntmps19
    go_wp2_with fail
    refine HI.out.mono ?_
    rintro e w1 ⟨rfl, rfl⟩
    go_wp2_with fail
    go_ret2
    rw [HR.out]
    exact ⟨rfl, Below.refl _ _⟩
  | true =>
    have HR := Lib.hid (depR_yes hp)
    rw [hlen] at HR
    have HP := Lib.hid (fun k (hk : k < n) => l05Parent_c A n c B xs k w h hp hk)
    have h60 := (proofB_parts hp).2.1
    rw [hlen] at h60
    rw [hp] at HI
    clear h hp
    go_enter Tryd.func19, Tryd.ntmps19
    go_wp2_with fail
    refine HI.out.mono ?_
    rintro e w1 ⟨rfl, rfl⟩
    clear HI
    go_wp2_with fail
    go_loop [4, 5, 6, 7] (fun m k _ _ => ∃ q : Nat, q ≤ n ∧ k = .int .i64 q ∧ m = .int .i64 (dpt xs q : Nat)) (fun _ k _ _ => n - (intOf k).toNat)
    case atStart => exact ⟨0, Nat.zero_le _, rfl, rfl⟩
    case round =>
      obtain ⟨q, hq, rfl, rfl⟩ := hrel
      by_cases hlt : q < n
      · have HD := Lib.hid (show dpt xs (q + 1) = max (dpt xs q) (levN xs q) from rfl)
        have HDL := Lib.hid (dpt_le xs q)
        generalize dpt xs q = M at HD HDL ⊢
        have hM : M ≤ q := HDL.out
        go_wp2_with fail
        go_loop [6, 7] (fun d a => ∃ D : Nat, D ≤ 61 ∧ d = .int .i64 (D : Int) ∧ ((∃ j : Nat, j ≤ q ∧ a = .int .i64 (j : Int) ∧ Hid (D + levN xs j = levN xs q)) ∨ (a = .int .i64 (-1) ∧ Hid (D = levN xs q)))) (fun _ a => (intOf a + 1).toNat)
        case atStart => exact ⟨0, by omega, rfl, .inl ⟨q, Nat.le_refl _, rfl, by show _ = _; omega⟩⟩
        case round =>
          obtain ⟨D, hD, rfl, ⟨j, hj, rfl, HJ⟩ | ⟨rfl, HJ⟩⟩ := hrel
          · have HPJ := Lib.hid (HP.out j (by omega))
            have HL := Lib.hid (levN_le xs (q + 1) q (by omega))
            cases hpar : parB xs j j with
            | none =>
              have HN := Lib.hid (levN_none hpar)
              rw [hpar] at HPJ
              have hD2 : D + 1 ≤ 61 := by have := HJ.out; have := HN.out; have := HL.out; omega
              clear hpar
              go_wp2_with fail
              refine HPJ.out.mono ?_
              rintro e w1 ⟨rfl, rfl⟩
              clear HPJ
              unfold pI pB
              go_wp2_with fail
              go_round
              case rel => exact ⟨D + 1, hD2, by go_num, .inr ⟨rfl, by show _ = _; have := HJ.out; have := HN.out; omega⟩⟩
              case measure => simp [intOf] <;> omega
            | some i =>
              have HN := Lib.hid (levN_some hpar)
              have hil := parB_lt hpar
              rw [hpar] at HPJ
              have hD2 : D + 1 ≤ 61 := by have := HJ.out; have := HN.out; have := HL.out; omega
              clear hpar
              go_wp2_with fail
              refine HPJ.out.mono ?_
              rintro e w1 ⟨rfl, rfl⟩
              clear HPJ
              unfold pI pB
              go_wp2_with fail
              go_round
              case rel => exact ⟨D + 1, hD2, by go_num, .inl ⟨i, by omega, rfl, by show _ = _; have := HJ.out; have := HN.out; omega⟩⟩
              case measure => simp [intOf] <;> omega
          · have HMX := Lib.hid (l00Max_d M D w)
            go_wp2_with fail
            refine HMX.out.mono ?_
            rintro e w1 ⟨rfl, rfl⟩
            clear HMX
            go_wp2_with fail
            go_round
            case rel => exact ⟨q + 1, by omega, by go_num, by rw [HD.out, HJ.out]⟩
            case measure => simp [intOf] <;> omega
      · have e : q = n := by omega
        subst e
        go_wp2_with fail
        go_ret2
        rw [HR.out]
        exact ⟨rfl, Below.refl _ _⟩

theorem kids_in {xs : List N5} {i j c : Nat} (hp : proofB xs = true) (hi : i < xs.length) (h : (kids xs i)[j]? = some c) : i < c ∧ c < xs.length := by
  rcases kid_facts hp hi with ⟨hk, e⟩ | ⟨h1, hk, hn, e⟩ | ⟨h1, hk, hn, hn2, e⟩
  · rw [hk] at h; simp at h
  · rw [hk] at h
    match j, h with
    | 0, h => obtain rfl : i + 1 = c := by simpa using h
              exact ⟨by omega, hn⟩
    | j + 1, h => simp at h
  · have hE := endOf_is hp hn
    rw [hk] at h
    match j, h with
    | 0, h => obtain rfl : i + 1 = c := by simpa using h
              exact ⟨by omega, hn⟩
    | 1, h => obtain rfl : endOf xs (i + 1) = c := by simpa using h
              exact ⟨by omega, hn2⟩
    | j + 2, h => simp at h
theorem kids_len {xs : List N5} {i : Nat} (hp : proofB xs = true) (hi : i < xs.length) : (kids xs i).length ≤ 2 := by
  rcases kid_facts hp hi with ⟨hk, e⟩ | ⟨h1, hk, hn, e⟩ | ⟨h1, hk, hn, hn2, e⟩ <;> rw [hk] <;> simp
/-- Depths of so many parts. -/
def VsR (xs : List N5) (i q : Nat) (m : Nat) : Prop := ∃ vs : List Nat, vs.length = q ∧ vs.foldl max 0 = m ∧ m ≤ 61 ∧ ∀ (j : Nat) (c : Nat) (v : Nat), (kids xs i)[j]? = some c → vs[j]? = some v → DepR xs c v
theorem VsR.step {xs : List N5} {i q m c v : Nat} (h : VsR xs i q m) (hc : (kids xs i)[q]? = some c) (hv : DepR xs c v) (hs : v ≤ 61) : VsR xs i (q + 1) (max m v) := by
  obtain ⟨vs, h1, h2, h3, h4⟩ := h
  refine ⟨vs ++ [v], by simp [h1], by rw [List.foldl_append, h2]; rfl, by omega, fun j c' v' hj hv' => ?_⟩
  by_cases e : j < q
  · rw [List.getElem?_append_left (by omega)] at hv'
    exact h4 j c' v' hj hv'
  · have hl := (List.getElem?_eq_some_iff.1 hv').1
    have e2 : j = q := by simp at hl; omega
    subst e2
    rw [List.getElem?_append_right (by omega), h1, Nat.sub_self] at hv'
    obtain rfl : v = v' := by simpa using hv'
    rw [hc] at hj
    obtain rfl := Option.some.inj hj
    exact hv

set_option maxRecDepth 100000 in
set_option maxHeartbeats 4000000 in
theorem depth_c {w : World} {lo n ga : Nat} {xs : List N5} {g : Nat → NV} {blk : Nat → Nat} {pvs : Nat → Value} (hT : TreesAt w lo n xs ga g blk pvs) (hl : xs.length = n) (hp : proofB xs = true) : ∀ d i, n ≤ d + i → i < n →
    Calls Tryd.prog 58 #[.pointer (some ⟨blk i, 0, none⟩)] w fun e w' => (∃ v : Nat, e = .returned (.int .i64 (v : Int)) ∧ DepR xs i v) ∧ w = w'
  | 0, i, hd, hi => by omega
  | d + 1, i, hd, hi => by
    have IH := Lib.hid (depth_c hT hl hp d)
    obtain ⟨_, hblk, hrow⟩ := hT.2 i hi
    have h2 := kids_len hp (i := i) (by omega)
    have HK := Lib.hid (fun j c (h : (kids xs i)[j]? = some c) => kids_in hp (i := i) (by omega) h)
    have HST := Lib.hid (fun vs a b => dep_step (vs := vs) hp (i := i) (by omega) a b)
    have HSM := Lib.hid (fun c v (h : c < xs.length) (a : DepR xs c v) => a.small hp h)
    have d7 : w.cell? ⟨blk i, 7, none⟩ = some (pvs i) := hblk.cell 7
    obtain ⟨KL, hKL⟩ : ∃ KL, (kids xs i).length = KL := ⟨_, rfl⟩
    rw [hKL] at hrow h2
    have HKL := Lib.hid hKL
    obtain ⟨A, cp, hpv, hat⟩ : ∃ A cp, pvs i = .slice A KL cp ∧ ∀ q, q < KL → ∃ gb c, A = some ⟨gb, 0, none⟩ ∧ (kids xs i)[q]? = some c ∧ w.cell? ⟨gb, q, none⟩ = some (.pointer (some ⟨blk c, 0, none⟩)) := by
      obtain ⟨A, cp, e, _⟩ := own_slice hrow
      refine ⟨A, cp, e, fun q hq => ?_⟩
      obtain ⟨gb, cap, e', hg1, hg2⟩ := hrow.form (by omega)
      rw [e] at e'
      injection e' with e1 _ _
      subst e1
      obtain ⟨c, hc⟩ : ∃ c, (kids xs i)[q]? = some c := ⟨_, List.getElem?_eq_getElem (by omega)⟩
      rw [e] at hrow
      have hcell := hrow.cellAt q (by omega)
      rw [List.getElem?_map, hc] at hcell
      exact ⟨gb, c, rfl, hc, hcell⟩
    rw [hpv] at d7
    have HAT := Lib.hid hat
    clear hblk hrow hpv hat hT hKL
    go_enter Tryd.func58, Tryd.ntmps58
    go_wp2_with fail
    go_loop [3, 5, 11] (fun acc _ j => ∃ q m : Nat, q ≤ KL ∧ j = .int .i64 (q : Int) ∧ acc = .int .i64 (m : Int) ∧ m ≤ 61 ∧ Hid (VsR xs i q m)) (fun _ _ j => KL - (intOf j).toNat)
    case atStart => exact ⟨0, 0, Nat.zero_le _, rfl, rfl, by omega, ⟨[], rfl, rfl, by omega, fun j c v _ h => by simp at h⟩⟩
    case round =>
      obtain ⟨q, m, hq, rfl, rfl, hm, HV⟩ := hrel
      by_cases hlt : q < KL
      · obtain ⟨gb, c, rfl, hc, hcell⟩ := HAT.out q hlt
        have hcc := HK.out q c hc
        have HC := Lib.hid (IH.out c (by omega) (by omega))
        have HCC := Lib.hid hc
        clear hc
        go_wp2_with fail
        refine HC.out.mono ?_
        rintro e w1 ⟨⟨v, rfl, hv⟩, rfl⟩
        have hvs := HSM.out c v hcc.2 hv
        have HN := Lib.hid (HV.out.step HCC.out hv hvs.1)
        clear hv HC
        go_wp2_with fail
        go_round
        case rel => exact ⟨q + 1, max m v, by omega, by go_num, (by first | rfl | (simp; omega)), by omega, HN⟩
        case measure => simp [intOf] <;> omega
      · have e : q = KL := by omega
        subst e
        obtain ⟨vs, h1, h3, h4, h5⟩ := HV.out
        have HD := Lib.hid (HST.out vs (by rw [h1, HKL.out]) h5)
        rw [h3] at HD
        clear h1 h3 h4 h5
        go_wp2_with fail
        go_ret
        exact ⟨⟨m + 1, rfl, HD.out⟩, rfl⟩

set_option maxRecDepth 100000 in
set_option maxHeartbeats 4000000 in
theorem implDepth_c (A : Option Addr) (n c B : Nat) (xs : List N5) (w : World) (hT : TabN w) (h : InN5 w B A n xs) (hB : B ≤ w.heap.size) (hn : n ≤ 1048576) (he : totN5 xs ≤ 1048576) :
    Calls Tryd.prog 20 #[.slice A n c] w fun e w' => e = .returned (.tuple #[.int .i64 (depR xs).1, .bool (depR xs).2]) ∧ Below w.heap.size w w' := by
  have hlen := h.1
  have HI := Lib.hid (subs_c A n c B xs w hT h hB hn he)
  cases hp : proofB xs with
  | false =>
    have HR := Lib.hid (depR_no hp)
    clear h
    go_enter Tryd.func20, Tryd.ntmps20
    go_wp2_with fail
    refine HI.out.mono ?_
    rintro e w1 ⟨v, rfl, hb1, _⟩
    rw [hp]
    clear HI
    go_wp2_with fail
    go_ret2
    rw [HR.out]
    exact ⟨rfl, hb1⟩
  | true =>
    have HR := Lib.hid (depR_yes hp)
    rw [hlen] at HR
    have h1 := (proofB_parts hp).1
    clear h
    go_enter Tryd.func20, Tryd.ntmps20
    go_wp2_with fail
    refine HI.out.mono ?_
    rintro e w1 ⟨v, rfl, hb1, hy⟩
    obtain ⟨ga, g, blk, pvs, rfl, hga, hx, hTR⟩ := hy hp
    have HD := Lib.hid (depth_c hTR hlen hp n 0 (by omega) (by omega))
    have d0 : w1.cell? ⟨ga, 0, none⟩ = some (.pointer (some ⟨blk 0, 0, none⟩)) := hTR.1 0 (by omega)
    have HW := Lib.hid (fun v (a : DepR xs 0 v) => dep_whole hp a (m := dpt xs xs.length) (fun k hk => dpt_all xs _ k hk) (dpt_one xs _ h1))
    rw [hp]
    clear HI hy hp hx hTR
    have hn0 : 0 < n := by omega
    go_wp2_with fail
    refine HD.out.mono ?_
    rintro e w2 ⟨⟨v, rfl, hv⟩, rfl⟩
    have hvw := HW.out v hv
    rw [hlen] at hvw
    clear HD hv
    go_wp2_with fail
    go_ret2
    rw [HR.out, ← hvw]
    exact ⟨rfl, hb1⟩
end Go.Proofs.YtejgpooghengmaaDoor
