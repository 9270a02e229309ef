/-
  Several texts in one: PolR, PolW, IsSam, StrS, DifL, DifF. Conditions: as each says.
-/
import Derived.Test.YtpdgnmdjneakgaaPolS
import Derived.Test.YtpdgnmdjneakgaaMinC
import Derived.Test.YtpdgnmdjneakgaaFindA
import Derived.Test.YtpdgnmdjneakgaaBothA
import Derived.Test.YtpdgnmdjneakgaaDiffA
import Derived.Test.YtpdgnmdjneakgaaPolP

/-! A run of a policy: the model's and the program's. Conditions: at most 2^20 rows and numbers. -/
namespace Go.Proofs.Ytpdgnmdjneakgaa
set_option linter.unusedVariables false
open Go.RowKit

/-- What is known behind j events. -/
def RunJ (xs : List (List Int)) (s : Nat) (zs : List Int) (j q : Nat) : Prop := q < xs.length ∧ runL xs s zs = ((runL xs q (zs.drop j)).1 + j, (runL xs q (zs.drop j)).2)
theorem RunJ.init {xs : List (List Int)} {s : Nat} {zs : List Int} (h : s < xs.length) : RunJ xs s zs 0 s := ⟨h, by simp⟩
theorem RunJ.stop {xs : List (List Int)} {s : Nat} {zs : List Int} {j q : Nat} {e : Int} (h : RunJ xs s zs j q) (hz : zs[j]? = some e) (hn : nxP xs q e.toNat < 0) : runL xs s zs = (j, q) := by
  have hl := (List.getElem?_eq_some_iff.1 hz).1
  have hd : zs.drop j = e :: zs.drop (j + 1) := by
    rw [List.drop_eq_getElem_cons hl]; congr 1
    rw [List.getElem?_eq_getElem hl] at hz; exact Option.some.inj hz
  rw [h.2, hd, runL_no hn]
  simp
theorem RunJ.next {xs : List (List Int)} (ok : PolOk xs) {s : Nat} {zs : List Int} {j q : Nat} {e : Int} (h : RunJ xs s zs j q) (hz : zs[j]? = some e) (he : 0 ≤ e ∧ e ≤ 3) (hn : ¬ nxP xs q e.toNat < 0) : RunJ xs s zs (j + 1) (nxP xs q e.toNat).toNat := by
  have hl := (List.getElem?_eq_some_iff.1 hz).1
  obtain ⟨_, _, _, _, _, h2⟩ := ok.at_ h.1 (e := e.toNat) (by omega)
  have hd : zs.drop j = e :: zs.drop (j + 1) := by
    rw [List.drop_eq_getElem_cons hl]; congr 1
    rw [List.getElem?_eq_getElem hl] at hz; exact Option.some.inj hz
  refine ⟨by omega, ?_⟩
  rw [h.2, hd, runL_yes hn]
  show (_, _) = (_, _)
  congr 1
  omega
theorem RunJ.done {xs : List (List Int)} {s : Nat} {zs : List Int} {j q : Nat} (h : RunJ xs s zs j q) (hj : zs.length ≤ j) (hj2 : j ≤ zs.length) : runL xs s zs = (zs.length, q) := by
  rw [h.2, List.drop_of_length_le hj]
  show ((0 + j, q) : Nat × Nat) = _
  rw [show 0 + j = zs.length by omega]

set_option maxRecDepth 100000 in
set_option maxHeartbeats 4000000 in
theorem polRun_c (A : Option Addr) (n c B : Nat) (xs : List (List Int)) (s : Nat) (E : Option Addr) (m ce : Nat) (zs : List Int) (w : World) (h : InLL w B A n xs) (hE : InL w B E m zs) (hB : B ≤ w.heap.size) (ok : PolOk xs) (hs : s < n) (he : ∀ e ∈ zs, 0 ≤ e ∧ e ≤ 3) (hm : m ≤ 1048576) :
    Calls Try.prog 22 #[.agg #[.slice A n c], .int .i64 (s : Int), .slice E m ce] w fun v w' => v = .returned (.tuple #[.int .i64 ((runL xs s zs).1 : Int), .int .i64 ((runL xs s zs).2 : Int)]) ∧ Below w.heap.size w w' := by
  have hb0 := bnew w (.cells #[.slice A n c] 26)
  have hlen := Lib.hid h.1
  have hml := Lib.hid hE.1
  have HE := Lib.hid he
  have HX := Lib.hid (h.next hb0 hB)
  have HZ := Lib.hid (hE.next hb0 hB)
  have HOK := Lib.hid ok
  have hB0 : B ≤ (w.alloc (.cells #[.slice A n c] 26)).heap.size := Nat.le_trans hB hb0.size
  have p0 : (w.alloc (.cells #[.slice A n c] 26)).cell? ⟨w.heap.size, 0, none⟩ = some (.slice A n c) := by simp
  have hR0 : Hid (RunJ xs s zs 0 s) := RunJ.init (by rw [h.1]; exact hs)
  clear he h hE ok
  go_enter Try.func22, Try.ntmps22
  go_wp2_with fail
  generalize w.alloc (.cells #[.slice A n c] 26) = W at hb0 HX HZ hB0 p0 ⊢
  go_loopw [1, 8, 9, 10, 11, 14] (fun st _ _ _ _ i wr => ∃ (j q : Nat), j ≤ m ∧ st = .int .i64 q ∧ i = .int .i64 j ∧ Below W.heap.size W wr ∧ Hid (RunJ xs s zs j q)) (fun _ _ _ _ _ i _ => m - (intOf i).toNat)
  case atStart => exact ⟨0, s, Nat.zero_le _, rfl, rfl, Below.refl _ _, hR0⟩
  case round =>
    clear hR0
    obtain ⟨j, q, hj, rfl, rfl, hbel, hR⟩ := hrel
    have hqn : q < n := by have := hR.out.1; have := hlen.out; omega
    have hsz := hbel.size
    replace p0 := cell_next p0 hbel
    by_cases hlt : j < m
    · have HZr := HZ.out.next hbel hB0
      have HXr := HX.out.next hbel hB0
      obtain ⟨b3, off3, z, rfl, hb3, hz, hcz⟩ := HZr.2.int_at (k := j) (by have := hml.out; omega)
      have hez := HE.out z (List.mem_of_getElem? hz)
      obtain ⟨e, rfl⟩ : ∃ e : Nat, z = e := ⟨z.toNat, by omega⟩
      have he4 : e < 4 := by omega
      have i1 : (j : Int) < (m : Int) := by omega
      have HST0 := polStep_c A n c B xs q e wr HXr (by omega) HOK.out hqn he4
      by_cases hq : nxP xs q e < 0
      · have HN := Lib.hid (hR.out.stop hz (by rw [Int.toNat_natCast]; exact hq))
        rw [stR_no hq] at HST0
        have HST := Lib.hid HST0
        clear hz hez hR HST0 HXr HZr hq
        go_wp2_with fail
        refine HST.out.mono ?_
        rintro v w2 ⟨rfl, hb2⟩
        go_wp2_with fail
        go_ret2
        exact ⟨by rw [HN.out]; rfl, bon (bon hb0 hbel) hb2⟩
      · have HN := Lib.hid (hR.out.next HOK.out hz hez (by rw [Int.toNat_natCast]; exact hq))
        have hN2 := HN.out
        rw [Int.toNat_natCast] at hN2
        rw [stR_yes hq] at HST0
        obtain ⟨y, hy⟩ : ∃ y : Nat, nxP xs q e = y := ⟨(nxP xs q e).toNat, by omega⟩
        rw [hy, Int.toNat_natCast] at hN2
        rw [hy] at HST0
        have HN3 := Lib.hid hN2
        have HST := Lib.hid HST0
        clear hz hez hR HN hN2 hy HST0 HXr HZr hq
        go_wp2_with fail
        refine HST.out.mono ?_
        rintro v w2 ⟨rfl, hb2⟩
        go_wp2_with fail
        go_roundw
        case rel => exact ⟨j + 1, y, by omega, rfl, by go_num, bon hbel hb2, HN3⟩
        case measure => simp [intOf]; omega
    · have HN := Lib.hid (hR.out.done (by have := hml.out; omega) (by have := hml.out; omega))
      have hjm : m = zs.length := by have := hml.out; omega
      subst hjm
      clear hR
      go_wp2_with fail
      go_ret2
      exact ⟨by rw [HN.out]; rfl, bon hb0 hbel⟩
end Go.Proofs.Ytpdgnmdjneakgaa

/-! RunPolicy: the model's and the program's. Conditions: at most 2^20 rows and numbers. -/
namespace Go.Proofs.Ytpdgnmdjneakgaa
set_option linter.unusedVariables false
open Go.RowKit

/-- A word. -/
def wordB (zs : List Int) : Bool := btw 0 3 zs && decide (zs.length ≤ 40)
theorem wordB_btw {zs : List Int} (h : btw 0 3 zs = false) : wordB zs = false := by unfold wordB; rw [h]; rfl
theorem wordB_is {zs : List Int} (h : btw 0 3 zs = true) : wordB zs = decide (zs.length ≤ 40) := by unfold wordB; rw [h]; rfl
theorem wordB_len {zs : List Int} (h : ¬ zs.length ≤ 40) : wordB zs = false := by unfold wordB; rw [decide_eq_false h]; simp
theorem wordB_in {zs : List Int} (h : wordB zs = true) : zs.length ≤ 40 ∧ ∀ e ∈ zs, 0 ≤ e ∧ e ≤ 3 := by
  unfold wordB at h
  simp only [Bool.and_eq_true, decide_eq_true_eq] at h
  exact ⟨h.2, btw_in h.1⟩
/-- RunPolicy's answer. -/
def runPR (xs : List (List Int)) (zs : List Int) : Int × Int × Bool := if polB xs = true ∧ wordB zs = true then (((runL xs 0 zs).1 : Int), ((runL xs 0 zs).2 : Int), true) else (0, 0, false)
theorem runPR_pol {xs : List (List Int)} {zs : List Int} (h : polB xs = false) : runPR xs zs = (0, 0, false) := if_neg (fun k => by rw [h] at k; cases k.1)
theorem runPR_word {xs : List (List Int)} {zs : List Int} (h : wordB zs = false) : runPR xs zs = (0, 0, false) := if_neg (fun k => by rw [h] at k; cases k.2)
theorem runPR_is {xs : List (List Int)} {zs : List Int} (h : polB xs = true) (h1 : wordB zs = true) : runPR xs zs = (((runL xs 0 zs).1 : Int), ((runL xs 0 zs).2 : Int), true) := if_pos ⟨h, h1⟩

set_option maxRecDepth 100000 in
set_option maxHeartbeats 4000000 in
theorem implRunP_c (A : Option Addr) (n c B : Nat) (xs : List (List Int)) (E : Option Addr) (m ce : Nat) (zs : List Int) (w : World) (h : InLL w B A n xs) (hE : InL w B E m zs) (hB : B ≤ w.heap.size) (hn : n ≤ 1048576) (hea : ∀ x ∈ xs, x.length ≤ 1048576) (hm : m ≤ 1048576) :
    Calls Try.prog 8 #[.agg #[.slice A n c], .slice E m ce] w fun v w' => v = .returned (.tuple #[.int .i64 (runPR xs zs).1, .int .i64 (runPR xs zs).2.1, .bool (runPR xs zs).2.2]) ∧ Below w.heap.size w w' := by
  have hb0 := bnew w (.cells #[.slice A n c] 26)
  have hlen := Lib.hid h.1
  have hml := Lib.hid hE.1
  have p0 : (w.alloc (.cells #[.slice A n c] 26)).cell? ⟨w.heap.size, 0, none⟩ = some (.slice A n c) := by simp
  have HX := Lib.hid (h.next hb0 hB)
  have HZ := Lib.hid (hE.next hb0 hB)
  have hB0 : B ≤ (w.alloc (.cells #[.slice A n c] 26)).heap.size := Nat.le_trans hB hb0.size
  have HS0 := implPolicy_c A n c B xs (w.alloc (.cells #[.slice A n c] 26)) HX.out hB0 hn hea
  clear h hE
  cases hv : polB xs with
  | false =>
    have HN := Lib.hid (runPR_pol (zs := zs) hv)
    rw [hv] at HS0
    have HS := Lib.hid HS0
    clear hv HS0
    go_enter Try.func8, Try.ntmps8
    go_wp2_with fail
    generalize w.alloc (.cells #[.slice A n c] 26) = W at hb0 p0 HS HX HZ hB0 ⊢
    refine HS.out.mono ?_
    rintro v w1 ⟨rfl, hb1⟩
    go_wp2_with fail
    go_ret3
    exact ⟨by rw [HN.out]; rfl, bon hb0 hb1⟩
  | true =>
    rw [hv] at HS0
    have HS := Lib.hid HS0
    have HV := Lib.hid hv
    clear hv HS0
    by_cases h40 : m ≤ 40
    · have q1 : decide ((40 : Int) < (m : Int)) = false := decide_eq_false (by omega)
      have q2 : ¬ (40 : Int) < (m : Int) := by omega
      cases hw : btw 0 3 zs with
      | false =>
        have HN := Lib.hid (runPR_word (xs := xs) (wordB_btw hw))
        have HW := Lib.hid hw
        clear hw
        go_enter Try.func8, Try.ntmps8
        go_wp2_with fail
        generalize w.alloc (.cells #[.slice A n c] 26) = W at hb0 p0 HS HX HZ hB0 ⊢
        refine HS.out.mono ?_
        rintro v w1 ⟨rfl, hb1⟩
        have HB0 := areBetween_c E m ce B 0 3 zs w1 (HZ.out.next hb1 hB0).2 hml.out hm
        rw [HW.out] at HB0
        have HB := Lib.hid HB0
        clear HB0
        go_wp2_with fail
        refine HB.out.mono ?_
        rintro v w2 ⟨rfl, rfl⟩
        go_wp2_with fail
        go_ret3
        exact ⟨by rw [HN.out]; rfl, bon hb0 hb1⟩
      | true =>
        have hwb : wordB zs = true := by rw [wordB_is hw]; exact decide_eq_true (by have := hml.out; omega)
        have HOK := Lib.hid (polOk_of HV.out)
        have HIW := Lib.hid (wordB_in hwb)
        have HN := Lib.hid (runPR_is HV.out hwb)
        have HW := Lib.hid hw
        obtain ⟨r1, HR1⟩ : ∃ r, Hid ((runL xs 0 zs).1 = r) := ⟨_, rfl⟩
        obtain ⟨r2, HR2⟩ : ∃ r, Hid ((runL xs 0 zs).2 = r) := ⟨_, rfl⟩
        clear hw hwb
        go_enter Try.func8, Try.ntmps8
        go_wp2_with fail
        generalize w.alloc (.cells #[.slice A n c] 26) = W at hb0 p0 HS HX HZ hB0 ⊢
        refine HS.out.mono ?_
        rintro v w1 ⟨rfl, hb1⟩
        have HB0 := areBetween_c E m ce B 0 3 zs w1 (HZ.out.next hb1 hB0).2 hml.out hm
        rw [HW.out] at HB0
        have HB := Lib.hid HB0
        have hs1 := hb1.size
        replace p0 := cell_next p0 hb1
        have HR0 := polRun_c A n c B xs 0 E m ce zs w1 (HX.out.next hb1 hB0) (HZ.out.next hb1 hB0) (by omega) HOK.out (by have := HOK.out.lo; have := hlen.out; omega) HIW.out.2 hm
        rw [HR1.out, HR2.out] at HR0
        have HR := Lib.hid HR0
        clear HB0 HR0
        go_wp2_with fail
        refine HB.out.mono ?_
        rintro v w2 ⟨rfl, rfl⟩
        go_wp2_with fail
        refine HR.out.mono ?_
        rintro v w2 ⟨rfl, hb2⟩
        go_wp2_with fail
        go_ret3
        exact ⟨by rw [HN.out, HR1.out, HR2.out]; rfl, bon (bon hb0 hb1) hb2⟩
    · have HN := Lib.hid (runPR_word (xs := xs) (wordB_len (zs := zs) (by have := hml.out; omega)))
      have q1 : decide ((40 : Int) < (m : Int)) = true := decide_eq_true (by omega)
      have q2 : (40 : Int) < (m : Int) := by omega
      go_enter Try.func8, Try.ntmps8
      go_wp2_with fail
      generalize w.alloc (.cells #[.slice A n c] 26) = W at hb0 p0 HS HX HZ hB0 ⊢
      refine HS.out.mono ?_
      rintro v w1 ⟨rfl, hb1⟩
      go_wp2_with fail
      go_ret3
      exact ⟨by rw [HN.out]; rfl, bon hb0 hb1⟩
end Go.Proofs.Ytpdgnmdjneakgaa

/-! slices.Equal at numbers, slices.EqualFunc at rows, and policies that are the same. Conditions: at most 1000 rows. -/
namespace Go.Proofs.Ytpdgnmdjneakgaa
set_option linter.unusedVariables false
open Go.RowKit

theorem take_eq_next {α : Type} {xs ys : List α} {k : Nat} {x : α} (h : xs.take k = ys.take k) (hx : xs[k]? = some x) (hy : ys[k]? = some x) : xs.take (k + 1) = ys.take (k + 1) := by
  rw [List.take_add_one, List.take_add_one, h, hx, hy]
set_option maxRecDepth 100000 in
set_option maxHeartbeats 2000000 in
theorem equal64_c (A : Option Addr) (n c B : Nat) (xs : List Int) (A' : Option Addr) (m c' B' : Nat) (ys : List Int) (w : World) (h : InL w B A n xs) (h' : InL w B' A' m ys) (hn : n ≤ 1000) (hm : m ≤ 1000) :
    Calls Try.prog 41 #[.slice A n c, .slice A' m c'] w fun e w' => e = .returned (.bool (decide (xs = ys))) ∧ ∃ d, w' = w.drewN d := by
  have hl := Lib.hid h.1
  have hl' := Lib.hid h'.1
  have HX := Lib.hid h
  have HY := Lib.hid h'
  obtain ⟨D, hD⟩ : ∃ D, decide (xs = ys) = D := ⟨_, rfl⟩
  have HD := Lib.hid hD
  rw [hD]
  clear h h' hD
  by_cases hnm : n = m
  · have r1 : (((n : Int) == (m : Int)) : Bool) = true := by simp [hnm]
    have i0 : (n : Int) = (m : Int) := by omega
    have HNM := Lib.hid hnm
    clear hnm
    go_enter Try.func41, Try.ntmps41
    go_wp2_with fail
    go_loopw [5, 13] (fun _ i wr => ∃ (j d : Nat), j ≤ n ∧ i = .int .i64 j ∧ wr = w.drewN d ∧ Hid (xs.take j = ys.take j)) (fun _ i _ => n - (intOf i).toNat)
    case atStart => exact ⟨0, 0, Nat.zero_le _, rfl, rfl, rfl⟩
    case round =>
      obtain ⟨j, d, hj, rfl, rfl, HE⟩ := hrel
      by_cases hlt : j < n
      · obtain ⟨b, off, x, rfl, hb, hx, hc⟩ := HX.out.2.int_at (k := j) (by have := hl.out; omega)
        obtain ⟨b2, off2, y, rfl, hb2, hy, hc2⟩ := HY.out.2.int_at (k := j) (by have := hl'.out; have := HNM.out; omega)
        have i1 : (j : Int) < (n : Int) := by omega
        have i2 : (j : Int) < (m : Int) := by omega
        by_cases e : x = y
        · have q1 : (x == y) = true := by simp [e]
          subst e
          have HE2 := Lib.hid (take_eq_next HE.out hx hy)
          clear hx hy
          go_wp2_with fail
          go_quiet (fail)
          go_wp2_with fail
          go_roundw
          case rel => exact ⟨j + 1, _, by omega, by go_num, by first | rfl | exact (World.drewN_drewN _ _ _), HE2.out⟩
          case measure => simp [intOf]; omega
        · have q1 : (x == y) = false := by simpa using e
          have HF : Hid (D = false) := by
            show D = false
            rw [← HD.out, decide_eq_false_iff_not]
            intro k; rw [k, hy] at hx; exact e (Option.some.inj hx).symm
          clear hx hy e
          go_wp2_with fail
          go_quiet (fail)
          go_wp2_with fail
          go_ret
          exact ⟨ret_bool HF.out.symm, by first | exact ⟨_, rfl⟩ | exact ⟨_, World.drewN_drewN _ _ _⟩⟩
      · have HF : Hid (D = true) := by
          show D = true
          rw [← HD.out, decide_eq_true_eq]
          have := HE.out
          rwa [List.take_of_length_le (by have := hl.out; omega), List.take_of_length_le (by have := hl'.out; have := HNM.out; omega)] at this
        have i1 : ¬ (j : Int) < (n : Int) := by omega
        go_wp2_with fail
        go_ret
        exact ⟨ret_bool HF.out.symm, by first | exact ⟨_, rfl⟩ | exact ⟨0, rfl⟩⟩
  · have r1 : (((n : Int) == (m : Int)) : Bool) = false := by simp; omega
    have i0 : ¬ (n : Int) = (m : Int) := by omega
    have HF : Hid (D = false) := by
      show D = false
      rw [← HD.out, decide_eq_false_iff_not]
      intro k; have := hl.out; have := hl'.out; rw [k] at *; omega
    clear hnm
    go_enter Try.func41, Try.ntmps41
    go_wp2_with fail
    go_ret
    exact ⟨ret_bool HF.out.symm, by first | exact ⟨_, rfl⟩ | exact ⟨0, rfl⟩⟩

set_option maxRecDepth 100000 in
set_option maxHeartbeats 2000000 in
theorem equalF_c (A : Option Addr) (n c B : Nat) (xs : List (List Int)) (A' : Option Addr) (m c' B' : Nat) (ys : List (List Int)) (w : World) (h : InLL w B A n xs) (h' : InLL w B' A' m ys) (hn : n ≤ 1000) (hm : m ≤ 1000) (hx4 : ∀ r ∈ xs, r.length = 4) (hy4 : ∀ r ∈ ys, r.length = 4) (hB : B ≤ w.heap.size) (hB' : B' ≤ w.heap.size) :
    Calls Try.prog 40 #[.slice A n c, .slice A' m c', .func (.func 41) #[] #[]] w fun e w' => e = .returned (.bool (decide (xs = ys))) ∧ ∃ d, w' = w.drewN d := by
  have hl := Lib.hid h.1
  have hl' := Lib.hid h'.1
  have HX := Lib.hid h
  have HY := Lib.hid h'
  obtain ⟨D, hD⟩ : ∃ D, decide (xs = ys) = D := ⟨_, rfl⟩
  have HD := Lib.hid hD
  rw [hD]
  clear h h' hD
  by_cases hnm : n = m
  · have r1 : (((n : Int) == (m : Int)) : Bool) = true := by simp [hnm]
    have i0 : (n : Int) = (m : Int) := by omega
    have HNM := Lib.hid hnm
    clear hnm
    go_enter Try.func40, Try.ntmps40
    go_wp2_with fail
    go_loopw [7, 8, 9, 17] (fun _ _ _ i wr => ∃ (j d : Nat), j ≤ n ∧ i = .int .i64 j ∧ wr = w.drewN d ∧ Hid (xs.take j = ys.take j)) (fun _ _ _ i _ => n - (intOf i).toNat)
    case atStart => exact ⟨0, 0, Nat.zero_le _, rfl, rfl, rfl⟩
    case round =>
      obtain ⟨j, d, hj, rfl, rfl, HE⟩ := hrel
      have hbd : Below w.heap.size w (w.drewN d) := below_drewN (Below.refl _ _) _
      by_cases hlt : j < n
      · obtain ⟨b, off, x, rfl, hb, hx, A0, n0, c0, hc, hin⟩ := (HX.out.next hbd hB).at_ hlt
        obtain ⟨b2, off2, y, rfl, hb2, hy, A1, n1, c1, hc2, hin2⟩ := (HY.out.next hbd hB').at_ (k := j) (by have := HNM.out; omega)
        have i1 : (j : Int) < (n : Int) := by omega
        have i2 : (j : Int) < (m : Int) := by have := HNM.out; omega
        obtain rfl : n0 = 4 := by have := hx4 x (List.mem_of_getElem? hx); have := hin.1; omega
        obtain rfl : n1 = 4 := by have := hy4 y (List.mem_of_getElem? hy); have := hin2.1; omega
        have HEQ0 := equal64_c A0 4 c0 _ x A1 4 c1 _ y (w.drewN d) hin hin2 (by omega) (by omega)
        by_cases e : x = y
        · subst e
          rw [decide_eq_true rfl] at HEQ0
          have HEQ := Lib.hid HEQ0
          have HE2 := Lib.hid (take_eq_next HE.out hx hy)
          clear hx hy HEQ0 hin hin2
          go_wp2_with fail
          refine HEQ.out.mono ?_
          rintro v w2 ⟨rfl, d2, rfl⟩
          go_wp2_with fail
          go_roundw
          case rel => exact ⟨j + 1, _, by omega, by go_num, by first | rfl | exact (World.drewN_drewN _ _ _), HE2.out⟩
          case measure => simp [intOf]; omega
        · rw [decide_eq_false e] at HEQ0
          have HEQ := Lib.hid HEQ0
          have HF : Hid (D = false) := by
            show D = false
            rw [← HD.out, decide_eq_false_iff_not]
            intro k; rw [k, hy] at hx; exact e (Option.some.inj hx).symm
          clear hx hy HEQ0 hin hin2 e
          go_wp2_with fail
          refine HEQ.out.mono ?_
          rintro v w2 ⟨rfl, d2, rfl⟩
          go_wp2_with fail
          go_ret
          exact ⟨ret_bool HF.out.symm, by first | exact ⟨_, rfl⟩ | exact ⟨_, World.drewN_drewN _ _ _⟩⟩
      · have HF : Hid (D = true) := by
          show D = true
          rw [← HD.out, decide_eq_true_eq]
          have := HE.out
          rwa [List.take_of_length_le (by have := hl.out; omega), List.take_of_length_le (by have := hl'.out; have := HNM.out; omega)] at this
        have i1 : ¬ (j : Int) < (n : Int) := by omega
        go_wp2_with fail
        go_ret
        exact ⟨ret_bool HF.out.symm, by first | exact ⟨_, rfl⟩ | exact ⟨0, rfl⟩⟩
  · have r1 : (((n : Int) == (m : Int)) : Bool) = false := by simp; omega
    have i0 : ¬ (n : Int) = (m : Int) := by omega
    have HF : Hid (D = false) := by
      show D = false
      rw [← HD.out, decide_eq_false_iff_not]
      intro k; have := hl.out; have := hl'.out; rw [k] at *; omega
    clear hnm
    go_enter Try.func40, Try.ntmps40
    go_wp2_with fail
    go_ret
    exact ⟨ret_bool HF.out.symm, by first | exact ⟨_, rfl⟩ | exact ⟨0, rfl⟩⟩

set_option maxRecDepth 100000 in
set_option maxHeartbeats 2000000 in
theorem isSame_c (A : Option Addr) (n c B : Nat) (xs : List (List Int)) (A' : Option Addr) (m c' B' : Nat) (ys : List (List Int)) (w : World) (h : InLL w B A n xs) (h' : InLL w B' A' m ys) (hn : n ≤ 1000) (hm : m ≤ 1000) (hx4 : ∀ r ∈ xs, r.length = 4) (hy4 : ∀ r ∈ ys, r.length = 4) (hB : B ≤ w.heap.size) (hB' : B' ≤ w.heap.size) :
    Calls Try.prog 24 #[.agg #[.slice A n c], .agg #[.slice A' m c']] w fun e w' => e = .returned (.bool (decide (xs = ys))) ∧ Below w.heap.size w w' := by
  have hbb := bon (bnew w (.cells #[.slice A n c] 26)) (bnew _ (.cells #[.slice A' m c'] 26))
  have HE := Lib.hid (equalF_c A n c B xs A' m c' B' ys _ (h.next hbb hB) (h'.next hbb hB') hn hm hx4 hy4 (Nat.le_trans hB hbb.size) (Nat.le_trans hB' hbb.size))
  have p0 : ((w.alloc (.cells #[.slice A n c] 26)).alloc (.cells #[.slice A' m c'] 26)).cell? ⟨w.heap.size, 0, none⟩ = some (.slice A n c) := cell_next (by simp) (bnew _ _)
  clear h h'
  generalize decide (xs = ys) = D at HE ⊢
  go_enter Try.func24, Try.ntmps24
  go_wp2_with fail
  refine HE.out.mono ?_
  rintro v w2 ⟨rfl, d2, rfl⟩
  go_wp2_with fail
  go_ret
  exact ⟨rfl, below_drewN hbb _⟩
end Go.Proofs.Ytpdgnmdjneakgaa

/-! IsStricter: the model and the program. Conditions: at most 2^20 rows and numbers. -/
namespace Go.Proofs.Ytpdgnmdjneakgaa
set_option linter.unusedVariables false
open Go.RowKit

def strR (xs ys : List (List Int)) : Bool := polB xs && (polB ys && (findP xs ys false).isNone)
theorem strR_one {xs ys : List (List Int)} (h : polB xs = false) : strR xs ys = false := by unfold strR; rw [h]; rfl
theorem strR_two {xs ys : List (List Int)} (h : polB ys = false) : strR xs ys = false := by unfold strR; rw [h]; simp
theorem strR_yes {xs ys : List (List Int)} (h : polB xs = true) (h' : polB ys = true) : strR xs ys = (findP xs ys false).isNone := by unfold strR; rw [h, h']; rfl

set_option maxRecDepth 100000 in
set_option maxHeartbeats 4000000 in
theorem implStr_c (A : Option Addr) (n c : Nat) (A' : Option Addr) (m c' B : Nat) (xs ys : List (List Int)) (w : World) (h : InLL w B A n xs) (h' : InLL w B A' m ys) (hB : B ≤ w.heap.size) (hn : n ≤ 1048576) (hm : m ≤ 1048576) (hea : ∀ x ∈ xs, x.length ≤ 1048576) (hea' : ∀ x ∈ ys, x.length ≤ 1048576) :
    Calls Try.prog 10 #[.agg #[.slice A n c], .agg #[.slice A' m c']] w fun e w' => e = .returned (.bool (strR xs ys)) ∧ Below w.heap.size w w' := by
  have hb0 := bnew w (.cells #[.slice A n c] 26)
  have hb1 := bnew (w.alloc (.cells #[.slice A n c] 26)) (.cells #[.slice A' m c'] 26)
  have hbb := bon hb0 hb1
  have hP : BlkIs ((w.alloc (.cells #[.slice A n c] 26)).alloc (.cells #[.slice A' m c'] 26)) w.heap.size 26 #[.slice A n c] := (blk_new _ _ _ _ rfl).next hb1
  have hQ : BlkIs ((w.alloc (.cells #[.slice A n c] 26)).alloc (.cells #[.slice A' m c'] 26)) (w.heap.size + 1) 26 #[.slice A' m c'] := blk_new _ _ _ _ (by simp)
  have HX := Lib.hid (h.next hbb hB)
  have HY := Lib.hid (h'.next hbb hB)
  have hB2 := Nat.le_trans hB hbb.size
  clear h h' hb0 hb1
  obtain ⟨W, hW⟩ : ∃ W, (w.alloc (.cells #[.slice A n c] 26)).alloc (.cells #[.slice A' m c'] 26) = W := ⟨_, rfl⟩
  rw [hW] at hP hQ hbb HX HY hB2
  have HWW := Lib.hid hW
  clear hW
  have p0 : W.cell? ⟨w.heap.size, 0, none⟩ = some (.slice A n c) := hP.cell 0
  have HS1 := implPolicy_c A n c B xs _ HX.out hB2 hn hea
  have HS2 := Lib.hid (fun W1 (hb : Below W.heap.size W W1) => implPolicy_c A' m c' B ys W1 (HY.out.next hb hB2) (Nat.le_trans hB2 hb.size) hm hea')
  cases hv : polB xs with
  | false =>
    have HN := Lib.hid (strR_one (ys := ys) hv)
    rw [HN.out]
    rw [hv] at HS1
    have HS := Lib.hid HS1
    clear hv HS1 HS2
    go_enter Try.func10, Try.ntmps10
    go_upto_region 1 with fail
    rw [HWW.out]
    go_wp2_with fail
    refine HS.out.mono ?_
    rintro v w1 ⟨rfl, hb1⟩
    go_wp2_with fail
    go_ret
    exact ⟨rfl, bon hbb hb1⟩
  | true =>
    rw [hv] at HS1
    have HS := Lib.hid HS1
    clear HS1
    cases hu : polB ys with
    | false =>
      have HN := Lib.hid (strR_two (xs := xs) hu)
      rw [HN.out]
      rw [hu] at HS2
      clear hv hu
      go_enter Try.func10, Try.ntmps10
      go_upto_region 1 with fail
      rw [HWW.out]
      go_wp2_with fail
      refine HS.out.mono ?_
      rintro v w1 ⟨rfl, hb1⟩
      have q0 := (hQ.next hb1).cell 0
      simp at q0
      have HT := Lib.hid (HS2.out w1 hb1)
      clear HS2
      go_wp2_with fail
      refine HT.out.mono ?_
      rintro v w2 ⟨rfl, hb2⟩
      go_wp2_with fail
      go_ret
      exact ⟨rfl, bon (bon hbb hb1) hb2⟩
    | true =>
      rw [hu] at HS2
      have HOK := Lib.hid (polOk_of hv)
      have HOK' := Lib.hid (polOk_of hu)
      have hxn : xs.length = n := HX.out.1
      have hym : ys.length = m := HY.out.1
      have HPR := Lib.hid (fun W1 (hb : Below W.heap.size W W1) => product_c A n c A' m c' B xs ys W1 (HX.out.next hb hB2) (HY.out.next hb hB2) (Nat.le_trans hB2 hb.size) HOK.out HOK'.out)
      have HBM := Lib.hid (fun L R (h : UnfEnd (stP xs ys) 0 L R) => both_minL HOK.out.rect HOK'.out.rect h)
      have HSI := Lib.hid (fun L R (h : UnfEnd (stP xs ys) 0 L R) => findP_stricter HOK.out.rect HOK'.out.rect h)
      have hN2 : xs.length * ys.length ≤ 144 := Nat.mul_le_mul (show xs.length ≤ 12 from HOK.out.hi) (show ys.length ≤ 12 from HOK'.out.hi)
      have hn12 : n ≤ 12 := by have := HOK.out.hi; omega
      rw [strR_yes hv hu]
      obtain ⟨F, hF⟩ : ∃ F, (findP xs ys false).isNone = F := ⟨_, rfl⟩
      rw [hF] at HSI ⊢
      clear hv hu hF
      go_enter Try.func10, Try.ntmps10
      go_upto_region 1 with fail
      rw [HWW.out]
      go_wp2_with fail
      refine HS.out.mono ?_
      rintro v w1 ⟨rfl, hb1⟩
      have q0 := (hQ.next hb1).cell 0
      simp at q0
      have HT := Lib.hid (HS2.out w1 hb1)
      clear HS2 p0
      go_wp2_with fail
      refine HT.out.mono ?_
      rintro v w2 ⟨rfl, hb2⟩
      have hb12 := bon hb1 hb2
      have p0 := (hP.next hb12).cell 0
      have q1 := (hQ.next hb12).cell 0
      simp at p0 q1
      have HPC := Lib.hid (HPR.out w2 hb12)
      clear q0 HPR HT
      go_wp2_with fail
      refine HPC.out.mono ?_
      rintro v w3 ⟨L, Q, Aq, cq, rsq, A2, c2, rfl, hend, hpq, _, hb3⟩
      obtain ⟨okQ, hQl, hQm⟩ := HBM.out L Q hend
      have hsi := HSI.out L Q hend
      have hFD : decide (minL Q = minL xs) = F := by
        cases F with
        | false => rw [decide_eq_false_iff_not]; intro k; exact absurd (hsi.2 k) (by simp)
        | true => rw [decide_eq_true_eq]; exact hsi.1 rfl
      have HFD := Lib.hid hFD
      have hb4 := bnew w3 (.cells #[.slice Aq Q.length cq] 26)
      have hb03 := bon (bon (bon hbb hb12) hb3) hb4
      have d9 : (w3.alloc (.cells #[.slice Aq Q.length cq] 26)).cell? ⟨w3.heap.size, 0, none⟩ = some (.slice Aq Q.length cq) := by simp
      have d8 := cell_next (cell_next p0 hb3) hb4
      have hm4 := (minL_small okQ)
      have hm5 := (minL_small HOK.out.rect)
      have HMQ := Lib.hid (fun x (hx : Below (w3.alloc (.cells #[.slice Aq Q.length cq] 26)).drew.heap.size (w3.alloc (.cells #[.slice Aq Q.length cq] 26)).drew x) => minimal_c Aq Q.length cq _ Q x ((hpq.inn.next hb4 (Nat.le_refl _)).call hb4.size hx) (le_call hb4.size hx) okQ (by omega))
      have HMP := Lib.hid (fun x (hx : Below (w3.alloc (.cells #[.slice Aq Q.length cq] 26)).drew.heap.size (w3.alloc (.cells #[.slice Aq Q.length cq] 26)).drew x) => minimal_c A n c B xs x (((HX.out.next hb12 hB2).next hb3 (Nat.le_trans hB2 hb12.size) |>.next hb4 (Nat.le_trans (Nat.le_trans hB2 hb12.size) hb3.size)).call (Nat.le_trans (Nat.le_trans (Nat.le_trans hB2 hb12.size) hb3.size) hb4.size) hx) (le_call (Nat.le_trans (Nat.le_trans (Nat.le_trans hB2 hb12.size) hb3.size) hb4.size) hx) HOK.out.rect (by omega))
      have HSM := Lib.hid (fun x A1 c1 A2 c2 B1 B2 (h1 : InLL x B1 A1 (minL Q).length (minL Q)) (h2 : InLL x B2 A2 (minL xs).length (minL xs)) (hb1 : B1 ≤ x.heap.size) (hb2 : B2 ≤ x.heap.size) => isSame_c A1 (minL Q).length c1 B1 (minL Q) A2 (minL xs).length c2 B2 (minL xs) x h1 h2 (by omega) (by omega) hm4.2 hm5.2 hb1 hb2)
      rw [hFD] at HSM
      clear hend hpq HBM hQm okQ HPC p0 q1 hsi HSI hm4 hm5 hFD
      generalize minL Q = V1 at HMQ HSM
      generalize minL xs = V2 at HMP HSM
      go_wp2_with fail
      generalize w3.alloc (.cells #[.slice Aq Q.length cq] 26) = W3 at HMQ HMP hb03 d9 d8 ⊢
      go_region_held3 (fun w' => w'.cell? ⟨w3.heap.size, 0, none⟩ = some (.slice Aq Q.length cq) ∧ w'.cell? ⟨w.heap.size, 0, none⟩ = some (.slice A n c))
        (first | go_keep | exact ⟨cell_on d9 hbm, cell_on d8 hbm⟩ | exact ⟨cell_on2 d9 hbm hbp, cell_on2 d8 hbm hbp⟩ | exact ⟨cell_on d9 hbp, cell_on d8 hbp⟩ | exact ⟨cell_on2 d9 hbp hbm, cell_on2 d8 hbp hbm⟩ | exact ⟨cell_next (cell_on2 d9 hbm hbp) hb9, cell_next (cell_on2 d8 hbm hbp) hb9⟩ | exact ⟨cell_next (cell_on2 d9 hbp hbm) hb9, cell_next (cell_on2 d8 hbp hbm) hb9⟩ | fail "none keeps")
        (first
          | (go_at_call_of 23 Aq; with_reducible refine (HMQ.out _ (by with_reducible repeat' (first | exact Below.refl _ _ | exact hbp | fail))).mono ?_; rintro e v1 ⟨Am, cm, rfl, ⟨rsm, hpm⟩, hbm⟩)
          | (go_at_call_of 23 A; with_reducible refine (HMP.out _ (by with_reducible repeat' (first | exact Below.refl _ _ | exact hbm | fail))).mono ?_; rintro e v2 ⟨Ap, cp, rfl, ⟨rsp, hpp⟩, hbp⟩)
          | (go_at_call 24; with_reducible refine (HSM.out _ _ _ _ _ _ _ (hpm.inn.next hbp (Nat.le_refl _)) hpp.inn hbp.size (Nat.le_refl _)).mono ?_; rintro e v3 ⟨rfl, hb9⟩)
          | (go_at_call 24; with_reducible refine (HSM.out _ _ _ _ _ _ _ hpm.inn (hpp.inn.next hbm (Nat.le_refl _)) (Nat.le_refl _) hbm.size).mono ?_; rintro e v3 ⟨rfl, hb9⟩)
          | fail "no arm")
      all_goals (go_wp2_with fail; go_ret; first | exact ⟨rfl, bon (bon (bon hb03 (bstep hbm)) hbp) hb9⟩ | exact ⟨rfl, bon (bon (bon hb03 (bstep hbp)) hbm) hb9⟩ | fail "no end")
end Go.Proofs.Ytpdgnmdjneakgaa

/-! What the difference of policies and their common policy mean for words. (pure) No conditions. -/
namespace Go.Proofs.Ytpdgnmdjneakgaa
set_option linter.unusedVariables false

theorem runL_runB (X : List (List Int)) : ∀ (zs : List Int) (s k : Nat), k ≤ zs.length → (k ≤ (runL X s zs).1 ↔ (runB X s ((zs.take k).map Int.toNat)).isSome = true)
  | [], s, k, hk => by
    have : k = 0 := by simpa using hk
    subst this
    exact ⟨fun _ => rfl, fun _ => Nat.zero_le _⟩
  | e :: zs, s, 0, _ => ⟨fun _ => rfl, fun _ => Nat.zero_le _⟩
  | e :: zs, s, k + 1, hk => by
    show _ ↔ (if nxP X s e.toNat < 0 then none else runB X (nxP X s e.toNat).toNat ((zs.take k).map Int.toNat)).isSome = true
    by_cases h : nxP X s e.toNat < 0
    · rw [runL_no h, if_pos h]; simp
    · rw [runL_yes h, if_neg h]
      have := runL_runB X zs (nxP X s e.toNat).toNat k (by simpa using hk)
      rw [← this]
      dsimp only
      omega
theorem runL_full (X : List (List Int)) (zs : List Int) : (runL X 0 zs).1 = zs.length ↔ (runB X 0 (zs.map Int.toNat)).isSome = true := by
  have h := runL_runB X zs 0 zs.length (Nat.le_refl _)
  have hl := runL_le X 0 zs
  rw [List.take_length] at h
  rw [← h]
  omega
/-- As much of a word is allowed, if the same words are. -/
theorem runL_same {X Y : List (List Int)} (h : ∀ w : List Nat, (∀ e ∈ w, e < 4) → (runB X 0 w).isSome = (runB Y 0 w).isSome) {zs : List Int} (hz : ∀ e ∈ zs, 0 ≤ e ∧ e ≤ 3) : (runL X 0 zs).1 = (runL Y 0 zs).1 := by
  have hx := runL_le X 0 zs
  have hy := runL_le Y 0 zs
  have key : ∀ k, k ≤ zs.length → (k ≤ (runL X 0 zs).1 ↔ k ≤ (runL Y 0 zs).1) := fun k hk => by
    rw [runL_runB X zs 0 k hk, runL_runB Y zs 0 k hk, h]
    intro e he
    obtain ⟨z, h1, rfl⟩ := List.mem_map.1 he
    have := hz z (List.mem_of_mem_take h1)
    omega
  have h1 := (key _ hx).1 (Nat.le_refl _)
  have h2 := (key _ hy).2 (Nat.le_refl _)
  omega
theorem runL_min {X Y Z : List (List Int)} (h : ∀ w : List Nat, (∀ e ∈ w, e < 4) → (runB Z 0 w).isSome = ((runB X 0 w).isSome && (runB Y 0 w).isSome)) {zs : List Int} (hz : ∀ e ∈ zs, 0 ≤ e ∧ e ≤ 3) : (runL Z 0 zs).1 = min (runL X 0 zs).1 (runL Y 0 zs).1 := by
  have hx := runL_le X 0 zs
  have hy := runL_le Y 0 zs
  have hzz := runL_le Z 0 zs
  have key : ∀ k, k ≤ zs.length → (k ≤ (runL Z 0 zs).1 ↔ k ≤ (runL X 0 zs).1 ∧ k ≤ (runL Y 0 zs).1) := fun k hk => by
    rw [runL_runB X zs 0 k hk, runL_runB Y zs 0 k hk, runL_runB Z zs 0 k hk, h, Bool.and_eq_true]
    intro e he
    obtain ⟨z, h1, rfl⟩ := List.mem_map.1 he
    have := hz z (List.mem_of_mem_take h1)
    omega
  have h1 := (key _ hzz).1 (Nat.le_refl _)
  have h2 := (key (min (runL X 0 zs).1 (runL Y 0 zs).1) (by omega)).2 ⟨by omega, by omega⟩
  omega

section
variable {p q : List (List Int)}
/-- One event more. -/
theorem runB_snoc (X : List (List Int)) {s a : Nat} {w : List Nat} (h : runB X s w = some a) (e : Nat) : runB X s (w ++ [e]) = if nxP X a e < 0 then none else some (nxP X a e).toNat := by
  rw [runB_app, h]; rfl
theorem stP_next (okq : RectP q) {x : Int} {e : Nat} (h0 : 0 ≤ x) (he : e < 4) (hv : (stP p q x e).2 = true) : ¬ nxP p (x / (q.length : Int)).toNat e < 0 ∧ ¬ nxP q (x % (q.length : Int)).toNat e < 0 ∧ (nxP p (x / (q.length : Int)).toNat e) = (stP p q x e).1 / (q.length : Int) ∧ (nxP q (x % (q.length : Int)).toNat e) = (stP p q x e).1 % (q.length : Int) := by
  obtain ⟨c1, c2⟩ := stP_parts (p := p) okq h0 he
  rw [stP_ok] at hv
  simp only [Bool.and_eq_true, decide_eq_true_eq] at hv
  have n1 : ¬ nxP p (x / (q.length : Int)).toNat e < 0 := by omega
  have n2 : ¬ nxP q (x % (q.length : Int)).toNat e < 0 := by omega
  rw [stR_yes n1] at c1
  rw [stR_yes n2] at c2
  exact ⟨n1, n2, c1.symm, c2.symm⟩
/-- The words of the search lead to their pairs. -/
def Led (p q : List (List Int)) (t : Int × List Int) : Prop := (0 ≤ t.1 ∧ t.1 < ((p.length * q.length : Nat) : Int)) ∧ (∀ e ∈ t.2, 0 ≤ e ∧ e ≤ 3) ∧ runB p 0 (t.2.map Int.toNat) = some (t.1 / (q.length : Int)).toNat ∧ runB q 0 (t.2.map Int.toNat) = some (t.1 % (q.length : Int)).toNat
theorem Led.wT (okp : RectP p) (okq : RectP q) {x : Int} {wd : List Int} {Q : List (Int × List Int)} (h : Led p q (x, wd)) (hQ : ∀ t ∈ Q, Led p q t) : ∀ j, j ≤ 4 → ∀ t ∈ wT (stP p q) x wd Q j, Led p q t
  | 0, _ => hQ
  | j + 1, hj => by
    have ih := Led.wT okp okq h hQ j (by omega)
    unfold Go.Proofs.Ytpdgnmdjneakgaa.wT wS
    split
    · rename_i hc
      intro t ht
      rcases List.mem_append.1 ht with k | k
      · exact ih t k
      · simp at k
        subst k
        obtain ⟨h1, h2, h3, h4⟩ := h
        dsimp only at h1 h2 h3 h4
        obtain ⟨n1, n2, n3, n4⟩ := stP_next (p := p) okq h1.1 (show j < 4 by omega) hc.1
        refine ⟨stP_stays okp okq x j h1.1 h1.2 (by omega) hc.1, fun e he => ?_, ?_, ?_⟩
        · rcases List.mem_append.1 he with k | k
          · exact h2 e k
          · simp at k; subst k; omega
        · dsimp only
          rw [List.map_append, show [(j : Int)].map Int.toNat = [j] from rfl, runB_snoc p h3, if_neg n1, n3]
        · dsimp only
          rw [List.map_append, show [(j : Int)].map Int.toNat = [j] from rfl, runB_snoc q h4, if_neg n2, n4]
    · exact ih
theorem wunf_led (okp : RectP p) (okq : RectP q) : ∀ k, ∀ t ∈ wunf (stP p q) k, Led p q t
  | 0, t, ht => by
    simp [wunf] at ht
    subst ht
    have := Nat.mul_pos okp.lo okq.lo
    exact ⟨by dsimp only; omega, (fun e he => by cases he), (by simp [runB]), (by simp [runB])⟩
  | k + 1, t, ht => by
    have ih := wunf_led okp okq k
    rcases Nat.lt_or_ge k (wunf (stP p q) k).length with h | h
    · have e1 := List.getElem?_eq_getElem h
      rw [wunf_next e1] at ht
      exact Led.wT okp okq (ih _ (List.getElem_mem h)) ih 4 (Nat.le_refl _) t ht
    · rw [wunf_stop h] at ht
      exact ih t ht
/-- What is found is allowed by one of both alone. -/
theorem findP_word (okp : RectP p) (okq : RectP q) {both : Bool} {z : List Int} (h : findP p q both = some z) : (∀ e ∈ z, 0 ≤ e ∧ e ≤ 3) ∧ (runB p 0 (z.map Int.toNat)).isSome = !(runB q 0 (z.map Int.toNat)).isSome ∧ (both = false → (runB p 0 (z.map Int.toNat)).isSome = true) := by
  unfold findP at h
  obtain ⟨i, e, t, h1, h2, h3, h4, _⟩ := findQ_inv h
  obtain ⟨g1, g2, g3, g4⟩ := wunf_led okp okq _ t (List.mem_of_getElem? h1)
  subst h4
  have em : [(e : Int)].map Int.toNat = [e] := rfl
  rw [List.map_append, em, runB_snoc p g3, runB_snoc q g4]
  refine ⟨fun x hx => ?_, ?_, ?_⟩
  · rcases List.mem_append.1 hx with k | k
    · exact g2 x k
    · simp at k; subst k; omega
  · unfold hitB at h3
    by_cases n1 : nxP p (t.1 / (q.length : Int)).toNat e < 0
    · by_cases n2 : nxP q (t.1 % (q.length : Int)).toNat e < 0
      · exfalso
        rw [decide_eq_false (p := 0 ≤ nxP p _ e) (by omega), decide_eq_false (p := 0 ≤ nxP q _ e) (by omega)] at h3
        simp at h3
      · rw [if_pos n1, if_neg n2]; rfl
    · by_cases n2 : nxP q (t.1 % (q.length : Int)).toNat e < 0
      · rw [if_neg n1, if_pos n2]; rfl
      · exfalso
        rw [decide_eq_false n1, decide_eq_false n2] at h3
        simp at h3
  · intro hb
    subst hb
    unfold hitB at h3
    simp only [Bool.false_and, Bool.or_false, Bool.and_eq_true, decide_eq_true_eq] at h3
    rw [if_neg (by omega)]; rfl
/-- Nothing is found: what the first allows, the second allows; if both ways are looked at, the other way too. -/
theorem findP_all (okp : RectP p) (okq : RectP q) {both : Bool} (h : findP p q both = none) : ∀ w : List Nat, (∀ e ∈ w, e < 4) → ((runB p 0 w).isSome = true → (runB q 0 w).isSome = true) ∧ (both = true → (runB q 0 w).isSome = true → (runB p 0 w).isSome = true) := by
  have hN := Nat.mul_pos okp.lo okq.lo
  have h00 : (0 : Int) ≤ 0 ∧ (0 : Int) < ((p.length * q.length : Nat) : Int) := by omega
  obtain ⟨L, R, hend⟩ := unf_end (stP_stays okp okq) h00 (p.length * q.length) 0 (by omega) (Nat.zero_le _)
  have hA := hend.unfAt
  have hLN : ∀ x ∈ L, 0 ≤ x := fun x hx => by
    obtain ⟨k, hk, _⟩ := hend
    have := unf_among (stP_stays okp okq) h00 k
    rw [hk] at this
    exact (this.2 x hx).1
  have hLl : L.length ≤ p.length * q.length := by
    obtain ⟨k, hk, _⟩ := hend
    have := (unf_among (stP_stays okp okq) h00 k).len
    rw [hk] at this
    exact this
  have hQ : wunf (stP p q) (p.length * q.length) = wunf (stP p q) L.length := by
    obtain ⟨d, hd⟩ := Nat.exists_eq_add_of_le hLl
    rw [hd]
    refine wunf_stay ?_ d
    have := congrArg List.length hend.items
    rw [List.length_map] at this
    omega
  unfold findP at h
  rw [hQ] at h
  have hno : ∀ x ∈ L, ∀ e, e < 4 → hitB p q both x e = false := fun x hx e he => by
    rw [← hend.items] at hx
    obtain ⟨u, hu, rfl⟩ := List.mem_map.1 hx
    exact findQ_some h u hu e he
  have key : ∀ w : List Nat, (∀ e ∈ w, e < 4) → ∀ x ∈ L, ((runB p (x / (q.length : Int)).toNat w).isSome = true → (runB q (x % (q.length : Int)).toNat w).isSome = true) ∧ (both = true → (runB q (x % (q.length : Int)).toNat w).isSome = true → (runB p (x / (q.length : Int)).toNat w).isSome = true) := fun w => by
    induction w with
    | nil => intro _ x _; exact ⟨fun _ => rfl, fun _ _ => rfl⟩
    | cons e w ih =>
      intro hw x hx
      have he := hw e (List.mem_cons_self ..)
      have hoff := hno x hx e he
      show ((if nxP p (x / (q.length : Int)).toNat e < 0 then none else runB p (nxP p (x / (q.length : Int)).toNat e).toNat w).isSome = true → (if nxP q (x % (q.length : Int)).toNat e < 0 then none else runB q (nxP q (x % (q.length : Int)).toNat e).toNat w).isSome = true) ∧ (both = true → (if nxP q (x % (q.length : Int)).toNat e < 0 then none else runB q (nxP q (x % (q.length : Int)).toNat e).toNat w).isSome = true → (if nxP p (x / (q.length : Int)).toNat e < 0 then none else runB p (nxP p (x / (q.length : Int)).toNat e).toNat w).isSome = true)
      unfold hitB at hoff
      by_cases n1 : nxP p (x / (q.length : Int)).toNat e < 0
      · rw [if_pos n1]
        refine ⟨fun k => by simp at k, fun hb => ?_⟩
        subst hb
        by_cases n2 : nxP q (x % (q.length : Int)).toNat e < 0
        · rw [if_pos n2]; intro k; simp at k
        · exfalso
          rw [decide_eq_true n1, decide_eq_true (p := 0 ≤ nxP q _ e) (by omega)] at hoff
          simp at hoff
      · by_cases n2 : nxP q (x % (q.length : Int)).toNat e < 0
        · exfalso
          rw [decide_eq_true n2, decide_eq_true (p := 0 ≤ nxP p _ e) (by omega)] at hoff
          simp at hoff
        · rw [if_neg n1, if_neg n2]
          have hv : (stP p q x e).2 = true := by
            rw [stP_ok, decide_eq_true (p := 0 ≤ nxP p _ e) (by omega), decide_eq_true (p := 0 ≤ nxP q _ e) (by omega)]; rfl
          obtain ⟨_, _, n3, n4⟩ := stP_next (p := p) okq (hLN x hx) he hv
          obtain ⟨i, hi⟩ := List.getElem?_of_mem hx
          obtain ⟨j, _, _, j3⟩ := (hA.nx i x hi e he).2 hv
          rw [n3, n4]
          exact ih (fun e he => hw e (List.mem_cons_of_mem _ he)) _ (List.mem_of_getElem? j3)
  intro w hw
  have := key w hw 0 (List.mem_of_getElem? hA.zero)
  rw [Int.zero_ediv, Int.zero_emod] at this
  exact this
/-- The policy of all pairs allows what both allow. -/
theorem bothL_run (okp : RectP p) (okq : RectP q) {w : List Nat} (hw : ∀ e ∈ w, e < 4) : (runB (bothL p q) 0 w).isSome = ((runB p 0 w).isSome && (runB q 0 w).isSome) := by
  have hm := okq.lo
  have key : ∀ w : List Nat, (∀ e ∈ w, e < 4) → ∀ i, i < p.length * q.length → (runB (bothL p q) i w).isSome = ((runB p (i / q.length) w).isSome && (runB q (i % q.length) w).isSome) := fun w => by
    induction w with
    | nil => intro _ i _; rfl
    | cons e w ih =>
      intro hw i hi
      have he := hw e (List.mem_cons_self ..)
      have hn := bothL_nx (p := p) (q := q) hi he
      obtain ⟨l1, l2⟩ := pair_lt hi
      show (if nxP (bothL p q) i e < 0 then none else runB (bothL p q) (nxP (bothL p q) i e).toNat w).isSome = ((if nxP p (i / q.length) e < 0 then none else runB p (nxP p (i / q.length) e).toNat w).isSome && (if nxP q (i % q.length) e < 0 then none else runB q (nxP q (i % q.length) e).toNat w).isSome)
      unfold boE at hn
      by_cases n1 : nxP p (i / q.length) e < 0
      · rw [if_pos (.inl n1)] at hn
        rw [hn, if_pos (by omega), if_pos n1]; rfl
      · by_cases n2 : nxP q (i % q.length) e < 0
        · rw [if_pos (.inr n2)] at hn
          rw [hn, if_pos (by omega), if_pos n2]; simp
        · rw [if_neg (fun k => by rcases k with k | k; exact n1 k; exact n2 k)] at hn
          have hp := okp.nx l1 he n1
          have hq := okq.nx l2 he n2
          obtain ⟨a, ha⟩ : ∃ a : Nat, nxP p (i / q.length) e = a := ⟨(nxP p (i / q.length) e).toNat, by omega⟩
          obtain ⟨b, hb⟩ : ∃ b : Nat, nxP q (i % q.length) e = b := ⟨(nxP q (i % q.length) e).toNat, by omega⟩
          rw [ha] at hp hn
          rw [hb] at hq hn
          rw [Int.toNat_natCast] at hp hq
          have hc : ((a : Int) * (q.length : Int) + (b : Int)) = ((a * q.length + b : Nat) : Int) := by simp
          rw [hc] at hn
          have hlt : a * q.length + b < p.length * q.length := by
            have : (a + 1) * q.length ≤ p.length * q.length := Nat.mul_le_mul_right _ (by omega)
            rw [Nat.add_mul] at this
            omega
          have := ih (fun e he => hw e (List.mem_cons_of_mem _ he)) _ hlt
          rw [hn, ha, hb, if_neg (by omega), if_neg (by omega), if_neg (by omega), Int.toNat_natCast, Int.toNat_natCast, Int.toNat_natCast, this]
          have d1 : (a * q.length + b) / q.length = a := by rw [Nat.mul_comm, Nat.mul_add_div (by omega), Nat.div_eq_of_lt hq, Nat.add_zero]
          have d2 : (a * q.length + b) % q.length = b := by rw [Nat.mul_comm, Nat.mul_add_mod, Nat.mod_eq_of_lt hq]
          rw [d1, d2]
  have := key w hw 0 (Nat.mul_pos okp.lo okq.lo)
  rw [Nat.zero_div, Nat.zero_mod] at this
  exact this
end
theorem minL_rect {X : List (List Int)} (ok : RectP X) : RectP (minL X) := by
  have h00 : (0 : Int) ≤ 0 ∧ (0 : Int) < (X.length : Int) := by have := ok.lo; omega
  obtain ⟨M, R, hend⟩ := unf_end (stM_stays ok) h00 X.length 0 (by omega) (Nat.zero_le _)
  rw [← minL_is ok hend]
  have hA := hend.unfAt
  have hl := hA.len
  have h0 := (List.getElem?_eq_some_iff.1 hA.zero).1
  obtain ⟨k, hk, hkl⟩ := hend
  obtain ⟨a1, _, _, _⟩ := unf_at (stM X) 0 k
  rw [hk] at a1
  dsimp only at a1
  refine ⟨by omega, fun r hr => ?_, fun r hr z hz => ?_⟩
  · obtain ⟨i, hi⟩ := List.getElem?_of_mem hr
    have hil := (List.getElem?_eq_some_iff.1 hi).1
    exact (a1 i _ r (List.getElem?_eq_getElem (by omega)) hi).1
  · obtain ⟨i, hi⟩ := List.getElem?_of_mem hr
    have hil := (List.getElem?_eq_some_iff.1 hi).1
    obtain ⟨h1, h2⟩ := a1 i _ r (List.getElem?_eq_getElem (by omega)) hi
    obtain ⟨e, he⟩ := List.getElem?_of_mem hz
    have hel := (List.getElem?_eq_some_iff.1 he).1
    obtain ⟨h3, h4⟩ := h2 e (by omega)
    rw [he] at h3
    obtain rfl := (Option.some.inj h3).symm
    split
    · rename_i hc
      have := List.idxOf_lt_length_of_mem (h4 hc.1 hc.2)
      omega
    · omega
end Go.Proofs.Ytpdgnmdjneakgaa

/-! What the answers about two policies mean for a word. (pure) No conditions. -/
namespace Go.Proofs.Ytpdgnmdjneakgaa
set_option linter.unusedVariables false

theorem btw_of {lo hi : Int} {zs : List Int} (h : ∀ e ∈ zs, lo ≤ e ∧ e ≤ hi) : btw lo hi zs = true := by
  unfold btw
  exact decide_eq_true h
theorem wordB_of {zs : List Int} (h : ∀ e ∈ zs, 0 ≤ e ∧ e ≤ 3) (hl : zs.length ≤ 40) : wordB zs = true := by
  unfold wordB
  rw [btw_of h, decide_eq_true hl]; rfl
theorem polB_of {xs : List (List Int)} (h : RectP xs) (hl : xs.length ≤ 12) : polB xs = true := by
  have := h.lo
  unfold polB
  rw [decide_eq_true (show (1 : Int) ≤ (xs.length : Int) by omega), decide_eq_true (show (xs.length : Int) ≤ 12 by omega), Bool.true_and, Bool.true_and, List.all_eq_true]
  intro r hr
  rw [rowB_is (h.len r hr)]
  exact btw_of (h.num r hr)
theorem words4 {z : List Int} (h : ∀ e ∈ z, 0 ≤ e ∧ e ≤ 3) : ∀ e ∈ z.map Int.toNat, e < 4 := fun e he => by
  obtain ⟨x, h1, rfl⟩ := List.mem_map.1 he
  have := h x h1
  omega
section
variable {xs ys : List (List Int)}
/-- A difference: a word that one of both allows alone; then not each is stricter. -/
theorem diff_yes (hx : polB xs = true) (hy : polB ys = true) (h : (diffR xs ys).2 = true) : wordB (diffR xs ys).1 = true ∧ ((runL xs 0 (diffR xs ys).1).1 = (diffR xs ys).1.length ↔ ¬ (runL ys 0 (diffR xs ys).1).1 = (diffR xs ys).1.length) ∧ ¬ (strR xs ys = true ∧ strR ys xs = true) := by
  have okx := (polOk_of hx).rect
  have oky := (polOk_of hy).rect
  have hl := diffR_len xs ys
  cases hf : findP xs ys true with
  | none => rw [diffR_none hx hy hf] at h; cases h
  | some z =>
    rw [diffR_some hx hy hf] at hl ⊢
    dsimp only at hl ⊢
    obtain ⟨w1, w2, _⟩ := findP_word okx oky hf
    refine ⟨wordB_of w1 (by omega), ?_, fun ⟨k1, k2⟩ => ?_⟩
    · rw [runL_full, runL_full, w2]
      cases (runB ys 0 (z.map Int.toNat)).isSome <;> simp
    · rw [strR_yes hx hy, Option.isNone_iff_eq_none] at k1
      rw [strR_yes hy hx, Option.isNone_iff_eq_none] at k2
      have h4 := words4 w1
      have a1 := (findP_all okx oky k1 _ h4).1
      have a2 := (findP_all oky okx k2 _ h4).1
      cases hA : (runB ys 0 (z.map Int.toNat)).isSome with
      | true => rw [hA] at w2 a2; rw [a2 rfl] at w2; cases w2
      | false => rw [hA] at w2 a1; cases a1 w2
theorem diff_no (hx : polB xs = true) (hy : polB ys = true) (h : (diffR xs ys).2 = false) {zs : List Int} (hz : wordB zs = true) : (runL xs 0 zs).1 = (runL ys 0 zs).1 := by
  have okx := (polOk_of hx).rect
  have oky := (polOk_of hy).rect
  cases hf : findP xs ys true with
  | some z => rw [diffR_some hx hy hf] at h; cases h
  | none =>
    refine runL_same (fun w hw => ?_) (wordB_in hz).2
    obtain ⟨a1, a2⟩ := findP_all okx oky hf w hw
    cases a : (runB xs 0 w).isSome <;> cases b : (runB ys 0 w).isSome <;> simp_all
theorem both_yes (hx : polB xs = true) (hy : polB ys = true) (h : (bothR xs ys).2 = true) : polB (bothR xs ys).1 = true ∧ (∀ zs, wordB zs = true → (runL (bothR xs ys).1 0 zs).1 = min (runL xs 0 zs).1 (runL ys 0 zs).1) ∧ strR (bothR xs ys).1 xs = true ∧ strR (bothR xs ys).1 ys = true := by
  have okx := (polOk_of hx).rect
  have oky := (polOk_of hy).rect
  have okb := bothL_rect okx oky
  by_cases hl : (minL (bothL xs ys)).length ≤ 12
  · rw [bothR_yes hx hy hl]
    dsimp only
    have okm := minL_rect okb
    have hm := polB_of okm hl
    have hrun : ∀ w : List Nat, (∀ e ∈ w, e < 4) → (runB (minL (bothL xs ys)) 0 w).isSome = ((runB xs 0 w).isSome && (runB ys 0 w).isSome) := fun w hw => (minL_run okb hw).trans (bothL_run okx oky hw)
    refine ⟨hm, fun zs hz => runL_min hrun (wordB_in hz).2, ?_, ?_⟩
    · rw [strR_yes hm hx]
      cases hf : findP (minL (bothL xs ys)) xs false with
      | none => rfl
      | some z =>
        exfalso
        obtain ⟨w1, w2, w3⟩ := findP_word okm okx hf
        have h4 := words4 w1
        have w3 := w3 rfl
        rw [w3] at w2
        rw [hrun _ h4] at w3
        simp_all
    · rw [strR_yes hm hy]
      cases hf : findP (minL (bothL xs ys)) ys false with
      | none => rfl
      | some z =>
        exfalso
        obtain ⟨w1, w2, w3⟩ := findP_word okm oky hf
        have h4 := words4 w1
        have w3 := w3 rfl
        rw [w3] at w2
        rw [hrun _ h4] at w3
        simp_all
  · rw [bothR_no hl] at h; cases h
end
end Go.Proofs.Ytpdgnmdjneakgaa
