/-
  A run of a policy: the model's and the program's. Conditions: at most 2^20 rows and numbers.
-/
import Derived.Test.YtclenhnbgfcjjaaPolS
namespace Go.Proofs.Ytclenhnbgfcjjaa
set_option linter.unusedVariables false
open Go.RowKit

/-- What is known behind j events. -/
def RunJ (xs : List (List Int)) (s : Nat) (zs : List Int) (j q : Nat) : Prop := q < xs.length ∧ runL xs s zs = ((runL xs q (zs.drop j)).1 + j, (runL xs q (zs.drop j)).2)
theorem RunJ.init {xs : List (List Int)} {s : Nat} {zs : List Int} (h : s < xs.length) : RunJ xs s zs 0 s := ⟨h, by simp⟩
theorem RunJ.stop {xs : List (List Int)} {s : Nat} {zs : List Int} {j q : Nat} {e : Int} (h : RunJ xs s zs j q) (hz : zs[j]? = some e) (hn : nxP xs q e.toNat < 0) : runL xs s zs = (j, q) := by
  have hl := (List.getElem?_eq_some_iff.1 hz).1
  have hd : zs.drop j = e :: zs.drop (j + 1) := by
    rw [List.drop_eq_getElem_cons hl]; congr 1
    rw [List.getElem?_eq_getElem hl] at hz; exact Option.some.inj hz
  rw [h.2, hd, runL_no hn]
  simp
theorem RunJ.next {xs : List (List Int)} (ok : PolOk xs) {s : Nat} {zs : List Int} {j q : Nat} {e : Int} (h : RunJ xs s zs j q) (hz : zs[j]? = some e) (he : 0 ≤ e ∧ e ≤ 3) (hn : ¬ nxP xs q e.toNat < 0) : RunJ xs s zs (j + 1) (nxP xs q e.toNat).toNat := by
  have hl := (List.getElem?_eq_some_iff.1 hz).1
  obtain ⟨_, _, _, _, _, h2⟩ := ok.at_ h.1 (e := e.toNat) (by omega)
  have hd : zs.drop j = e :: zs.drop (j + 1) := by
    rw [List.drop_eq_getElem_cons hl]; congr 1
    rw [List.getElem?_eq_getElem hl] at hz; exact Option.some.inj hz
  refine ⟨by omega, ?_⟩
  rw [h.2, hd, runL_yes hn]
  show (_, _) = (_, _)
  congr 1
  omega
theorem RunJ.done {xs : List (List Int)} {s : Nat} {zs : List Int} {j q : Nat} (h : RunJ xs s zs j q) (hj : zs.length ≤ j) (hj2 : j ≤ zs.length) : runL xs s zs = (zs.length, q) := by
  rw [h.2, List.drop_of_length_le hj]
  show ((0 + j, q) : Nat × Nat) = _
  rw [show 0 + j = zs.length by omega]

set_option maxRecDepth 100000 in
set_option maxHeartbeats 4000000 in
theorem l10Run_c (b o : Nat) (A : Option Addr) (n c B : Nat) (xs : List (List Int)) (s : Nat) (E : Option Addr) (m ce : Nat) (zs : List Int) (w : World) (p0 : w.cell? ⟨b, o, none⟩ = some (.slice A n c)) (h : InLL w B A n xs) (hE : InL w B E m zs) (ok : PolOk xs) (hs : s < n) (he : ∀ e ∈ zs, 0 ≤ e ∧ e ≤ 3) (hm : m ≤ 1048576) :
    Calls Try.prog 55 #[.pointer (some ⟨b, o, none⟩), .int .i64 (s : Int), .slice E m ce] w fun v w' => v = .returned (.tuple #[.int .i64 ((runL xs s zs).1 : Int), .int .i64 ((runL xs s zs).2 : Int)]) ∧ ∃ d, w' = w.drewN d := by
  have hlen := Lib.hid h.1
  have hml := Lib.hid hE.1
  have HE := Lib.hid he
  have HX := Lib.hid h
  have HZ := Lib.hid hE
  have HOK := Lib.hid ok
  have hR0 : Hid (RunJ xs s zs 0 s) := RunJ.init (by rw [h.1]; exact hs)
  clear he h hE ok
  go_enter Try.func55, Try.ntmps55
  go_wp2_with fail
  go_loopw [1, 8, 9] (fun st i _ wr => ∃ (j d q : Nat), j ≤ m ∧ st = .int .i64 q ∧ i = .int .i64 j ∧ wr = w.drewN d ∧ Hid (RunJ xs s zs j q)) (fun _ i _ _ => m - (intOf i).toNat)
  case atStart => exact ⟨0, 0, s, Nat.zero_le _, rfl, rfl, rfl, hR0⟩
  case round =>
    clear hR0
    obtain ⟨j, d, q, hj, rfl, rfl, rfl, hR⟩ := hrel
    have hqn : q < n := by have := hR.out.1; have := hlen.out; omega
    by_cases hlt : j < m
    · obtain ⟨b3, off3, z, rfl, hb3, hz, hcz⟩ := HZ.out.2.int_at (k := j) (by have := hml.out; omega)
      have hez := HE.out z (List.mem_of_getElem? hz)
      obtain ⟨e, rfl⟩ : ∃ e : Nat, z = e := ⟨z.toNat, by omega⟩
      have he4 : e < 4 := by omega
      obtain ⟨b1, off1, A0, c0, b2, off2, rfl, q0, rfl, q1⟩ := HX.out.cell_at HOK.out (s := q) (e := e) hqn he4
      have i1 : (q : Int) < (n : Int) := by omega
      have i2 : (e : Int) < 4 := by omega
      by_cases hq : nxP xs q e < 0
      · have HN := Lib.hid (hR.out.stop hz (by rw [Int.toNat_natCast]; exact hq))
        have hq2 : decide (nxP xs q e < 0) = true := decide_eq_true hq
        generalize nxP xs q e = y at q1 hq hq2 ⊢
        clear hz hez hR
        go_wp2_with fail
        go_quiet (fail)
        go_wp2_with fail
        go_ret2
        exact ⟨by rw [HN.out]; rfl, by first | exact ⟨_, rfl⟩ | exact ⟨_, World.drewN_drewN _ _ _⟩⟩
      · have HN := Lib.hid (hR.out.next HOK.out hz hez (by rw [Int.toNat_natCast]; exact hq))
        have hN2 := HN.out
        rw [Int.toNat_natCast] at hN2
        obtain ⟨y, hy⟩ : ∃ y : Nat, nxP xs q e = y := ⟨(nxP xs q e).toNat, by omega⟩
        rw [hy, Int.toNat_natCast] at hN2
        have HN3 := Lib.hid hN2
        rw [hy] at q1 hq
        have hq2 : decide ((y : Int) < 0) = false := decide_eq_false hq
        clear hz hez hR HN hN2 hy
        go_wp2_with fail
        go_quiet (fail)
        go_wp2_with fail
        go_roundw
        case rel => exact ⟨j + 1, _, y, by omega, rfl, by go_num, by first | rfl | exact (World.drewN_drewN _ _ _), HN3⟩
        case measure => simp [intOf]; omega
    · have HN := Lib.hid (hR.out.done (by have := hml.out; omega) (by have := hml.out; omega))
      have hjm : m = zs.length := by have := hml.out; omega
      subst hjm
      clear hR
      go_wp2_with fail
      go_ret2
      exact ⟨by rw [HN.out]; rfl, _, rfl⟩

set_option maxRecDepth 100000 in
set_option maxHeartbeats 4000000 in
theorem polRun_c (A : Option Addr) (n c B : Nat) (xs : List (List Int)) (s : Nat) (E : Option Addr) (m ce : Nat) (zs : List Int) (w : World) (h : InLL w B A n xs) (hE : InL w B E m zs) (hB : B ≤ w.heap.size) (ok : PolOk xs) (hs : s < n) (he : ∀ e ∈ zs, 0 ≤ e ∧ e ≤ 3) (hm : m ≤ 1048576) :
    Calls Try.prog 56 #[.agg #[.slice A n c], .int .i64 (s : Int), .slice E m ce] w fun v w' => v = .returned (.tuple #[.int .i64 ((runL xs s zs).1 : Int), .int .i64 ((runL xs s zs).2 : Int)]) ∧ Below w.heap.size w w' := by
  have hb0 := bnew w (.cells #[.slice A n c] 27)
  have hlen := Lib.hid h.1
  have hml := Lib.hid hE.1
  have HE := Lib.hid he
  have HX := Lib.hid (h.next hb0 hB)
  have HZ := Lib.hid (hE.next hb0 hB)
  have HOK := Lib.hid ok
  have hB0 : B ≤ (w.alloc (.cells #[.slice A n c] 27)).heap.size := Nat.le_trans hB hb0.size
  have p0 : (w.alloc (.cells #[.slice A n c] 27)).cell? ⟨w.heap.size, 0, none⟩ = some (.slice A n c) := by simp
  have hR0 : Hid (RunJ xs s zs 0 s) := RunJ.init (by rw [h.1]; exact hs)
  clear he h hE ok
  go_enter Try.func56, Try.ntmps56
  go_wp2_with fail
  generalize w.alloc (.cells #[.slice A n c] 27) = W at hb0 HX HZ hB0 p0 ⊢
  go_loopw [1, 8, 9, 10, 11, 14] (fun st _ _ _ _ i wr => ∃ (j q : Nat), j ≤ m ∧ st = .int .i64 q ∧ i = .int .i64 j ∧ Below W.heap.size W wr ∧ Hid (RunJ xs s zs j q)) (fun _ _ _ _ _ i _ => m - (intOf i).toNat)
  case atStart => exact ⟨0, s, Nat.zero_le _, rfl, rfl, Below.refl _ _, hR0⟩
  case round =>
    clear hR0
    obtain ⟨j, q, hj, rfl, rfl, hbel, hR⟩ := hrel
    have hqn : q < n := by have := hR.out.1; have := hlen.out; omega
    have hsz := hbel.size
    replace p0 := cell_next p0 hbel
    by_cases hlt : j < m
    · have HZr := HZ.out.next hbel hB0
      have HXr := HX.out.next hbel hB0
      obtain ⟨b3, off3, z, rfl, hb3, hz, hcz⟩ := HZr.2.int_at (k := j) (by have := hml.out; omega)
      have hez := HE.out z (List.mem_of_getElem? hz)
      obtain ⟨e, rfl⟩ : ∃ e : Nat, z = e := ⟨z.toNat, by omega⟩
      have he4 : e < 4 := by omega
      have i1 : (j : Int) < (m : Int) := by omega
      have HST0 := polStep_c A n c B xs q e wr HXr (by omega) HOK.out hqn he4
      by_cases hq : nxP xs q e < 0
      · have HN := Lib.hid (hR.out.stop hz (by rw [Int.toNat_natCast]; exact hq))
        rw [stR_no hq] at HST0
        have HST := Lib.hid HST0
        clear hz hez hR HST0 HXr HZr hq
        go_wp2_with fail
        refine HST.out.mono ?_
        rintro v w2 ⟨rfl, hb2⟩
        go_wp2_with fail
        go_ret2
        exact ⟨by rw [HN.out]; rfl, bon (bon hb0 hbel) hb2⟩
      · have HN := Lib.hid (hR.out.next HOK.out hz hez (by rw [Int.toNat_natCast]; exact hq))
        have hN2 := HN.out
        rw [Int.toNat_natCast] at hN2
        rw [stR_yes hq] at HST0
        obtain ⟨y, hy⟩ : ∃ y : Nat, nxP xs q e = y := ⟨(nxP xs q e).toNat, by omega⟩
        rw [hy, Int.toNat_natCast] at hN2
        rw [hy] at HST0
        have HN3 := Lib.hid hN2
        have HST := Lib.hid HST0
        clear hz hez hR HN hN2 hy HST0 HXr HZr hq
        go_wp2_with fail
        refine HST.out.mono ?_
        rintro v w2 ⟨rfl, hb2⟩
        go_wp2_with fail
        go_roundw
        case rel => exact ⟨j + 1, y, by omega, rfl, by go_num, bon hbel hb2, HN3⟩
        case measure => simp [intOf]; omega
    · have HN := Lib.hid (hR.out.done (by have := hml.out; omega) (by have := hml.out; omega))
      have hjm : m = zs.length := by have := hml.out; omega
      subst hjm
      clear hR
      go_wp2_with fail
      go_ret2
      exact ⟨by rw [HN.out]; rfl, bon hb0 hbel⟩
end Go.Proofs.Ytclenhnbgfcjjaa
