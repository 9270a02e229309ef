/-
  The step among the first states of each kind, in the program. Conditions: a policy with at most 1000 states.
-/
import Derived.Test.YtopijecdhjnipaaMinC
import Derived.Test.YtopijecdhjnipaaUnfK
namespace Go.Proofs.Ytopijecdhjnipaa
set_option linter.unusedVariables false
open Go.RowKit

theorem rep_settled {xs : List (List Int)} (ok : RectP xs) {t y : Nat} (h : Settled xs t) (hy : y < xs.length) : rep xs t y = rep xs xs.length y := by
  obtain ⟨h1, h2, h3⟩ := rep_ok xs xs.length y
  refine rep_is h1 ?_ fun j hj => ?_
  · rw [same_of ok h (by omega) hy]; exact h2
  · rw [same_of ok h (by omega) hy]
    cases e : sameB xs j y with
    | false => rfl
    | true =>
      have := fstB_iff.1 h3 j hj
      rw [show eqB xs xs.length j (rep xs xs.length y) = true from eqB_trans e (eqB_symm h2)] at this
      cases this

set_option maxRecDepth 100000 in
set_option maxHeartbeats 2000000 in
theorem stepR_c (A : Option Addr) (n c B : Nat) (xs : List (List Int)) (s e : Nat) (w : World) (h : InLL w B A n xs) (hB : B ≤ w.heap.size) (ok : RectP xs) (hs : s < n) (he : e < 4) :
    Calls Try.prog 37 #[.agg #[.slice A n c], .int .i64 (s : Int), .int .i64 (e : Int)] w fun v w' => v = .returned (.tuple #[.int .i64 (stR xs s e).1, .bool (stR xs s e).2]) ∧ Below w.heap.size w w' := by
  have hb0 := bnew w (.cells #[.slice A n c] 26)
  obtain ⟨b, off, A0, c0, b2, off2, rfl, q0, rfl, q1⟩ := (h.next hb0 hB).cell_atR ok hs he
  have i1 : (s : Int) < (n : Int) := by omega
  have i2 : (e : Int) < 4 := by omega
  obtain ⟨r, _, _, _, hlo, _⟩ := ok.at_ (s := s) (e := e) (by rw [h.1]; exact hs) he
  by_cases hq : nxP xs s e < 0
  · have HR := Lib.hid (stR_no hq)
    have hm : nxP xs s e = -1 := by omega
    rw [hm] at q1
    clear hq hlo hm h
    go_enter Try.func37, Try.ntmps37
    go_wp2_with fail
    go_ret2
    exact ⟨by rw [HR.out]; rfl, hb0⟩
  · have HR := Lib.hid (stR_yes hq)
    have q5 : (nxP xs s e == -1) = false := by simp; omega
    have q6 : ¬ nxP xs s e = -1 := by omega
    clear hq hlo h
    generalize nxP xs s e = z at q1 q5 q6 HR ⊢
    go_enter Try.func37, Try.ntmps37
    go_wp2_with fail
    go_ret2
    exact ⟨by rw [HR.out]; rfl, hb0⟩

set_option maxRecDepth 100000 in
set_option maxHeartbeats 2000000 in
theorem index_c (A : Option Addr) (n c B : Nat) (zs : List Int) (x : Int) (w : World) (h : InL w B A n zs) (hx : x ∈ zs) (hn : n ≤ 1000) :
    Calls Try.prog 48 #[.slice A n c, .int .i64 x] w fun e w' => e = .returned (.int .i64 (zs.idxOf x : Int)) ∧ w = w' := by
  have hlen := Lib.hid h.1
  have HX := Lib.hid h
  have hil : zs.idxOf x < n := by rw [← h.1]; exact List.idxOf_lt_length_of_mem hx
  have HI : Hid (∀ (j : Nat) (y : Int), zs[j]? = some y → j ≤ zs.idxOf x → (y = x ↔ j = zs.idxOf x)) := fun j y hy hj => by
    have hl := List.idxOf_lt_length_of_mem hx
    have h2 := List.getElem_idxOf hl
    constructor
    · intro e
      rcases Nat.lt_or_ge j (zs.idxOf x) with k | k
      · have h3 := List.not_of_lt_findIdx (p := (· == x)) (xs := zs) (i := j) k
        obtain ⟨hj', he⟩ := List.getElem?_eq_some_iff.1 hy
        rw [he] at h3
        simp [e] at h3
      · omega
    · intro e
      subst e
      rw [List.getElem?_eq_getElem hl, h2] at hy
      exact (Option.some.inj hy).symm
  clear h hx
  generalize zs.idxOf x = q at hil HI ⊢
  go_enter Try.func48, Try.ntmps48
  go_wp2_with fail
  go_loop [5, 8] (fun _ i => ∃ j : Nat, j ≤ q ∧ i = .int .i64 j) (fun _ i => n - (intOf i).toNat)
  case atStart => exact ⟨0, Nat.zero_le _, rfl⟩
  case round =>
    obtain ⟨j, hj, rfl⟩ := hrel
    obtain ⟨b, off, y, rfl, hb, hy, hc⟩ := HX.out.2.int_at (k := j) (by have := hlen.out; omega)
    have hyx := HI.out j y hy hj
    have i1 : (j : Int) < (n : Int) := by omega
    by_cases e : j = q
    · have q1 : (x == y) = true := by have := hyx.2 e; simp [this]
      have HE := Lib.hid e
      clear hy hyx e
      go_wp2_with fail
      go_ret
      exact ⟨ret_int (by rw [HE.out]), rfl⟩
    · have q1 : (x == y) = false := by
        have : ¬ y = x := fun k => e (hyx.1 k)
        simp only [beq_eq_false_iff_ne, ne_eq]; omega
      clear hy hyx
      go_wp2_with fail
      go_round
      case rel => exact ⟨j + 1, by omega, by go_num⟩
      case measure => simp [intOf]; omega

set_option maxRecDepth 100000 in
set_option maxHeartbeats 2000000 in
theorem minStep_c (bq bk : Nat) (A : Option Addr) (n c : Nat) (Ac : Option Addr) (cc t B : Nat) (xs : List (List Int)) (cl : List Int) (x e : Nat) (w : World) (hq : BlkIs w bq 26 #[.slice A n c]) (hk : BlkIs w bk 35 #[.slice Ac n cc])
    (h : InLL w B A n xs) (hc : InL w B Ac n cl) (hB : B ≤ w.heap.size) (ok : RectP xs) (hcl : ClsI xs t cl) (hset : Settled xs t) (hn : n ≤ 1000) (hx : x < n) (he : e < 4) :
    Calls Try.prog 47 #[.int .i64 (x : Int), .int .i64 (e : Int), .pointer (some ⟨bq, 0, none⟩), .pointer (some ⟨bk, 0, none⟩)] w fun v w' => v = .returned (.tuple #[.int .i64 (stM xs (x : Int) e).1, .bool (stM xs (x : Int) e).2]) ∧ Below w.heap.size w w' := by
  have hxn : xs.length = n := h.1
  have HST0 := stepR_c A n c B xs x e w h hB ok hx he
  have q0 := hq.cell 0
  simp at q0
  by_cases hn0 : nxP xs x e < 0
  · have HR := Lib.hid (stM_no hn0)
    rw [stR_no hn0] at HST0
    have HST := Lib.hid HST0
    rw [HR.out]
    clear HST0 hn0 h hc
    go_enter Try.func47, Try.ntmps47
    go_wp2_with fail
    refine HST.out.mono ?_
    rintro v w1 ⟨rfl, hb1⟩
    go_wp2_with fail
    go_ret2
    exact ⟨rfl, hb1⟩
  · have hyn := ok.nx (s := x) (e := e) (by omega) he hn0
    obtain ⟨y, hy⟩ : ∃ y : Nat, nxP xs x e = y := ⟨(nxP xs x e).toNat, by omega⟩
    have hR := stM_yes hn0
    rw [stR_yes hn0, hy] at HST0
    rw [hy, Int.toNat_natCast] at hyn hR
    have hidx := hcl.index hyn
    rw [rep_settled ok hset hyn] at hidx
    have hlen := hcl.len
    have hget : cl[y]? = some (cl.getD y 0) := by rw [List.getD, List.getElem?_eq_getElem (by omega)]; rfl
    have HST := Lib.hid HST0
    have HR := Lib.hid hR
    rw [HR.out]
    have i1 : (y : Int) < (n : Int) := by omega
    have HX := Lib.hid h
    have HC := Lib.hid hc
    have hz : cl.getD y 0 ∈ cl := List.mem_of_getElem? hget
    obtain ⟨z, hzz⟩ : ∃ z, cl.getD y 0 = z := ⟨_, rfl⟩
    rw [hzz] at hget hidx hz
    have HID := Lib.hid hidx
    have HIX := Lib.hid (fun W (hb : Below w.heap.size w W) => index_c Ac n cc B cl z W (hc.next hb hB) hz hn)
    have HG := Lib.hid hget
    clear HST0 hn0 hR h hc hy hget hidx hz hzz hcl hset ok
    generalize rep xs xs.length y = r at HID HR ⊢
    go_enter Try.func47, Try.ntmps47
    go_wp2_with fail
    refine HST.out.mono ?_
    rintro v w1 ⟨rfl, hb1⟩
    have k0 := (hk.next hb1).cell 0
    simp at k0
    obtain ⟨b2, off2, z2, rfl, hb2, hz2, hcz⟩ := (HC.out.next hb1 hB).2.int_at (k := y) (by rw [hlen]; omega)
    obtain rfl : z2 = z := by rw [HG.out] at hz2; exact (Option.some.inj hz2).symm
    clear hz2
    have HIY : Hid (∀ W, Below w.heap.size w W → Calls Try.prog 48 #[.slice (some ⟨b2, off2, none⟩) n cc, .int .i64 z2] W fun e w' => e = .returned (.int .i64 (r : Int)) ∧ W = w') := fun W hb => by
      have := HIX.out W hb
      rw [HID.out] at this
      exact this
    go_wp2_with fail
    go_quiet ((exact (HIY.out _ (by first | exact hb1 | exact below_drewN hb1 _)).mono fun _ _ hh => ⟨hh.1, _, hh.2.symm⟩))
    go_wp2_with fail
    go_ret2
    exact ⟨rfl, by first | exact hb1 | exact below_drewN hb1 _⟩
end Go.Proofs.Ytopijecdhjnipaa
