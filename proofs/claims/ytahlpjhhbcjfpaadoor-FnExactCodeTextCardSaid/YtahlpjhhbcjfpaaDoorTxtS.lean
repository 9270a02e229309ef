/-
  The text of code, in the model. Conditions: at most 2^20 instructions.
-/
import Derived.Test.YtahlpjhhbcjfpaaDoorTxtP
namespace Go.Proofs.YtahlpjhhbcjfpaaDoor
set_option linter.unusedVariables false
open Go.RowKit

set_option maxRecDepth 100000 in
set_option maxHeartbeats 4000000 in
theorem l07Text_c (A : Option Addr) (n c B : Nat) (xs : List (Int × Int)) (w : World) (h : InC w B A n xs) (hB : B ≤ w.heap.size) (hv : codeB xs = true) :
    Calls Tryd.prog 57 #[.slice A n c] w fun e w' => e = .returned (.string (txtB xs)) ∧ Below w.heap.size w w' := by
  have hlen := Lib.hid h.1
  have HV := Lib.hid hv
  have hn : n ≤ 80 := by have := (codeB_parts hv).2.1; have := h.1; omega
  clear hv
  go_enter Tryd.func57, Tryd.ntmps57
  go_wp2_with fail
  go_loopw [3, 4] (fun o i wr => ∃ (k : Nat) (T : ByteArray), k ≤ n ∧ i = .int .i64 k ∧ o = .string T ∧ Hid (T = txtB (xs.take k)) ∧ Below w.heap.size w wr) (fun _ i _ => n - (intOf i).toNat)
  case atStart => exact ⟨0, ⟨#[]⟩, Nat.zero_le _, rfl, rfl, rfl, Below.refl _ _⟩
  case round =>
    obtain ⟨k, T, hk, rfl, rfl, hT, hbel⟩ := hrel
    by_cases hlt : k < n
    · obtain ⟨b, off, x, rfl, hb, hx, c0, c1⟩ := (h.next hbel hB).at_ hlt
      have hi := codeB_at HV.out hx
      have hl := instrB_lim hi
      have HL := Lib.hid (l07Line_c x.1 x.2 wr hl.1 hl.2)
      have hs1 := lineL_short hi
      rw [← lineB_size] at hs1
      have hs2 := txtL_take HV.out k
      rw [← txtB_size, ← hT.out] at hs2
      have HS : Hid (T ++ (lineB x.1 x.2 ++ ⟨#[10]⟩) = txtB (xs.take (k + 1))) := by show _ = _; rw [txtB_succ hx, hT.out]
      have z1 : ¬ 9223372036854775807 < (lineB x.1 x.2).size + 1 := by omega
      have z2 : ¬ 9223372036854775807 < T.size + ((lineB x.1 x.2).size + 1) := by omega
      clear hi hl hx hs1 hs2 hT
      go_wp2_with fail
      refine HL.out.mono ?_
      rintro e w1 ⟨rfl, hb1⟩
      go_wp2_with fail
      go_roundw
      case rel => exact ⟨k + 1, _, by omega, by go_num, rfl, HS, bon hbel hb1⟩
      case measure => simp [intOf]; omega
    · have HE : Hid (T = txtB xs) := by show _ = _; rw [hT.out, List.take_of_length_le (by have := hlen.out; omega)]
      go_wp2_with fail
      go_ret
      exact ⟨by rw [HE.out]; rfl, hbel⟩

set_option maxRecDepth 100000 in
set_option maxHeartbeats 4000000 in
theorem specCodeText_c (A : Option Addr) (n c B : Nat) (xs : List (Int × Int)) (w : World) (h : InC w B A n xs) (hB : B ≤ w.heap.size) (hn : n ≤ 1048576) :
    Calls Tryd.prog 17 #[.slice A n c] w fun e w' => e = .returned (.tuple #[.string (txtR xs).1, .bool (txtR xs).2]) ∧ Below w.heap.size w w' := by
  have HC0 := l07Is_c A n c B xs w h hB hn
  cases hv : codeB xs with
  | false =>
    rw [txtR_no hv]
    rw [hv] at HC0
    have HC := Lib.hid HC0
    clear HC0 hv h
    go_enter Tryd.func17, Tryd.ntmps17
    go_wp2_with fail
    refine HC.out.mono ?_
    rintro e w1 ⟨rfl, hb1⟩
    go_wp2_with fail
    go_ret2
    exact ⟨rfl, hb1⟩
  | true =>
    rw [txtR_yes hv]
    rw [hv] at HC0
    have HC := Lib.hid HC0
    have HT := Lib.hid (fun (W : World) (hb : Below w.heap.size w W) => l07Text_c A n c B xs W (h.next hb hB) (Nat.le_trans hB hb.size) hv)
    clear HC0 hv h
    go_enter Tryd.func17, Tryd.ntmps17
    go_wp2_with fail
    refine HC.out.mono ?_
    rintro e w1 ⟨rfl, hb1⟩
    go_wp2_with fail
    refine (HT.out w1 hb1).mono ?_
    rintro e w2 ⟨rfl, hb2⟩
    go_wp2_with fail
    go_ret2
    exact ⟨rfl, bon hb1 hb2⟩
end Go.Proofs.YtahlpjhhbcjfpaaDoor
