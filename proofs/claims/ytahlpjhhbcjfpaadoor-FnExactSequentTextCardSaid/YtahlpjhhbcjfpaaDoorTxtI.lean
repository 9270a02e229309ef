/-
  The text of code, in the program (a strings.Builder). Conditions: at most 2^20 instructions; the table of the powers of ten lies as the library's text lays it.
-/
import Derived.Test.YtahlpjhhbcjfpaaDoorTxtP
import Derived.Shelf.Strings.Builder1
namespace Go.Proofs
open Go.Shelf
theorem Tryd.lays166 : Lays.n166 Tryd.prog Tryd.lays156_ren := { Tryd.lays156 with }
theorem Tryd.lays169 : Lays.n169 Tryd.prog Tryd.lays156_ren := { Tryd.lays156 with }
end Go.Proofs
namespace Go.Proofs.YtahlpjhhbcjfpaaDoor
set_option linter.unusedVariables false
open Go.RowKit

/-- What a builder holds. -/
def Bld (w : World) (b : Nat) (l : List UInt8) : Prop := Lib.IsBuilder 100 5 b b (Lib.byteCells l) w
theorem bld_at {w w' : World} {b : Nat} {p : Value} {bs : List Value} (h : Lib.BuilderAt 100 5 b b p bs w) (hb : Below w.heap.size w w') : Lib.BuilderAt 100 5 b b p bs w' := by
  have hlt := h.lt
  obtain ⟨h1, v, h2, h3, h4⟩ := h
  exact ⟨h1, v, (hb.block b hlt).trans h2, own_below h3 hb, h4⟩
theorem Bld.next {w w' : World} {b : Nat} {l : List UInt8} (h : Bld w b l) (hb : Below w.heap.size w w') : Bld w' b l := by
  rcases h with h | h
  · exact .inl (bld_at h hb)
  · exact .inr (bld_at h hb)
theorem Bld.lt {w : World} {b : Nat} {l : List UInt8} (h : Bld w b l) : b < w.heap.size := by
  rcases h with h | h <;> exact h.lt
theorem bld_new (w : World) : Bld (w.alloc (.cells #[.pointer none, .slice none 0 0] 100)) w.heap.size [] := Lib.fresh_isBuilder _ _ w
theorem writeString_c (b : Nat) (l : List UInt8) (s : ByteArray) (w : World) (h : Bld w b l) (hlen : l.length + s.size ≤ 1000000) :
    Calls Tryd.prog 59 #[.pointer (some ⟨b, 0, none⟩), .string s] w fun e w' => e = .returned (.tuple #[.int .i64 s.size, .nilIface]) ∧ Bld w' b (l ++ s.data.toList) ∧ Below b w w' := by
  refine (Any.Builder_WriteString Tryd.lays166 Tryd.extra156 b b (Lib.byteCells l) s w h (by rw [Lib.byteCells_length]; omega) (Nat.le_of_lt h.lt)).mono fun e w' hh => ?_
  obtain ⟨he, hb, hw⟩ := hh
  refine ⟨he, .inr ?_, hw⟩
  rw [Lib.byteCells_append]
  exact hb
theorem builderString_c (b : Nat) (l : List UInt8) (w : World) (h : Bld w b l) :
    Calls Tryd.prog 60 #[.pointer (some ⟨b, 0, none⟩)] w fun e w' => e = .returned (.string ⟨l.toArray⟩) ∧ Below b w w' :=
  Any.Builder_String_any Tryd.lays169 Tryd.extra156 b b l w h (Nat.le_of_lt h.lt)

set_option maxRecDepth 100000 in
set_option maxHeartbeats 8000000 in
theorem implCodeText_c (A : Option Addr) (n c B : Nat) (xs : List (Int × Int)) (w : World) (hT : Tab10 w) (h : InC w B A n xs) (hB : B ≤ w.heap.size) (hn : n ≤ 1048576) :
    Calls Tryd.prog 19 #[.slice A n c] w fun e w' => e = .returned (.tuple #[.string (txtR xs).1, .bool (txtR xs).2]) ∧ Below w.heap.size w w' := by
  have HC0 := implCode_c A n c B xs w h hB hn
  cases hv : codeB xs with
  | false =>
    rw [txtR_no hv]
    rw [hv] at HC0
    have HC := Lib.hid HC0
    clear HC0 hv h
    go_enter Tryd.func19, Tryd.ntmps19
    go_wp2_with fail
    refine HC.out.mono ?_
    rintro e w1 ⟨rfl, hb1⟩
    go_wp2_with fail
    go_ret2
    exact ⟨rfl, hb1⟩
  | true =>
    rw [txtR_yes hv]
    rw [hv] at HC0
    have HC := Lib.hid HC0
    have HV := Lib.hid hv
    have hlen := Lib.hid h.1
    have h80 : n ≤ 80 := by have := (codeB_parts hv).2.1; have := h.1; omega
    clear HC0 hv
    go_enter Tryd.func19, Tryd.ntmps19
    go_wp2_with fail
    refine HC.out.mono ?_
    rintro e w1 ⟨rfl, hb1⟩
    have hn1 := bld_new w1
    have hbA := bnew w1 (.cells #[.pointer none, .slice none 0 0] 100)
    have hlA : w1.heap.size < (w1.alloc (.cells #[.pointer none, .slice none 0 0] 100)).heap.size := by simp
    have hs1 := hb1.size
    go_wp2_with fail
    generalize w1.alloc (.cells #[.pointer none, .slice none 0 0] 100) = W at hn1 hbA hlA ⊢
    have hb01 := bon hb1 hbA
    go_loopw [6, 7, 8, 14] (fun _ _ _ i wr => ∃ k : Nat, k ≤ n ∧ i = .int .i64 k ∧ Bld wr w1.heap.size (txtL (xs.take k)) ∧ Below w.heap.size w wr) (fun _ _ _ i _ => n - (intOf i).toNat)
    case atStart => exact ⟨0, Nat.zero_le _, rfl, hn1, hb01⟩
    case round =>
      clear hn1 hb01 hbA hlA
      obtain ⟨k, hk, rfl, hbd, hbel⟩ := hrel
      by_cases hlt : k < n
      · obtain ⟨b, off, x, rfl, hb, hx, c0, c1⟩ := (h.next hbel hB).at_ hlt
        have hi := codeB_at HV.out hx
        have hs1 := lineL_short hi
        have hs2 := txtL_take HV.out k
        have hR := insR_yes hi
        have hbN := bnew wr (.cells #[.int .i64 x.1, .int .i64 x.2] 26)
        have y0 : (wr.alloc (.cells #[.int .i64 x.1, .int .i64 x.2] 26)).cell? ⟨wr.heap.size, 0, none⟩ = some (.int .i64 x.1) := by simp
        have y1 : (wr.alloc (.cells #[.int .i64 x.1, .int .i64 x.2] 26)).cell? ⟨wr.heap.size, 1, none⟩ = some (.int .i64 x.2) := by simp
        have HI0 := implText_c x.1 x.2 (wr.alloc (.cells #[.int .i64 x.1, .int .i64 x.2] 26)) ((hT.next hbel).next hbN)
        rw [hR] at HI0
        have HI := Lib.hid HI0
        have hbd2 := hbd.next hbN
        have HX := Lib.hid (And.intro hx hs1)
        have HS2 := Lib.hid hs2
        have z1 : ¬ 9223372036854775807 < (lineB x.1 x.2).size + 1 := by rw [lineB_size]; omega
        clear hx hs1 hs2 hR hi HI0 hbd
        go_wp2_with fail
        generalize wr.alloc (.cells #[.int .i64 x.1, .int .i64 x.2] 26) = W2 at hbN y0 y1 HI hbd2 ⊢
        refine HI.out.mono ?_
        rintro e w2 ⟨rfl, hb2⟩
        have hbd3 := hbd2.next hb2
        have hlt3 := hbd3.lt
        have HWS := Lib.hid (writeString_c w1.heap.size (txtL (xs.take k)) (lineB x.1 x.2 ++ ⟨#[10]⟩) w2 hbd3 (by
          have h1 := HX.out.2
          have h2 := HS2.out
          have e1 : (lineB x.1 x.2 ++ (⟨#[10]⟩ : ByteArray)).size = (lineB x.1 x.2).size + 1 := by simp [ByteArray.size_append]; rfl
          rw [e1, lineB_size]
          omega))
        go_wp2_with fail
        refine HWS.out.mono ?_
        rintro e w3 ⟨rfl, hbd4, hb3⟩
        have HB : Hid (Bld w3 w1.heap.size (txtL (xs.take (k + 1)))) := by
          show Bld _ _ _
          rw [txtL_succ HX.out.1]
          have e2 : (lineB x.1 x.2 ++ (⟨#[10]⟩ : ByteArray)).data.toList = lineL x.1 x.2 ++ [10] := by simp [ByteArray.data_append, lineB]
          rw [e2] at hbd4
          exact hbd4
        have hbF := (bon (bon hbel hbN) hb2).trans (hb3.mono (by omega))
        go_wp2_with fail
        go_roundw
        case rel => exact ⟨k + 1, by omega, by go_num, HB.out, hbF⟩
        case measure => simp [intOf]; omega
      · have HE : Hid (txtL (xs.take k) = txtL xs) := by show _ = _; rw [List.take_of_length_le (by have := hlen.out; omega)]
        rw [HE.out] at hbd
        have HS := Lib.hid (builderString_c w1.heap.size (txtL xs) wr hbd)
        go_wp2_with fail
        refine HS.out.mono ?_
        rintro e w2 ⟨rfl, hb2⟩
        go_wp2_with fail
        go_ret2
        exact ⟨rfl, hbel.trans (hb2.mono (by omega))⟩
end Go.Proofs.YtahlpjhhbcjfpaaDoor
