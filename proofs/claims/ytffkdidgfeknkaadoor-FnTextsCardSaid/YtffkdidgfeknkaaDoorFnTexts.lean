/-
  For all bytes, of the string that is drawn from them: it is read back from its hexadecimal digits, its words with blanks between them make it up again, its lines do so, and its check number is positive and less than the square of its prime.
  Conditions: those that the card itself bears (the tables that the program's text lays).
-/
import Derived.Test.YtffkdidgfeknkaaDoorRows
import Derived.WalkKit
import Derived.ProofKit
import Derived.OpenShut
import Derived.ShutString
import Derived.ChangeOld
import Derived.Below
import Derived.WalkSmall
import Derived.Test.YtffkdidgfeknkaaDoorTms
import Derived.Test.YtffkdidgfeknkaaDoorCards
import Derived.Test.YtffkdidgfeknkaaDoorTie
import Derived.ChangeSame
import Derived.ChangeVars
import Derived.JoinedOf
import Derived.RowKit
import Derived.RowKitTokens
import Derived.LaidLaws
import Derived.LaidHandle
import Derived.Stop.LaidErr
import Derived.Stop.Joined
import Derived.SevenTiedAt
import Derived.Test.YtffkdidgfeknkaaDoorByRow
import Derived.Test.YtffkdidgfeknkaaDoorListed
import Derived.Test.YtffkdidgfeknkaaDoorTexP
import Derived.Test.YtffkdidgfeknkaaDoorDrwY
namespace Go.Proofs.YtffkdidgfeknkaaDoor.fnTexts
open Go.ChangeShapes Go.WideShapes Go.ChangeAt Go.RowKit
open Go.ChangeMaps (open_string shut_string)
set_option linter.unusedVariables false

theorem own : ownKnob Tryd.prog.godebug = none := by kernel_rfl
theorem laidOut : laidOutB Tryd.prog = true := by kernel_rfl
theorem bonT {w0 w w1 : World} (h : Below w0.heap.size w0 w) (h1 : Below w.heap.size w w1) : Below w0.heap.size w0 w1 := h.trans (h1.mono h.size)
set_option maxRecDepth 100000 in
theorem implWordsT_c (s : ByteArray) (hs : s.size ≤ 1048576) (w : World) (hm : MaxInt w) :
    Calls Tryd.prog 18 #[.string s] w fun e w' => (∃ v, e = .returned v ∧ w'.ownsRow w.heap.size 9 1 v (cutS 32 s).length ((cutS 32 s).map Value.string)) ∧ Below w.heap.size w w' := by
  have HF := Lib.hid (splitText_c s 32 w hs hm)
  go_enter Tryd.func18, Tryd.ntmps18
  go_wp2_with (go_at_call 44; refine HF.out.mono ?_; rintro e w' ⟨g, rfl, hown, hb⟩)
  go_ret
  exact ⟨⟨_, rfl, hown⟩, hb⟩
theorem implLinesT_c (X : ByteArray) (hs : X.size ≤ 1000) (w : World) (hm : MaxInt w) :
    Calls Tryd.prog 19 #[.string (X ++ ⟨#[10]⟩)] w fun e w' => (∃ v, e = .returned (.tuple #[v, .bool true]) ∧ w'.ownsRow w.heap.size 9 1 v (cutS 10 X).length ((cutS 10 X).map Value.string)) ∧ Below w.heap.size w w' := by
  have h := implLines_c (X ++ ⟨#[10]⟩) (by rw [ByteArray.size_append]; show X.size + 1 ≤ _; omega) w hm
  rw [lines_of hs] at h
  exact h
theorem strCell {w : World} {A : Option Addr} {zs : List ByteArray} {j : Nat} {z : ByteArray} (h : Row w w.heap.size A (zs.map Value.string)) (hj : zs[j]? = some z) :
    ∃ b off, A = some ⟨b, off, none⟩ ∧ w.cell? ⟨b, off + j, none⟩ = some (.string z) := by
  have hl : j < (zs.map Value.string).length := by rw [List.length_map]; exact (List.getElem?_eq_some_iff.1 hj).1
  obtain ⟨b, off, e, hb, hc⟩ := h j hl
  exact ⟨b, off, e, by rw [hc, List.getElem?_map, hj]; rfl⟩

set_option maxRecDepth 100000 in
set_option maxHeartbeats 8000000 in
theorem walk (a0 : Option Addr) (len0 cap0 : Nat) (z0 : List Int) (a1 : Option Addr) (len1 cap1 : Nat) (z1 : List Int) (w : World) (hT : MaxInt w) (w0 : IsRow .u8 w a0 len0 cap0 z0) (w1 : IsRow .u8 w a1 len1 cap1 z1) :
    Calls Tryd.prog 4 #[.slice a0 len0 cap0, .slice a1 len1 cap1] w fun e w' => e = .returned (.bool true) ∧ Below w.heap.size w w' := by
  obtain ⟨hrow0, hlen0, hwf0⟩ := w0.row
  obtain ⟨hrow1, hlen1, hwf1⟩ := w1.row
  obtain ⟨bs0, hbs0, hb0⟩ := bytes_of hwf0
  rw [hbs0] at hrow0 hlen0
  rw [List.map_map] at hrow0
  rw [List.length_map] at hlen0
  change Row w w.heap.size a0 (bs0.map bc) at hrow0
  clear hbs0 w0 w1 hwf0 hwf1 hrow1
  by_cases hl0 : (48 : Int) < len0
  · go_enter Tryd.func4, Tryd.ntmps4
    go_wp2
    go_ret
    exact ⟨rfl, Below.refl _ _⟩
  by_cases hl1 : (48 : Int) < len1
  · go_enter Tryd.func4, Tryd.ntmps4
    go_wp2
    go_ret
    exact ⟨rfl, Below.refl _ _⟩
  have HR0 := Lib.hid hrow0
  have HB0 := Lib.hid hb0
  have HT := Lib.hid hT
  clear hrow0 hb0 hT
  go_enter Tryd.func4, Tryd.ntmps4
  go_wp2_with (first | (go_at_call 6; go_in))
  refine (R8Bytes_c a0 len0 cap0 bs0 w HR0.out hlen0 HB0.out (by omega)).mono ?_
  rintro e v1 ⟨s, rfl, hs, hb1⟩
  have HT1 := Lib.hid (maxInt_below HT.out hb1)
  have HW1 := Lib.hid hb1
  clear hb1 HT HR0 HB0
  go_wp2_with fail
  refine (hexOf_c s v1 (by omega)).mono ?_
  rintro e v2 ⟨rfl, hb2⟩
  obtain ⟨hok, hrd⟩ := hex_backT s
  have hsz : (bstr (hexL s.data.toList)).size = 2 * s.size := by rw [bstr_size, hexL_len, bytes_len]
  obtain ⟨h, hh⟩ : ∃ h, bstr (hexL s.data.toList) = h := ⟨_, rfl⟩
  rw [hh] at hok hrd hsz ⊢
  have HOK := Lib.hid hok
  have HRD := Lib.hid hrd
  have HT2 := Lib.hid (maxInt_below HT1.out hb2)
  have HW2 := Lib.hid (bonT HW1.out hb2)
  clear hok hrd hb2 HT1 HW1 hh
  go_wp2_with fail
  refine (readHex_c h v2 (by omega) (by omega)).mono ?_
  rintro e v3 ⟨he, hb3⟩
  obtain rfl : e = .returned (.tuple #[.string s, .bool true]) := by rw [he, HOK.out, HRD.out]
  have HT3 := Lib.hid (maxInt_below HT2.out hb3)
  have HW3 := Lib.hid (bonT HW2.out hb3)
  clear he hb3 HT2 HW2 HOK HRD
  go_wp2_with fail
  refine (implWordsT_c s (by omega) v3 HT3.out).mono ?_
  rintro e v4 ⟨⟨v, rfl, hown⟩, hb4⟩
  obtain ⟨A, c, rfl, hrow⟩ := own_slice hown
  have hnl := cutS_len 32 s
  have HP := Lib.hid (cutS_part 32 s)
  have HC := Lib.hid (fun W (h : Below v4.heap.size v4 W) (k : Nat) (p : ByteArray) (hp : (cutS 32 s)[k]? = some p) => strCell ((hrow.below h (Nat.le_refl _)).more h.size) hp)
  have HE := Lib.hid (fun k (hk : (cutS 32 s).length ≤ k) => lineK_end hk)
  have HL0 := Lib.hid (fun p (hp : (cutS 32 s)[0]? = some p) => lineK_first hp)
  have HL1 := Lib.hid (fun k p (hk : 0 < k) (hp : (cutS 32 s)[k]? = some p) => lineK_next hk hp)
  have HFR := Lib.hid (fun k (p : ByteArray) j (hp : (cutS 32 s)[k]? = some p) (hj : j < p.size) => word_free hp hj)
  have HGET := Lib.hid (fun k (hk : k < (cutS 32 s).length) => show ∃ p, (cutS 32 s)[k]? = some p from ⟨_, List.getElem?_eq_getElem hk⟩)
  generalize cutS 32 s = zs at *
  obtain ⟨n, hn⟩ : ∃ n, zs.length = n := ⟨_, rfl⟩
  rw [hn] at hnl HE HGET ⊢
  obtain ⟨hn0, hn1⟩ := hnl
  have HT4 := Lib.hid (maxInt_below HT3.out hb4)
  have HW4 := Lib.hid (bonT HW3.out hb4)
  clear hb4 HT3 HW3 hown hrow hn
  go_wp2_with fail
  go_loopw [11, 12, 13] (fun L i _ wr => ∃ (k : Nat) (X : ByteArray), L = .string X ∧ i = .int .i64 k ∧ k ≤ n ∧ Hid (lineK s k = X) ∧ X.size ≤ 40 * k ∧ Hid (Below v4.heap.size v4 wr)) (fun _ i _ _ => (n - intOf i).toNat)
  case atStart => exact ⟨0, _, rfl, rfl, Nat.zero_le _, lineK_zero s, Nat.zero_le _, Lib.hid (Below.refl _ _)⟩
  case round =>
    rename World => wr
    obtain ⟨k, X, rfl, rfl, hk, hX, hXs, HB⟩ := hrel
    by_cases hlt : k < n
    · have i3 : (k : Int) < (n : Int) := by omega
      obtain ⟨p, hp⟩ := HGET.out k hlt
      have hps := HP.out p (List.mem_of_getElem? hp)
      have HPC := Lib.hid (fun W hW => HC.out W hW k p hp)
      have HPF := Lib.hid (fun j (hj : j < p.size) => HFR.out k p j hp hj)
      have HNX : Hid (lineK s (k + 1) = if 0 < k then X ++ ⟨#[32]⟩ ++ p else X ++ p) := by
        show _ = _
        by_cases h0 : 0 < k
        · rw [if_pos h0, ← hX.out]; exact HL1.out k p h0 hp
        · obtain rfl : k = 0 := by omega
          rw [if_neg h0, ← hX.out]; exact HL0.out p hp
      clear hp hX
      obtain ⟨b, off, rfl, hc⟩ := HPC.out wr HB.out
      by_cases h0 : 0 < k
      · rw [if_pos h0] at HNX
        have i4 : (0 : Int) < (k : Int) := by omega
        have HB2 := HB
        obtain ⟨Y, hY⟩ : ∃ Y, X ++ ⟨#[32]⟩ ++ p = Y := ⟨_, rfl⟩
        have hYs : Y.size ≤ 40 * (k + 1) := by rw [← hY, ByteArray.size_append, ByteArray.size_append, show (⟨#[32]⟩ : ByteArray).size = 1 from rfl]; omega
        rw [hY] at HNX
        have HY := Lib.hid hY
        clear hY
        go_wp2_with fail
        rw [HY.out]
        go_loopw [13] (fun q wr2 => ∃ j : Nat, q = .int .i64 j ∧ j ≤ p.size ∧ Hid (Below v4.heap.size v4 wr2)) (fun q _ => (p.size - intOf q).toNat)
        case atStart => exact ⟨0, rfl, Nat.zero_le _, HB2⟩
        case round =>
          clear HB2
          rename World => wr2
          obtain ⟨j, rfl, hj, HB3⟩ := hrel
          obtain ⟨b2, off2, e2, hc2⟩ := HPC.out wr2 HB3.out
          obtain ⟨rfl, rfl⟩ : b = b2 ∧ off = off2 := by simpa using e2
          clear e2
          by_cases hjl : j < p.size
          · have i5 : (j : Int) < (p.size : Int) := by omega
            have hf := HPF.out j hjl
            have e5 : ((p[j].toNat : Int) == 32) = false := beq_eq_false_iff_ne.2 hf
            go_wp2_with fail
            go_roundw
            case rel => exact ⟨j + 1, by go_num, by omega, HB3⟩
            case measure => simp [intOf]; omega
          · obtain rfl : j = p.size := by omega
            have i5 : ¬ (p.size : Int) < (p.size : Int) := by omega
            go_wp2_with fail
            go_roundw
            case rel => exact ⟨k + 1, Y, rfl, by go_num, by omega, HNX, by omega, HB3⟩
            case measure => simp [intOf]; omega
      · rw [if_neg h0] at HNX
        have i4 : ¬ (0 : Int) < (k : Int) := by omega
        have HB2 := HB
        obtain ⟨Y, hY⟩ : ∃ Y, X ++ p = Y := ⟨_, rfl⟩
        have hYs : Y.size ≤ 40 * (k + 1) := by rw [← hY, ByteArray.size_append]; omega
        rw [hY] at HNX
        have HY := Lib.hid hY
        clear hY
        go_wp2_with fail
        rw [HY.out]
        go_loopw [13] (fun q wr2 => ∃ j : Nat, q = .int .i64 j ∧ j ≤ p.size ∧ Hid (Below v4.heap.size v4 wr2)) (fun q _ => (p.size - intOf q).toNat)
        case atStart => exact ⟨0, rfl, Nat.zero_le _, HB2⟩
        case round =>
          clear HB2
          rename World => wr2
          obtain ⟨j, rfl, hj, HB3⟩ := hrel
          obtain ⟨b2, off2, e2, hc2⟩ := HPC.out wr2 HB3.out
          obtain ⟨rfl, rfl⟩ : b = b2 ∧ off = off2 := by simpa using e2
          clear e2
          by_cases hjl : j < p.size
          · have i5 : (j : Int) < (p.size : Int) := by omega
            have hf := HPF.out j hjl
            have e5 : ((p[j].toNat : Int) == 32) = false := beq_eq_false_iff_ne.2 hf
            go_wp2_with fail
            go_roundw
            case rel => exact ⟨j + 1, by go_num, by omega, HB3⟩
            case measure => simp [intOf]; omega
          · obtain rfl : j = p.size := by omega
            have i5 : ¬ (p.size : Int) < (p.size : Int) := by omega
            go_wp2_with fail
            go_roundw
            case rel => exact ⟨k + 1, Y, rfl, by go_num, by omega, HNX, by omega, HB3⟩
            case measure => simp [intOf]; omega
    · obtain rfl : k = n := by omega
      have i3 : ¬ (k : Int) < (k : Int) := by omega
      obtain rfl : X = s := by rw [← hX.out]; exact HE.out k (Nat.le_refl _)
      go_wp2_with fail
      have hx1 : (X ++ ⟨#[10]⟩ : ByteArray).size = X.size + 1 := by rw [ByteArray.size_append]; rfl
      have HW5 := Lib.hid (bonT HW4.out HB.out)
      have HCH := Lib.hid (chk_in (s := X) (by omega))
      have HM := Lib.hid (maxInt_below HT4.out HB.out)
      clear HC HFR HGET hn0 hk hlt HP HL0 HL1 hX HE hn1 i3 HT4 HW4 hXs HB
      refine (implLinesT_c X (by omega) wr HM.out).mono ?_
      rintro e v5 ⟨⟨v, rfl, hown⟩, hb5⟩
      obtain ⟨A5, c5, rfl, hrow⟩ := own_slice hown
      have hnl := (cutS_len 10 X).2
      have HC := Lib.hid (fun W (h : Below v5.heap.size v5 W) (k : Nat) (p : ByteArray) (hp : (cutS 10 X)[k]? = some p) => strCell ((hrow.below h (Nat.le_refl _)).more h.size) hp)
      have HP := Lib.hid (cutS_part 10 X)
      have HE := Lib.hid (fun k (hk : (cutS 10 X).length ≤ k) => textK_end hk)
      have HL1 := Lib.hid (fun k p (hp : (cutS 10 X)[k]? = some p) => textK_next hp)
      have HGET := Lib.hid (fun k (hk : k < (cutS 10 X).length) => show ∃ p, (cutS 10 X)[k]? = some p from ⟨_, List.getElem?_eq_getElem hk⟩)
      generalize cutS 10 X = ls at *
      obtain ⟨m, hm⟩ : ∃ m, ls.length = m := ⟨_, rfl⟩
      rw [hm] at hnl HE HGET ⊢
      have HW6 := Lib.hid (bonT HW5.out hb5)
      clear hb5 HW5 hown hrow hm HM
      go_wp2_with fail
      go_loopw [16, 17] (fun L i wr3 => ∃ (k : Nat) (Z : ByteArray), L = .string Z ∧ i = .int .i64 k ∧ k ≤ m ∧ Hid (textK X k = Z) ∧ Z.size ≤ 40 * k ∧ Hid (Below v5.heap.size v5 wr3)) (fun _ i _ => (m - intOf i).toNat)
      case atStart => exact ⟨0, _, rfl, rfl, Nat.zero_le _, textK_zero X, Nat.zero_le _, Lib.hid (Below.refl _ _)⟩
      case round =>
        rename World => wr3
        obtain ⟨k2, Z, rfl, rfl, hk2, hZ, hZs, HB⟩ := hrel
        by_cases hlt : k2 < m
        · have i3 : (k2 : Int) < (m : Int) := by omega
          obtain ⟨p, hp⟩ := HGET.out k2 hlt
          have hps := HP.out p (List.mem_of_getElem? hp)
          have HNX : Hid (textK X (k2 + 1) = Z ++ (p ++ ⟨#[10]⟩)) := by show _ = _; rw [← hZ.out]; exact HL1.out k2 p hp
          obtain ⟨b, off, rfl, hc⟩ := HC.out wr3 HB.out k2 p hp
          obtain ⟨Y, hY⟩ : ∃ Y, Z ++ (p ++ ⟨#[10]⟩) = Y := ⟨_, rfl⟩
          have hp1 : (p ++ ⟨#[10]⟩ : ByteArray).size = p.size + 1 := by rw [ByteArray.size_append]; rfl
          have hYs : Y.size ≤ 40 * (k2 + 1) := by rw [← hY, ByteArray.size_append, hp1]; omega
          rw [hY] at HNX
          have HY := Lib.hid hY
          clear hY hp hZ
          go_wp2_with fail
          rw [HY.out]
          go_roundw
          case rel => exact ⟨k2 + 1, Y, rfl, by go_num, by omega, HNX, by omega, HB⟩
          case measure => simp [intOf]; omega
        · obtain rfl : k2 = m := by omega
          have i3 : ¬ (k2 : Int) < (k2 : Int) := by omega
          obtain rfl : Z = X ++ ⟨#[10]⟩ := by rw [← hZ.out]; exact HE.out k2 (Nat.le_refl _)
          have HW7 := Lib.hid (bonT HW6.out HB.out)
          clear HC HP HE HL1 HGET hZ HB hZs HW6 hk2 hlt
          go_wp2_with fail
          refine (checkOf_c X wr3 (by unfold maxLen; omega)).mono ?_
          rintro e w' ⟨rfl, rfl⟩
          obtain ⟨hc1, hc2⟩ := HCH.out
          generalize chkV X = q at hc1 hc2 ⊢
          have hc3 : (0 : Int) < (q : Int) := by omega
          have hc4 : (q : Int) < 4293001441 := by omega
          go_wp2_with fail
          go_ret
          exact ⟨rfl, HW7.out⟩

/-- The cells of a table. -/
def litCells : DataW Unit → List Value
  | .lit (.int k z) => [Value.int k z]
  | .lit (.bool b) => [Value.bool b]
  | .lit (.string l) => [Value.string ⟨l.toArray⟩]
  | _ => []
def tabCells : DataW Unit → List Value
  | .agg l => l.flatMap fun x => match x with
    | .agg r => r.flatMap litCells
    | x => litCells x
  | _ => []
/-- A world that meets the list. -/
noncomputable def laidWorld (os : Os) : World :=
  let w0 := World.holding Tryd.prog os ⟨#[], #[], []⟩
  let put (g : Nat) (d : DataW Unit) (h : Array Obj) : Array Obj := h.modify g fun
      | .cells _ t frozen => .cells (tabCells d).toArray t frozen
      | o => o
  { w0 with heap := put 3 (Rows.laid_unicode_utf8_first) (put 4 (Rows.laid_unicode_utf8_acceptRanges) w0.heap) }
theorem laidWorld_met (os : Os) (args : Array Value) : laidMetH Tryd.prog Rows.fnTextsRow.laid ((laidWorld os).forCall (fun _ _ => 0) ⟨#[], args, []⟩).memory :=
  laidMetH_of_parts (laidMet_of_run' 8 (by kernel_rfl) (by kernel_rfl)) (by kernel_rfl)

set_option maxRecDepth 100000 in
set_option maxHeartbeats 4000000 in
theorem lifted (os : Os) (started : os.Started) (H : Type) (enc : TypeId × Value → H) :
    ReturnsInHanded {} Tryd.checked os 4 .any (fun w args => (Rows.fnTextsSpec.pre enc Tryd.prog Tryd.f4 [] false w args ∧ laidMetH Tryd.prog Rows.fnTextsRow.laid w) ∧ sizedMet enc Tryd.prog Tryd.f4 (OpenSpec.ofChange Rows.fnTextsSpec) false w args) (Rows.fnTextsSpec.post enc Tryd.prog Tryd.f4 false true false false) := by
  refine returns_listed (C := Tryd.checked) (X := fun w => laidMetH Tryd.prog Rows.fnTextsRow.laid w) (fun _ _ hh h => h.of_heap hh) own started (by kernel_rfl) Tryd.func4
    (ChangeSpec.witness_at (enc := enc) (C := Tryd.checked) (os := os) (X := fun w _ => laidMetH Tryd.prog Rows.fnTextsRow.laid w) false (laidWorld os) #[.slice none 0 0, .slice none 0 0] 8 rfl (by kernel_rfl) (by kernel_rfl) (by kernel_rfl) (by kernel_rfl) (by kernel_rfl) (laidWorld_met os _)) ?_
  intro W base args ds gs before hval0 hW hL hsh
  have hval : ∀ (j : Nat) t v, Tryd.f4.params[j]? = some t → args[j]? = some v → Value.okWide Tryd.prog W .any base t v := hval0
  have hW' := hW
  obtain ⟨p, q, hA0, hV, rfl, hfz, hnd⟩ := hW
  have hA : DataW.TrodAll enc Tryd.prog W 0 (fun _ => true) true Tryd.f4.params.toList args.toList ds p := hA0
  rw [Tryd.params4] at hA hval
  obtain ⟨v0, vs0, d0, ds0, p0, q0, hargs, rfl, rfl, g0, r0⟩ := trodAll_cons hA
  obtain ⟨v1, vs1, d1, ds1, p1, q1, rfl, rfl, rfl, g1, r1⟩ := trodAll_cons r0
  obtain ⟨rfl, rfl, rfl⟩ := trodAll_nil r1
  obtain rfl : args = #[v0, v1] := by cases args; simp_all
  obtain ⟨rfl, rfl⟩ := trodVars_none hV
  have k0 := g0
  have lt0 : ∀ x ∈ p0, x.block < W.heap.size := by obtain ⟨m, hm⟩ := k0; exact DataW.trod_lt m _ _ _ hm
  have k1 := g1
  have lt1 : ∀ x ∈ p1, x.block < W.heap.size := by obtain ⟨m, hm⟩ := k1; exact DataW.trod_lt m _ _ _ hm
  obtain ⟨a0, len0, cap0, rfl⟩ := okWide_slice Tryd.underlying22 (hval 0 22 v0 rfl rfl)
  obtain ⟨z0, w0⟩ : ∃ zs, IsRow .u8 W a0 len0 cap0 zs := by
    obtain ⟨fuel, hf⟩ := g0
    exact isRow_in Tryd.underlying22 Tryd.underlying5 (by kernel_rfl) hf (by simp [Value.cells])
  obtain ⟨a1, len1, cap1, rfl⟩ := okWide_slice Tryd.underlying22 (hval 1 22 v1 rfl rfl)
  obtain ⟨z1, w1⟩ : ∃ zs, IsRow .u8 W a1 len1 cap1 zs := by
    obtain ⟨fuel, hf⟩ := g1
    exact isRow_in Tryd.underlying22 Tryd.underlying5 (by kernel_rfl) hf (by simp [Value.cells])
  clear hA0 hval0
  simp only [List.append_nil] at hW'
  have hg := maxInt_of_shaped hsh
  refine (walk a0 len0 cap0 z0 a1 len1 cap1 z1 W hg w0 w1).mono fun e W' ⟨he, bel⟩ => ?_
  subst he
  exact ⟨_, rfl, _, _, _, [], _, [], hW', trodAll_mk1 (shut_bool Tryd.underlying4 _), (trodAll_cons_mk (Below.trod laidOut (by kernel_rfl) (of_decide_eq_true (by kernel_rfl)) k0 bel lt0) (trodAll_cons_mk (Below.trod laidOut (by kernel_rfl) (of_decide_eq_true (by kernel_rfl)) k1 bel lt1) trodAll_mk0)), rfl, bel.frame _, fun h => by cases h⟩

theorem said : Rows.FnTextsSaid :=
  OpenClaim.holds_of_wide 4 Tryd.f4 rfl rfl rfl rfl rfl rfl rfl ⟨rfl, rfl, rfl, rfl, rfl⟩ rfl rfl rfl rfl rfl (by kernel_rfl) Tryd.func4 (by kernel_rfl)
    (of_decide_eq_true (by kernel_rfl)) (by unfold Func.isWrapper; first | (rw [if_pos (by decide +kernel)]; kernel_rfl) | (rw [if_neg (by decide +kernel)]; exact ⟨rfl, rfl⟩))
    (fun os started H enc _ => lifted os started H enc)

/-- No parameter wants a stand-in; the program's own looks are as told: what the card asks. -/
theorem plain (f : FuncId) (fn : Func) (hf : Tryd.pinned.checked.prog.funcNamed "loop.example/g01105/laws.FnTexts" = some f) (hfn : Tryd.pinned.checked.prog.funcs[f]? = some fn) :
    true = Tryd.pinned.checked.prog.looks [] ∧ ∀ (j : Nat) t, fn.params[j]? = some t → Tryd.pinned.checked.prog.wantsStandIn t = false := by
  obtain rfl : f = 4 := Option.some.inj ((show Tryd.prog.funcNamed "loop.example/g01105/laws.FnTexts" = some 4 by kernel_rfl).symm.trans hf) |>.symm
  obtain rfl : fn = Tryd.f4 := (Option.some.inj (Tryd.func4.symm.trans hfn)).symm
  refine ⟨by kernel_rfl, fun j t ht => ?_⟩
  rw [Tryd.params4] at ht
  have hm : t = 22 := by simpa using Array.mem_of_getElem? ht
  subst hm
  exact (show Tryd.prog.wantsStandIn 22 = false by kernel_rfl)

/-- The card. -/
theorem proved : Rows.FnTextsCardSaid :=
  Claim7.holds_tied_plain_at .later [] _ _ _ _ said (fun _ h => by cases h) (by kernel_rfl) (fun _ h => by cases h) fnTexts_row_tie rfl ⟨rfl, rfl⟩ (by kernel_rfl) rfl plain (by kernel_rfl)
#print axioms proved
end Go.Proofs.YtffkdidgfeknkaaDoor.fnTexts
