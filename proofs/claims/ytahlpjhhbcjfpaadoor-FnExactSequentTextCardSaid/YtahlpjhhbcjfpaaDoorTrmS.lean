/-
  The text of a term, in the model. Conditions: at most 10 coefficients. (printed by gen_trms.py)
-/
import Derived.Test.YtahlpjhhbcjfpaaDoorTrmP
import Derived.Test.YtahlpjhhbcjfpaaDoorValid
import Derived.Test.YtahlpjhhbcjfpaaDoorBlk
namespace Go.Proofs.YtahlpjhhbcjfpaaDoor
set_option linter.unusedVariables false
set_option linter.unusedSimpArgs false
open Go.RowKit

theorem name_ne (k : UInt8) : ¬ (⟨#[k]⟩ : ByteArray) = ⟨#[]⟩ := fun h => by
  have := congrArg ByteArray.size h
  simp [ByteArray.size] at this
theorem bneB {a b : ByteArray} (h : ¬ a = b) : (a == b) = false := by
  obtain ⟨a⟩ := a
  obtain ⟨b⟩ := b
  have h1 : ¬ a = b := fun e => h (congrArg ByteArray.mk e)
  show (a == b) = false
  simpa using h1
theorem strL_te {l : List UInt8} (h : l ≠ []) : (strL l).toList.isEmpty = false := by
  rw [Go.ByteArray.toList_eq, strL_toList]
  cases l with
  | nil => exact absurd rfl h
  | cons x l => rfl
theorem strL_one (x : UInt8) : strL [x] = ⟨#[x]⟩ := rfl
theorem strL_nil : strL [] = ⟨#[]⟩ := rfl
set_option maxRecDepth 100000 in
set_option maxHeartbeats 20000000 in
theorem l02Text_c (b o : Nat) (c0 : Int) (A : Option Addr) (n c B : Nat) (zs : List Int) (w : World) (hc0 : w.cell? ⟨b, o, none⟩ = some (.int .i64 c0)) (hc1 : w.cell? ⟨b, o + 1, none⟩ = some (.slice A n c))
    (h : InL w B A n zs) (hB : B ≤ w.heap.size) (hv : tmB (c0, zs) = true) (hn : n ≤ 10) :
    Calls Tryd.prog 63 #[.pointer (some ⟨b, o, none⟩)] w fun e w' => e = .returned (.string (strL (termL (c0, zs)))) ∧ Below w.heap.size w w' := by
  have hlen := Lib.hid h.1
  have HV := Lib.hid hv
  have hl10 : ((c0, zs) : Int × List Int).2.length ≤ 10 := by show zs.length ≤ 10; rw [hlen.out]; exact hn
  clear hv
  go_enter Tryd.func63, Tryd.ntmps63
  go_wp2_with fail
  go_loopw [3, 4, 5, 6] (fun s i _ _ wr => ∃ (k : Nat) (T : ByteArray), k ≤ n + 1 ∧ i = .int .i64 k ∧ s = .string T ∧ Hid (T = strL (trimL (sumL (accP (c0, zs) k)))) ∧ Below w.heap.size w wr) (fun _ i _ _ _ => n + 1 - (intOf i).toNat)
  case atStart => exact ⟨0, ⟨#[]⟩, Nat.zero_le _, rfl, rfl, rfl, Below.refl _ _⟩
  case round =>
    obtain ⟨k, T, hk, rfl, rfl, hT, hbel⟩ := hrel
    have d0 := cell_next hc0 hbel
    have d1 := cell_next hc1 hbel
    have hTs := acc_short HV.out hl10 k
    rw [← strL_size, ← hT.out] at hTs
    by_cases hle : k ≤ n
    · have i0 : (k : Int) ≤ (n : Int) := by omega
      by_cases hlt : k < n
      · obtain ⟨b', off, v, rfl, hb', hx, hcx⟩ := (h.next hbel hB).2.int_at (k := k) (by rw [hlen.out]; exact hlt)
        have hgd : (zs.getD k 0) = v := by rw [List.getD_eq_getElem?_getD, hx]; rfl
        have hstep := accP_coeff (t := (c0, zs)) (k := k) (by show k < zs.length; rw [hlen.out]; exact hlt)
        have hVL : -1000000 ≤ v ∧ v ≤ 1000000 := (tmB_parts HV.out).2.2.1 v (List.mem_of_getElem? hx)
        have i1 : (k : Int) < (n : Int) := by omega
        have hcv := digit_str wr (97 + (k : Int)) (97 + k) (by omega)
        have wu : IntKind.u8.wrap (97 + (k : Int)) = 97 + (k : Int) := IntWalk.u8_in _ (by omega)
        have hbN := hbel.alloc (hbel.size) (.cells #[.int .u8 (97 + (k : Int))] 5)
        by_cases hvz : v = 0
        · subst hvz
          have HS : Hid (T = strL (trimL (sumL (accP (c0, zs) (k + 1))))) := by show _ = _; rw [hstep, hgd, if_pos rfl, List.append_nil]; exact hT.out
          clear hT hstep hlen
          go_wp2_with fail
          go_roundw
          case rel => exact ⟨k + 1, _, by omega, by go_num, rfl, HS, hbN⟩
          case measure => simp [intOf]; omega
        rw [hgd, if_neg hvz] at hstep
        clear hx
        have hvL1 := hVL.1
        have hvL2 := hVL.2
        by_cases hv0 : v < 0
        · by_cases hone : v.natAbs = 1
          · have HS : Hid (T ++ ⟨#[45]⟩ ++ ⟨#[97 + UInt8.ofNat k]⟩ = strL (trimL (sumL (accP (c0, zs) (k + 1))))) := by
              show _ = _
              rw [hstep, hT.out]
              by_cases hemp : accP (c0, zs) k = []
              · rw [hemp, trim_first]
                show _ = strL ((if v < 0 then [45] else []) ++ bodyL (k : Int) v)
                rw [if_pos hv0, bodyL, if_neg (show ¬ (k : Int) = -1 by omega), if_pos hone, Int.toNat_natCast, UInt8.ofNat_add 97 k]
                apply ByteArray.ext; simp [strL, ByteArray.data_append, sumL, trimL]
              · rw [trim_more hemp, partL, sgnL]
                show _ = strL (trimL (sumL (accP (c0, zs) k)) ++ (if v < 0 then 45 else 43) :: bodyL (k : Int) v)
                rw [if_pos hv0, bodyL, if_neg (show ¬ (k : Int) = -1 by omega), if_pos hone, Int.toNat_natCast, UInt8.ofNat_add 97 k]
                apply ByteArray.ext; simp [strL, ByteArray.data_append]
            have z1 : ¬ 9223372036854775807 < T.size + 1 := by omega
            have z3 : ¬ 9223372036854775807 < T.size + 1 + 1 := by omega
            have n1 : ((⟨#[97 + UInt8.ofNat k]⟩ : ByteArray) == ⟨#[]⟩) = false := bneB (name_ne _)
            have n2 : ¬ (⟨#[97 + UInt8.ofNat k]⟩ : ByteArray) = ⟨#[]⟩ := name_ne _
            have wn : IntKind.i64.wrap (-v) = -v := IntWalk.i64_in _ (by omega)
            have o1 : (-v) = 1 := by omega
            clear hT hstep hVL hlen hone
            have hv1 : v ≠ 0 := by omega
            go_wp2_with fail
            go_roundw
            case rel => exact ⟨k + 1, _, by omega, by go_num, rfl, HS, hbN⟩
            case measure => simp [intOf]; omega
          · have HS : Hid (T ++ ⟨#[45]⟩ ++ strL (digL v) ++ ⟨#[97 + UInt8.ofNat k]⟩ = strL (trimL (sumL (accP (c0, zs) (k + 1))))) := by
              show _ = _
              rw [hstep, hT.out]
              by_cases hemp : accP (c0, zs) k = []
              · rw [hemp, trim_first]
                show _ = strL ((if v < 0 then [45] else []) ++ bodyL (k : Int) v)
                rw [if_pos hv0, bodyL, if_neg (show ¬ (k : Int) = -1 by omega), if_neg hone, Int.toNat_natCast, UInt8.ofNat_add 97 k]
                apply ByteArray.ext; simp [strL, ByteArray.data_append, sumL, trimL]
              · rw [trim_more hemp, partL, sgnL]
                show _ = strL (trimL (sumL (accP (c0, zs) k)) ++ (if v < 0 then 45 else 43) :: bodyL (k : Int) v)
                rw [if_pos hv0, bodyL, if_neg (show ¬ (k : Int) = -1 by omega), if_neg hone, Int.toNat_natCast, UInt8.ofNat_add 97 k]
                apply ByteArray.ext; simp [strL, ByteArray.data_append]
            have HD : Hid (∀ W : World, Calls Tryd.prog 101 #[.int .i64 (-v)] W fun e w' => e = .returned (.string (strL (digL v))) ∧ Below W.heap.size W w') := fun W => by
              have hd := l01Dec_c (-v) (by omega) (by omega) W
              rw [show Lib.itoa (-v) = digL v from congrArg Lib.itoa (by omega)] at hd
              exact hd
            have z1 : ¬ 9223372036854775807 < T.size + 1 := by omega
            have hds : (strL (digL v)).size ≤ 21 := by rw [strL_size]; exact Lib.itoa_length_le _ (by omega) (by omega)
            have z2 : ¬ 9223372036854775807 < T.size + 1 + (strL (digL v)).size := by omega
            have z3 : ¬ 9223372036854775807 < T.size + 1 + (strL (digL v)).size + 1 := by omega
            have n1 : ((⟨#[97 + UInt8.ofNat k]⟩ : ByteArray) == ⟨#[]⟩) = false := bneB (name_ne _)
            have n2 : ¬ (⟨#[97 + UInt8.ofNat k]⟩ : ByteArray) = ⟨#[]⟩ := name_ne _
            have wn : IntKind.i64.wrap (-v) = -v := IntWalk.i64_in _ (by omega)
            have o1 : ¬ (-v) = 1 := by omega
            clear hT hstep hVL hlen hone
            have hv1 : v ≠ 0 := by omega
            go_wp2_with fail
            refine (HD.out _).mono ?_
            rintro e w2 ⟨rfl, hb2⟩
            go_wp2_with fail
            go_roundw
            case rel => exact ⟨k + 1, _, by omega, by go_num, rfl, HS, bon hbN hb2⟩
            case measure => simp [intOf]; omega
        · by_cases hemp : accP (c0, zs) k = []
          · by_cases hone : v.natAbs = 1
            · have HS : Hid ((⟨#[]⟩ : ByteArray) ++ ⟨#[97 + UInt8.ofNat k]⟩ = strL (trimL (sumL (accP (c0, zs) (k + 1))))) := by
                show _ = _
                rw [hstep]
                rw [hemp, trim_first]
                show _ = strL ((if v < 0 then [45] else []) ++ bodyL (k : Int) v)
                rw [if_neg (show ¬ v < 0 by omega), bodyL, if_neg (show ¬ (k : Int) = -1 by omega), if_pos hone, Int.toNat_natCast, UInt8.ofNat_add 97 k]
                apply ByteArray.ext; simp [strL, ByteArray.data_append, sumL, trimL]
              have z3 : ¬ 9223372036854775807 < 0 + 1 := by omega
              have t1 : (T == (⟨#[]⟩ : ByteArray)) = true := by rw [hT.out, hemp]; rfl
              have t2 : (T != (⟨#[]⟩ : ByteArray)) = false := by unfold bne; rw [t1]; rfl
              have t3 : T = ⟨#[]⟩ := by rw [hT.out, hemp]; rfl
              have n1 : ((⟨#[97 + UInt8.ofNat k]⟩ : ByteArray) == ⟨#[]⟩) = false := bneB (name_ne _)
              have n2 : ¬ (⟨#[97 + UInt8.ofNat k]⟩ : ByteArray) = ⟨#[]⟩ := name_ne _
              have o1 : (v) = 1 := by omega
              clear hT hstep hVL hlen hemp hone
              go_wp2_with fail
              go_roundw
              case rel => exact ⟨k + 1, _, by omega, by go_num, rfl, HS, hbN⟩
              case measure => simp [intOf]; omega
            · have HS : Hid ((⟨#[]⟩ : ByteArray) ++ strL (digL v) ++ ⟨#[97 + UInt8.ofNat k]⟩ = strL (trimL (sumL (accP (c0, zs) (k + 1))))) := by
                show _ = _
                rw [hstep]
                rw [hemp, trim_first]
                show _ = strL ((if v < 0 then [45] else []) ++ bodyL (k : Int) v)
                rw [if_neg (show ¬ v < 0 by omega), bodyL, if_neg (show ¬ (k : Int) = -1 by omega), if_neg hone, Int.toNat_natCast, UInt8.ofNat_add 97 k]
                apply ByteArray.ext; simp [strL, ByteArray.data_append, sumL, trimL]
              have HD : Hid (∀ W : World, Calls Tryd.prog 101 #[.int .i64 (v)] W fun e w' => e = .returned (.string (strL (digL v))) ∧ Below W.heap.size W w') := fun W => by
                have hd := l01Dec_c (v) (by omega) (by omega) W
                rw [show Lib.itoa (v) = digL v from congrArg Lib.itoa (by omega)] at hd
                exact hd
              have hds : (strL (digL v)).size ≤ 21 := by rw [strL_size]; exact Lib.itoa_length_le _ (by omega) (by omega)
              have z2 : ¬ 9223372036854775807 < 0 + (strL (digL v)).size := by omega
              have z3 : ¬ 9223372036854775807 < 0 + (strL (digL v)).size + 1 := by omega
              have z4 : ¬ 9223372036854775807 < (strL (digL v)).size := by omega
              have z5 : ¬ 9223372036854775807 < (strL (digL v)).size + 1 := by omega
              have t1 : (T == (⟨#[]⟩ : ByteArray)) = true := by rw [hT.out, hemp]; rfl
              have t2 : (T != (⟨#[]⟩ : ByteArray)) = false := by unfold bne; rw [t1]; rfl
              have t3 : T = ⟨#[]⟩ := by rw [hT.out, hemp]; rfl
              have n1 : ((⟨#[97 + UInt8.ofNat k]⟩ : ByteArray) == ⟨#[]⟩) = false := bneB (name_ne _)
              have n2 : ¬ (⟨#[97 + UInt8.ofNat k]⟩ : ByteArray) = ⟨#[]⟩ := name_ne _
              have o1 : ¬ (v) = 1 := by omega
              clear hT hstep hVL hlen hemp hone
              go_wp2_with fail
              refine (HD.out _).mono ?_
              rintro e w2 ⟨rfl, hb2⟩
              go_wp2_with fail
              go_roundw
              case rel => exact ⟨k + 1, _, by omega, by go_num, rfl, HS, bon hbN hb2⟩
              case measure => simp [intOf]; omega
          · by_cases hone : v.natAbs = 1
            · have HS : Hid (T ++ ⟨#[43]⟩ ++ ⟨#[97 + UInt8.ofNat k]⟩ = strL (trimL (sumL (accP (c0, zs) (k + 1))))) := by
                show _ = _
                rw [hstep, hT.out]
                rw [trim_more hemp, partL, sgnL]
                show _ = strL (trimL (sumL (accP (c0, zs) k)) ++ (if v < 0 then 45 else 43) :: bodyL (k : Int) v)
                rw [if_neg (show ¬ v < 0 by omega), bodyL, if_neg (show ¬ (k : Int) = -1 by omega), if_pos hone, Int.toNat_natCast, UInt8.ofNat_add 97 k]
                apply ByteArray.ext; simp [strL, ByteArray.data_append]
              have z1 : ¬ 9223372036854775807 < T.size + 1 := by omega
              have z3 : ¬ 9223372036854775807 < T.size + 1 + 1 := by omega
              have t1 : (T == (⟨#[]⟩ : ByteArray)) = false := bneB (by rw [hT.out]; exact strL_ne (trim_sum_ne hemp))
              have t2 : (T != (⟨#[]⟩ : ByteArray)) = true := by unfold bne; rw [t1]; rfl
              have t3 : ¬ T = ⟨#[]⟩ := by rw [hT.out]; exact strL_ne (trim_sum_ne hemp)
              have t4 : T.toList.isEmpty = false := by rw [hT.out]; exact strL_te (trim_sum_ne hemp)
              have n1 : ((⟨#[97 + UInt8.ofNat k]⟩ : ByteArray) == ⟨#[]⟩) = false := bneB (name_ne _)
              have n2 : ¬ (⟨#[97 + UInt8.ofNat k]⟩ : ByteArray) = ⟨#[]⟩ := name_ne _
              have o1 : (v) = 1 := by omega
              clear hT hstep hVL hlen hemp hone
              go_wp2_with fail
              go_roundw
              case rel => exact ⟨k + 1, _, by omega, by go_num, rfl, HS, hbN⟩
              case measure => simp [intOf]; omega
            · have HS : Hid (T ++ ⟨#[43]⟩ ++ strL (digL v) ++ ⟨#[97 + UInt8.ofNat k]⟩ = strL (trimL (sumL (accP (c0, zs) (k + 1))))) := by
                show _ = _
                rw [hstep, hT.out]
                rw [trim_more hemp, partL, sgnL]
                show _ = strL (trimL (sumL (accP (c0, zs) k)) ++ (if v < 0 then 45 else 43) :: bodyL (k : Int) v)
                rw [if_neg (show ¬ v < 0 by omega), bodyL, if_neg (show ¬ (k : Int) = -1 by omega), if_neg hone, Int.toNat_natCast, UInt8.ofNat_add 97 k]
                apply ByteArray.ext; simp [strL, ByteArray.data_append]
              have HD : Hid (∀ W : World, Calls Tryd.prog 101 #[.int .i64 (v)] W fun e w' => e = .returned (.string (strL (digL v))) ∧ Below W.heap.size W w') := fun W => by
                have hd := l01Dec_c (v) (by omega) (by omega) W
                rw [show Lib.itoa (v) = digL v from congrArg Lib.itoa (by omega)] at hd
                exact hd
              have z1 : ¬ 9223372036854775807 < T.size + 1 := by omega
              have hds : (strL (digL v)).size ≤ 21 := by rw [strL_size]; exact Lib.itoa_length_le _ (by omega) (by omega)
              have z2 : ¬ 9223372036854775807 < T.size + 1 + (strL (digL v)).size := by omega
              have z3 : ¬ 9223372036854775807 < T.size + 1 + (strL (digL v)).size + 1 := by omega
              have t1 : (T == (⟨#[]⟩ : ByteArray)) = false := bneB (by rw [hT.out]; exact strL_ne (trim_sum_ne hemp))
              have t2 : (T != (⟨#[]⟩ : ByteArray)) = true := by unfold bne; rw [t1]; rfl
              have t3 : ¬ T = ⟨#[]⟩ := by rw [hT.out]; exact strL_ne (trim_sum_ne hemp)
              have t4 : T.toList.isEmpty = false := by rw [hT.out]; exact strL_te (trim_sum_ne hemp)
              have n1 : ((⟨#[97 + UInt8.ofNat k]⟩ : ByteArray) == ⟨#[]⟩) = false := bneB (name_ne _)
              have n2 : ¬ (⟨#[97 + UInt8.ofNat k]⟩ : ByteArray) = ⟨#[]⟩ := name_ne _
              have o1 : ¬ (v) = 1 := by omega
              clear hT hstep hVL hlen hemp hone
              go_wp2_with fail
              refine (HD.out _).mono ?_
              rintro e w2 ⟨rfl, hb2⟩
              go_wp2_with fail
              go_roundw
              case rel => exact ⟨k + 1, _, by omega, by go_num, rfl, HS, bon hbN hb2⟩
              case measure => simp [intOf]; omega
      · have hkn : k = n := by omega
        have i1 : ¬ (k : Int) < (n : Int) := by omega
        have hstep := accP_const (c0, zs)
        have hzn : ((c0, zs) : Int × List Int).2.length = k := by show zs.length = k; rw [hlen.out, hkn]
        rw [hzn] at hstep
        have hVL : -1000000 ≤ c0 ∧ c0 ≤ 1000000 := (tmB_parts HV.out).2.1
        have hgd := hzn
        by_cases hvz : c0 = 0
        · have HS : Hid (T = strL (trimL (sumL (accP (c0, zs) (k + 1))))) := by show _ = _; rw [hstep, if_pos hvz, List.append_nil]; exact hT.out
          clear hT hstep hlen hgd
          rw [hvz] at d0
          go_wp2_with fail
          go_roundw
          case rel => exact ⟨k + 1, _, by omega, by go_num, rfl, HS, hbel⟩
          case measure => simp [intOf]; omega
        rw [if_neg hvz] at hstep
        have hvL1 := hVL.1
        have hvL2 := hVL.2
        by_cases hv0 : c0 < 0
        · by_cases hone : c0.natAbs = 1
          · have HS : Hid (T ++ ⟨#[45]⟩ ++ strL (digL c0) ++ ⟨#[]⟩ = strL (trimL (sumL (accP (c0, zs) (k + 1))))) := by
              show _ = _
              rw [hstep, hT.out]
              by_cases hemp : accP (c0, zs) k = []
              · rw [hemp, trim_first]
                show _ = strL ((if c0 < 0 then [45] else []) ++ bodyL (-1 : Int) c0)
                rw [if_pos hv0, bodyL, if_pos rfl]
                apply ByteArray.ext; simp [strL, ByteArray.data_append, sumL, trimL]
              · rw [trim_more hemp, partL, sgnL]
                show _ = strL (trimL (sumL (accP (c0, zs) k)) ++ (if c0 < 0 then 45 else 43) :: bodyL (-1 : Int) c0)
                rw [if_pos hv0, bodyL, if_pos rfl]
                apply ByteArray.ext; simp [strL, ByteArray.data_append]
            have HD : Hid (∀ W : World, Calls Tryd.prog 101 #[.int .i64 (1)] W fun e w' => e = .returned (.string (strL (digL c0))) ∧ Below W.heap.size W w') := fun W => by
              have hd := l01Dec_c (1) (by omega) (by omega) W
              rw [show Lib.itoa (1) = digL c0 from congrArg Lib.itoa (by omega)] at hd
              exact hd
            have z1 : ¬ 9223372036854775807 < T.size + 1 := by omega
            have hds : (strL (digL c0)).size ≤ 21 := by rw [strL_size]; exact Lib.itoa_length_le _ (by omega) (by omega)
            have z2 : ¬ 9223372036854775807 < T.size + 1 + (strL (digL c0)).size := by omega
            have wn : IntKind.i64.wrap (-c0) = -c0 := IntWalk.i64_in _ (by omega)
            have o1 : (-c0) = 1 := by omega
            clear hT hstep hVL hlen hone
            have hv1 : c0 ≠ 0 := by omega
            go_wp2_with fail
            refine (HD.out _).mono ?_
            rintro e w2 ⟨rfl, hb2⟩
            go_wp2_with fail
            go_roundw
            case rel => exact ⟨k + 1, _, by omega, by go_num, rfl, HS, bon hbel hb2⟩
            case measure => simp [intOf]; omega
          · have HS : Hid (T ++ ⟨#[45]⟩ ++ strL (digL c0) ++ ⟨#[]⟩ = strL (trimL (sumL (accP (c0, zs) (k + 1))))) := by
              show _ = _
              rw [hstep, hT.out]
              by_cases hemp : accP (c0, zs) k = []
              · rw [hemp, trim_first]
                show _ = strL ((if c0 < 0 then [45] else []) ++ bodyL (-1 : Int) c0)
                rw [if_pos hv0, bodyL, if_pos rfl]
                apply ByteArray.ext; simp [strL, ByteArray.data_append, sumL, trimL]
              · rw [trim_more hemp, partL, sgnL]
                show _ = strL (trimL (sumL (accP (c0, zs) k)) ++ (if c0 < 0 then 45 else 43) :: bodyL (-1 : Int) c0)
                rw [if_pos hv0, bodyL, if_pos rfl]
                apply ByteArray.ext; simp [strL, ByteArray.data_append]
            have HD : Hid (∀ W : World, Calls Tryd.prog 101 #[.int .i64 (-c0)] W fun e w' => e = .returned (.string (strL (digL c0))) ∧ Below W.heap.size W w') := fun W => by
              have hd := l01Dec_c (-c0) (by omega) (by omega) W
              rw [show Lib.itoa (-c0) = digL c0 from congrArg Lib.itoa (by omega)] at hd
              exact hd
            have z1 : ¬ 9223372036854775807 < T.size + 1 := by omega
            have hds : (strL (digL c0)).size ≤ 21 := by rw [strL_size]; exact Lib.itoa_length_le _ (by omega) (by omega)
            have z2 : ¬ 9223372036854775807 < T.size + 1 + (strL (digL c0)).size := by omega
            have wn : IntKind.i64.wrap (-c0) = -c0 := IntWalk.i64_in _ (by omega)
            have o1 : ¬ (-c0) = 1 := by omega
            clear hT hstep hVL hlen hone
            have hv1 : c0 ≠ 0 := by omega
            go_wp2_with fail
            refine (HD.out _).mono ?_
            rintro e w2 ⟨rfl, hb2⟩
            go_wp2_with fail
            go_roundw
            case rel => exact ⟨k + 1, _, by omega, by go_num, rfl, HS, bon hbel hb2⟩
            case measure => simp [intOf]; omega
        · by_cases hemp : accP (c0, zs) k = []
          · by_cases hone : c0.natAbs = 1
            · obtain rfl : c0 = 1 := by omega
              have HS : Hid ((⟨#[]⟩ : ByteArray) ++ strL (digL (1 : Int)) ++ ⟨#[]⟩ = strL (trimL (sumL (accP ((1 : Int), zs) (k + 1))))) := by
                show _ = _
                rw [hstep]
                rw [hemp, trim_first]
                show _ = strL ((if (1 : Int) < 0 then [45] else []) ++ bodyL (-1 : Int) (1 : Int))
                rw [if_neg (show ¬ (1 : Int) < 0 by omega), bodyL, if_pos rfl]
                apply ByteArray.ext; simp [strL, ByteArray.data_append, sumL, trimL]
              have HD : Hid (∀ W : World, Calls Tryd.prog 101 #[.int .i64 (1)] W fun e w' => e = .returned (.string (strL (digL (1 : Int)))) ∧ Below W.heap.size W w') := fun W => by
                have hd := l01Dec_c (1) (by omega) (by omega) W
                rw [show Lib.itoa (1) = digL (1 : Int) from congrArg Lib.itoa (by omega)] at hd
                exact hd
              have hds : (strL (digL (1 : Int))).size ≤ 21 := by rw [strL_size]; exact Lib.itoa_length_le _ (by omega) (by omega)
              have z2 : ¬ 9223372036854775807 < 0 + (strL (digL (1 : Int))).size := by omega
              have z4 : ¬ 9223372036854775807 < (strL (digL (1 : Int))).size := by omega
              have z5 : ¬ 9223372036854775807 < (strL (digL (1 : Int))).size + 1 := by omega
              have t1 : (T == (⟨#[]⟩ : ByteArray)) = true := by rw [hT.out, hemp]; rfl
              have t2 : (T != (⟨#[]⟩ : ByteArray)) = false := by unfold bne; rw [t1]; rfl
              have t3 : T = ⟨#[]⟩ := by rw [hT.out, hemp]; rfl
              clear hT hstep hVL hlen hemp hone
              go_wp2_with fail
              refine (HD.out _).mono ?_
              rintro e w2 ⟨rfl, hb2⟩
              go_wp2_with fail
              go_roundw
              case rel => exact ⟨k + 1, _, by omega, by go_num, rfl, HS, bon hbel hb2⟩
              case measure => simp [intOf]; omega
            · have HS : Hid ((⟨#[]⟩ : ByteArray) ++ strL (digL c0) ++ ⟨#[]⟩ = strL (trimL (sumL (accP (c0, zs) (k + 1))))) := by
                show _ = _
                rw [hstep]
                rw [hemp, trim_first]
                show _ = strL ((if c0 < 0 then [45] else []) ++ bodyL (-1 : Int) c0)
                rw [if_neg (show ¬ c0 < 0 by omega), bodyL, if_pos rfl]
                apply ByteArray.ext; simp [strL, ByteArray.data_append, sumL, trimL]
              have HD : Hid (∀ W : World, Calls Tryd.prog 101 #[.int .i64 (c0)] W fun e w' => e = .returned (.string (strL (digL c0))) ∧ Below W.heap.size W w') := fun W => by
                have hd := l01Dec_c (c0) (by omega) (by omega) W
                rw [show Lib.itoa (c0) = digL c0 from congrArg Lib.itoa (by omega)] at hd
                exact hd
              have hds : (strL (digL c0)).size ≤ 21 := by rw [strL_size]; exact Lib.itoa_length_le _ (by omega) (by omega)
              have z2 : ¬ 9223372036854775807 < 0 + (strL (digL c0)).size := by omega
              have z4 : ¬ 9223372036854775807 < (strL (digL c0)).size := by omega
              have z5 : ¬ 9223372036854775807 < (strL (digL c0)).size + 1 := by omega
              have t1 : (T == (⟨#[]⟩ : ByteArray)) = true := by rw [hT.out, hemp]; rfl
              have t2 : (T != (⟨#[]⟩ : ByteArray)) = false := by unfold bne; rw [t1]; rfl
              have t3 : T = ⟨#[]⟩ := by rw [hT.out, hemp]; rfl
              have o1 : ¬ (c0) = 1 := by omega
              clear hT hstep hVL hlen hemp hone
              go_wp2_with fail
              refine (HD.out _).mono ?_
              rintro e w2 ⟨rfl, hb2⟩
              go_wp2_with fail
              go_roundw
              case rel => exact ⟨k + 1, _, by omega, by go_num, rfl, HS, bon hbel hb2⟩
              case measure => simp [intOf]; omega
          · by_cases hone : c0.natAbs = 1
            · obtain rfl : c0 = 1 := by omega
              have HS : Hid (T ++ ⟨#[43]⟩ ++ strL (digL (1 : Int)) ++ ⟨#[]⟩ = strL (trimL (sumL (accP ((1 : Int), zs) (k + 1))))) := by
                show _ = _
                rw [hstep, hT.out]
                rw [trim_more hemp, partL, sgnL]
                show _ = strL (trimL (sumL (accP ((1 : Int), zs) k)) ++ (if (1 : Int) < 0 then 45 else 43) :: bodyL (-1 : Int) (1 : Int))
                rw [if_neg (show ¬ (1 : Int) < 0 by omega), bodyL, if_pos rfl]
                apply ByteArray.ext; simp [strL, ByteArray.data_append]
              have HD : Hid (∀ W : World, Calls Tryd.prog 101 #[.int .i64 (1)] W fun e w' => e = .returned (.string (strL (digL (1 : Int)))) ∧ Below W.heap.size W w') := fun W => by
                have hd := l01Dec_c (1) (by omega) (by omega) W
                rw [show Lib.itoa (1) = digL (1 : Int) from congrArg Lib.itoa (by omega)] at hd
                exact hd
              have z1 : ¬ 9223372036854775807 < T.size + 1 := by omega
              have hds : (strL (digL (1 : Int))).size ≤ 21 := by rw [strL_size]; exact Lib.itoa_length_le _ (by omega) (by omega)
              have z2 : ¬ 9223372036854775807 < T.size + 1 + (strL (digL (1 : Int))).size := by omega
              have t1 : (T == (⟨#[]⟩ : ByteArray)) = false := bneB (by rw [hT.out]; exact strL_ne (trim_sum_ne hemp))
              have t2 : (T != (⟨#[]⟩ : ByteArray)) = true := by unfold bne; rw [t1]; rfl
              have t3 : ¬ T = ⟨#[]⟩ := by rw [hT.out]; exact strL_ne (trim_sum_ne hemp)
              have t4 : T.toList.isEmpty = false := by rw [hT.out]; exact strL_te (trim_sum_ne hemp)
              clear hT hstep hVL hlen hemp hone
              go_wp2_with fail
              refine (HD.out _).mono ?_
              rintro e w2 ⟨rfl, hb2⟩
              go_wp2_with fail
              go_roundw
              case rel => exact ⟨k + 1, _, by omega, by go_num, rfl, HS, bon hbel hb2⟩
              case measure => simp [intOf]; omega
            · have HS : Hid (T ++ ⟨#[43]⟩ ++ strL (digL c0) ++ ⟨#[]⟩ = strL (trimL (sumL (accP (c0, zs) (k + 1))))) := by
                show _ = _
                rw [hstep, hT.out]
                rw [trim_more hemp, partL, sgnL]
                show _ = strL (trimL (sumL (accP (c0, zs) k)) ++ (if c0 < 0 then 45 else 43) :: bodyL (-1 : Int) c0)
                rw [if_neg (show ¬ c0 < 0 by omega), bodyL, if_pos rfl]
                apply ByteArray.ext; simp [strL, ByteArray.data_append]
              have HD : Hid (∀ W : World, Calls Tryd.prog 101 #[.int .i64 (c0)] W fun e w' => e = .returned (.string (strL (digL c0))) ∧ Below W.heap.size W w') := fun W => by
                have hd := l01Dec_c (c0) (by omega) (by omega) W
                rw [show Lib.itoa (c0) = digL c0 from congrArg Lib.itoa (by omega)] at hd
                exact hd
              have z1 : ¬ 9223372036854775807 < T.size + 1 := by omega
              have hds : (strL (digL c0)).size ≤ 21 := by rw [strL_size]; exact Lib.itoa_length_le _ (by omega) (by omega)
              have z2 : ¬ 9223372036854775807 < T.size + 1 + (strL (digL c0)).size := by omega
              have t1 : (T == (⟨#[]⟩ : ByteArray)) = false := bneB (by rw [hT.out]; exact strL_ne (trim_sum_ne hemp))
              have t2 : (T != (⟨#[]⟩ : ByteArray)) = true := by unfold bne; rw [t1]; rfl
              have t3 : ¬ T = ⟨#[]⟩ := by rw [hT.out]; exact strL_ne (trim_sum_ne hemp)
              have t4 : T.toList.isEmpty = false := by rw [hT.out]; exact strL_te (trim_sum_ne hemp)
              have o1 : ¬ (c0) = 1 := by omega
              clear hT hstep hVL hlen hemp hone
              go_wp2_with fail
              refine (HD.out _).mono ?_
              rintro e w2 ⟨rfl, hb2⟩
              go_wp2_with fail
              go_roundw
              case rel => exact ⟨k + 1, _, by omega, by go_num, rfl, HS, bon hbel hb2⟩
              case measure => simp [intOf]; omega
    · have i0 : ¬ (k : Int) ≤ (n : Int) := by omega
      have HE : Hid (T = strL (trimL (sumL (summ (c0, zs))))) := by show _ = _; rw [hT.out, accP_end (by show zs.length < k; rw [hlen.out]; omega)]
      by_cases he : trimL (sumL (summ (c0, zs))) = []
      · have HT : Hid (termL (c0, zs) = [48]) := by show _ = _; rw [termL_is, if_pos he]
        have t1 : T = ⟨#[]⟩ := by rw [HE.out, he]; rfl
        clear hT HE he hlen
        go_wp2_with fail
        go_ret
        exact ⟨congrArg (fun s => Ending.returned (Value.string s)) (show (⟨#[48]⟩ : ByteArray) = strL (termL (c0, zs)) from by rw [HT.out]; rfl), hbel⟩
      · have HT : Hid (termL (c0, zs) = trimL (sumL (summ (c0, zs)))) := by show _ = _; rw [termL_is, if_neg he]
        have t1 : ¬ T = ⟨#[]⟩ := by rw [HE.out]; exact strL_ne he
        have t4 : T.toList.isEmpty = false := by rw [HE.out]; exact strL_te he
        clear hT he hlen
        go_wp2_with fail
        go_ret
        exact ⟨congrArg (fun s => Ending.returned (Value.string s)) (show T = strL (termL (c0, zs)) from by rw [HT.out, ← HE.out]), hbel⟩
end Go.Proofs.YtahlpjhhbcjfpaaDoor
