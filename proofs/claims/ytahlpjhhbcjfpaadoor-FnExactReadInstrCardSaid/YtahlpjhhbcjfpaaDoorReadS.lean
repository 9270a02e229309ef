import Derived.Test.YtahlpjhhbcjfpaaDoorReadD
namespace Go.Proofs.YtahlpjhhbcjfpaaDoor
open Go.RowKit
theorem text_eq {n : Int} {s : ByteArray} : (Lib.itoa n == s.toList) = true ↔ Lib.itoa n = s.data.toList := by
  rw [beq_iff_eq, Lib.toList_data]
set_option maxRecDepth 100000 in
set_option maxHeartbeats 1000000 in
theorem readDecimal_c (s : ByteArray) (hs : s.size ≤ 281474976710656) (w : World) (htab : Lib.TabIs Tryd.prog w "internal/strconv.uint64pow10" .u64 Lib.pow10Tab)
    (h1 : ∃ tp p, w.var? Tryd.prog "strconv.ErrSyntax" = some #[.iface tp p]) (h2 : ∃ tp p, w.var? Tryd.prog "strconv.ErrRange" = some #[.iface tp p]) :
    Calls Tryd.prog 54 #[.string s] w fun e w' => e = rdR (rd s.data.toList) ∧ Below w.heap.size w w' := by
  by_cases hok : ∃ v, Lib.parseIntB 64 s.data.toList = .ok v
  · obtain ⟨v, hv⟩ := hok
    have hrd := rd_parse hv
    have HP := Lib.hid (parseInt_ok s hs v hv)
    have HT := Lib.hid (Lib.tabBelow_of_tabIs htab)
    have HB := Lib.parseIntB_bounds hv
    have b1 : -9223372036854775808 ≤ v := by have := HB.1; simpa using this
    have b2 : v ≤ 9223372036854775807 := by have := HB.2; simp at this; omega
    have HD := Lib.hid (decimal_c v b1 b2)
    clear hv htab h1 h2 HB
    by_cases r1 : -1000000000 ≤ v
    · by_cases r2 : v ≤ 1000000000
      · by_cases hq : (Lib.itoa v == s.toList) = true
        · rw [if_pos ⟨r1, r2, text_eq.1 hq⟩] at hrd
          have HR := Lib.hid hrd
          clear hrd
          go_enter Tryd.func54, Tryd.ntmps54
          go_wp2_with (first | (go_at_call 107; refine (HP.out _).mono ?_; rintro e w1 ⟨rfl, hb1⟩) | (go_at_call 51; refine (HD.out _ (HT.out _ hb1)).mono ?_; rintro e w2 ⟨rfl, k, os, rfl⟩) | go_in)
          go_ret2
          exact ⟨by rw [HR.out]; rfl, hb1.trans (Lib.below_grow _ _ hb1.size k os)⟩
        · rw [if_neg (fun h => hq (text_eq.2 h.2.2))] at hrd
          have HR := Lib.hid hrd
          have hq' : (Lib.itoa v == s.toList) = false := by simpa using hq
          clear hrd hq
          go_enter Tryd.func54, Tryd.ntmps54
          go_wp2_with (first | (go_at_call 107; refine (HP.out _).mono ?_; rintro e w1 ⟨rfl, hb1⟩) | (go_at_call 51; refine (HD.out _ (HT.out _ hb1)).mono ?_; rintro e w2 ⟨rfl, k, os, rfl⟩) | go_in)
          go_ret2
          exact ⟨by rw [HR.out]; rfl, hb1.trans (Lib.below_grow _ _ hb1.size k os)⟩
      · rw [if_neg (fun h => r2 h.2.1)] at hrd
        have HR := Lib.hid hrd
        clear hrd
        go_enter Tryd.func54, Tryd.ntmps54
        go_wp2_with (first | (go_at_call 107; refine (HP.out _).mono ?_; rintro e w1 ⟨rfl, hb1⟩) | (go_at_call 51; refine (HD.out _ (HT.out _ hb1)).mono ?_; rintro e w2 ⟨rfl, k, os, rfl⟩) | go_in)
        go_ret2
        exact ⟨by rw [HR.out]; rfl, hb1⟩
    · rw [if_neg (fun h => r1 h.1)] at hrd
      have HR := Lib.hid hrd
      clear hrd
      go_enter Tryd.func54, Tryd.ntmps54
      go_wp2_with (first | (go_at_call 107; refine (HP.out _).mono ?_; rintro e w1 ⟨rfl, hb1⟩) | (go_at_call 51; refine (HD.out _ (HT.out _ hb1)).mono ?_; rintro e w2 ⟨rfl, k, os, rfl⟩) | go_in)
      go_ret2
      exact ⟨by rw [HR.out]; rfl, hb1⟩
  · have hno : ∀ v, Lib.parseIntB 64 s.data.toList ≠ .ok v := fun v h => hok ⟨v, h⟩
    have HR := Lib.hid (rd_fail hno)
    have HP := Lib.hid (parseInt_fail s hs hno w h1 h2)
    clear hno hok htab h1 h2
    go_enter Tryd.func54, Tryd.ntmps54
    go_wp2_with (first | (go_at_call 107; refine HP.out.mono ?_; rintro e w1 ⟨⟨x, t, N, rfl⟩, hb1⟩) | go_in)
    go_ret2
    exact ⟨by rw [HR.out]; rfl, hb1⟩
theorem rd_short {l : List UInt8} (h : l.length ≤ 11) : rd l = if -1000000000 ≤ valL l ∧ valL l ≤ 1000000000 ∧ Lib.itoa (valL l) = l then some (valL l) else none := by
  unfold rd
  by_cases hh : -1000000000 ≤ valL l ∧ valL l ≤ 1000000000 ∧ Lib.itoa (valL l) = l
  · rw [if_pos ⟨h, hh⟩, if_pos hh]
  · rw [if_neg (fun h => hh h.2), if_neg hh]
theorem at_of_lt {s : ByteArray} {k : Nat} (h : k < s.size) : s.data.toList[k]? = some s[k] := by
  rw [List.getElem?_eq_getElem (by simpa using h)]; rfl
set_option maxRecDepth 100000 in
set_option maxHeartbeats 1000000 in
theorem l01Value_c (s : ByteArray) (hs : s.size ≤ 281474976710656) (w : World) :
    Calls Tryd.prog 105 #[.string s] w fun e w' => e = rdR (rd s.data.toList) ∧ Below w.heap.size w w' := by
  by_cases hl : (11 : Int) < s.size
  · have hr : rd s.data.toList = none := by rw [rd, if_neg]; intro h; have := h.1; simp at this; omega
    rw [hr]
    clear hr
    go_enter Tryd.func105, Tryd.ntmps105
    go_wp2
    go_ret2
    exact ⟨by rfl, Below.refl _ _⟩
  · go_enter Tryd.func105, Tryd.ntmps105
    go_wp2
    go_loopw [4, 5] (fun n i wr => ∃ (k m : Nat), k ≤ s.size ∧ i = .int .i64 k ∧ n = .int .i64 m ∧ (m : Int) < 100000000000 ∧ Hid (m = vnat (s.data.toList.take k)) ∧ Below w.heap.size w wr) (fun _ i _ => s.size - (intOf i).toNat)
    case atStart => exact ⟨0, 0, Nat.zero_le _, rfl, rfl, by decide, rfl, Below.refl _ _⟩
    case round =>
      obtain ⟨k, m, hk, rfl, rfl, hm, hmv, hbel⟩ := hrel
      by_cases hlt : k < s.size
      · have hc := at_of_lt hlt
        have hby : (s[k].toNat : Int) < 256 := by have := s[k].toNat_lt; omega
        have hst := vnat_take s.data.toList k s[k] hc
        have hlm := vnat_lt s.data.toList (k + 1)
        have hpw : (10 : Nat) ^ (k + 1) ≤ 10 ^ 11 := Nat.pow_le_pow_right (by decide) (by omega)
        have hpe : (10 : Nat) ^ 11 = 100000000000 := by decide
        rw [← hmv.out] at hst
        by_cases h1 : (48 : Int) ≤ (s[k].toNat : Int)
        · by_cases h2 : (s[k].toNat : Int) ≤ 57
          · rw [vstep, if_pos ⟨by omega, by omega⟩] at hst
            have hm2 : ((10 * m + (s[k].toNat - 48) : Nat) : Int) < 100000000000 := by rw [← hst]; omega
            have HV := Lib.hid hst
            clear hst hlm hpw hpe hmv hc
            go_wp2
            go_roundw
            case rel => exact ⟨k + 1, 10 * m + (s[k].toNat - 48), by omega, by go_num, by go_num, hm2, HV.out.symm, hbel⟩
            case measure => simp [intOf]; omega
          · rw [vstep, if_neg (by omega)] at hst
            have HV := Lib.hid hst
            clear hst hlm hpw hpe hmv hc
            go_wp2
            go_roundw
            case rel => exact ⟨k + 1, m, by omega, by go_num, rfl, hm, HV.out.symm, hbel⟩
            case measure => simp [intOf]; omega
        · rw [vstep, if_neg (by omega)] at hst
          have HV := Lib.hid hst
          clear hst hlm hpw hpe hmv hc
          go_wp2
          go_roundw
          case rel => exact ⟨k + 1, m, by omega, by go_num, rfl, hm, HV.out.symm, hbel⟩
          case measure => simp [intOf]; omega
      · obtain rfl : k = s.size := by omega
        have hrd := rd_short (l := s.data.toList) (by simp; omega)
        have hv : vnat s.data.toList = m := by have := hmv.out; rw [List.take_of_length_le (by simp)] at this; exact this.symm
        by_cases h45 : s.data.toList.head? = some 45
        · have hval : valL s.data.toList = -(m : Int) := by rw [valL, if_pos h45, hv]
          rw [hval] at hrd
          have h0 : 0 < s.size := by
            by_cases h : 0 < s.size
            · exact h
            · have e : s.data.toList = [] := List.eq_nil_of_length_eq_zero (by rw [Array.length_toList]; have : s.data.size = s.size := rfl; omega)
              rw [e] at h45; cases h45
          have hc : (s[0].toNat : Int) = 45 := by
            have := at_of_lt h0
            rw [← List.head?_eq_getElem?, h45] at this
            injection this with this
            rw [← this]; rfl
          clear hval h45 hv hmv
          have HD := Lib.hid (l01Dec_c (-(m : Int)) (by omega) (by omega))
          by_cases r1 : (m : Int) ≤ 1000000000
          · by_cases hq : (Lib.itoa (-(m : Int)) == s.toList) = true
            · rw [if_pos ⟨by omega, by omega, text_eq.1 hq⟩] at hrd
              have HR := Lib.hid hrd
              clear hrd
              go_wp2_with (first | (go_at_call 101; refine (HD.out _).mono ?_; rintro e w2 ⟨rfl, hb2⟩) | go_in)
              go_ret2
              exact ⟨by rw [HR.out]; rfl, hbel.trans (hb2.mono hbel.size)⟩
            · rw [if_neg (fun h => hq (text_eq.2 h.2.2))] at hrd
              have HR := Lib.hid hrd
              have hq' : (Lib.itoa (-(m : Int)) == s.toList) = false := by simpa using hq
              clear hrd hq
              go_wp2_with (first | (go_at_call 101; refine (HD.out _).mono ?_; rintro e w2 ⟨rfl, hb2⟩) | go_in)
              go_ret2
              exact ⟨by rw [HR.out]; rfl, hbel.trans (hb2.mono hbel.size)⟩
          · rw [if_neg (fun h => r1 (by have g1 := h.1; have g2 := h.2.1; omega))] at hrd
            have HR := Lib.hid hrd
            clear hrd
            go_wp2_with (first | (go_at_call 101; refine (HD.out _).mono ?_; rintro e w2 ⟨rfl, hb2⟩) | go_in)
            go_ret2
            exact ⟨by rw [HR.out]; rfl, hbel⟩
        · have hval : valL s.data.toList = (m : Int) := by rw [valL, if_neg h45, hv]
          rw [hval] at hrd
          clear hval hv hmv
          have ha0 : (0 : Int) ≤ (m : Int) := by omega
          generalize (m : Int) = a at *
          by_cases h0 : 0 < s.size
          · have hc : ¬ (s[0].toNat : Int) = 45 := by
              intro hc
              apply h45
              rw [List.head?_eq_getElem?, at_of_lt h0]
              congr 1
              apply UInt8.toNat_inj.1
              show _ = 45
              omega
            clear h45
            have HD := Lib.hid (l01Dec_c a (by omega) (by omega))
            by_cases r1 : a ≤ 1000000000
            · by_cases hq : (Lib.itoa a == s.toList) = true
              · rw [if_pos ⟨by omega, by omega, text_eq.1 hq⟩] at hrd
                have HR := Lib.hid hrd
                clear hrd
                go_wp2_with (first | (go_at_call 101; refine (HD.out _).mono ?_; rintro e w2 ⟨rfl, hb2⟩) | go_in)
                go_ret2
                exact ⟨by rw [HR.out]; rfl, hbel.trans (hb2.mono hbel.size)⟩
              · rw [if_neg (fun h => hq (text_eq.2 h.2.2))] at hrd
                have HR := Lib.hid hrd
                have hq' : (Lib.itoa a == s.toList) = false := by simpa using hq
                clear hrd hq
                go_wp2_with (first | (go_at_call 101; refine (HD.out _).mono ?_; rintro e w2 ⟨rfl, hb2⟩) | go_in)
                go_ret2
                exact ⟨by rw [HR.out]; rfl, hbel.trans (hb2.mono hbel.size)⟩
            · rw [if_neg (fun h => r1 (by have g1 := h.1; have g2 := h.2.1; omega))] at hrd
              have HR := Lib.hid hrd
              clear hrd
              go_wp2_with (first | (go_at_call 101; refine (HD.out _).mono ?_; rintro e w2 ⟨rfl, hb2⟩) | go_in)
              go_ret2
              exact ⟨by rw [HR.out]; rfl, hbel⟩
          · clear h45
            have HD := Lib.hid (l01Dec_c a (by omega) (by omega))
            by_cases r1 : a ≤ 1000000000
            · by_cases hq : (Lib.itoa a == s.toList) = true
              · rw [if_pos ⟨by omega, by omega, text_eq.1 hq⟩] at hrd
                have HR := Lib.hid hrd
                clear hrd
                go_wp2_with (first | (go_at_call 101; refine (HD.out _).mono ?_; rintro e w2 ⟨rfl, hb2⟩) | go_in)
                go_ret2
                exact ⟨by rw [HR.out]; rfl, hbel.trans (hb2.mono hbel.size)⟩
              · rw [if_neg (fun h => hq (text_eq.2 h.2.2))] at hrd
                have HR := Lib.hid hrd
                have hq' : (Lib.itoa a == s.toList) = false := by simpa using hq
                clear hrd hq
                go_wp2_with (first | (go_at_call 101; refine (HD.out _).mono ?_; rintro e w2 ⟨rfl, hb2⟩) | go_in)
                go_ret2
                exact ⟨by rw [HR.out]; rfl, hbel.trans (hb2.mono hbel.size)⟩
            · rw [if_neg (fun h => r1 (by have g1 := h.1; have g2 := h.2.1; omega))] at hrd
              have HR := Lib.hid hrd
              clear hrd
              go_wp2_with (first | (go_at_call 101; refine (HD.out _).mono ?_; rintro e w2 ⟨rfl, hb2⟩) | go_in)
              go_ret2
              exact ⟨by rw [HR.out]; rfl, hbel⟩
end Go.Proofs.YtahlpjhhbcjfpaaDoor
