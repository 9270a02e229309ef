/-
  The kinds of states, in the model: l10Classes. Conditions: a policy with at most 1000 states.
-/
import Derived.Test.YtpdgnmdjneakgaaAlikM
import Derived.Test.YtpdgnmdjneakgaaLLM
namespace Go.Proofs.Ytpdgnmdjneakgaa
set_option linter.unusedVariables false
open Go.RowKit

/-- What the search among the states ahead knows behind k of them. -/
def SrcK (xs : List (List Int)) (t i k : Nat) (z : Int) : Prop := (z = -1 ∧ ∀ j, j < k → eqB xs t j i = false) ∨ z = (rep xs t i : Int)
theorem SrcK.more {xs : List (List Int)} {t i k : Nat} (h : SrcK xs t i k (-1)) (e : eqB xs t k i = false) : SrcK xs t i (k + 1) (-1) := by
  rcases h with ⟨_, h⟩ | h
  · refine .inl ⟨rfl, fun j hj => ?_⟩
    rcases Nat.lt_or_ge j k with q | q
    · exact h j q
    · obtain rfl : j = k := by omega
      exact e
  · omega
theorem SrcK.end {xs : List (List Int)} {t i : Nat} (h : SrcK xs t i i (-1)) : rep xs t i = i := by
  rcases h with ⟨_, h⟩ | h
  · exact rep_is (Nat.le_refl _) (eqB_refl _ _ _) h
  · omega
theorem repL_snoc {xs : List (List Int)} {t i : Nat} (h : i < xs.length) : (repL xs t).take (i + 1) = (repL xs t).take i ++ [(rep xs t i : Int)] := by
  rw [List.take_add_one, repL_at h]; rfl

set_option maxRecDepth 100000 in
set_option maxHeartbeats 4000000 in
theorem l10Classes_c (b o : Nat) (A : Option Addr) (n c B : Nat) (xs : List (List Int)) (w : World) (p0 : w.cell? ⟨b, o, none⟩ = some (.slice A n c)) (h : InLL w B A n xs) (hB : B ≤ w.heap.size) (ok : RectP xs) (hn : n ≤ 1000) :
    Calls Try.prog 42 #[.pointer (some ⟨b, o, none⟩)] w fun e w' => ∃ A' c', e = .returned (.slice A' n c') ∧ InL w' w'.heap.size A' n (repL xs n) ∧ Below w.heap.size w w' := by
  obtain ⟨i0, hi, hz0, hz1, hz2⟩ := info_parts info64
  have hxn : xs.length = n := h.1
  have HOK := Lib.hid ok
  have HX := Lib.hid h
  clear h ok
  go_enter Try.func42, Try.ntmps42
  go_wp2_with (at_make; refine wpList_make_full _ rfl _ _ 29 rfl w.heap.size 2 i0 (.int .i64 0) 1 Try.underlying29 hi hz0 hz1 .i64 .i64 _ _ n rfl rfl rfl rfl (by rw [hz2]; omega) (by unfold maxLen; omega) (Nat.le_refl _) ?_; intro w1 hown hgrow)
  have hb1 := (Below.refl w.heap.size w).grown hgrow (Nat.le_refl _) (fun _ h => by cases h)
  have hc1 : InL w1 w1.heap.size (some ⟨w.heap.size, 0, none⟩) n (repL xs 0) := by
    rw [repL_zero, hxn]
    have h1 : w1.ownsRow w.heap.size 2 1 (.slice (some ⟨w.heap.size, 0, none⟩) n n) n ((List.replicate n (0 : Int)).map ic) := by
      rw [List.map_replicate]
      have e := hown
      rw [show (Value.int .i64 0).cells = #[Value.int .i64 0] from rfl, toList_madeCells_one] at e
      simpa [ic] using e
    exact (OwnL.of_own h1).inn
  clear hgrow hown
  go_loopw [4, 5, 6, 7, 8, 9] (fun cl r _ _ _ _ wr => ∃ (t : Nat) (Ac : Option Addr) (cc : Nat), t ≤ n ∧ cl = .slice Ac n cc ∧ r = .int .i64 t ∧ InL wr wr.heap.size Ac n (repL xs t) ∧ Below w.heap.size w wr) (fun _ r _ _ _ _ _ => n - (intOf r).toNat)
  case atStart => exact ⟨0, _, _, Nat.zero_le _, rfl, rfl, hc1, hb1⟩
  case round =>
    clear hc1 hb1
    rename World => wa
    obtain ⟨t, Ac, cc, ht, rfl, rfl, hcl, hbel⟩ := hrel
    have hsz := hbel.size
    replace p0 := cell_next p0 hbel
    have HXr := Lib.hid (HX.out.next hbel hB)
    by_cases hlt : t < n
    · have i1 : (t : Int) < (n : Int) := by omega
      have hrow0 : (wa.alloc (.cells #[] 2)).ownsRow wa.heap.size 2 1 (.slice (some ⟨wa.heap.size, 0, none⟩) 0 0) 0 (((repL xs (t + 1)).take 0).map ic) := own_empty wa _
      have hb0 := bnew wa (.cells #[] 2)
      have HCL := Lib.hid hcl
      clear hcl
      go_wp2_with fail
      generalize wa.alloc (.cells #[] 2) = W0 at hrow0 hb0 ⊢
      go_loopw [6, 7, 8, 9] (fun nx i _ _ wi => ∃ (k : Nat), k ≤ n ∧ i = .int .i64 k ∧ wi.ownsRow wa.heap.size 2 1 nx k (((repL xs (t + 1)).take k).map ic) ∧ Below wa.heap.size wa wi) (fun _ i _ _ _ => n - (intOf i).toNat)
      case atStart => exact ⟨0, Nat.zero_le _, rfl, hrow0, hb0⟩
      case round =>
        clear hrow0 hb0
        rename World => wi
        obtain ⟨k, hk, rfl, hrow, hbi⟩ := hrel
        have hszi := hbi.size
        replace p0 := cell_next p0 hbi
        obtain ⟨A1, c1, rfl, _⟩ := own_slice hrow
        have htl : ((repL xs (t + 1)).take k).length = k := by rw [List.length_take, repL_len]; omega
        by_cases hlk : k < n
        · have i2 : (k : Int) < (n : Int) := by omega
          have HNX := Lib.hid ((OwnL.of_own (zs := (repL xs (t + 1)).take k) hrow).inn)
          have HROW := Lib.hid hrow
          have HAL := Lib.hid (fun (d j : Nat) (hj : j < n) => l10Alike_c b o A n c wi.heap.size xs t Ac cc j k (wi.drewN d) p0 (((HXr.out.next hbi (Nat.le_trans hB hsz)).more (Nat.le_trans hB (Nat.le_trans hsz hszi))) : InLL wi wi.heap.size A n xs) ((HCL.out.next hbi (Nat.le_refl _)).more hszi) HOK.out hj hlk hn)
          have HS0 : Hid (SrcK xs (t + 1) k 0 (-1)) := .inl ⟨rfl, fun j hj => by omega⟩
          clear hrow
          go_wp2_with fail
          go_loopw [8, 9] (fun z j wj => ∃ (m d : Nat) (y : Int), m ≤ k ∧ j = .int .i64 m ∧ z = .int .i64 y ∧ wj = wi.drewN d ∧ Hid (SrcK xs (t + 1) k m y) ∧ (y = -1 ∨ 0 ≤ y)) (fun _ j _ => k - (intOf j).toNat)
          case atStart => exact ⟨0, 0, -1, Nat.zero_le _, rfl, rfl, rfl, HS0, .inl rfl⟩
          case round =>
            clear HS0
            obtain ⟨m, d, y, hm, rfl, rfl, rfl, hS, hy⟩ := hrel
            rcases hy with rfl | hy
            · by_cases hlm : m < k
              · have i3 : (m : Int) < (k : Int) := by omega
                have HA0 := HAL.out d m (by omega)
                cases he : eqB xs (t + 1) m k with
                | true =>
                  rw [he] at HA0
                  have HA := Lib.hid HA0
                  have hrk : rep xs (t + 1) m = rep xs (t + 1) k := rep_iff.2 he
                  obtain ⟨b2, off2, z, rfl, hb2, hz, hcz⟩ := HNX.out.2.int_at (k := m) (by omega)
                  have hz2 : z = (rep xs (t + 1) k : Int) := by
                    rw [List.getElem?_take_of_lt hlm, repL_at (by omega), hrk] at hz
                    exact (Option.some.inj hz).symm
                  have HS : Hid (SrcK xs (t + 1) k (m + 1) z) := .inr hz2
                  have hz0' : 0 ≤ z := by omega
                  clear hz hz2 HA0 he hrk
                  go_wp2_with fail
                  refine HA.out.mono ?_
                  rintro e w2 ⟨rfl, d2, rfl⟩
                  go_wp2_with fail
                  go_roundw
                  case rel => exact ⟨m + 1, _, z, by omega, by go_num, rfl, by first | rfl | exact (World.drewN_drewN _ _ _), HS, .inr hz0'⟩
                  case measure => simp [intOf]; omega
                | false =>
                  rw [he] at HA0
                  have HA := Lib.hid HA0
                  have HS : Hid (SrcK xs (t + 1) k (m + 1) (-1)) := hS.out.more he
                  clear HA0 he
                  go_wp2_with fail
                  refine HA.out.mono ?_
                  rintro e w2 ⟨rfl, d2, rfl⟩
                  go_wp2_with fail
                  go_roundw
                  case rel => exact ⟨m + 1, _, -1, by omega, by go_num, rfl, by first | rfl | exact (World.drewN_drewN _ _ _), HS, .inl rfl⟩
                  case measure => simp [intOf]; omega
              · obtain rfl : m = k := by omega
                have HE := Lib.hid (hS.out.end)
                have HSN := Lib.hid (repL_snoc (xs := xs) (t := t + 1) (i := m) (by omega))
                have HTL := Lib.hid htl
                clear htl
                generalize (repL xs (t + 1)).take m = L at HROW HSN HTL
                have hrow := HROW.out
                go_wp2_with (at_builtin; refine wpList_append_own _ rfl _ _ 29 rfl wa.heap.size 2 i0 (.int .i64 0) 1 8 Try.underlying29 hi hz0 hz1 hz2 rfl (by decide) _ _ _ rfl (by first | exact hrow.drew.alloc _ | exact (hrow : World.ownsRow _ _ _ _ _ _ _).alloc _) ⟨wi.heap.size, 0, none⟩ 1 1 [.int .i64 (m : Int)] rfl rfl (cell_one_new _ _ _) (by simp [Value.oneCell']) (by unfold maxLen; omega) (by omega) (by simp; omega) ?_; intro v1 w4 hown4 hgrow4 _)
                go_roundw
                case rel =>
                  refine ⟨m + 1, by omega, by go_num, ?_, ?_⟩
                  · show w4.ownsRow _ _ _ _ (m + 1) (((repL xs (t + 1)).take (m + 1)).map ic)
                    rw [HSN.out, HE.out, List.map_append]
                    exact hown4
                  · exact ((below_drewN hbi _).alloc (by show wa.heap.size ≤ wi.heap.size; omega) _).grown hgrow4 (by simp; omega) (fun k hk => (HROW.out.lt k hk).1)
                case measure => simp [intOf]; omega
            · have k1 : ¬ y < 0 := by omega
              have k2 : decide (y < 0) = false := decide_eq_false k1
              have HE : Hid ((rep xs (t + 1) k : Int) = y) := by
                rcases hS.out with ⟨e, _⟩ | e
                · omega
                · exact e.symm
              have HSN := Lib.hid (repL_snoc (xs := xs) (t := t + 1) (i := k) (by omega))
              have HTL := Lib.hid htl
              clear htl
              generalize (repL xs (t + 1)).take k = L at HROW HSN HTL
              have hrow := HROW.out
              by_cases hlm : m < k
              all_goals
                have i3 := hlm
                go_wp2_with (at_builtin; refine wpList_append_own _ rfl _ _ 29 rfl wa.heap.size 2 i0 (.int .i64 0) 1 8 Try.underlying29 hi hz0 hz1 hz2 rfl (by decide) _ _ _ rfl (by first | exact hrow.drew.alloc _ | exact (hrow : World.ownsRow _ _ _ _ _ _ _).alloc _) ⟨wi.heap.size, 0, none⟩ 1 1 [.int .i64 y] rfl rfl (cell_one_new _ _ _) (by simp [Value.oneCell']) (by unfold maxLen; omega) (by omega) (by simp; omega) ?_; intro v1 w4 hown4 hgrow4 _)
                go_roundw
                case rel =>
                  refine ⟨k + 1, by omega, by go_num, ?_, ?_⟩
                  · show w4.ownsRow _ _ _ _ (k + 1) (((repL xs (t + 1)).take (k + 1)).map ic)
                    rw [HSN.out, HE.out, List.map_append]
                    exact hown4
                  · exact ((below_drewN hbi _).alloc (by show wa.heap.size ≤ wi.heap.size; omega) _).grown hgrow4 (by simp; omega) (fun k hk => (HROW.out.lt k hk).1)
                case measure => simp [intOf]; omega
        · obtain rfl : k = n := by omega
          have hcl2 : InL wi wi.heap.size A1 k (repL xs (t + 1)) := by
            have := (OwnL.of_own (zs := (repL xs (t + 1)).take k) hrow).inn
            rwa [List.take_of_length_le (by rw [repL_len]; omega)] at this
          clear hrow
          go_wp2_with fail
          go_roundw
          case rel => exact ⟨t + 1, A1, c1, by omega, rfl, by go_num, hcl2, bon hbel hbi⟩
          case measure => simp [intOf]; omega
    · obtain rfl : t = n := by omega
      go_wp2_with fail
      go_ret
      exact ⟨_, _, rfl, hcl, hbel⟩
end Go.Proofs.Ytpdgnmdjneakgaa
