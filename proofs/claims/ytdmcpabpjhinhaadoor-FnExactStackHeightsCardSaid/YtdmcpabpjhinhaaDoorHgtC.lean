/-
  StackHeights$1: the least heights, or a panic. Conditions: valid code; the program's own error lies in its variable.
-/
import Derived.Test.YtdmcpabpjhinhaaDoorHgtB
import Derived.Test.YtdmcpabpjhinhaaDoorOwn64
namespace Go.Proofs.YtdmcpabpjhinhaaDoor
set_option linter.unusedVariables false
open Go.RowKit

set_option maxRecDepth 100000 in
set_option maxHeartbeats 4000000 in
theorem heights1_c (q : Nat) (A : Option Addr) (n c B : Nat) (xs : List (Int × Int)) (tp : TypeId) (pv : Value) (w : World) (h : InC w B A n xs) (hB : B ≤ w.heap.size) (hv : codeB xs = true) (hq : w.cell? ⟨q, 0, none⟩ = some (.slice A n c)) (hql : q < w.heap.size) (hs : Stuck tp pv w) :
    Calls Tryd.prog 25 #[.pointer (some ⟨q, 0, none⟩)] w fun e w' => (∃ L A' c', e = .returned (.slice A' n c') ∧ LeastH xs L ∧ OwnL w' w.heap.size w'.heap.size A' n c' L ∧ Below w.heap.size w w') ∨ (e = .panicked [{ v := .iface tp pv, recovered := false }] ∧ (∀ G, ¬ GoodH xs G) ∧ Below w.heap.size w w') := by
  have hlen : xs.length = n := h.1
  have hp := codeB_parts hv
  have hn80 : n ≤ 80 ∧ 1 ≤ n := by omega
  have HLN := Lib.hid hlen
  have HV := Lib.hid hv
  have HS := Lib.hid hs
  have HSP := Lib.hid (spreadB_c tp pv (∀ G, ¬ GoodH xs G) A n c B xs w h hB hv (HgtI xs) (hgtI_on hv) (HgtI.init hp.1) hs)
  clear h hv hs hp hlen
  go_enter Tryd.func25, Tryd.ntmps25
  go_wp2_with fail
  refine HSP.out.mono ?_
  rintro e w2 (⟨K, rfl, hK, hb2⟩ | ⟨rfl, hN, hb2⟩)
  · have hKl := hK.len
    have HK := Lib.hid hK
    have hq2 := cell_next hq hb2
    have hZ : ArrIs (w2.alloc (.cells Tryd.zeroCells42 42)) w2.heap.size (List.replicate 81 0) := by rw [zero42]; exact ArrIs.new w2 (by simp)
    have hb3 := bnew w2 (.cells Tryd.zeroCells42 42)
    have hR3 := hZ.store hKl
    have hg3 := grown_setCells w2.heap.size (K.map ic) 0 (w2.alloc (.cells Tryd.zeroCells42 42))
    have hb4 : Below w2.heap.size w2 ((w2.alloc (.cells Tryd.zeroCells42 42)).setCells w2.heap.size 0 (K.map ic)) := hb3.grown hg3 hb3.size (fun k hk => by have := Option.some.inj hk; omega)
    have hq4 := cell_next hq2 hb4
    have HBW := Lib.hid (bon hb2 hb4)
    clear hK hq
    go_upto_region 2 with (refine store_hc rfl _ _ rfl w2.heap.size rfl rfl hZ hKl ?_)
    generalize (w2.alloc (.cells Tryd.zeroCells42 42)).setCells w2.heap.size 0 (K.map ic) = W at hR3 hb4 hq4 HBW ⊢
    obtain ⟨kb, hkb⟩ : ∃ kb, Hid (w2.heap.size = kb) := ⟨_, rfl⟩
    rw [hkb.out] at hR3 ⊢
    clear hZ hb3 hg3 hb4 hb2 hq2
    have hn81 : (n : Int) ≤ 81 := by omega
    go_upto_region 3 with fail
    go_loopw [4, 11] (fun _ i wr => ∃ j : Nat, j ≤ 81 - n ∧ i = .int .i64 j ∧ Hid (∀ i : Nat, n ≤ i → i < n + j → K.getD i 0 = -1) ∧ Hid (Below W.heap.size W wr)) (fun _ i _ => 81 - n - (intOf i).toNat)
    case atStart => exact ⟨0, by omega, rfl, (fun i h1 h2 => by omega), Below.refl _ _⟩
    case round =>
      rename World => wr
      obtain ⟨j, hj, rfl, HA, HBR⟩ := hrel
      by_cases hlt : j < 81 - n
      · have i5 : (j : Int) < 81 - (n : Int) := by omega
        have hz := (hR3.next HBR.out).at_ (i := n + j) (by omega)
        obtain ⟨z, HZ⟩ : ∃ z, Hid (K.getD (n + j) 0 = z) := ⟨_, Lib.hid rfl⟩
        rw [HZ.out] at hz
        by_cases hz1 : z = -1
        · subst hz1
          go_wp2_with fail
          refine (insist_yes wr).mono ?_
          rintro e w5 ⟨⟨v, rfl⟩, rfl⟩
          go_wp2_with fail
          go_roundw
          case rel => exact ⟨j + 1, by omega, by go_num, (fun i h1 h2 => by rcases Nat.lt_or_ge i (n + j) with q1 | q1; exact HA.out i h1 q1; rw [show i = n + j by omega]; exact HZ.out), HBR⟩
          case measure => simp [intOf]; omega
        · have i7 : (z == -1) = false := beq_eq_false_iff_ne.2 hz1
          have HSK := Lib.hid (HS.out.next (bon HBW.out HBR.out))
          have HNN := Lib.hid (none_of_spr HK.out.inv (i := n + j) (by omega) (by have := HLN.out; omega) (by rw [HZ.out]; exact hz1))
          have HBX := Lib.hid (bon HBW.out HBR.out)
          go_wp2_with fail
          refine (insist_no tp pv wr HSK.out).mono ?_
          rintro e w5 ⟨rfl, rfl⟩
          go_wp2_with fail
          exact ⟨rfl, .inr ⟨rfl, HNN.out, HBX.out⟩⟩
      · have i5 : ¬ (j : Int) < 81 - (n : Int) := by omega
        have hLE := least_of_spr HV.out HK.out (fun i h1 h2 => HA.out i (by have := HLN.out; omega) (by omega))
        rw [HLN.out] at hLE
        have hR5 := hR3.next HBR.out
        have hin : InL wr wr.heap.size (some ⟨kb, 0, none⟩) n (K.take n) := by
          refine ⟨by rw [List.length_take]; omega, fun i hi => ?_⟩
          rw [List.length_map, List.length_take] at hi
          refine ⟨kb, 0, rfl, hR5.lt, ?_⟩
          rw [Nat.zero_add, hR5.at_ (by omega), List.getElem?_map, List.getElem?_take_of_lt (by omega), List.getD_eq_getElem?_getD, List.getElem?_eq_getElem (by omega)]
          rfl
        have HCL := Lib.hid (clone64_c (some ⟨kb, 0, none⟩) n 81 wr.heap.size (K.take n) wr hin (Nat.le_refl _) (by omega))
        have hq5 := cell_next hq4 HBR.out
        have HLE := Lib.hid hLE
        have HBX := Lib.hid (bon HBW.out HBR.out)
        clear hin hLE hR5
        go_wp2_with fail
        refine HCL.out.mono ?_
        rintro e w6 ⟨A', c', rfl, ho, hb6⟩
        have HO := Lib.hid (ho.less HBX.out.size)
        have HB6 := Lib.hid (bon HBX.out hb6)
        clear ho hb6
        go_wp2_with fail
        go_ret
        exact .inl ⟨_, A', c', rfl, HLE.out, HO.out, HB6.out⟩
  · have HN := Lib.hid hN
    have HB := Lib.hid hb2
    clear hN hb2
    go_wp2_with fail
    exact ⟨rfl, .inr ⟨rfl, HN.out, HB.out⟩⟩
end Go.Proofs.YtdmcpabpjhinhaaDoor
