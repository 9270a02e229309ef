/-
  Terms over the variables, in the program. Conditions: at most 2^20 terms and coefficients.
-/
import Derived.Test.YtajmbnimdngjhaaGreatDoorOver
import Derived.Test.YtajmbnimdngjhaaGreatDoorTermsC
namespace Go.Proofs.YtajmbnimdngjhaaGreatDoor
set_option linter.unusedVariables false
open Go.RowKit

set_option maxRecDepth 100000 in
set_option maxHeartbeats 1000000 in
theorem isOver_c (c0 : Int) (A : Option Addr) (n c B : Nat) (zs : List Int) (w : World) (h : InL w B A n zs) (hB : B ≤ w.heap.size) (hn : n ≤ 1048576) :
    Calls Tryz.prog 106 #[.agg #[.int .i64 c0, .slice A n c]] w fun e w' => e = .returned (.bool (overB (c0, zs))) ∧ Below w.heap.size w w' := by
  have hb0 := bnew w (.cells #[.int .i64 c0, .slice A n c] 81)
  have p1 : (w.alloc (.cells #[.int .i64 c0, .slice A n c] 81)).cell? ⟨w.heap.size, 1, none⟩ = some (.slice A n c) := by simp
  have HI := Lib.hid (implValid_c c0 A n c B zs _ (h.next hb0 hB).2 (Nat.le_trans hB hb0.size) h.1 hn)
  have hlen := Lib.hid h.1
  clear h
  obtain ⟨bt, HT⟩ : ∃ x, Hid (tmB (c0, zs) = x) := ⟨_, rfl⟩
  have HV : Hid (overB (c0, zs) = (bt && decide ((n : Int) ≤ 4))) := by show _ = _; unfold overB; rw [HT.out]; show (bt && decide (zs.length ≤ 4)) = _; rw [hlen.out]; congr 1; rw [Bool.eq_iff_iff]; simp; omega
  rw [HV.out]
  rw [HT.out] at HI
  clear HV HT
  go_enter Tryz.func106, Tryz.ntmps106
  go_wp2_with fail
  generalize w.alloc (.cells #[.int .i64 c0, .slice A n c] 81) = W at hb0 p1 HI ⊢
  refine HI.out.mono ?_
  rintro e w1 ⟨rfl, hb1⟩
  have P1 := cell_next p1 hb1
  cases bt
  · go_wp2_with fail
    go_ret
    exact ⟨rfl, bon hb0 hb1⟩
  · go_wp2_with fail
    go_ret
    exact ⟨ret_bool (by simp), bon hb0 hb1⟩

set_option maxRecDepth 100000 in
set_option maxHeartbeats 1000000 in
theorem areOver_c (A : Option Addr) (n c B : Nat) (ts : List (Int × List Int)) (most : Nat) (w : World) (h : InTS w B A n ts) (hB : B ≤ w.heap.size) (he : totT ts ≤ 1048576) (hm : most ≤ 1000) :
    Calls Tryz.prog 83 #[.slice A n c, .int .i64 (most : Int)] w fun e w' => e = .returned (.bool (oversB most ts)) ∧ Below w.heap.size w w' := by
  have hlen := Lib.hid h.1
  by_cases hbig : most < n
  · have HN := Lib.hid (oversB_long (m := most) (ts := ts) (by rw [hlen.out]; exact hbig))
    go_enter Tryz.func83, Tryz.ntmps83
    go_wp2_with fail
    go_ret
    exact ⟨ret_bool HN.out.symm, Below.refl _ _⟩
  · go_enter Tryz.func83, Tryz.ntmps83
    go_wp2_with fail
    go_loopw [6, 13] (fun _ i wr => ∃ k : Nat, k ≤ n ∧ i = .int .i64 k ∧ Hid (∀ u ∈ ts.take k, overB u = true) ∧ Below w.heap.size w wr) (fun _ i _ => n - (intOf i).toNat)
    case atStart => exact ⟨0, Nat.zero_le _, rfl, fun u hu => by simp at hu, Below.refl _ _⟩
    case round =>
      obtain ⟨k, hk, rfl, ha, hbel⟩ := hrel
      have hsz := hbel.size
      by_cases hlt : k < n
      · obtain ⟨b, off, A', n', c', t, rfl, hb, ht, hc0, hc1, hin⟩ := (h.next hbel hB).at_ hlt
        have hmx := totT_mem (List.mem_of_getElem? ht)
        rw [hin.1] at hmx
        have HI := Lib.hid (fun (o : Obj) => isOver_c t.1 A' n' c' B t.2 (wr.alloc o) (hin.next (bnew wr o) (by omega)) (Nat.le_trans (by omega) (bnew wr o).size) (by omega))
        cases hv : overB t with
        | true =>
          have HS := Lib.hid (all_succ ha.out ht hv)
          have HV : Hid (overB (t.1, t.2) = true) := hv
          rw [HV.out] at HI
          clear hin ht hv hmx
          go_wp2_with fail
          refine (HI.out _).mono ?_
          rintro e w1 ⟨rfl, hb1⟩
          go_wp2_with fail
          go_roundw
          case rel => exact ⟨k + 1, by omega, by go_num, HS, bon (bon hbel (bnew _ _)) hb1⟩
          case measure => simp [intOf]; omega
        | false =>
          have HN := Lib.hid (oversB_no (m := most) ht hv)
          have HV : Hid (overB (t.1, t.2) = false) := hv
          rw [HV.out] at HI
          clear hin ht hv hmx
          go_wp2_with fail
          refine (HI.out _).mono ?_
          rintro e w1 ⟨rfl, hb1⟩
          go_wp2_with fail
          go_ret
          exact ⟨ret_bool HN.out.symm, bon (bon hbel (bnew _ _)) hb1⟩
      · have HY : Hid (oversB most ts = true) := oversB_is (fun t ht => ha.out t (by rw [List.take_of_length_le (by rw [hlen.out]; omega)]; exact ht)) (by rw [hlen.out]; omega)
        go_wp2_with fail
        go_ret
        exact ⟨ret_bool HY.out.symm, hbel⟩

end Go.Proofs.YtajmbnimdngjhaaGreatDoor
