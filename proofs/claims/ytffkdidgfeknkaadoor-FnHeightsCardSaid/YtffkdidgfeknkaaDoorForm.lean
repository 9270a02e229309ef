/-
  The row of an operation, and the program's ValidInstr and ValidCode. Conditions: at most 2^20 instructions.
-/
import Derived.Test.YtffkdidgfeknkaaDoorOps
namespace Go.Proofs.YtffkdidgfeknkaaDoor
set_option linter.unusedVariables false
open Go.RowKit

theorem set_far7 {w : World} {b o g i : Nat} {u v : Value} (hne : b ≠ g) (hc : w.cell? ⟨b, o, none⟩ = some v) : (w.setCell ⟨g, i, none⟩ u).cell? ⟨b, o, none⟩ = some v :=
  (World.cell?_of_block (a := ⟨b, o, none⟩) (Below.heap_setCell w ⟨g, i, none⟩ u b hne)).trans hc
def nmB (op : Int) : ByteArray := if op = 0 then ⟨#[112, 117, 115, 104]⟩ else if op = 1 then ⟨#[108, 111, 97, 100]⟩ else if op = 2 then ⟨#[115, 116, 111, 114, 101]⟩ else if op = 3 then ⟨#[97, 100, 100]⟩ else if op = 4 then ⟨#[115, 99, 97, 108, 101]⟩ else if op = 5 then ⟨#[106, 117, 109, 112]⟩ else if op = 6 then ⟨#[116, 101, 115, 116]⟩ else if op = 7 then ⟨#[103, 101, 116]⟩ else if op = 8 then ⟨#[112, 117, 116]⟩ else if op = 9 then ⟨#[101, 109, 105, 116]⟩ else if op = 10 then ⟨#[99, 104, 101, 99, 107]⟩ else ⟨#[104, 97, 108, 116]⟩
def efB (op : Int) : Nat := if op = 0 then 110 else if op = 1 then 111 else if op = 2 then 112 else if op = 3 then 113 else if op = 4 then 114 else if op = 5 then 115 else if op = 6 then 116 else if op = 7 then 117 else if op = 8 then 118 else if op = 9 then 119 else if op = 10 then 120 else 121
/-- The row of an operation. -/
def opV (op : Int) : Array Value := #[.string (nmB op), .int .i64 (loB op), .int .i64 (hiB op), .int .i64 (popB op), .int .i64 (pushB op), .func (Fn.func (efB op)) #[] #[]]

theorem ix0 (w : World) : (Instr.index 153 (.agg opsV) (.int .i64 0)).run Tryd.prog w = .ok (.agg (opV 0)) w := by kernel_rfl
theorem ix1 (w : World) : (Instr.index 153 (.agg opsV) (.int .i64 1)).run Tryd.prog w = .ok (.agg (opV 1)) w := by kernel_rfl
theorem ix2 (w : World) : (Instr.index 153 (.agg opsV) (.int .i64 2)).run Tryd.prog w = .ok (.agg (opV 2)) w := by kernel_rfl
theorem ix3 (w : World) : (Instr.index 153 (.agg opsV) (.int .i64 3)).run Tryd.prog w = .ok (.agg (opV 3)) w := by kernel_rfl
theorem ix4 (w : World) : (Instr.index 153 (.agg opsV) (.int .i64 4)).run Tryd.prog w = .ok (.agg (opV 4)) w := by kernel_rfl
theorem ix5 (w : World) : (Instr.index 153 (.agg opsV) (.int .i64 5)).run Tryd.prog w = .ok (.agg (opV 5)) w := by kernel_rfl
theorem ix6 (w : World) : (Instr.index 153 (.agg opsV) (.int .i64 6)).run Tryd.prog w = .ok (.agg (opV 6)) w := by kernel_rfl
theorem ix7 (w : World) : (Instr.index 153 (.agg opsV) (.int .i64 7)).run Tryd.prog w = .ok (.agg (opV 7)) w := by kernel_rfl
theorem ix8 (w : World) : (Instr.index 153 (.agg opsV) (.int .i64 8)).run Tryd.prog w = .ok (.agg (opV 8)) w := by kernel_rfl
theorem ix9 (w : World) : (Instr.index 153 (.agg opsV) (.int .i64 9)).run Tryd.prog w = .ok (.agg (opV 9)) w := by kernel_rfl
theorem ix10 (w : World) : (Instr.index 153 (.agg opsV) (.int .i64 10)).run Tryd.prog w = .ok (.agg (opV 10)) w := by kernel_rfl
theorem ix11 (w : World) : (Instr.index 153 (.agg opsV) (.int .i64 11)).run Tryd.prog w = .ok (.agg (opV 11)) w := by kernel_rfl
theorem index_ops (op : Int) (h : 0 ≤ op ∧ op ≤ 11) (w : World) : (Instr.index 153 (.agg opsV) (.int .i64 op)).run Tryd.prog w = .ok (.agg (opV op)) w := by
  have hc : op = 0 ∨ op = 1 ∨ op = 2 ∨ op = 3 ∨ op = 4 ∨ op = 5 ∨ op = 6 ∨ op = 7 ∨ op = 8 ∨ op = 9 ∨ op = 10 ∨ op = 11 := by omega
  clear h
  rcases hc with rfl | rfl | rfl | rfl | rfl | rfl | rfl | rfl | rfl | rfl | rfl | rfl
  · exact ix0 w
  · exact ix1 w
  · exact ix2 w
  · exact ix3 w
  · exact ix4 w
  · exact ix5 w
  · exact ix6 w
  · exact ix7 w
  · exact ix8 w
  · exact ix9 w
  · exact ix10 w
  · exact ix11 w

set_option maxRecDepth 100000 in
set_option maxHeartbeats 4000000 in
theorem form_c (op a : Int) (w : World) (h : 0 ≤ op ∧ op ≤ 11) :
    Calls Tryd.prog 84 #[.agg #[.int .i64 op, .int .i64 a]] w fun e w' => e = .returned (.agg (opV op)) ∧ Below w.heap.size w w' := by
  have hix := index_ops op h
  have hb0 : Below w.heap.size w ((w.alloc (.cells #[.int .i64 op, .int .i64 a] 87)).alloc (.cells #[.string ⟨#[]⟩, .int .i64 0, .int .i64 0, .int .i64 0, .int .i64 0, .nilFunc] 121)) := bon (bnew _ _) (bnew _ _)
  have hX : BlkIs ((w.alloc (.cells #[.int .i64 op, .int .i64 a] 87)).alloc (.cells #[.string ⟨#[]⟩, .int .i64 0, .int .i64 0, .int .i64 0, .int .i64 0, .nilFunc] 121)) (w.heap.size + 1) 121 #[.string ⟨#[]⟩, .int .i64 0, .int .i64 0, .int .i64 0, .int .i64 0, .nilFunc] := blk_new _ _ _ _ (by simp)
  have p0 : ((w.alloc (.cells #[.int .i64 op, .int .i64 a] 87)).alloc (.cells #[.string ⟨#[]⟩, .int .i64 0, .int .i64 0, .int .i64 0, .int .i64 0, .nilFunc] 121)).cell? ⟨w.heap.size, 0, none⟩ = some (.int .i64 op) := by simp
  have hsz : ((w.alloc (.cells #[.int .i64 op, .int .i64 a] 87)).alloc (.cells #[.string ⟨#[]⟩, .int .i64 0, .int .i64 0, .int .i64 0, .int .i64 0, .nilFunc] 121)).heap.size = w.heap.size + 2 := by simp
  have hne : w.heap.size ≠ w.heap.size + 1 := by omega
  go_enter Tryd.func84, Tryd.ntmps84
  go_wp2_with fail
  generalize (w.alloc (.cells #[.int .i64 op, .int .i64 a] 87)).alloc (.cells #[.string ⟨#[]⟩, .int .i64 0, .int .i64 0, .int .i64 0, .int .i64 0, .nilFunc] 121) = W at hb0 hX p0 hsz ⊢
  have HO := Lib.hid (operations_c W.drew)
  have HX := Lib.hid (show BlkIs W.drew (w.heap.size + 1) 121 #[.string ⟨#[]⟩, .int .i64 0, .int .i64 0, .int .i64 0, .int .i64 0, .nilFunc] from hX)
  have HV : Hid (opV op = #[.string (nmB op), .int .i64 (loB op), .int .i64 (hiB op), .int .i64 (popB op), .int .i64 (pushB op), .func (Fn.func (efB op)) #[] #[]]) := rfl
  rw [HV.out] at hix
  clear hX
  go_region_held3 (fun w' => w'.cell? ⟨w.heap.size, 0, none⟩ = some (.int .i64 op))
    (first | go_keep | exact cell_on p0 hb1 | exact set_far7 hne (set_far7 hne (set_far7 hne (set_far7 hne (set_far7 hne (set_far7 hne (cell_on p0 hb1)))))) | fail "keep")
    (first | (go_at_call 100; refine HO.out.mono ?_; rintro e w1 ⟨rfl, hb1⟩; have hX1 := HX.out.next hb1; have z0 := hX1.cell 0; have z1 := hX1.cell 1; have z2 := hX1.cell 2; have z3 := hX1.cell 3; have z4 := hX1.cell 4; have z5 := hX1.cell 5; have f0 := hX1.frozen 0; have f1 := hX1.frozen 1; have f2 := hX1.frozen 2; have f3 := hX1.frozen 3; have f4 := hX1.frozen 4; have f5 := hX1.frozen 5; simp at z0 z1 z2 z3 z4 z5) | fail "arm")
  have hX2 := (((((hX1.set 0 (.string (nmB op))).set 1 (.int .i64 (loB op))).set 2 (.int .i64 (hiB op))).set 3 (.int .i64 (popB op))).set 4 (.int .i64 (pushB op))).set 5 (.func (Fn.func (efB op)) #[] #[])
  simp at hX2
  have r0 := hX2.cell 0
  have r1 := hX2.cell 1
  have r2 := hX2.cell 2
  have r3 := hX2.cell 3
  have r4 := hX2.cell 4
  have r5 := hX2.cell 5
  simp at r0 r1 r2 r3 r4 r5
  have ho : Out (w.heap.size + 1) (w.heap.size + 2) w1 ((((((w1.setCell ⟨w.heap.size + 1, 0, none⟩ (.string (nmB op))).setCell ⟨w.heap.size + 1, 1, none⟩ (.int .i64 (loB op))).setCell ⟨w.heap.size + 1, 2, none⟩ (.int .i64 (hiB op))).setCell ⟨w.heap.size + 1, 3, none⟩ (.int .i64 (popB op))).setCell ⟨w.heap.size + 1, 4, none⟩ (.int .i64 (pushB op))).setCell ⟨w.heap.size + 1, 5, none⟩ (.func (Fn.func (efB op)) #[] #[])) := out_set (out_set (out_set (out_set (out_set (out_set (Out.refl _ _ _) (by omega)) (by omega)) (by omega)) (by omega)) (by omega)) (by omega)
  have hb01 := bon hb0 (bstep hb1)
  have hs1 := (bstep hb1).size
  go_wp2_with fail
  refine bodyPost_ret (v := .agg (opV op)) (by rw [HV.out]; simp [results, Tryd.results84, go_sem, r0, r1, r2, r3, r4, r5]) rfl ?_
  exact ⟨rfl, hb01.trans (ho.below (by omega) hb01.size)⟩

set_option maxRecDepth 100000 in
set_option maxHeartbeats 2000000 in
theorem implInstr_c (op a : Int) (w : World) :
    Calls Tryd.prog 82 #[.agg #[.int .i64 op, .int .i64 a]] w fun e w' => e = .returned (.bool (instrB op a)) ∧ Below w.heap.size w w' := by
  have hb0 := bnew w (.cells #[.int .i64 op, .int .i64 a] 87)
  have hP : BlkIs (w.alloc (.cells #[.int .i64 op, .int .i64 a] 87)) w.heap.size 87 #[.int .i64 op, .int .i64 a] := blk_new _ _ _ _ rfl
  have p0 : (w.alloc (.cells #[.int .i64 op, .int .i64 a] 87)).cell? ⟨w.heap.size, 0, none⟩ = some (.int .i64 op) := hP.cell 0
  have p1 : (w.alloc (.cells #[.int .i64 op, .int .i64 a] 87)).cell? ⟨w.heap.size, 1, none⟩ = some (.int .i64 a) := hP.cell 1
  have HB := Lib.hid (isBetween_i op 0 11)
  by_cases h : 0 ≤ op ∧ op ≤ 11
  · have HV := Lib.hid ((instrB_in (a := a) h.1 h.2).trans (Bool.decide_and (loB op ≤ a) (a ≤ hiB op)))
    have e0 : (decide (0 ≤ op) && decide (op ≤ 11)) = true := by simp [h]
    rw [e0] at HB
    have HF := Lib.hid (form_c op a (w.alloc (.cells #[.int .i64 op, .int .i64 a] 87)) h)
    clear h e0
    go_enter Tryd.func82, Tryd.ntmps82
    go_wp2_with fail
    generalize w.alloc (.cells #[.int .i64 op, .int .i64 a] 87) = W at hb0 hP p0 p1 HF ⊢
    refine (HB.out W).mono ?_
    rintro e w1 ⟨rfl, rfl⟩
    go_wp2_with fail
    refine HF.out.mono ?_
    rintro e w2 ⟨rfl, hb2⟩
    have hP2 := hP.next hb2
    have q1 : (w2.alloc (.cells (opV op) 121)).cell? ⟨w.heap.size, 1, none⟩ = some (.int .i64 a) := by have := (hP2.next (bnew w2 (.cells (opV op) 121))).cell 1; simpa using this
    have hR : BlkIs (w2.alloc (.cells (opV op) 121)) w2.heap.size 121 (opV op) := blk_new _ _ _ _ rfl
    have r1 : (w2.alloc (.cells (opV op) 121)).cell? ⟨w2.heap.size, 1, none⟩ = some (.int .i64 (loB op)) := hR.cell 1
    have r2 : (w2.alloc (.cells (opV op) 121)).cell? ⟨w2.heap.size, 2, none⟩ = some (.int .i64 (hiB op)) := hR.cell 2
    have hb02 := bon (bon hb0 hb2) (bnew w2 (.cells (opV op) 121))
    unfold opV at q1 r1 r2 hb02 ⊢
    go_wp2_with fail
    refine (isBetween_i a (loB op) (hiB op) _).mono ?_
    rintro e w3 ⟨rfl, rfl⟩
    go_wp2_with fail
    go_ret
    exact ⟨ret_bool HV.out.symm, hb02⟩
  · have HV := Lib.hid (instrB_out (a := a) h)
    have e0 : (decide (0 ≤ op) && decide (op ≤ 11)) = false := by simpa using h
    rw [e0] at HB
    clear h e0
    go_enter Tryd.func82, Tryd.ntmps82
    go_wp2_with fail
    refine (HB.out _).mono ?_
    rintro e w1 ⟨rfl, rfl⟩
    go_wp2_with fail
    go_ret
    exact ⟨ret_bool HV.out.symm, hb0⟩

set_option maxRecDepth 100000 in
set_option maxHeartbeats 2000000 in
theorem implCode_c (A : Option Addr) (n c B : Nat) (xs : List (Int × Int)) (w : World) (h : InC w B A n xs) (hB : B ≤ w.heap.size) (hn : n ≤ 1048576) :
    Calls Tryd.prog 48 #[.slice A n c] w fun e w' => e = .returned (.bool (codeB xs)) ∧ Below w.heap.size w w' := by
  have hlen := Lib.hid h.1
  have HB := Lib.hid (isBetween_i (n : Int) 1 80)
  by_cases hs : 1 ≤ n ∧ n ≤ 80
  · have e0 : (decide (1 ≤ (n : Int)) && decide ((n : Int) ≤ 80)) = true := by simp; omega
    rw [e0] at HB
    clear e0
    go_enter Tryd.func48, Tryd.ntmps48
    go_wp2_with fail
    refine (HB.out w).mono ?_
    rintro e w1 ⟨rfl, rfl⟩
    go_wp2_with fail
    go_loopw [11] (fun i wr => ∃ k : Nat, k ≤ n ∧ i = .int .i64 k ∧ Hid (∀ x ∈ xs.take k, instrB x.1 x.2 = true) ∧ Below w.heap.size w wr) (fun i _ => n - (intOf i).toNat)
    case atStart => exact ⟨0, Nat.zero_le _, rfl, by intro x hx; simp at hx, Below.refl _ _⟩
    case round =>
      obtain ⟨k, hk, rfl, ha, hbel⟩ := hrel
      have hsz := hbel.size
      by_cases hlt : k < n
      · obtain ⟨b, off, x, rfl, hb, hx, q0, q1⟩ := (h.next hbel hB).at_ hlt
        have hb0 := bnew wr (.cells #[.int .i64 x.1, .int .i64 x.2] 87)
        have HI := implInstr_c x.1 x.2 (wr.alloc (.cells #[.int .i64 x.1, .int .i64 x.2] 87))
        cases hv : instrB x.1 x.2 with
        | true =>
          have HS := Lib.hid (codeB_step ha.out hx hv)
          rw [hv] at HI
          have HI' := Lib.hid HI
          clear HI hv hx
          go_wp2_with fail
          refine HI'.out.mono ?_
          rintro e w1 ⟨rfl, hb1⟩
          go_wp2_with fail
          go_roundw
          case rel => exact ⟨k + 1, by omega, by go_num, HS, bon (bon hbel hb0) hb1⟩
          case measure => simp [intOf]; omega
        | false =>
          have HS := Lib.hid (codeB_no hx hv)
          rw [hv] at HI
          have HI' := Lib.hid HI
          clear HI hv hx
          go_wp2_with fail
          refine HI'.out.mono ?_
          rintro e w1 ⟨rfl, hb1⟩
          go_wp2_with fail
          go_ret
          exact ⟨ret_bool HS.out.symm, bon (bon hbel hb0) hb1⟩
      · have HV : Hid (codeB xs = true) := by
          show _ = _
          rw [codeB_is ha.out (by have := hlen.out; omega), hlen.out, decide_eq_true hs]
        go_wp2_with fail
        go_ret
        exact ⟨ret_bool HV.out.symm, hbel⟩
  · have e0 : (decide (1 ≤ (n : Int)) && decide ((n : Int) ≤ 80)) = false := by simp; omega
    have HV : Hid (codeB xs = false) := codeB_len (by rw [hlen.out]; exact hs)
    rw [e0] at HB
    clear e0
    go_enter Tryd.func48, Tryd.ntmps48
    go_wp2_with fail
    refine (HB.out w).mono ?_
    rintro e w1 ⟨rfl, rfl⟩
    go_wp2_with fail
    go_ret
    exact ⟨ret_bool HV.out.symm, Below.refl _ _⟩
end Go.Proofs.YtffkdidgfeknkaaDoor
