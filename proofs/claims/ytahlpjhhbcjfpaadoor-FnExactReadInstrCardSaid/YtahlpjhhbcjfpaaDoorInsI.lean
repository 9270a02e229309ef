/-
  The text of an instruction, in the program. Conditions: the table of the powers of ten lies as the library's text lays it.
-/
import Derived.Test.YtahlpjhhbcjfpaaDoorInsT
namespace Go.Proofs.YtahlpjhhbcjfpaaDoor
set_option linter.unusedVariables false
open Go.RowKit

set_option maxRecDepth 100000 in
set_option maxHeartbeats 4000000 in
theorem hasArg_c (op : Int) (w : World) :
    Calls Tryd.prog 49 #[.agg (opV op)] w fun e w' => e = .returned (.bool (decide (0 < hiB op))) ∧ Below w.heap.size w w' := by
  have hb0 := bnew w (.cells (opV op) 84)
  have r2 : (w.alloc (.cells (opV op) 84)).cell? ⟨w.heap.size, 2, none⟩ = some (.int .i64 (hiB op)) := (show BlkIs (w.alloc (.cells (opV op) 84)) w.heap.size 84 (opV op) from blk_new _ _ _ _ rfl).cell 2
  unfold opV at hb0 r2 ⊢
  go_enter Tryd.func49, Tryd.ntmps49
  go_wp2_with fail
  go_ret
  exact ⟨rfl, hb0⟩

set_option maxRecDepth 100000 in
set_option maxHeartbeats 4000000 in
/-- Words side by side, with a blank between. -/
theorem lineOf_c (g c : Nat) (xs : List ByteArray) (w : World) (hcells : ∀ (j : Nat) x, xs[j]? = some x → w.cell? ⟨g, 0 + j, none⟩ = some (.string x)) (hg : g < w.heap.size) (hn : xs.length ≤ 1000) (hc : xs.length ≤ c)
    (hlen : (Lib.join (xs.map (·.data.toList)) (⟨#[32]⟩ : ByteArray).data.toList).length ≤ 140737488355328) :
    Calls Tryd.prog 50 #[.slice (some ⟨g, 0, none⟩) xs.length c] w fun e w' => e = .returned (.string ⟨(Lib.join (xs.map (·.data.toList)) (⟨#[32]⟩ : ByteArray).data.toList).toArray⟩) ∧ Below w.heap.size w w' := by
  have HJ : Hid (Calls Tryd.prog 70 #[.slice (some ⟨g, 0, none⟩) xs.length c, .string ⟨#[32]⟩] w fun e w' => e = .returned (.string ⟨(Lib.join (xs.map (·.data.toList)) (⟨#[32]⟩ : ByteArray).data.toList).toArray⟩) ∧ Below w.heap.size w w') :=
    Any.strings_Join Tryd.lays156 Tryd.extra156 g 0 c xs ⟨#[32]⟩ w hcells hg (by omega) hc hlen
  generalize (⟨(Lib.join (xs.map (·.data.toList)) (⟨#[32]⟩ : ByteArray).data.toList).toArray⟩ : ByteArray) = R at HJ ⊢
  clear hcells hlen
  generalize xs.length = n at HJ hn hc ⊢
  go_enter Tryd.func50, Tryd.ntmps50
  go_wp2_with fail
  refine HJ.out.mono ?_
  rintro e w1 ⟨rfl, hb1⟩
  go_wp2_with fail
  go_ret
  exact ⟨rfl, hb1⟩

set_option maxRecDepth 100000 in
set_option maxHeartbeats 8000000 in
theorem implText_c (op a : Int) (w : World) (hT : Tab10 w) :
    Calls Tryd.prog 12 #[.agg #[.int .i64 op, .int .i64 a]] w fun e w' => e = .returned (.tuple #[.string (insR op a).1, .bool (insR op a).2]) ∧ Below w.heap.size w w' := by
  have hb0 := bnew w (.cells #[.int .i64 op, .int .i64 a] 26)
  have hP : BlkIs (w.alloc (.cells #[.int .i64 op, .int .i64 a] 26)) w.heap.size 26 #[.int .i64 op, .int .i64 a] := blk_new _ _ _ _ rfl
  have hT0 := hT.next hb0
  have HI0 := implInstr_c op a (w.alloc (.cells #[.int .i64 op, .int .i64 a] 26))
  cases hv : instrB op a with
  | false =>
    rw [insR_no hv]
    rw [hv] at HI0
    have HI := Lib.hid HI0
    clear HI0 hv
    go_enter Tryd.func12, Tryd.ntmps12
    go_wp2_with fail
    generalize w.alloc (.cells #[.int .i64 op, .int .i64 a] 26) = W at hb0 HI hP ⊢
    refine HI.out.mono ?_
    rintro e w1 ⟨rfl, hb1⟩
    go_wp2_with fail
    go_ret2
    exact ⟨rfl, bon hb0 hb1⟩
  | true =>
    rw [insR_yes hv]
    rw [hv] at HI0
    have HI := Lib.hid HI0
    have hl := instrB_lim hv
    have HF := Lib.hid (fun W => form_c op a W hl.1)
    have HD := Lib.hid (fun W (h : Tab10 W) => (decimal_c a (by omega) (by omega) W h).mono fun e w' hh => show _ ∧ Below W.heap.size W w' from ⟨hh.1, by obtain ⟨_, k, os, hw⟩ := hh; rw [hw]; exact Lib.below_grow _ _ (Nat.le_refl _) k os⟩)
    have HA := Lib.hid (hasArg_c op)
    have hs5 := nm_size op hl.1
    have hil := Lib.itoa_length_le a (by omega) (by omega)
    have HS := Lib.hid (And.intro hs5 hil)
    clear HI0 hv hl hs5 hil
    by_cases hh : 0 < hiB op
    · have HL := Lib.hid (lineB_join a hh)
      rw [decide_eq_true hh] at HA
      clear hh
      go_enter Tryd.func12, Tryd.ntmps12
      go_wp2_with fail
      generalize w.alloc (.cells #[.int .i64 op, .int .i64 a] 26) = W at hb0 HI hP hT0 ⊢
      refine HI.out.mono ?_
      rintro e w1 ⟨rfl, hb1⟩
      have hP1 := hP.next hb1
      have q0 := hP1.cell 0
      have q1 := hP1.cell 1
      simp at q0 q1
      go_wp2_with fail
      refine (HF.out _).mono ?_
      rintro e w2 ⟨rfl, hb2⟩
      have hT2 := (hT0.next hb1).next hb2
      have hbN := bnew w2 (.cells (opV op) 84)
      have hR : BlkIs (w2.alloc (.cells (opV op) 84)) w2.heap.size 84 (opV op) := blk_new _ _ _ _ rfl
      have hPN := (hP1.next hb2).next hbN
      have hTN := hT2.next hbN
      have hb02 := bon (bon (bon hb0 hb1) hb2) hbN
      have r0 := hR.cell 0
      have r1 := hR.cell 1
      have r2 := hR.cell 2
      have r3 := hR.cell 3
      have r4 := hR.cell 4
      have r5 := hR.cell 5
      unfold opV at hbN hR hPN hTN hb02 r0 r1 r2 r3 r4 r5 HA ⊢
      clear hP hP1 q0 q1 hT2 hT0 HI HF
      go_wp2_with fail
      generalize w2.alloc (.cells #[.string (nmB op), .int .i64 (loB op), .int .i64 (hiB op), .int .i64 (popB op), .int .i64 (pushB op), .func (Fn.func (efB op)) #[] #[]] 84) = W2 at hbN hR hPN hTN hb02 r0 r1 r2 r3 r4 r5 ⊢
      refine (HA.out W2).mono ?_
      rintro e w3 ⟨rfl, hb3⟩
      have s0 := cell_next r0 hb3
      have s1 := (hPN.next hb3).cell 1
      have hT3 := hTN.next hb3
      have hT4 := hT3.next (bstep (Below.refl _ w3.drew))
      simp at s0 s1
      have hb03 := bon hb02 hb3
      clear r0 r1 r2 r3 r4 r5 hR hPN hTN HA
      go_wp2_with fail
      refine wp_region_held_drew (S := fun w' => w'.cell? ⟨w2.heap.size, 0, none⟩ = some (.string (nmB op)) ∧ w'.cell? ⟨w.heap.size, 1, none⟩ = some (.int .i64 a)) (by kernel_rfl) ⟨s0, s1⟩ ?_
      intro hH0
      refine wpAnyH_take (i := 0) (v := ?_) rfl (by kernel_rfl) (by kernel_rfl) (by kernel_rfl) (fun _ _ _ h => h) (Or.inl ⟨by kernel_rfl, ?_⟩) (by assumption) ?_
      rotate_left
      · intro w9 hS9; (try dsimp only at hS9); go_simp; (try with_reducible rfl)
      set_option linter.unusedSimpArgs false in try simp only [Act.put, List.getElem_toArray, List.getElem_cons_succ, List.getElem_cons_zero, List.setIfInBounds_toArray, List.set_cons_zero, List.set_cons_succ]
      refine wpAnyH_take (i := 1) (v := ?_) rfl (by kernel_rfl) (by kernel_rfl) (by kernel_rfl) (fun _ _ _ h => h) (Or.inl ⟨by kernel_rfl, ?_⟩) (by assumption) ?_
      rotate_left
      · intro w9 hS9; (try dsimp only at hS9); go_simp; (try with_reducible rfl)
      set_option linter.unusedSimpArgs false in try simp only [Act.put, List.getElem_toArray, List.getElem_cons_succ, List.getElem_cons_zero, List.setIfInBounds_toArray, List.set_cons_zero, List.set_cons_succ]
      refine wpAnyH_take (i := 2) (v := ?_) rfl (by kernel_rfl) (by kernel_rfl) (by kernel_rfl) (fun _ _ _ h => h) (Or.inl ⟨by kernel_rfl, ?_⟩) (by assumption) ?_
      rotate_left
      · intro w9 hS9; (try dsimp only at hS9); go_simp; (try with_reducible rfl)
      set_option linter.unusedSimpArgs false in try simp only [Act.put, List.getElem_toArray, List.getElem_cons_succ, List.getElem_cons_zero, List.setIfInBounds_toArray, List.set_cons_zero, List.set_cons_succ]
      refine wpAnyH_take (i := 3) (v := ?_) rfl (by kernel_rfl) (by kernel_rfl) (by kernel_rfl) (fun _ _ _ h => h) (Or.inl ⟨by kernel_rfl, ?_⟩) (by assumption) ?_
      rotate_left
      · intro w9 hS9; (try dsimp only at hS9); go_simp; (try with_reducible rfl)
      set_option linter.unusedSimpArgs false in try simp only [Act.put, List.getElem_toArray, List.getElem_cons_succ, List.getElem_cons_zero, List.setIfInBounds_toArray, List.set_cons_zero, List.set_cons_succ]
      refine wpAnyH_ready (rs := [4]) (by kernel_rfl) (by simp) ?_
      refine AllReadyH.cons rfl (fun K hK => ?_) AllReadyH.nil
      go_simp
      go_wp2_with (go_at_call 51; refine (HD.out _ hT4).mono ?_; rintro e w4 ⟨rfl, hb4⟩)
      have t0 := cell_on s0 hb4
      have t1 := cell_on s1 hb4
      refine hK.out _ _ ⟨t0, t1⟩ (fun hH1 => ?_)
      clear hK K hH0
      set_option linter.unusedSimpArgs false in try simp only [Act.put, List.getElem_toArray, List.getElem_cons_succ, List.getElem_cons_zero, List.setIfInBounds_toArray, List.set_cons_zero, List.set_cons_succ]
      have hb5 := bnew w4 (.cells #[.string (nmB op), .string ⟨(Lib.itoa a).toArray⟩] 9)
      have HLN : Hid (Calls Tryd.prog 50 #[.slice (some ⟨w4.heap.size, 0, none⟩) 2 2] (w4.alloc (.cells #[.string (nmB op), .string ⟨(Lib.itoa a).toArray⟩] 9)) fun e w' => e = .returned (.string (lineB op a)) ∧ Below (w4.alloc (.cells #[.string (nmB op), .string ⟨(Lib.itoa a).toArray⟩] 9)).heap.size (w4.alloc (.cells #[.string (nmB op), .string ⟨(Lib.itoa a).toArray⟩] 9)) w') := by
        rw [HL.out]
        refine lineOf_c w4.heap.size 2 [nmB op, ⟨(Lib.itoa a).toArray⟩] _ (fun j x hj => ?_) (by simp) (by simp) (by simp) ?_
        · match j, hj with
          | 0, hj => obtain rfl : nmB op = x := by simpa using hj
                     simp
          | 1, hj => obtain rfl : (⟨(Lib.itoa a).toArray⟩ : ByteArray) = x := by simpa using hj
                     simp
          | j + 2, hj => simp at hj
        · have h1 := HS.out.1
          have h2 := HS.out.2
          simp [Lib.join]
          omega
      refine wpAnyH_ready (rs := [5]) (by kernel_rfl) (by simp) ?_
      refine AllReadyH.cons rfl (fun K hK => ?_) AllReadyH.nil
      go_simp
      generalize w4.alloc (.cells #[.string (nmB op), .string ⟨(Lib.itoa a).toArray⟩] 9) = w5 at hb5 HLN ⊢
      refine hK.out _ _ ⟨cell_next t0 hb5, cell_next t1 hb5⟩ (fun hH2 => ?_)
      clear hK K hH1
      set_option linter.unusedSimpArgs false in try simp only [Act.put, List.getElem_toArray, List.getElem_cons_succ, List.getElem_cons_zero, List.setIfInBounds_toArray, List.set_cons_zero, List.set_cons_succ]
      refine wpAnyH_ready (rs := [6]) (by kernel_rfl) (by simp) ?_
      refine AllReadyH.cons rfl (fun K hK => ?_) AllReadyH.nil
      go_simp
      go_wp2_with (go_at_call 50; refine HLN.out.mono ?_; rintro e w6 ⟨rfl, hb6⟩)
      refine hK.out _ _ ⟨cell_next (cell_next t0 hb5) hb6, cell_next (cell_next t1 hb5) hb6⟩ (fun hH3 => ?_)
      clear hK K hH2
      set_option linter.unusedSimpArgs false in try simp only [Act.put, List.getElem_toArray, List.getElem_cons_succ, List.getElem_cons_zero, List.setIfInBounds_toArray, List.set_cons_zero, List.set_cons_succ]
      refine wpAnyH_take (i := 7) (v := ?_) rfl (by kernel_rfl) (by kernel_rfl) (by kernel_rfl) (fun _ _ _ h => h) (Or.inl ⟨by kernel_rfl, ?_⟩) (by assumption) ?_
      rotate_left
      · intro w9 hS9; (try dsimp only at hS9); go_simp; (try with_reducible rfl)
      set_option linter.unusedSimpArgs false in try simp only [Act.put, List.getElem_toArray, List.getElem_cons_succ, List.getElem_cons_zero, List.setIfInBounds_toArray, List.set_cons_zero, List.set_cons_succ]
      refine wpAnyH_take (i := 8) (v := ?_) rfl (by kernel_rfl) (by kernel_rfl) (by kernel_rfl) (fun _ _ _ h => h) (Or.inl ⟨by kernel_rfl, ?_⟩) (by assumption) ?_
      rotate_left
      · intro w9 hS9; (try dsimp only at hS9); go_simp; (try with_reducible rfl)
      set_option linter.unusedSimpArgs false in try simp only [Act.put, List.getElem_toArray, List.getElem_cons_succ, List.getElem_cons_zero, List.setIfInBounds_toArray, List.set_cons_zero, List.set_cons_succ]
      refine wpAnyH_done (by kernel_rfl) ?_ _
      go_wp2_with fail
      go_ret2
      exact ⟨rfl, bon (bon (bon hb03 (bstep hb4)) hb5) hb6⟩
    · have HL := Lib.hid (lineB_bare a hh)
      rw [decide_eq_false hh] at HA
      clear hh
      go_enter Tryd.func12, Tryd.ntmps12
      go_wp2_with fail
      generalize w.alloc (.cells #[.int .i64 op, .int .i64 a] 26) = W at hb0 HI hP hT0 ⊢
      refine HI.out.mono ?_
      rintro e w1 ⟨rfl, hb1⟩
      have hP1 := hP.next hb1
      have q0 := hP1.cell 0
      have q1 := hP1.cell 1
      simp at q0 q1
      go_wp2_with fail
      refine (HF.out _).mono ?_
      rintro e w2 ⟨rfl, hb2⟩
      have hbN := bnew w2 (.cells (opV op) 84)
      have hR : BlkIs (w2.alloc (.cells (opV op) 84)) w2.heap.size 84 (opV op) := blk_new _ _ _ _ rfl
      have hb02 := bon (bon (bon hb0 hb1) hb2) hbN
      have r0 := hR.cell 0
      have r1 := hR.cell 1
      have r2 := hR.cell 2
      have r3 := hR.cell 3
      have r4 := hR.cell 4
      have r5 := hR.cell 5
      unfold opV at hbN hR hb02 r0 r1 r2 r3 r4 r5 HA ⊢
      clear hP hP1 q0 q1 hT0 HI HF
      go_wp2_with fail
      generalize w2.alloc (.cells #[.string (nmB op), .int .i64 (loB op), .int .i64 (hiB op), .int .i64 (popB op), .int .i64 (pushB op), .func (Fn.func (efB op)) #[] #[]] 84) = W2 at hbN hR hb02 r0 r1 r2 r3 r4 r5 ⊢
      refine (HA.out W2).mono ?_
      rintro e w3 ⟨rfl, hb3⟩
      have s0 := cell_next r0 hb3
      simp at s0
      clear r0 r1 r2 r3 r4 r5 hR HA
      go_wp2_with fail
      go_ret2
      exact ⟨by rw [HL.out]; rfl, bon hb02 hb3⟩
end Go.Proofs.YtahlpjhhbcjfpaaDoor

