/-
  The instructions on circles of a graph. Conditions: at most 80 instructions.
-/
import Derived.Test.YtffkdidgfeknkaaGreatDoorBunH
import Derived.Test.YtffkdidgfeknkaaGreatDoorBunE
namespace Go.Proofs.YtffkdidgfeknkaaGreatDoor
set_option linter.unusedVariables false
open Go.RowKit

set_option maxRecDepth 100000 in
set_option maxHeartbeats 8000000 in
theorem circles_c (gb n c : Nat) (G : Nat → Nat) (w : World) (h : GrAt w gb n G) (hl : ∀ k, G k < 2 ^ 128) (hn : 1 ≤ n ∧ n ≤ 80) :
    Calls Tryz.prog 38 #[.slice (some ⟨gb, 0, none⟩) n c] w fun e w' => e = .returned (.agg #[.int .u64 (loW (cirN (wmN G n n) n) : Nat), .int .u64 (hiW (cirN (wmN G n n) n) : Nat)]) ∧ Below w.heap.size w w' := by
  have hb0 := bnew w (.cells #[.int .u64 0, .int .u64 0] 68)
  have hX : BlkIs (w.alloc (.cells #[.int .u64 0, .int .u64 0] 68)) w.heap.size 68 #[.int .u64 0, .int .u64 0] := blk_new _ _ _ _ rfl
  have hsz : (w.alloc (.cells #[.int .u64 0, .int .u64 0] 68)).heap.size = w.heap.size + 1 := by simp
  have HCL := cloneG_c gb n c G _ (h.next hb0) (by omega)
  rw [hsz] at HCL
  have HCL := Lib.hid HCL
  have HL := Lib.hid (wmN_lt hl n)
  have HSZ := Lib.hid hsz
  clear h hl hsz
  obtain ⟨i0, hi, hz0, hz1, hz2⟩ := info_parts infoSet
  go_enter Tryz.func38, Tryz.ntmps38
  go_wp2_with fail
  generalize w.alloc (.cells #[.int .u64 0, .int .u64 0] 68) = W0 at hb0 hX HCL HSZ ⊢
  obtain ⟨rb, hrb⟩ : ∃ rb, Hid (w.heap.size = rb) := ⟨_, rfl⟩
  have HX0 : Hid (BlkIs W0 rb 68 #[.int .u64 0, .int .u64 0]) := by show _; rw [← hrb.out]; exact hX
  rw [show (.pointer (some ⟨w.heap.size, 0, none⟩) : Value) = .pointer (some ⟨rb, 0, none⟩) by rw [hrb.out]]
  clear hX
  refine HCL.out.mono ?_
  rintro e w1 ⟨gr, cr, rfl, hG, hb1⟩
  have hrg : rb < gr := by have := hG.lt.1; have := hrb.out; omega
  have hwg : w.heap.size < gr := by have := hG.lt.1; omega
  have HG0 : Hid (GrO w1 (w.heap.size + 1) gr n cr (wmN G n 0)) := hG
  have hb1 : Below W0.heap.size W0 w1 := by rw [HSZ.out]; exact hb1
  have HX1 := Lib.hid (HX0.out.next hb1)
  have HB1 := Lib.hid (bon hb0 hb1)
  clear hG hb1 hb0 HCL HX0
  go_wp2_with fail
  go_loopw [4, 5, 12, 17] (fun _ _ i _ wr => ∃ m : Nat, i = .int .i64 m ∧ m ≤ n ∧ Hid (GrO wr (w.heap.size + 1) gr n cr (wmN G n m)) ∧ Hid (BlkIs wr rb 68 #[.int .u64 0, .int .u64 0]) ∧ Hid (Below w.heap.size w wr)) (fun _ _ i _ _ => (n - intOf i).toNat)
  case atStart => exact ⟨0, rfl, Nat.zero_le _, HG0, HX1, HB1⟩
  case round =>
    clear HG0 HX1 HB1
    rename World => wr
    obtain ⟨m, rfl, hm, HG, HX, HB⟩ := hrel
    by_cases hlt : m < n
    · have i3 : (m : Int) < (n : Int) := by omega
      obtain ⟨R, hR⟩ : ∃ R, Hid (wmN G n m = R) := ⟨_, rfl⟩
      have HNX : Hid (wkN R m n = wmN G n (m + 1)) := by show _ = _; rw [← hR.out]; rfl
      have HLR : Hid (∀ k, R k < 2 ^ 128) := by show _; rw [← hR.out]; exact HL.out m
      have HG0 : Hid (GrO wr (w.heap.size + 1) gr n cr (wkN R m 0)) := by show _; rw [wkN_zero, ← hR.out]; exact HG.out
      go_wp2_with fail
      go_loopw [5, 17] (fun _ i wr2 => ∃ k : Nat, i = .int .i64 k ∧ k ≤ n ∧ Hid (GrO wr2 (w.heap.size + 1) gr n cr (wkN R m k)) ∧ Hid (BlkIs wr2 rb 68 #[.int .u64 0, .int .u64 0]) ∧ Hid (Below w.heap.size w wr2)) (fun _ i _ => (n - intOf i).toNat)
      case atStart => exact ⟨0, rfl, Nat.zero_le _, HG0, HX, HB⟩
      case round =>
        clear HG0 HX HB HG
        rename World => wr2
        obtain ⟨k, rfl, hk, HG, HX, HB⟩ := hrel
        by_cases hlt2 : k < n
        · have i4 : (k : Int) < (n : Int) := by omega
          obtain ⟨z0, z1⟩ := HG.out.cells hlt2
          rw [wkN_at] at z0 z1
          have HHAS := Lib.hid (has_c (R k) m wr2 (HLR.out k) (by omega))
          go_wp2_with fail
          refine HHAS.out.mono ?_
          rintro e w2 ⟨rfl, hb2⟩
          have HG2 := Lib.hid (HG.out.next hb2)
          have HX2 := Lib.hid (HX.out.next hb2)
          have HB2 := Lib.hid (bon HB.out hb2)
          clear HG HX HB HHAS z0 z1 hb2
          cases hbit : (R k).testBit m
          case false =>
            have HG3 : Hid (GrO w2 (w.heap.size + 1) gr n cr (wkN R m (k + 1))) := HG2.out.same (wkN_no hbit)
            clear hbit
            go_wp2_with fail
            go_roundw
            case rel => exact ⟨k + 1, by go_num, by omega, HG3, HX2, HB2⟩
            case measure => simp [intOf]; omega
          case true =>
            go_upto_region 9 with fail
            have z := HG2.out.cells hlt2
            rw [wkN_at] at z
            obtain ⟨z0, z1⟩ := z
            have y0 := HG2.out.cells hlt
            rw [wkN_mid] at y0
            have hdr : Below w2.heap.size w2 w2.drew := (Below.refl _ _).drew
            have HG2 := Lib.hid (HG2.out.next hdr)
            have HX2 := Lib.hid (HX2.out.next hdr)
            have HB2 := Lib.hid (bon HB2.out hdr)
            have HOR := Lib.hid (or_c (R k) (R m) w2.drew (HLR.out k) (HLR.out m))
            have i5 : (m : Int) < (n : Int) := i3
            refine wp_region_held_drew (S := fun W9 => W9.cell? ⟨gr, m * 2, none⟩ = some (.int .u64 (loW (R m) : Nat)) ∧ W9.cell? ⟨gr, m * 2 + 1, none⟩ = some (.int .u64 (hiW (R m) : Nat))) (by kernel_rfl) y0 ?_
            intro hHeld0
            refine wpAnyH_take (i := 0) (v := ?_) rfl (by kernel_rfl) (by kernel_rfl) (by kernel_rfl) (fun _ _ _ h => h) (Or.inl ⟨by kernel_rfl, ?_⟩) (by assumption) ?_
            rotate_left
            · intro w9 hS9; (try dsimp only at hS9); go_simp; (try with_reducible rfl)
            set_option linter.unusedSimpArgs false in try simp only [Act.put, List.getElem_toArray, List.getElem_cons_succ, List.getElem_cons_zero, List.setIfInBounds_toArray, List.set_cons_zero, List.set_cons_succ]
            refine wpAnyH_take (i := 1) (v := ?_) rfl (by kernel_rfl) (by kernel_rfl) (by kernel_rfl) (fun _ _ _ h => h) (Or.inl ⟨by kernel_rfl, ?_⟩) (by assumption) ?_
            rotate_left
            · intro w9 hS9; (try dsimp only at hS9); go_simp; (try with_reducible rfl)
            set_option linter.unusedSimpArgs false in try simp only [Act.put, List.getElem_toArray, List.getElem_cons_succ, List.getElem_cons_zero, List.setIfInBounds_toArray, List.set_cons_zero, List.set_cons_succ]
            refine wpAnyH_take (i := 2) (v := ?_) rfl (by kernel_rfl) (by kernel_rfl) (by kernel_rfl) (fun _ _ _ h => h) (Or.inl ⟨by kernel_rfl, ?_⟩) (by assumption) ?_
            rotate_left
            · intro w9 hS9; (try dsimp only at hS9); go_simp; (try with_reducible rfl)
            set_option linter.unusedSimpArgs false in try simp only [Act.put, List.getElem_toArray, List.getElem_cons_succ, List.getElem_cons_zero, List.setIfInBounds_toArray, List.set_cons_zero, List.set_cons_succ]
            refine wpAnyH_take (i := 3) (v := ?_) rfl (by kernel_rfl) (by kernel_rfl) (by kernel_rfl) (fun _ _ _ h => h) (Or.inl ⟨by kernel_rfl, ?_⟩) (by assumption) ?_
            rotate_left
            · intro w9 hS9; (try dsimp only at hS9); go_simp; (try with_reducible rfl)
            set_option linter.unusedSimpArgs false in try simp only [Act.put, List.getElem_toArray, List.getElem_cons_succ, List.getElem_cons_zero, List.setIfInBounds_toArray, List.set_cons_zero, List.set_cons_succ]
            refine wpAnyH_take (i := 4) (v := ?_) rfl (by kernel_rfl) (by kernel_rfl) (by kernel_rfl) (fun _ _ _ h => h) (Or.inl ⟨by kernel_rfl, ?_⟩) (by assumption) ?_
            rotate_left
            · intro w9 hS9; (try dsimp only at hS9); go_simp; (try with_reducible rfl)
            set_option linter.unusedSimpArgs false in try simp only [Act.put, List.getElem_toArray, List.getElem_cons_succ, List.getElem_cons_zero, List.setIfInBounds_toArray, List.set_cons_zero, List.set_cons_succ]
            refine wpAnyH_take (i := 6) (v := ?_) rfl (by kernel_rfl) (by kernel_rfl) (by kernel_rfl) (fun _ _ _ h => h) (Or.inl ⟨by kernel_rfl, ?_⟩) (by assumption) ?_
            rotate_left
            · intro w9 hS9; (try dsimp only at hS9); go_simp; (try with_reducible rfl)
            set_option linter.unusedSimpArgs false in try simp only [Act.put, List.getElem_toArray, List.getElem_cons_succ, List.getElem_cons_zero, List.setIfInBounds_toArray, List.set_cons_zero, List.set_cons_succ]
            refine wpAnyH_take (i := 7) (v := ?_) rfl (by kernel_rfl) (by kernel_rfl) (by kernel_rfl) (fun _ _ _ h => h) (Or.inl ⟨by kernel_rfl, ?_⟩) (by assumption) ?_
            rotate_left
            · intro w9 hS9; (try dsimp only at hS9); go_simp; (try with_reducible rfl)
            set_option linter.unusedSimpArgs false in try simp only [Act.put, List.getElem_toArray, List.getElem_cons_succ, List.getElem_cons_zero, List.setIfInBounds_toArray, List.set_cons_zero, List.set_cons_succ]
            refine wpAnyH_take (i := 8) (v := ?_) rfl (by kernel_rfl) (by kernel_rfl) (by kernel_rfl) (fun _ _ _ h => h) (Or.inl ⟨by kernel_rfl, ?_⟩) (by assumption) ?_
            rotate_left
            · intro w9 hS9; (try dsimp only at hS9); go_simp; (try with_reducible rfl)
            set_option linter.unusedSimpArgs false in try simp only [Act.put, List.getElem_toArray, List.getElem_cons_succ, List.getElem_cons_zero, List.setIfInBounds_toArray, List.set_cons_zero, List.set_cons_succ]
            refine wpAnyH_take (i := 9) (v := ?_) rfl (by kernel_rfl) (by kernel_rfl) (by kernel_rfl) (fun _ _ _ h => h) (Or.inl ⟨by kernel_rfl, ?_⟩) (by assumption) ?_
            rotate_left
            · intro w9 hS9; (try dsimp only at hS9); go_simp; (try with_reducible rfl)
            set_option linter.unusedSimpArgs false in try simp only [Act.put, List.getElem_toArray, List.getElem_cons_succ, List.getElem_cons_zero, List.setIfInBounds_toArray, List.set_cons_zero, List.set_cons_succ]
            refine wpAnyH_ready (rs := [5]) (by kernel_rfl) (by simp) ?_
            refine AllReadyH.cons rfl (fun K hK => ?_) (AllReadyH.nil)
            go_simp
            refine hK.out _ _ y0 (fun hHeld1 => ?_)
            clear hK K hHeld0
            set_option linter.unusedSimpArgs false in try simp only [Act.put, List.getElem_toArray, List.getElem_cons_succ, List.getElem_cons_zero, List.setIfInBounds_toArray, List.set_cons_zero, List.set_cons_succ]
            refine wpAnyH_ready (rs := [10]) (by kernel_rfl) (by simp) ?_
            refine AllReadyH.cons rfl (fun K hK => ?_) (AllReadyH.nil)
            go_simp
            go_wp2_with (go_at_call 76; refine HOR.out.mono ?_; rintro e w5 ⟨rfl, hb5⟩)
            have hG5 := HG2.out.next hb5
            have hX5 := HX2.out.next hb5
            have hbw5 := bon HB2.out hb5
            obtain ⟨q5, q6⟩ := hG5.cells hlt2
            have s5 := hG5.frozen (k * 2)
            have s6 := hG5.frozen (k * 2 + 1)
            have y5 := hG5.cells hlt
            rw [wkN_mid] at y5
            have hG6 := hG5.put (R' := wkN R m (k + 1)) (v := R k ||| R m) hlt2 (wkN_yes hbit) (fun i hi => wkN_other R m k i hi)
            have y6 := hG6.cells hlt
            rw [wkN_mid] at y6
            refine hK.out _ _ y5 (fun hHeld2 => ?_)
            clear hK K hHeld1
            set_option linter.unusedSimpArgs false in try simp only [Act.put, List.getElem_toArray, List.getElem_cons_succ, List.getElem_cons_zero, List.setIfInBounds_toArray, List.set_cons_zero, List.set_cons_succ]
            refine wpAnyH_take (i := 11) (v := ?_) rfl (by kernel_rfl) (by kernel_rfl) (by kernel_rfl) (fun _ _ _ h => h) (Or.inl ⟨by kernel_rfl, ?_⟩) (by assumption) ?_
            rotate_left
            · intro w9 hS9; (try dsimp only at hS9); go_simp; (try with_reducible rfl)
            set_option linter.unusedSimpArgs false in try simp only [Act.put, List.getElem_toArray, List.getElem_cons_succ, List.getElem_cons_zero, List.setIfInBounds_toArray, List.set_cons_zero, List.set_cons_succ]
            refine wpAnyH_ready (rs := [12]) (by kernel_rfl) (by simp) ?_
            refine AllReadyH.cons rfl (fun K hK => ?_) (AllReadyH.nil)
            go_simp
            refine hK.out _ _ y6 (fun hHeld3 => ?_)
            clear hK K hHeld2
            set_option linter.unusedSimpArgs false in try simp only [Act.put, List.getElem_toArray, List.getElem_cons_succ, List.getElem_cons_zero, List.setIfInBounds_toArray, List.set_cons_zero, List.set_cons_succ]
            refine wpAnyH_done (by kernel_rfl) ?_ _
            have HG6 := Lib.hid hG6
            have hgl := hG5.lt
            have hX6a : BlkIs (w5.setCell ⟨gr, k * 2, none⟩ (.int .u64 (loW (R k ||| R m) : Nat))) rb 68 #[.int .u64 0, .int .u64 0] := hX5.far (by omega) (k * 2) _
            have hX6b : BlkIs ((w5.setCell ⟨gr, k * 2, none⟩ (.int .u64 (loW (R k ||| R m) : Nat))).setCell ⟨gr, k * 2 + 1, none⟩ (.int .u64 (hiW (R k ||| R m) : Nat))) rb 68 #[.int .u64 0, .int .u64 0] := hX6a.far (by omega) (k * 2 + 1) _
            have HX6 := Lib.hid hX6b
            have HB6 := Lib.hid ((hbw5.setCell (p := ⟨gr, k * 2, none⟩) (by show w.heap.size ≤ gr; omega) (.int .u64 (loW (R k ||| R m) : Nat))).setCell (p := ⟨gr, k * 2 + 1, none⟩) (by show w.heap.size ≤ gr; omega) (.int .u64 (hiW (R k ||| R m) : Nat)))
            clear hX6a hX6b hG5 hX5 hbw5 q5 q6 s5 s6 y5 hG6 y6
            go_wp2_with fail
            go_roundw
            case rel => exact ⟨k + 1, by go_num, by omega, HG6, HX6, HB6⟩
            case measure => simp [intOf]; omega
        · obtain rfl : k = n := by omega
          have i4 : ¬ (k : Int) < (k : Int) := by omega
          have HG3 : Hid (GrO wr2 (w.heap.size + 1) gr k cr (wmN G k (m + 1))) := by show _; rw [← HNX.out]; exact HG.out
          go_wp2_with fail
          go_roundw
          case rel => exact ⟨m + 1, by go_num, by omega, HG3, HX, HB⟩
          case measure => simp [intOf]; omega
    · obtain rfl : m = n := by omega
      have i3 : ¬ (m : Int) < (m : Int) := by omega
      obtain ⟨R, hR⟩ : ∃ R, Hid (wmN G m m = R) := ⟨_, rfl⟩
      rw [hR.out] at HG
      have HLR : Hid (∀ k, R k < 2 ^ 128) := by show _; rw [← hR.out]; exact HL.out m
      have hba := bnew wr (.cells #[.int .u64 0, .int .u64 0] 68)
      have hc0 : BlkIs (wr.alloc (.cells #[.int .u64 0, .int .u64 0] 68)) wr.heap.size 68 #[.int .u64 (loW (cirN R 0) : Nat), .int .u64 (hiW (cirN R 0) : Nat)] := by
        rw [show ((loW (cirN R 0) : Nat) : Int) = 0 by rfl, show ((hiW (cirN R 0) : Nat) : Int) = 0 by show ((hiW 0 : Nat) : Int) = 0; decide]
        exact blk_new _ _ _ _ rfl
      have hgl := HG.out.lt
      have hxl := HX.out.lt
      have HG0 := Lib.hid (HG.out.next hba)
      have HX0 := Lib.hid (HX.out.next hba)
      have HB0 := Lib.hid (bon HB.out hba)
      have HC0 := Lib.hid hc0
      have hbsz := HB.out.size
      clear hc0 hba HG HX HB
      go_wp2_with fail
      generalize wr.alloc (.cells #[.int .u64 0, .int .u64 0] 68) = W at HG0 HX0 HB0 HC0 ⊢
      generalize wr.heap.size = gc at HC0 hgl hxl hbsz ⊢
      go_loopw [7, 42] (fun _ i wr3 => ∃ k : Nat, i = .int .i64 k ∧ k ≤ m ∧ Hid (GrO wr3 (w.heap.size + 1) gr m cr R) ∧ Hid (BlkIs wr3 rb 68 #[.int .u64 0, .int .u64 0]) ∧ Hid (BlkIs wr3 gc 68 #[.int .u64 (loW (cirN R k) : Nat), .int .u64 (hiW (cirN R k) : Nat)]) ∧ Hid (Below w.heap.size w wr3)) (fun _ i _ => (m - intOf i).toNat)
      case atStart => exact ⟨0, rfl, Nat.zero_le _, HG0, HX0, HC0, HB0⟩
      case round =>
        clear HG0 HX0 HB0 HC0
        rename World => wr3
        obtain ⟨k, rfl, hk, HG, HX, HC, HB⟩ := hrel
        by_cases hlt2 : k < m
        · have i4 : (k : Int) < (m : Int) := by omega
          obtain ⟨z0, z1⟩ := HG.out.cells hlt2
          have HHAS := Lib.hid (has_c (R k) k wr3 (HLR.out k) (by omega))
          go_wp2_with fail
          refine HHAS.out.mono ?_
          rintro e w2 ⟨rfl, hb2⟩
          have HG2 := Lib.hid (HG.out.next hb2)
          have HX2 := Lib.hid (HX.out.next hb2)
          have HC2 := Lib.hid (HC.out.next hb2)
          have HB2 := Lib.hid (bon HB.out hb2)
          clear HG HX HB HC HHAS z0 z1 hb2
          cases hbit : (R k).testBit k
          case false =>
            have he : cirN R (k + 1) = cirN R k := by show (if (R k).testBit k = true then _ else _) = _; rw [hbit]; rfl
            have HC3 : Hid (BlkIs w2 gc 68 #[.int .u64 (loW (cirN R (k + 1)) : Nat), .int .u64 (hiW (cirN R (k + 1)) : Nat)]) := by show _; rw [he]; exact HC2.out
            clear hbit he
            go_wp2_with fail
            go_roundw
            case rel => exact ⟨k + 1, by go_num, by omega, HG2, HX2, HC3, HB2⟩
            case measure => simp [intOf]; omega
          case true =>
            have he : cirN R (k + 1) = putS (cirN R k) k := by show (if (R k).testBit k = true then _ else _) = _; rw [hbit]; rfl
            have c0 := HC2.out.cell 0
            have c1 := HC2.out.cell 1
            have HW := Lib.hid (with_c (cirN R k) k w2 (cirN_lt R k (by omega)) (by omega))
            rw [← he] at HW
            clear hbit he
            generalize hA : cirN R k = A at HC2 c0 c1 HW
            obtain ⟨A2, hA2⟩ : ∃ A2, Hid (cirN R (k + 1) = A2) := ⟨_, rfl⟩
            rw [hA2.out] at HW
            simp at c0 c1
            go_wp2_with fail
            refine HW.out.mono ?_
            rintro e w3 ⟨rfl, hb3⟩
            have hC3 := HC2.out.next hb3
            have q0 := hC3.frozen 0
            have q1 := hC3.frozen 1
            have c0 := hC3.cell 0
            have c1 := hC3.cell 1
            simp at c0 c1
            have hC4 := (hC3.set 0 (.int .u64 (loW A2 : Nat))).set 1 (.int .u64 (hiW A2 : Nat))
            simp at hC4
            have HC4 := Lib.hid hC4
            have HG4 := Lib.hid (((HG2.out.next hb3).other (g := gc) (i := 0) (u := .int .u64 (loW A2 : Nat)) (by omega)).other (g := gc) (i := 1) (u := .int .u64 (hiW A2 : Nat)) (by omega))
            have hX4a : BlkIs (w3.setCell ⟨gc, 0, none⟩ (.int .u64 (loW A2 : Nat))) rb 68 #[.int .u64 0, .int .u64 0] := (HX2.out.next hb3).far (by omega) 0 _
            have hX4b : BlkIs ((w3.setCell ⟨gc, 0, none⟩ (.int .u64 (loW A2 : Nat))).setCell ⟨gc, 1, none⟩ (.int .u64 (hiW A2 : Nat))) rb 68 #[.int .u64 0, .int .u64 0] := hX4a.far (by omega) 1 _
            have HX4 := Lib.hid hX4b
            have HB4 := Lib.hid (((bon HB2.out hb3).setCell (p := ⟨gc, 0, none⟩) (by show w.heap.size ≤ gc; omega) (.int .u64 (loW A2 : Nat))).setCell (p := ⟨gc, 1, none⟩) (by show w.heap.size ≤ gc; omega) (.int .u64 (hiW A2 : Nat)))
            clear hX4a hX4b hC3 hC4 hb3 HC2 HG2 HX2 HB2 HW
            go_wp2_with fail
            go_roundw
            case rel => exact ⟨k + 1, by go_num, by omega, HG4, HX4, (by rw [hA2.out]; exact HC4), HB4⟩
            case measure => simp [intOf]; omega
        · obtain rfl : k = m := by omega
          have i4 : ¬ (k : Int) < (k : Int) := by omega
          have c0 := HC.out.cell 0
          have c1 := HC.out.cell 1
          have q0 := HX.out.frozen 0
          have q1 := HX.out.frozen 1
          have x0 := HX.out.cell 0
          have x1 := HX.out.cell 1
          obtain ⟨A, hA⟩ : ∃ A, Hid (cirN R k = A) := ⟨_, rfl⟩
          rw [hA.out] at c0 c1 HC
          simp at c0 c1 x0 x1
          have hX3 := (HX.out.set 0 (.int .u64 (loW A : Nat))).set 1 (.int .u64 (hiW A : Nat))
          simp at hX3
          have r0 := hX3.cell 0
          have r1 := hX3.cell 1
          simp at r0 r1
          have hb3 := (HB.out.setCell (p := ⟨rb, 0, none⟩) (by show w.heap.size ≤ rb; have := hrb.out; omega) (.int .u64 (loW A : Nat))).setCell (p := ⟨rb, 1, none⟩) (by show w.heap.size ≤ rb; have := hrb.out; omega) (.int .u64 (hiW A : Nat))
          clear hX3
          go_wp2_with fail
          refine bodyPost_ret (v := .agg #[.int .u64 (loW A : Nat), .int .u64 (hiW A : Nat)]) (by simp [results, Tryz.results38, go_sem, r0, r1]) rfl ?_
          exact ⟨by rw [← hA.out, ← hR.out], hb3⟩
end Go.Proofs.YtffkdidgfeknkaaGreatDoor
