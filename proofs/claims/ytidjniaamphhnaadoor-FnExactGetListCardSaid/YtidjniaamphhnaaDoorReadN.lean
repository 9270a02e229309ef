/-
  The program's GetNumber: what it gives, at an index of the string and beside it. Conditions: strings of at most 2^20 bytes; errors.errorType holds the handle of the type error.
-/
import Derived.Test.YtidjniaamphhnaaDoorReader
import Derived.Test.YtidjniaamphhnaaDoorAs
namespace Go.Proofs.YtidjniaamphhnaaDoor
open Go.RowKit

/-- Block r is a reader that has had an error. -/
def Er (w : World) (r : Nat) : Prop := ∃ (s : ByteArray) (p : Int) (q : Nat), w.heap[r]? = some (.cells #[.string s, .int .i64 p, .iface 80 (.pointer (some ⟨q, 0, none⟩))] 78 (0, 0))
theorem Rd.er {w : World} {r : Nat} {s : ByteArray} {p : Nat} (h : Rd w r s p false) : Er w r := by
  obtain ⟨ev, hr, hcase⟩ := h
  obtain ⟨q, rfl⟩ : ∃ q, ev = .iface 80 (.pointer (some ⟨q, 0, none⟩)) := by
    rcases hcase with ⟨h, _⟩ | ⟨_, h⟩
    · cases h
    · exact h
  exact ⟨s, p, q, hr⟩
theorem Er.lt {w : World} {r : Nat} (h : Er w r) : r < w.heap.size := by
  obtain ⟨_, _, _, h1⟩ := h
  rcases Nat.lt_or_ge r w.heap.size with hlt | hge
  · exact hlt
  · simp [Array.getElem?_eq_none hge] at h1

set_option maxHeartbeats 1000000 in
theorem number_no (r : Nat) (w : World) (h : Er w r) :
    Calls Tryd.prog 45 #[.pointer (some ⟨r, 0, none⟩)] w fun e w' => e = .returned (.int .i64 0) ∧ w = w' := by
  obtain ⟨s, p, q, hr⟩ := h
  obtain ⟨h0, h1, h2, f1, f2⟩ := rd_cells hr
  clear hr
  go_enter Tryd.func45, Tryd.ntmps45
  go_wp2_with fail
  refine wp_loop_rounds 1 ?_
  rw [rounds_succ]
  go_wp2
  go_ret
  exact ⟨rfl, rfl⟩

/-- The handle that errors.As asks for. -/
def Hd (w : World) : Prop := w.cell? ⟨0, 0, none⟩ = some (.iface 117 (.agg #[.pointer (some ⟨9, 69, none⟩)]))
theorem Hd.lt {w : World} (h : Hd w) : 0 < w.heap.size := cell_lt h
theorem Hd.below {w w' : World} {B : Nat} (h : Hd w) (hb : Below B w w') (hB : 0 < B) : Hd w' := (hb.cell (p := ⟨0, 0, none⟩) hB).trans h
theorem Hd.only {w w' : World} {r : Nat} (h : Hd w) (hb : w.grownBy w' (some r)) (hr : 0 < r) : Hd w' :=
  (World.cell?_of_block (hb.block 0 h.lt (fun e => by injection e; omega))).trans h

set_option maxRecDepth 100000 in
set_option maxHeartbeats 1000000 in
theorem readerAt_yes (s : ByteArray) (p : Nat) (w : World) (_ : p ≤ s.size) (_ : s.size ≤ 140737488355328) :
    Calls Tryd.prog 39 #[.string s, .int .i64 p] w fun e w' => e = .returned (.pointer (some ⟨w.heap.size, 0, none⟩)) ∧ Rd w' w.heap.size s p true ∧ Below w.heap.size w w' := by
  go_enter Tryd.func39, Tryd.ntmps39
  go_wp2
  go_ret
  exact ⟨rfl, ⟨_, heap_alloc_new w _, .inl ⟨rfl, rfl⟩⟩, (Below.refl _ _).alloc (Nat.le_refl _) _⟩
set_option maxRecDepth 100000 in
set_option maxHeartbeats 1000000 in
theorem readerAt_no (s : ByteArray) (p : Int) (w : World) (hp : ¬ (0 ≤ p ∧ p ≤ s.size)) (_ : s.size ≤ 140737488355328) :
    Calls Tryd.prog 39 #[.string s, .int .i64 p] w fun e w' => e = .returned (.pointer (some ⟨w.heap.size, 0, none⟩)) ∧ Er w' w.heap.size ∧ Below w.heap.size w w' := by
  by_cases h0 : 0 ≤ p
  · have h1 : (s.size : Int) < p := by omega
    have h2 : decide (p ≤ (s.size : Int)) = false := by simp; omega
    clear hp
    go_enter Tryd.func39, Tryd.ntmps39
    go_wp2
    go_end0
    go_wp2
    go_ret
    exact ⟨rfl, ⟨s, p, _, (Below.heap_alloc _ _ w.heap.size (by simp)).trans (heap_alloc_new w _)⟩, ((Below.refl _ _).alloc (Nat.le_refl _) _).alloc (by simp) _⟩
  · clear hp
    go_enter Tryd.func39, Tryd.ntmps39
    go_wp2
    go_end0
    go_wp2
    go_ret
    exact ⟨rfl, ⟨s, p, _, (Below.heap_alloc _ _ w.heap.size (by simp)).trans (heap_alloc_new w _)⟩, ((Below.refl _ _).alloc (Nat.le_refl _) _).alloc (by simp) _⟩

set_option maxRecDepth 100000 in
set_option maxHeartbeats 1000000 in
theorem end_yes (r : Nat) (s : ByteArray) (p : Nat) (w : World) (h : Rd w r s p true) :
    Calls Tryd.prog 41 #[.pointer (some ⟨r, 0, none⟩)] w fun e w' => e = .returned (.tuple #[.int .i64 p, .bool true]) ∧ Below w.heap.size w w' := by
  have hlt := h.lt
  obtain ⟨ev, hr, hcase⟩ := h
  have hev : ev = .nilIface := by rcases hcase with ⟨_, h⟩ | ⟨h, _⟩; exact h; cases h
  subst hev
  obtain ⟨h0, h1, h2, f1, f2⟩ := rd_cells hr
  clear hr hcase
  go_enter Tryd.func41, Tryd.ntmps41
  go_wp2_with (go_at_call 63; refine (as_nil _ _).mono ?_; rintro e w' ⟨rfl, rfl⟩)
  go_ret2
  exact ⟨rfl, (Below.refl _ _).alloc (Nat.le_refl _) _⟩

set_option maxRecDepth 100000 in
set_option maxHeartbeats 1000000 in
theorem end_no (r : Nat) (w : World) (h : Er w r) (hd : Hd w) :
    Calls Tryd.prog 41 #[.pointer (some ⟨r, 0, none⟩)] w fun e w' => e = .returned (.tuple #[.int .i64 0, .bool false]) ∧ Below w.heap.size w w' := by
  have hlt := h.lt
  obtain ⟨s, p, q, hr⟩ := h
  obtain ⟨h0, h1, h2, f1, f2⟩ := rd_cells hr
  have hda : Hd (w.alloc (.cells #[.pointer none] 80)) := hd.below ((Below.refl _ _).alloc (Nat.le_refl _) _) hd.lt
  have ht : (w.alloc (.cells #[.pointer none] 80)).cell? ⟨w.heap.size, 0, none⟩ = some (.pointer none) := by simp
  have hf : (w.alloc (.cells #[.pointer none] 80)).frozen? ⟨w.heap.size, 0, none⟩ = false := by simp
  have C := Lib.hid (as_hit ⟨q, 0, none⟩ ⟨w.heap.size, 0, none⟩ _ _ hda ht hf)
  clear hr hda ht hf hd
  go_enter Tryd.func41, Tryd.ntmps41
  go_wp2_with (go_at_call 63; refine C.out.mono ?_; rintro e w' ⟨rfl, rfl⟩)
  go_ret2
  refine ⟨rfl, ?_⟩
  repeat (first | exact Below.refl _ _ | refine Below.setCell ?_ (by simp) _ | refine Below.alloc ?_ (by simp <;> omega) _)

/-- What GetNumber gives: the number, the place, whether there is one. -/
def gnR (o : Option (Int × Nat)) : Ending := match o with
  | some (n, q) => .returned (.tuple #[.int .i64 n, .int .i64 q, .bool true])
  | none => .returned (.tuple #[.int .i64 0, .int .i64 0, .bool false])

theorem gn_ret {a b : Int} {n : Int} {q : Nat} (h : a = n) (h' : b = (q : Int)) : Ending.returned (.tuple #[.int .i64 a, .int .i64 b, .bool true]) = gnR (some (n, q)) := by rw [h, h']; rfl
theorem weight_one {j b : Nat} (h : b * 128 ^ (8 - j) = 72057594037927936) : 1 < b ↔ 0 < j := by
  constructor
  · intro hb
    rcases Nat.eq_zero_or_pos j with h0 | h0
    · subst h0
      have e : (128 : Nat) ^ (8 - 0) = 72057594037927936 := by decide
      rw [e] at h
      omega
    · exact h0
  · intro hj
    have h1 : 128 ^ (8 - j) ≤ 128 ^ 7 := Nat.pow_le_pow_right (by decide) (by omega)
    have e : (128 : Nat) ^ 7 = 562949953421312 := by decide
    rw [e] at h1
    rcases Nat.lt_or_ge 1 b with h2 | h2
    · exact h2
    · have : b * 128 ^ (8 - j) ≤ 1 * 562949953421312 := Nat.mul_le_mul h2 h1
      omega

set_option maxRecDepth 100000 in
set_option maxHeartbeats 4000000 in
/-- The model's l01Get. -/
theorem l01Get_c (s : ByteArray) (p : Nat) (w : World) (hp : p ≤ s.size) (hs : s.size ≤ 140737488355328) :
    Calls Tryd.prog 55 #[.string s, .int .i64 p] w fun e w' => e = gnR (getN s p) ∧ w = w' := by
  go_enter Tryd.func55, Tryd.ntmps55
  go_wp2_with fail
  go_loop [7, 8, 9, 10, 11] (fun mv bv kv _ _ => ∃ j m b : Nat, j ≤ 8 ∧ p + j ≤ s.size ∧ kv = .int .i64 ((p : Int) + (j : Int)) ∧ mv = .int .i64 m ∧ bv = .int .i64 b ∧
      Hid (gnum s 8 p 0 1 = gnum s (8 - j) (p + j) m b) ∧ Hid (b * 128 ^ (8 - j) = 72057594037927936) ∧ (m : Int) < b ∧ (b : Int) ≤ 72057594037927936) (fun _ _ kv _ _ => 8 + p - (intOf kv).toNat)
  case atStart => exact ⟨0, 0, 1, by omega, by omega, by simp, rfl, rfl, rfl, (by decide : (1 : Nat) * 128 ^ (8 - 0) = 72057594037927936), by omega, by omega⟩
  case round =>
    obtain ⟨j, m, b, hj, hq, rfl, rfl, rfl, hgn, hbw, hmb, hb⟩ := hrel
    by_cases hlt : j < 8
    · by_cases hfit : p + j < s.size
      · have hx := ba_lt s (p + j)
        have hxx := ba_at hfit
        have HX := Lib.hid (gnum_next (s := s) (q := p + j) (m := m) (b := b) hlt (by omega))
        obtain ⟨hb1, hbw2⟩ := weight_next hbw.out hlt
        have hpj : ((p : Int) + (j : Int)).toNat = p + j := by omega
        generalize ba s (p + j) = x at *
        have hx2 : (x : Int) < 256 := by omega
        by_cases h128 : 128 ≤ x
        · have HXX : Hid (gnum s 8 p 0 1 = gnum s (8 - (j + 1)) (p + (j + 1)) (m + (x - 128) * b) (b * 128)) := by
            show _ = _
            rw [hgn.out, HX.out, if_pos h128]
            rfl
          have hp1 : (x - 128) * b ≤ 127 * b := Nat.mul_le_mul_right b (by omega)
          have hp0 : (b : Int) * ((x : Int) - 128) = (((x - 128) * b : Nat) : Int) := by
            rw [Int.natCast_mul, Int.mul_comm]; congr 1; omega
          have hp2 : (b : Int) * ((x : Int) - 128) ≤ 127 * (b : Int) := by rw [hp0]; omega
          have hp3 : 0 ≤ (b : Int) * ((x : Int) - 128) := by rw [hp0]; omega
          have HM := Lib.hid hp1
          have HP0 := Lib.hid hp0
          clear hp1 hp0 HX hgn
          go_wp2_with fail
          go_round
          case rel => exact ⟨j + 1, m + (x - 128) * b, b * 128, by omega, by omega, by go_num, by rw [HP0.out]; go_num, by go_num, HXX, hbw2, by have := HM.out; omega, by omega⟩
          case measure => simp [intOf]; omega
        · have hp1 : x * b ≤ 127 * b := Nat.mul_le_mul_right b (by omega)
          have hpe : (b : Int) * (x : Int) = ((x * b : Nat) : Int) := by rw [Int.natCast_mul, Int.mul_comm]
          have hp2 : (b : Int) * (x : Int) ≤ 127 * (b : Int) := by rw [hpe]; omega
          have hp3 : 0 ≤ (b : Int) * (x : Int) := by rw [hpe]; omega
          have hMb : m + x * b ≤ 72057594037927936 := by omega
          have hMe : (m : Int) + (b : Int) * (x : Int) = ((m + x * b : Nat) : Int) := by rw [hpe]; omega
          have HB := Lib.hid (weight_one hbw.out)
          have hgM : Hid (gnum s 8 p 0 1 = if x = 0 ∧ 1 < b then none else some (m + x * b, p + j + 1)) := by
            show _ = _
            rw [hgn.out, HX.out, if_neg h128]
          clear hp1 hpe HX hgn hbw hbw2
          generalize m + x * b = M at *
          have hMi : (M : Int) ≤ 72057594037927936 := by omega
          have hneg : (-(M : Int)).tdiv 2 = -((M : Int) / 2) := by
            rw [Int.neg_tdiv, Int.tdiv_eq_ediv_of_nonneg (by omega)]
          have hg1 : 0 ≤ (M : Int) := by omega
          by_cases hbad : x = 0 ∧ 1 < b
          · obtain ⟨hx0, hb2⟩ := hbad
            have hj0 : 0 < j := HB.out.1 hb2
            have HN : Hid (getN s p = none) := getN_none (by rw [hgM.out, if_pos ⟨hx0, hb2⟩])
            have hx1 : ((x : Int) == 0) = true := by rw [beq_iff_eq]; omega
            clear hgM
            by_cases hpar : (M : Int) % 2 = 1
            · have hq1 : ((M : Int) % 2 == 1) = true := by rw [beq_iff_eq]; exact hpar
              have HPAR := Lib.hid hpar
              clear hpar hx0
              go_wp2_with (go_at_call 76; go_in)
              go_ret3
              exact ⟨by rw [HN.out]; rfl, rfl⟩
            · have hq1 : ((M : Int) % 2 == 1) = false := by rw [beq_eq_false_iff_ne]; exact hpar
              clear hpar hx0
              go_wp2_with (go_at_call 76; go_in)
              go_ret3
              exact ⟨by rw [HN.out]; rfl, rfl⟩
          · have HG : Hid (gnum s 8 p 0 1 = some (M, p + j + 1)) := by show _ = _; rw [hgM.out, if_neg hbad]
            have hok : ((x : Int) == 0 && decide ((p : Int) < (p : Int) + (j : Int))) = false := by
              rw [Bool.and_eq_false_iff]
              by_cases hx0 : x = 0
              · right
                rw [decide_eq_false_iff_not]
                intro h
                exact hbad ⟨hx0, HB.out.2 (by omega)⟩
              · left
                rw [beq_eq_false_iff_ne]; omega
            have HOK := Lib.hid hok
            clear hgM hok
            have hx1 : ((x : Int) == 0) = decide (x = 0) := by
              by_cases h : x = 0
              · rw [decide_eq_true h, beq_iff_eq]; omega
              · rw [decide_eq_false h, beq_eq_false_iff_ne]; omega
            have hx2' : x = 0 → (j : Int) ≤ 0 := by
              intro h
              by_cases hj0 : 0 < j
              · exact absurd ⟨h, HB.out.2 hj0⟩ hbad
              · omega
            clear hbad HB HOK
            by_cases hM : M ≤ 2000000000000000
            · have HN := Lib.hid (getN_some HG.out hM)
              by_cases hpar : (M : Int) % 2 = 1
              · have hsg : sg M = -((M : Int) / 2) - 1 := by unfold sg; rw [if_neg (by omega)]; omega
                have hr1 : -1000000000000000 ≤ -((M : Int) / 2) - 1 := by omega
                have hr2 : -((M : Int) / 2) - 1 ≤ 1000000000000000 := by omega
                have HSG := Lib.hid hsg
                have hq1 : ((M : Int) % 2 == 1) = true := by rw [beq_iff_eq]; exact hpar
                clear hsg hpar
                by_cases h0 : x = 0
                · have hj0 := hx2' h0
                  rw [decide_eq_true h0] at hx1
                  clear h0 hx2'
                  go_wp2_with (first | (go_at_call 76; go_in) | (go_at_call 73; go_in))
                  go_ret3
                  exact ⟨by rw [HN.out]; exact gn_ret HSG.out.symm (by omega), rfl⟩
                · rw [decide_eq_false h0] at hx1
                  clear h0 hx2'
                  go_wp2_with (first | (go_at_call 76; go_in) | (go_at_call 73; go_in))
                  go_ret3
                  exact ⟨by rw [HN.out]; exact gn_ret HSG.out.symm (by omega), rfl⟩
              · have hsg : sg M = (M : Int) / 2 := by unfold sg; rw [if_pos (by omega)]; omega
                have hr1 : -1000000000000000 ≤ (M : Int) / 2 := by omega
                have hr2 : (M : Int) / 2 ≤ 1000000000000000 := by omega
                have HSG := Lib.hid hsg
                have hq1 : ((M : Int) % 2 == 1) = false := by rw [beq_eq_false_iff_ne]; exact hpar
                clear hsg hpar
                by_cases h0 : x = 0
                · have hj0 := hx2' h0
                  rw [decide_eq_true h0] at hx1
                  clear h0 hx2'
                  go_wp2_with (first | (go_at_call 76; go_in) | (go_at_call 73; go_in))
                  go_ret3
                  exact ⟨by rw [HN.out]; exact gn_ret HSG.out.symm (by omega), rfl⟩
                · rw [decide_eq_false h0] at hx1
                  clear h0 hx2'
                  go_wp2_with (first | (go_at_call 76; go_in) | (go_at_call 73; go_in))
                  go_ret3
                  exact ⟨by rw [HN.out]; exact gn_ret HSG.out.symm (by omega), rfl⟩
            · have HN := Lib.hid (getN_great HG.out hM)
              by_cases hpar : (M : Int) % 2 = 1
              · have hr1 : ¬ -1000000000000000 ≤ -((M : Int) / 2) - 1 := by omega
                have hq1 : ((M : Int) % 2 == 1) = true := by rw [beq_iff_eq]; exact hpar
                clear hpar
                by_cases h0 : x = 0
                · have hj0 := hx2' h0
                  rw [decide_eq_true h0] at hx1
                  clear h0 hx2'
                  go_wp2_with (first | (go_at_call 76; go_in) | (go_at_call 73; go_in))
                  go_ret3
                  exact ⟨by rw [HN.out]; rfl, rfl⟩
                · rw [decide_eq_false h0] at hx1
                  clear h0 hx2'
                  go_wp2_with (first | (go_at_call 76; go_in) | (go_at_call 73; go_in))
                  go_ret3
                  exact ⟨by rw [HN.out]; rfl, rfl⟩
              · have hr1 : -1000000000000000 ≤ (M : Int) / 2 := by omega
                have hr2 : ¬ (M : Int) / 2 ≤ 1000000000000000 := by omega
                have hq1 : ((M : Int) % 2 == 1) = false := by rw [beq_eq_false_iff_ne]; exact hpar
                clear hpar
                by_cases h0 : x = 0
                · have hj0 := hx2' h0
                  rw [decide_eq_true h0] at hx1
                  clear h0 hx2'
                  go_wp2_with (first | (go_at_call 76; go_in) | (go_at_call 73; go_in))
                  go_ret3
                  exact ⟨by rw [HN.out]; rfl, rfl⟩
                · rw [decide_eq_false h0] at hx1
                  clear h0 hx2'
                  go_wp2_with (first | (go_at_call 76; go_in) | (go_at_call 73; go_in))
                  go_ret3
                  exact ⟨by rw [HN.out]; rfl, rfl⟩
      · have HN : Hid (getN s p = none) := getN_none (by
          rw [hgn.out]
          obtain ⟨f, hf⟩ : ∃ f, 8 - j = f + 1 := ⟨7 - j, by omega⟩
          rw [hf, gnum, if_neg hfit])
        clear hgn
        go_wp2_with fail
        go_ret3
        exact ⟨by rw [HN.out]; rfl, rfl⟩
    · have HN : Hid (getN s p = none) := getN_none (by
        rw [hgn.out]
        have e : 8 - j = 0 := by omega
        rw [e, gnum])
      clear hgn
      have hj8 : j = 8 := by omega
      by_cases hfit : p + j < s.size
      all_goals
        go_wp2_with fail
        go_ret3
        exact ⟨by rw [HN.out]; rfl, rfl⟩

end Go.Proofs.YtidjniaamphhnaaDoor
