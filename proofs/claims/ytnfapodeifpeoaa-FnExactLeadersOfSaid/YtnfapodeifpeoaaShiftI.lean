/-
  Code with greater places: the program's. Conditions: at most 1000 instructions.
-/
import Derived.Test.YtnfapodeifpeoaaShift
namespace Go.Proofs.Ytnfapodeifpeoaa
set_option linter.unusedVariables false
open Go.RowKit

set_option maxRecDepth 100000 in
set_option maxHeartbeats 4000000 in
theorem eachShift_c (f : Int × Int → Int × Int) (P : Addr) (A : Option Addr) (n c B : Nat) (xs : List (Int × Int)) (w : World) (h : InC w B A n xs) (hB : B ≤ w.heap.size) (hn : n ≤ 1000)
    (HF0 : ∀ (W : World) (x : Int × Int), Below w.heap.size w W → x ∈ xs → Calls Try.prog 100 #[.agg #[.int .i64 x.1, .int .i64 x.2], .pointer (some P)] W fun e w' => e = .returned (.agg #[.int .i64 (f x).1, .int .i64 (f x).2]) ∧ Below W.heap.size W w') :
    Calls Try.prog 81 #[.slice A n c, .func (Fn.func 100) #[] #[.pointer (some P)]] w fun e w' => ∃ g, e = .returned (.slice (some ⟨g, 0, none⟩) n n) ∧ OwnC w' w.heap.size w'.heap.size (some ⟨g, 0, none⟩) n n (xs.map f) ∧ Below w.heap.size w w' := by
  obtain ⟨i0, hi, hz0, hz1, hz2⟩ := info_parts infoInstr
  have hlen := Lib.hid h.1
  have HF := Lib.hid HF0
  clear HF0
  go_enter Try.func81, Try.ntmps81
  go_wp2_with (at_make; refine wpList_make_full _ rfl _ _ 31 rfl w.heap.size 25 i0 (.agg #[.int .i64 0, .int .i64 0]) 2 Try.underlying31 hi hz0 hz1 .i64 .i64 _ _ n rfl rfl rfl rfl (by rw [hz2]; omega) (by unfold maxLen; omega) (Nat.le_refl _) ?_; intro w1 hown hgrow)
  have hb1 := (Below.refl w.heap.size w).grown hgrow (Nat.le_refl _) (fun _ h => by cases h)
  have hlt0 : w.heap.size < w1.heap.size := (hown.lt w.heap.size rfl).2
  have hl0 : ∃ ys, w1.ownsRow w.heap.size 25 2 (.slice (some ⟨w.heap.size, 0, none⟩) n n) n ys ∧ LaidC ys 0 (xs.map f) := ⟨_, hown, fun j x hj => by omega⟩
  clear hgrow hown
  go_loopw [6, 7, 13] (fun _ _ i wr => ∃ k : Nat, k ≤ n ∧ i = .int .i64 k ∧ (∃ ys, wr.ownsRow w.heap.size 25 2 (.slice (some ⟨w.heap.size, 0, none⟩) n n) n ys ∧ LaidC ys k (xs.map f)) ∧ w.heap.size < wr.heap.size ∧ Below w.heap.size w wr) (fun _ _ i _ => n - (intOf i).toNat)
  case atStart => exact ⟨0, Nat.zero_le _, rfl, hl0, hlt0, hb1⟩
  case round =>
    clear hl0 hlt0 hb1
    obtain ⟨k, hk, rfl, ⟨ys, hox, hl⟩, hlt0, hbel⟩ := hrel
    by_cases hlt : k < n
    · obtain ⟨b, off, t, rfl, hb, ht, q0, q1⟩ := (h.next hbel hB).at_ hlt
      have hb2 := bnew wr (.cells #[.int .i64 t.1, .int .i64 t.2] 25)
      have HI := Lib.hid (HF.out (wr.alloc (.cells #[.int .i64 t.1, .int .i64 t.2] 25)) t (bon hbel hb2) (List.mem_of_getElem? ht))
      have HT : Hid ((xs.map f)[k]? = some (f t)) := by show _ = _; rw [List.getElem?_map, ht]; rfl
      have hxl : ys.length = n * 2 := hox.1
      clear ht
      go_wp2_with fail
      refine HI.out.mono ?_
      rintro e w2 ⟨rfl, hb3⟩
      have hb23 := bon hb2 hb3
      have hs2 := hb23.size
      have hox2 := own_below hox hb23
      have c0 := hox2.cellAt (k * 2) (by omega)
      have c1 := hox2.cellAt (k * 2 + 1) (by omega)
      rw [List.getElem?_eq_getElem (by omega)] at c0 c1
      have f0 := hox2.frozenAt (k * 2)
      have f1 := hox2.frozenAt (k * 2 + 1)
      have hst := Lib.hid (((hox2.stored (k * 2) (.int .i64 (f t).1)).1.stored (k * 2 + 1) (.int .i64 (f t).2)).1)
      have HL := Lib.hid (laidC_step hl hxl hlt HT.out)
      have hb4 := ((hbel.trans (hb23.mono (by omega))).setCell (p := ⟨w.heap.size, k * 2, none⟩) (Nat.le_refl _) (.int .i64 (f t).1)).setCell (p := ⟨w.heap.size, k * 2 + 1, none⟩) (Nat.le_refl _) (.int .i64 (f t).2)
      clear hox hox2 hl q0 q1 HI
      go_wp2_with fail
      go_roundw
      case rel => exact ⟨k + 1, by omega, by go_num, ⟨_, hst.out, HL.out⟩, by simp; omega, hb4⟩
      case measure => simp [intOf]; omega
    · have e : k = n := by omega
      subst e
      have hxl : ys.length = k * 2 := hox.1
      have HE := laidC_end hl hxl (by rw [List.length_map]; exact hlen.out)
      subst HE
      have HO := Lib.hid hox
      clear hox hl hxl
      go_wp2_with fail
      go_ret
      exact ⟨_, rfl, OwnC.of_own HO.out (by rw [List.length_map]; exact hlen.out), hbel⟩

set_option maxRecDepth 100000 in
set_option maxHeartbeats 1000000 in
theorem hasPlace_c (p q : Int) (w : World) :
    Calls Try.prog 75 #[.agg #[.int .i64 p, .int .i64 q]] w fun e w' => e = .returned (.bool (decide (p = 5 ∨ p = 6))) ∧ Below w.heap.size w w' := by
  have hb0 := bnew w (.cells #[.int .i64 p, .int .i64 q] 25)
  by_cases h5 : p = 5
  · rw [decide_eq_true (.inl h5)]
    have e5 : (p == 5) = true := by simp [h5]
    clear h5
    go_enter Try.func75, Try.ntmps75
    go_wp2_with fail
    go_ret
    exact ⟨rfl, hb0⟩
  · have e5 : (p == 5) = false := by simp [h5]
    by_cases h6 : p = 6
    · rw [decide_eq_true (.inr h6)]
      have e6 : (p == 6) = true := by simp [h6]
      clear h5 h6
      go_enter Try.func75, Try.ntmps75
      go_wp2_with fail
      go_ret
      exact ⟨rfl, hb0⟩
    · rw [decide_eq_false (fun h => h.elim h5 h6)]
      have e6 : (p == 6) = false := by simp [h6]
      clear h5 h6
      go_enter Try.func75, Try.ntmps75
      go_wp2_with fail
      go_ret
      exact ⟨rfl, hb0⟩

set_option maxRecDepth 100000 in
set_option maxHeartbeats 4000000 in
theorem shift1_c (p q b : Int) (P : Nat) (w : World) (hP : w.cell? ⟨P, 0, none⟩ = some (.int .i64 b)) (hq : -1000000 ≤ q ∧ q ≤ 1000000) (h0 : 0 ≤ b) (h1 : b ≤ 1000) :
    Calls Try.prog 100 #[.agg #[.int .i64 p, .int .i64 q], .pointer (some ⟨P, 0, none⟩)] w fun e w' => e = .returned (.agg #[.int .i64 (shi1 b (p, q)).1, .int .i64 (shi1 b (p, q)).2]) ∧ Below w.heap.size w w' := by
  have hb0 : Below w.heap.size w ((w.alloc (.cells #[.int .i64 p, .int .i64 q] 25)).alloc (.cells #[.int .i64 0, .int .i64 0] 25)) := bon (bnew _ _) (bnew _ _)
  have hsz : ((w.alloc (.cells #[.int .i64 p, .int .i64 q] 25)).alloc (.cells #[.int .i64 0, .int .i64 0] 25)).heap.size = w.heap.size + 2 := by simp
  have hX : BlkIs ((w.alloc (.cells #[.int .i64 p, .int .i64 q] 25)).alloc (.cells #[.int .i64 0, .int .i64 0] 25)) w.heap.size 25 #[.int .i64 p, .int .i64 q] := (blk_new w _ _ _ rfl).next (bnew _ _)
  have hR : BlkIs ((w.alloc (.cells #[.int .i64 p, .int .i64 q] 25)).alloc (.cells #[.int .i64 0, .int .i64 0] 25)) (w.heap.size + 1) 25 #[.int .i64 0, .int .i64 0] := blk_new _ _ _ _ (by simp)
  have hc := cell_next hP hb0
  have hPl := cell_lt hP
  clear hP
  go_enter Try.func100, Try.ntmps100
  go_wp2_with fail
  generalize ((w.alloc (.cells #[.int .i64 p, .int .i64 q] 25)).alloc (.cells #[.int .i64 0, .int .i64 0] 25)) = W at hb0 hsz hX hR hc ⊢
  refine (hasPlace_c p q W).mono ?_
  rintro e w1 ⟨rfl, hb1⟩
  have hb01 := bon hb0 hb1
  have hs1 := hb1.size
  have hX1 := hX.next hb1
  have hR1 := hR.next hb1
  have c1 : w1.cell? ⟨P, 0, none⟩ = some (.int .i64 b) := cell_next hc hb1
  have x0 : w1.cell? ⟨w.heap.size, 0, none⟩ = some (.int .i64 p) := hX1.cell 0
  have x1 : w1.cell? ⟨w.heap.size, 1, none⟩ = some (.int .i64 q) := hX1.cell 1
  have xf := hX1.frozen 1
  have r0 : w1.cell? ⟨w.heap.size + 1, 0, none⟩ = some (.int .i64 0) := hR1.cell 0
  have r1 : w1.cell? ⟨w.heap.size + 1, 1, none⟩ = some (.int .i64 0) := hR1.cell 1
  have rf0 := hR1.frozen 0
  have rf1 := hR1.frozen 1
  by_cases hp : p = 5 ∨ p = 6
  · rw [decide_eq_true hp]
    have HE := Lib.hid (shi1_yes (b := b) (x := (p, q)) hp)
    have hne : P ≠ w.heap.size := by omega
    clear hp
    go_wp2_with fail
    refine bodyPost_ret (v := .agg #[.int .i64 p, .int .i64 (q + b)]) (by simp [results, Try.results100, go_sem, r0, r1]) rfl ?_
    refine ⟨by rw [HE.out], hb01.trans (Out.below (lo := w.heap.size) (hi := w.heap.size + 2) (out_set (out_set (out_set (Out.refl _ _ _) (by omega)) (by omega)) (by omega)) (Nat.le_refl _) (by omega))⟩
  · rw [decide_eq_false hp]
    have HE := Lib.hid (shi1_no (b := b) (x := (p, q)) hp)
    clear hp
    go_wp2_with fail
    refine bodyPost_ret (v := .agg #[.int .i64 p, .int .i64 q]) (by simp [results, Try.results100, go_sem, r0, r1]) rfl ?_
    refine ⟨by rw [HE.out], hb01.trans (Out.below (lo := w.heap.size) (hi := w.heap.size + 2) (out_set (out_set (Out.refl _ _ _) (by omega)) (by omega)) (Nat.le_refl _) (by omega))⟩

set_option maxRecDepth 100000 in
set_option maxHeartbeats 1000000 in
theorem shifted_c (A : Option Addr) (n c B : Nat) (xs : List (Int × Int)) (b : Int) (w : World) (h : InC w B A n xs) (hB : B ≤ w.heap.size) (hn : n ≤ 1000) (hv : ∀ x ∈ xs, instrB x.1 x.2 = true) (h0 : 0 ≤ b) (h1 : b ≤ 1000) :
    Calls Try.prog 80 #[.slice A n c, .int .i64 b] w fun e w' => ∃ g, e = .returned (.slice (some ⟨g, 0, none⟩) n n) ∧ OwnC w' w.heap.size w'.heap.size (some ⟨g, 0, none⟩) n n (shiL xs b) ∧ Below w.heap.size w w' := by
  have hb0 := bnew w (.cells #[.int .i64 b] 2)
  have hP : BlkIs (w.alloc (.cells #[.int .i64 b] 2)) w.heap.size 2 #[.int .i64 b] := blk_new _ _ _ _ rfl
  have HE := Lib.hid (eachShift_c (shi1 b) ⟨w.heap.size, 0, none⟩ A n c B xs _ (h.next hb0 hB) (by simp; omega) hn (fun W x hW hx => shift1_c x.1 x.2 b w.heap.size W ((hP.next hW).cell 0) (instrB_arg (hv x hx)) h0 h1))
  clear h hv
  go_enter Try.func80, Try.ntmps80
  go_wp2_with fail
  generalize w.alloc (.cells #[.int .i64 b] 2) = W at hb0 hP HE ⊢
  have hs0 := hb0.size
  refine HE.out.mono ?_
  rintro e w1 ⟨g, rfl, hO, hb1⟩
  have HO := Lib.hid hO
  clear hO
  go_wp2_with fail
  go_ret
  exact ⟨g, rfl, HO.out.less hs0, bon hb0 hb1⟩
end Go.Proofs.Ytnfapodeifpeoaa
