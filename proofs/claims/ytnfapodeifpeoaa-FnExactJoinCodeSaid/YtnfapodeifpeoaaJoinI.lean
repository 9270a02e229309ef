/-
  Joined code: the program's parts (each halt turned, slices.Grow and slices.Concat at instructions). Conditions: at most 1000 instructions.
-/
import Derived.Test.YtnfapodeifpeoaaShiftI
namespace Go.Proofs.Ytnfapodeifpeoaa
set_option linter.unusedVariables false
open Go.RowKit

set_option maxRecDepth 100000 in
set_option maxHeartbeats 4000000 in
theorem eachJoin_c (f : Int × Int → Int × Int) (P : Addr) (A : Option Addr) (n c B : Nat) (xs : List (Int × Int)) (w : World) (h : InC w B A n xs) (hB : B ≤ w.heap.size) (hn : n ≤ 1000)
    (HF0 : ∀ (W : World) (x : Int × Int), Below w.heap.size w W → x ∈ xs → Calls Try.prog 82 #[.agg #[.int .i64 x.1, .int .i64 x.2], .pointer (some P)] W fun e w' => e = .returned (.agg #[.int .i64 (f x).1, .int .i64 (f x).2]) ∧ Below W.heap.size W w') :
    Calls Try.prog 81 #[.slice A n c, .func (Fn.func 82) #[] #[.pointer (some P)]] w fun e w' => ∃ g, e = .returned (.slice (some ⟨g, 0, none⟩) n n) ∧ OwnC w' w.heap.size w'.heap.size (some ⟨g, 0, none⟩) n n (xs.map f) ∧ Below w.heap.size w w' := by
  obtain ⟨i0, hi, hz0, hz1, hz2⟩ := info_parts infoInstr
  have hlen := Lib.hid h.1
  have HF := Lib.hid HF0
  clear HF0
  go_enter Try.func81, Try.ntmps81
  go_wp2_with (at_make; refine wpList_make_full _ rfl _ _ 31 rfl w.heap.size 25 i0 (.agg #[.int .i64 0, .int .i64 0]) 2 Try.underlying31 hi hz0 hz1 .i64 .i64 _ _ n rfl rfl rfl rfl (by rw [hz2]; omega) (by unfold maxLen; omega) (Nat.le_refl _) ?_; intro w1 hown hgrow)
  have hb1 := (Below.refl w.heap.size w).grown hgrow (Nat.le_refl _) (fun _ h => by cases h)
  have hlt0 : w.heap.size < w1.heap.size := (hown.lt w.heap.size rfl).2
  have hl0 : ∃ ys, w1.ownsRow w.heap.size 25 2 (.slice (some ⟨w.heap.size, 0, none⟩) n n) n ys ∧ LaidC ys 0 (xs.map f) := ⟨_, hown, fun j x hj => by omega⟩
  clear hgrow hown
  go_loopw [6, 7, 13] (fun _ _ i wr => ∃ k : Nat, k ≤ n ∧ i = .int .i64 k ∧ (∃ ys, wr.ownsRow w.heap.size 25 2 (.slice (some ⟨w.heap.size, 0, none⟩) n n) n ys ∧ LaidC ys k (xs.map f)) ∧ w.heap.size < wr.heap.size ∧ Below w.heap.size w wr) (fun _ _ i _ => n - (intOf i).toNat)
  case atStart => exact ⟨0, Nat.zero_le _, rfl, hl0, hlt0, hb1⟩
  case round =>
    clear hl0 hlt0 hb1
    obtain ⟨k, hk, rfl, ⟨ys, hox, hl⟩, hlt0, hbel⟩ := hrel
    by_cases hlt : k < n
    · obtain ⟨b, off, t, rfl, hb, ht, q0, q1⟩ := (h.next hbel hB).at_ hlt
      have hb2 := bnew wr (.cells #[.int .i64 t.1, .int .i64 t.2] 25)
      have HI := Lib.hid (HF.out (wr.alloc (.cells #[.int .i64 t.1, .int .i64 t.2] 25)) t (bon hbel hb2) (List.mem_of_getElem? ht))
      have HT : Hid ((xs.map f)[k]? = some (f t)) := by show _ = _; rw [List.getElem?_map, ht]; rfl
      have hxl : ys.length = n * 2 := hox.1
      clear ht
      go_wp2_with fail
      refine HI.out.mono ?_
      rintro e w2 ⟨rfl, hb3⟩
      have hb23 := bon hb2 hb3
      have hs2 := hb23.size
      have hox2 := own_below hox hb23
      have c0 := hox2.cellAt (k * 2) (by omega)
      have c1 := hox2.cellAt (k * 2 + 1) (by omega)
      rw [List.getElem?_eq_getElem (by omega)] at c0 c1
      have f0 := hox2.frozenAt (k * 2)
      have f1 := hox2.frozenAt (k * 2 + 1)
      have hst := Lib.hid (((hox2.stored (k * 2) (.int .i64 (f t).1)).1.stored (k * 2 + 1) (.int .i64 (f t).2)).1)
      have HL := Lib.hid (laidC_step hl hxl hlt HT.out)
      have hb4 := ((hbel.trans (hb23.mono (by omega))).setCell (p := ⟨w.heap.size, k * 2, none⟩) (Nat.le_refl _) (.int .i64 (f t).1)).setCell (p := ⟨w.heap.size, k * 2 + 1, none⟩) (Nat.le_refl _) (.int .i64 (f t).2)
      clear hox hox2 hl q0 q1 HI
      go_wp2_with fail
      go_roundw
      case rel => exact ⟨k + 1, by omega, by go_num, ⟨_, hst.out, HL.out⟩, by simp; omega, hb4⟩
      case measure => simp [intOf]; omega
    · have e : k = n := by omega
      subst e
      have hxl : ys.length = k * 2 := hox.1
      have HE := laidC_end hl hxl (by rw [List.length_map]; exact hlen.out)
      subst HE
      have HO := Lib.hid hox
      clear hox hl hxl
      go_wp2_with fail
      go_ret
      exact ⟨_, rfl, OwnC.of_own HO.out (by rw [List.length_map]; exact hlen.out), hbel⟩

set_option maxRecDepth 100000 in
set_option maxHeartbeats 4000000 in
theorem join1_c (p q b : Int) (P : Nat) (w : World) (hP : w.cell? ⟨P, 0, none⟩ = some (.int .i64 b)) :
    Calls Try.prog 82 #[.agg #[.int .i64 p, .int .i64 q], .pointer (some ⟨P, 0, none⟩)] w fun e w' => e = .returned (.agg #[.int .i64 (joi1 b (p, q)).1, .int .i64 (joi1 b (p, q)).2]) ∧ Below w.heap.size w w' := by
  have hb0 : Below w.heap.size w ((w.alloc (.cells #[.int .i64 p, .int .i64 q] 25)).alloc (.cells #[.int .i64 0, .int .i64 0] 25)) := bon (bnew _ _) (bnew _ _)
  have hsz : ((w.alloc (.cells #[.int .i64 p, .int .i64 q] 25)).alloc (.cells #[.int .i64 0, .int .i64 0] 25)).heap.size = w.heap.size + 2 := by simp
  have hX : BlkIs ((w.alloc (.cells #[.int .i64 p, .int .i64 q] 25)).alloc (.cells #[.int .i64 0, .int .i64 0] 25)) w.heap.size 25 #[.int .i64 p, .int .i64 q] := (blk_new w _ _ _ rfl).next (bnew _ _)
  have hR : BlkIs ((w.alloc (.cells #[.int .i64 p, .int .i64 q] 25)).alloc (.cells #[.int .i64 0, .int .i64 0] 25)) (w.heap.size + 1) 25 #[.int .i64 0, .int .i64 0] := blk_new _ _ _ _ (by simp)
  have c1 := cell_next hP hb0
  have hPl := cell_lt hP
  have x0 : ((w.alloc (.cells #[.int .i64 p, .int .i64 q] 25)).alloc (.cells #[.int .i64 0, .int .i64 0] 25)).cell? ⟨w.heap.size, 0, none⟩ = some (.int .i64 p) := hX.cell 0
  have x1 : ((w.alloc (.cells #[.int .i64 p, .int .i64 q] 25)).alloc (.cells #[.int .i64 0, .int .i64 0] 25)).cell? ⟨w.heap.size, 1, none⟩ = some (.int .i64 q) := hX.cell 1
  have r0 : ((w.alloc (.cells #[.int .i64 p, .int .i64 q] 25)).alloc (.cells #[.int .i64 0, .int .i64 0] 25)).cell? ⟨w.heap.size + 1, 0, none⟩ = some (.int .i64 0) := hR.cell 0
  have r1 : ((w.alloc (.cells #[.int .i64 p, .int .i64 q] 25)).alloc (.cells #[.int .i64 0, .int .i64 0] 25)).cell? ⟨w.heap.size + 1, 1, none⟩ = some (.int .i64 0) := hR.cell 1
  have rf0 := hR.frozen 0
  have rf1 := hR.frozen 1
  by_cases hp : p = 11
  · have HE := Lib.hid (joi1_yes (n := b) (x := (p, q)) hp)
    have e1 : (p == 11) = true := by simp [hp]
    clear hP hp
    go_enter Try.func82, Try.ntmps82
    go_wp2_with fail
    refine bodyPost_ret (v := .agg #[.int .i64 5, .int .i64 b]) (by simp [results, Try.results82, go_sem]) rfl ?_
    refine ⟨by rw [HE.out], ?_⟩
    first | exact bon (bnew _ _) (bnew _ _) | exact hb0.trans (Out.below (lo := w.heap.size) (hi := w.heap.size + 2) (out_set (out_set (Out.refl _ _ _) (by omega)) (by omega)) (Nat.le_refl _) (by omega))
  · have HE := Lib.hid (joi1_no (n := b) (x := (p, q)) hp)
    have e1 : (p == 11) = false := by simp [hp]
    clear hP hp
    go_enter Try.func82, Try.ntmps82
    go_wp2_with fail
    refine bodyPost_ret (v := .agg #[.int .i64 p, .int .i64 q]) (by simp [results, Try.results82, go_sem]) rfl ?_
    refine ⟨by rw [HE.out], ?_⟩
    first | exact bon (bnew _ _) (bnew _ _) | exact hb0.trans (Out.below (lo := w.heap.size) (hi := w.heap.size + 2) (out_set (out_set (Out.refl _ _ _) (by omega)) (by omega)) (Nat.le_refl _) (by omega))

theorem size_zeroC (n : Nat) : (Builtin.zeroCells (Value.agg #[.int .i64 0, .int .i64 0]).cells n).size = n * 2 := by
  rw [size_zeroCells]; rfl
set_option maxRecDepth 100000 in
set_option maxHeartbeats 1000000 in
theorem growC_c (n : Nat) (w : World) (h1 : 1 ≤ n) (h2 : n ≤ 10000) : Calls Try.prog 101 #[.slice none 0 0, .int .i64 n] w fun e w' => ∃ g cap, e = .returned (.slice (some ⟨g, 0, none⟩) 0 cap) ∧ w'.ownsRow w.heap.size 25 2 (.slice (some ⟨g, 0, none⟩) 0 cap) 0 [] ∧ Below w.heap.size w w' := by
  obtain ⟨i0, hi, hz0, hz1, hz2⟩ := info_parts infoInstr
  have happ := Lib.run_append_nil_zeros (P := Try.prog) w 31 3 31 25 i0 (.agg #[.int .i64 0, .int .i64 0]) .i64 .i64 Try.underlying31 Try.underlying3 hi hz0 n (by omega) (by rw [hz1]; omega) (by omega) (by rw [hz2]; omega)
  obtain ⟨C, hC⟩ : ∃ C, C = grownCap w n 0 25 := ⟨_, rfl⟩
  have hge : n ≤ C := by rw [hC]; exact grownCap_ge w _ 0 _
  have hle : C ≤ maxLen := by rw [hC]; exact grownCap_le_maxLen w _ 0 _ (by unfold maxLen; omega)
  rw [← hC] at happ
  obtain ⟨Z, hZ⟩ : ∃ Z, Z = Builtin.zeroCells (Value.agg #[.int .i64 0, .int .i64 0]).cells n ++ Builtin.zeroCells (Value.agg #[.int .i64 0, .int .i64 0]).cells (C - n) := ⟨_, rfl⟩
  rw [← hZ] at happ
  have hZs : Z.size = C * 2 := by rw [hZ, Array.size_append, size_zeroC, size_zeroC]; omega
  clear hC hZ
  have hown : (w.drew.alloc (.cells Z 25)).ownsRow w.heap.size 25 2 (.slice (some ⟨w.heap.size, 0, none⟩) 0 C) 0 [] := World.ownsRow_made w.drew Z C (Nat.le_refl _) hle hZs
  have HO := Lib.hid hown
  have HB := Lib.hid (show Below w.heap.size w (w.drew.alloc (.cells Z 25)) from (Below.refl w.heap.size w).drew.alloc (Nat.le_refl _) _)
  have hn1 : (1 : Int) ≤ (n : Int) := by omega
  have HAP := Lib.hid happ
  clear hown happ
  go_enter Try.func101, Try.ntmps101
  go_wp2_with (at_builtin; refine Lib.wpList_append_run _ rfl _ _ _ _ rfl _ _ rfl rfl _ _ HAP.out ?_)
  go_ret
  exact ⟨w.heap.size, C, rfl, HO.out, HB.out⟩

set_option maxRecDepth 100000 in
set_option maxHeartbeats 2000000 in
theorem concatC_c (b : Nat) (A : Option Addr) (n c B : Nat) (xs : List (Int × Int)) (A' : Option Addr) (m c' : Nat) (ys : List (Int × Int)) (w : World) (hP : BlkIs w b 31 #[.slice A n c, .slice A' m c']) (h : InC w B A n xs) (h' : InC w B A' m ys) (hB : B ≤ w.heap.size) (hn : n ≤ 1000) (hm : m ≤ 1000) (h1 : 1 ≤ n) :
    Calls Try.prog 83 #[.slice (some ⟨b, 0, none⟩) 2 2] w fun e w' => ∃ A3 c3, e = .returned (.slice A3 (n + m) c3) ∧ OwnC w' w.heap.size w'.heap.size A3 (n + m) c3 (xs ++ ys) ∧ Below w.heap.size w w' := by
  have HIN := Lib.hid h
  have HIL := Lib.hid h'
  have q0 : w.cell? ⟨b, 0, none⟩ = some (.slice A n c) := hP.cell 0
  have q1 : w.cell? ⟨b, 1, none⟩ = some (.slice A' m c') := hP.cell 1
  have HGR := Lib.hid (growC_c (n + m) w (by omega) (by omega))
  have HQ := Lib.hid (And.intro q0 q1)
  have hlen := Lib.hid h.1
  have hlen' := Lib.hid h'.1
  clear h h'
  go_enter Try.func83, Try.ntmps83
  go_wp2_with fail
  go_loopw [3, 5, 11] (fun x _ i wr => ∃ k : Nat, k ≤ 2 ∧ i = .int .i64 k ∧ (k = 0 ∧ x = .int .i64 0 ∨ k = 1 ∧ x = .int .i64 n ∨ k = 2 ∧ x = .int .i64 ((n : Int) + m)) ∧ Hid (wr = w)) (fun _ _ i _ => 2 - (intOf i).toNat)
  case atStart => exact ⟨0, by omega, rfl, .inl ⟨rfl, rfl⟩, Lib.hid rfl⟩
  case round =>
    obtain ⟨k, hk, rfl, hx, hw⟩ := hrel
    obtain rfl := hw.out
    clear hw
    rcases hx with ⟨rfl, rfl⟩ | ⟨rfl, rfl⟩ | ⟨rfl, rfl⟩
    · go_wp2_with fail
      go_roundw
      case rel => exact ⟨1, by omega, by go_num, .inr (.inl ⟨rfl, by go_num⟩), by first | exact Lib.hid rfl | exact Lib.hid trivial⟩
      case measure => simp [intOf]
    · go_wp2_with fail
      go_roundw
      case rel => exact ⟨2, by omega, by go_num, .inr (.inr ⟨rfl, by go_num⟩), by first | exact Lib.hid rfl | exact Lib.hid trivial⟩
      case measure => simp [intOf]
    · have hcn : ((n + m : Nat) : Int) = (n : Int) + m := by omega
      rw [hcn] at HGR
      clear q0 q1
      go_wp2_with fail
      refine HGR.out.mono ?_
      rintro e w1 ⟨g, cap, rfl, hown, hb1⟩
      have hs1 := hb1.size
      have HOW := Lib.hid hown
      clear hown HGR
      go_wp2_with fail
      go_loopw [6, 8, 27] (fun v _ i wz => ∃ k : Nat, k ≤ 2 ∧ i = .int .i64 k ∧ Below wr.heap.size wr wz ∧ (k = 0 ∧ wz.ownsRow wr.heap.size 25 2 v 0 (flatC []) ∨ k = 1 ∧ wz.ownsRow wr.heap.size 25 2 v n (flatC xs) ∨ k = 2 ∧ wz.ownsRow wr.heap.size 25 2 v (n + m) (flatC (xs ++ ys)))) (fun _ _ i _ => 2 - (intOf i).toNat)
      case atStart => exact ⟨0, by omega, rfl, hb1, .inl ⟨rfl, HOW.out⟩⟩
      case round =>
        clear HOW
        obtain ⟨k, hk, rfl, hbz, hx⟩ := hrel
        have hsz := hbz.size
        rcases hx with ⟨rfl, hown⟩ | ⟨rfl, hown⟩ | ⟨rfl, hown⟩
        · have q0 := cell_next HQ.out.1 hbz
          obtain ⟨v', w2, e1, e2, e3⟩ := app_cs (c := c) hown (HIN.out.next hbz hB) hsz (by omega) (by omega)
          rw [Nat.zero_add, List.nil_append] at e2
          have E1 := Lib.hid e1
          have E2 := Lib.hid e2
          clear e1 e2 hown
          have hb3 := hbz.trans e3
          go_wp2_with (at_builtin; refine Lib.wpList_append_run _ rfl _ _ _ _ rfl _ _ rfl rfl _ _ E1.out ?_)
          go_roundw
          case rel => exact ⟨1, by omega, by go_num, hb3, .inr (.inl ⟨rfl, E2.out⟩)⟩
          case measure => simp [intOf]
        · have q1 := cell_next HQ.out.2 hbz
          obtain ⟨v', w2, e1, e2, e3⟩ := app_cs (c := c') hown (HIL.out.next hbz hB) hsz (by omega) (by omega)
          have E1 := Lib.hid e1
          have E2 := Lib.hid e2
          clear e1 e2 hown
          have hb3 := hbz.trans e3
          go_wp2_with (at_builtin; refine Lib.wpList_append_run _ rfl _ _ _ _ rfl _ _ rfl rfl _ _ E1.out ?_)
          go_roundw
          case rel => exact ⟨2, by omega, by go_num, hb3, .inr (.inr ⟨rfl, E2.out⟩)⟩
          case measure => simp [intOf]
        · obtain ⟨A3, c3, rfl, hO⟩ := own_sliceC hown (by rw [List.length_append, hlen.out, hlen'.out])
          have HO := Lib.hid hO
          clear hown hO
          go_wp2_with fail
          go_ret
          exact ⟨A3, c3, rfl, HO.out, hbz⟩
end Go.Proofs.Ytnfapodeifpeoaa
