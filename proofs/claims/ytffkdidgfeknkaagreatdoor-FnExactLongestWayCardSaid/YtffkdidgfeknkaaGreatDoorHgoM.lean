/-
  Heights over annotated code: the model's search. Conditions: valid annotated code.
-/
import Derived.Test.YtffkdidgfeknkaaGreatDoorBunC
import Derived.Test.YtffkdidgfeknkaaGreatDoorAnnV
import Derived.Test.YtffkdidgfeknkaaGreatDoorBunA
import Derived.Test.YtffkdidgfeknkaaGreatDoorSep
import Derived.Test.YtffkdidgfeknkaaGreatDoorTarg
import Derived.Deep.QuietTactic
import Derived.BigQuiet
import Derived.Deep.AppendLies
namespace Go.Proofs.YtffkdidgfeknkaaGreatDoor
set_option linter.unusedVariables false
open Go.RowKit

theorem own_two (w : World) (x y : Int) : (w.alloc (.cells #[.int .i64 x, .int .i64 y] 2)).ownsRow w.heap.size 2 1 (.slice (some ⟨w.heap.size, 0, none⟩) 2 2) 2 ([x, y].map ic) :=
  ⟨rfl, .inr ⟨w.heap.size, 2, #[.int .i64 x, .int .i64 y], rfl, Nat.le_refl _, heap_alloc_new w _, Nat.le_refl _, by unfold maxLen; omega, rfl, rfl⟩⟩
theorem infoHgo : (Tryz.prog.info? 2).map (fun i => (i.zero, i.size, i.bytes)) = some (some (.int .i64 0), 1, 8) := by kernel_rfl
theorem effect_c (op : Int) (h : 0 ≤ op ∧ op ≤ 11) (w : World) : Calls Tryz.prog 53 #[.int .i64 op] w fun e w' => e = .returned (.tuple #[.int .i64 (popB op), .int .i64 (pushB op)]) ∧ w = w' := by
  have hc : op = 0 ∨ op = 1 ∨ op = 2 ∨ op = 3 ∨ op = 4 ∨ op = 5 ∨ op = 6 ∨ op = 7 ∨ op = 8 ∨ op = 9 ∨ op = 10 ∨ op = 11 := by omega
  clear h
  rcases hc with rfl | rfl | rfl | rfl | rfl | rfl | rfl | rfl | rfl | rfl | rfl | rfl
  all_goals (go_enter Tryz.func53, Tryz.ntmps53; go_wp2_with fail; go_ret2; exact ⟨rfl, rfl⟩)
theorem popB_range (op : Int) : 0 ≤ popB op ∧ popB op ≤ 2 := by unfold popB; split <;> (try split) <;> omega
theorem pushB_range (op : Int) : 0 ≤ pushB op ∧ pushB op ≤ 1 := by unfold pushB; split <;> omega

set_option maxRecDepth 100000 in
set_option maxHeartbeats 2000000 in
theorem l08Point_c (b : Nat) (A : Option Addr) (n c B : Nat) (ps : List P2) (k : Int) (w : World) (p3 : w.cell? ⟨b, 3, none⟩ = some (.slice A n c)) (h : InP2 w B A n ps) (hn : n ≤ 1048576) :
    Calls Tryz.prog 41 #[.pointer (some ⟨b, 0, none⟩), .int .i64 k] w fun e w' => ∃ r : Int, e = .returned (.int .i64 r) ∧ (ptB ps k = true → 0 ≤ r) ∧ (ptB ps k = false → ¬ 0 ≤ r) ∧ w = w' := by
  have hl := Lib.hid h.1
  go_enter Tryz.func41, Tryz.ntmps41
  go_wp2_with fail
  go_loop [5] (fun i => ∃ j : Nat, j ≤ n ∧ i = .int .i64 j ∧ Hid (ptB (ps.take j) k = false)) (fun i => n - (intOf i).toNat)
  case atStart => exact ⟨0, Nat.zero_le _, rfl, Lib.hid rfl⟩
  case round =>
    obtain ⟨j, hj, rfl, ha⟩ := hrel
    by_cases hlt : j < n
    · obtain ⟨b', off, x, rfl, hb, hx, A0, n0, c0, q0, q1, kf⟩ := h.at_ hlt
      clear q1 kf
      by_cases hk : x.a = k
      · have e0 : (x.a == k) = true := by simp [hk]
        have HN := Lib.hid (ptB_yes hx hk)
        clear hx ha hk
        go_wp2_with fail
        go_ret
        exact ⟨j, rfl, (fun _ => by omega), (fun e => by rw [HN.out] at e; cases e), rfl⟩
      · have e0 : (x.a == k) = false := by simp [hk]
        have HS := Lib.hid (ptB_take_no ha.out hx hk)
        clear hx ha hk
        go_wp2_with fail
        go_round
        case rel => exact ⟨j + 1, by omega, by go_num, HS⟩
        case measure => simp [intOf]; omega
    · have HN := Lib.hid (ptB_all ha.out (by rw [hl.out]; omega))
      clear ha
      go_wp2_with fail
      go_ret
      exact ⟨-1, rfl, (fun e => by rw [HN.out] at e; cases e), (fun _ => by omega), rfl⟩

set_option maxRecDepth 100000 in
set_option maxHeartbeats 2000000 in
theorem l08Next_c (b : Nat) (A : Option Addr) (n c B : Nat) (xs : List (Int × Int)) (k : Nat) (x : Int × Int) (w : World) (p2 : w.cell? ⟨b, 2, none⟩ = some (.slice A n c)) (h : InC w B A n xs) (hx : xs[k]? = some x) (hk : k ≤ 1000) :
    Calls Tryz.prog 40 #[.pointer (some ⟨b, 0, none⟩), .int .i64 k] w fun e w' => ∃ A' c', e = .returned (.slice A' (rawT x.1 x.2 k).length c') ∧ OwnL w' w.heap.size w'.heap.size A' (rawT x.1 x.2 k).length c' (rawT x.1 x.2 k) ∧ Below w.heap.size w w' := by
  have hkn : k < n := by have := (List.getElem?_eq_some_iff.1 hx).1; have := h.1; omega
  obtain ⟨cb, off, x', rfl, hcb, hx', a0, a1⟩ := h.at_ hkn
  rw [hx] at hx'
  obtain rfl := Option.some.inj hx'
  clear hx hx' h
  obtain ⟨op, a⟩ := x
  dsimp only at a0 a1 ⊢
  have hb0 := bnew w (.cells #[.int .i64 op, .int .i64 a] 92)
  have hX : BlkIs (w.alloc (.cells #[.int .i64 op, .int .i64 a] 92)) w.heap.size 92 #[.int .i64 op, .int .i64 a] := blk_new _ _ _ _ rfl
  have q0 : (w.alloc (.cells #[.int .i64 op, .int .i64 a] 92)).cell? ⟨w.heap.size, 0, none⟩ = some (.int .i64 op) := hX.cell 0
  have q1 : (w.alloc (.cells #[.int .i64 op, .int .i64 a] 92)).cell? ⟨w.heap.size, 1, none⟩ = some (.int .i64 a) := hX.cell 1
  have hsz := hb0.size
  have hkw : IntKind.i64.wrap ((k : Int) + 1) = (k : Int) + 1 := IntWalk.i64_in _ (by omega)
  clear hX
  have hs1 : (w.alloc (.cells #[.int .i64 op, .int .i64 a] 92)).heap.size = w.heap.size + 1 := by simp
  have o0 := own_empty (w.alloc (.cells #[.int .i64 op, .int .i64 a] 92)) 2
  have o1 := own_one (w.alloc (.cells #[.int .i64 op, .int .i64 a] 92)) a
  have o2 := own_two (w.alloc (.cells #[.int .i64 op, .int .i64 a] 92)) ((k : Int) + 1) a
  have o3 := own_one (w.alloc (.cells #[.int .i64 op, .int .i64 a] 92)) ((k : Int) + 1)
  rw [hs1] at o0 o1 o2 o3
  have O0 := Lib.hid o0
  have O1 := Lib.hid o1
  have O2 := Lib.hid o2
  have O3 := Lib.hid o3
  clear o0 o1 o2 o3
  go_enter Tryz.func40, Tryz.ntmps40
  unfold rawT
  by_cases h11 : op = 11
  · subst h11
    rw [if_pos rfl]
    go_wp2_with fail
    go_ret
    exact ⟨_, _, rfl, OwnL.of_own (own_less O0.out (Nat.le_succ _)), bon hb0 (bnew _ _)⟩
  · have e11 : (op == 11) = false := by simp [h11]
    rw [if_neg h11]
    by_cases h5 : op = 5
    · subst h5
      rw [if_pos rfl]
      go_wp2_with fail
      go_ret
      exact ⟨_, _, rfl, OwnL.of_own (own_less O1.out (Nat.le_succ _)), bon hb0 (bnew _ _)⟩
    · have e5 : (op == 5) = false := by simp [h5]
      rw [if_neg h5]
      by_cases h6 : op = 6
      · subst h6
        rw [if_pos rfl]
        go_wp2_with fail
        go_ret
        exact ⟨_, _, rfl, OwnL.of_own (own_less O2.out (Nat.le_succ _)), bon hb0 (bnew _ _)⟩
      · have e6 : (op == 6) = false := by simp [h6]
        rw [if_neg h6]
        go_wp2_with fail
        go_ret
        exact ⟨_, _, rfl, OwnL.of_own (own_less O3.out (Nat.le_succ _)), bon hb0 (bnew _ _)⟩

def fillN (n j : Nat) : List Int := List.replicate j (-1) ++ List.replicate (n - j) 0
theorem fillN_len {n j : Nat} (h : j ≤ n) : (fillN n j).length = n := by unfold fillN; simp; omega
theorem fillN_zero (n : Nat) : fillN n 0 = List.replicate n 0 := by unfold fillN; simp
theorem fillN_all (n : Nat) : fillN n n = List.replicate n (-1) := by unfold fillN; simp
theorem fillN_set {n j : Nat} (h : j < n) : (fillN n j).set j (-1) = fillN n (j + 1) := by
  unfold fillN
  obtain ⟨q, hq⟩ : ∃ q, n - j = q + 1 := ⟨n - j - 1, by omega⟩
  rw [hq, show n - (j + 1) = q by omega, List.set_append_right _ _ (by simp), List.length_replicate, Nat.sub_self, List.replicate_succ, List.set_cons_zero, List.replicate_succ', List.append_assoc]
  rfl
/-- The search in memory: the heights and the places that have one. -/
structure HgoW (wc : World) (gO cO gW cW n : Nat) (out wk : List Int) (W : World) : Prop where
  outs : W.ownsRow wc.heap.size 2 1 (.slice (some ⟨gO, 0, none⟩) n cO) n (out.map ic)
  work : W.ownsRow wc.heap.size 2 1 (.slice (some ⟨gW, 0, none⟩) wk.length cW) wk.length (wk.map ic)
  apart : gW ≠ gO
  size : negN out + wk.length ≤ n
  top : ∀ z ∈ out, z ≤ 6
  below : Below wc.heap.size wc W
section
variable {wc W W' W1 W2 : World} {gO cO gW cW g' c' n k : Nat} {out wk : List Int} {t z a : Int}
theorem HgoW.keep (h : HgoW wc gO cO gW cW n out wk W) (hb : Below W.heap.size W W') : HgoW wc gO cO gW cW n out wk W' :=
  ⟨own_below h.outs hb, own_below h.work hb, h.apart, h.size, h.top, bon h.below hb⟩
/-- A height is put, and its place appended. -/
theorem HgoW.put (h : HgoW wc gO cO gW cW n out wk W) (hk : out[k]? = some a) (ha : a < 0) (hz : 0 ≤ z) (hz6 : z ≤ 6) (hb : Below (W.setCell ⟨gO, k, none⟩ (.int .i64 z)).heap.size (W.setCell ⟨gO, k, none⟩ (.int .i64 z)) W1)
    (hq : W2.ownsRow wc.heap.size 2 1 (.slice (some ⟨g', 0, none⟩) (wk ++ [t]).length c') (wk ++ [t]).length ((wk ++ [t]).map ic)) (hg : W1.grownBy W2 (some gW)) (hv : g' = gW ∨ W1.heap.size ≤ g') : HgoW wc gO cO g' c' n (out.set k z) (wk ++ [t]) W2 := by
  have hm := h.outs
  have s1 := (hm.stored k (.int .i64 z)).1
  have s2 := own_below s1 hb
  have s3 := s2.kept hg (.inr (fun e => h.apart (Option.some.inj (show some gO = some gW from e)).symm))
  have hgs := hm.lt gO rfl
  refine ⟨?_, hq, ?_, ?_, fun y hy => by rcases List.mem_or_eq_of_mem_set hy with e | rfl; exact h.top y e; exact hz6, ?_⟩
  · rw [List.map_set]; exact s3
  · rcases hv with e | hj
    · rw [e]; exact h.apart
    · intro e'
      have h1 := hgs.2
      have h2 := hb.size
      simp at h2
      omega
  · have h1 := negN_set hk ha hz
    have h2 := h.size
    rw [List.length_append, List.length_singleton]
    omega
  · have b1 : Below wc.heap.size wc (W.setCell ⟨gO, k, none⟩ (.int .i64 z)) := h.below.setCell (p := ⟨gO, k, none⟩) hgs.1 _
    refine (bon b1 hb).grown hg (Nat.le_trans b1.size hb.size) (fun j hj => ?_)
    obtain rfl := Option.some.inj hj
    exact (h.work.lt gW rfl).1
end

set_option maxRecDepth 100000 in
set_option maxHeartbeats 4000000 in
theorem l08Heights_c (b : Nat) (v0 v1 : Value) (A : Option Addr) (n c B : Nat) (xs : List (Int × Int)) (D : Option Addr) (m d : Nat) (ps : List P2) (w : World) (hP : BlkIs w b 35 #[v0, v1, .slice A n c, .slice D m d]) (h : InC w B A n xs) (hpt : InP2 w B D m ps) (hB : B ≤ w.heap.size) (hv : codeB xs = true) (hm8 : m ≤ 1048576) :
    Calls Tryz.prog 23 #[.pointer (some ⟨b, 0, none⟩)] w fun e w' => ∃ A' L c' ok, e = .returned (.tuple #[.slice A' L.length c', .bool ok]) ∧ (ok = true → LeastH xs L ∧ FlatP ps L) ∧ (ok = false → BadH xs ps ∧ L = []) ∧ OwnL w' w.heap.size w'.heap.size A' L.length c' L ∧ Below w.heap.size w w' := by
  obtain ⟨i0, hi, hz0, hz1, hz2⟩ := info_parts infoHgo
  have hxn : xs.length = n := h.1
  have hp := codeB_parts hv
  have hn80 : 1 ≤ n ∧ n ≤ 80 := by omega
  have HXN := Lib.hid hxn
  have HI := Lib.hid h
  have HQ := Lib.hid hpt
  have HT := Lib.hid (tgt_in hv)
  have HV := Lib.hid hv
  have HP := Lib.hid (fun W (hb : Below w.heap.size w W) => And.intro (show W.cell? ⟨b, 2, none⟩ = some (.slice A n c) from (hP.next hb).cell 2) (show W.cell? ⟨b, 3, none⟩ = some (.slice D m d) from (hP.next hb).cell 3))
  have p2 : w.cell? ⟨b, 2, none⟩ = some (.slice A n c) := hP.cell 2
  clear h hp hv hxn hP hpt
  go_enter Tryz.func23, Tryz.ntmps23
  go_wp2_with (at_make; refine wpList_make_full _ rfl _ _ 28 rfl w.heap.size 2 i0 (.int .i64 0) 1 Tryz.underlying28 hi hz0 hz1 .i64 .i64 _ _ n rfl rfl rfl rfl (by rw [hz2]; omega) (by unfold maxLen; omega) (Nat.le_refl _) ?_; intro w1 hown hgrow)
  have hb1 : Below w.heap.size w w1 := (Below.refl _ _).grown hgrow (Nat.le_refl _) (fun q hq => by cases hq)
  have hown2 : w1.ownsRow w.heap.size 2 1 (.slice (some ⟨w.heap.size, 0, none⟩) n n) n ((List.replicate n (0 : Int)).map ic) := by
    rw [List.map_replicate]
    have e2 := hown
    rw [show (Value.int .i64 0).cells = #[Value.int .i64 0] from rfl, toList_madeCells_one] at e2
    simpa [ic] using e2
  clear hown hgrow p2
  go_loopw [6] (fun i wr => ∃ j : Nat, i = .int .i64 j ∧ j ≤ n ∧ Hid (wr.ownsRow w.heap.size 2 1 (.slice (some ⟨w.heap.size, 0, none⟩) n n) n ((fillN n j).map ic)) ∧ Hid (Below w.heap.size w wr)) (fun i _ => (n - intOf i).toNat)
  case atStart => exact ⟨0, rfl, Nat.zero_le _, by rw [fillN_zero]; exact hown2, hb1⟩
  case round =>
    clear hown2 hb1
    rename World => wr
    obtain ⟨j, rfl, hj, hO, hb⟩ := hrel
    by_cases hlt : j < n
    · have i3 : (j : Int) < (n : Int) := by omega
      have o0 : wr.cell? ⟨w.heap.size, j, none⟩ = some (.int .i64 0) := by rw [hO.out.cellAt j (by omega), List.getElem?_map]; unfold fillN; rw [List.getElem?_append_right (by simp), List.getElem?_replicate, if_pos (by simp; omega)]; rfl
      have f0 := hO.out.frozenAt j
      have hst := (hO.out.stored j (.int .i64 (-1))).1
      have hst2 : (wr.setCell ⟨w.heap.size, j, none⟩ (.int .i64 (-1))).ownsRow w.heap.size 2 1 (.slice (some ⟨w.heap.size, 0, none⟩) n n) n ((fillN n (j + 1)).map ic) := by rw [← fillN_set hlt, List.map_set]; exact hst
      have HST := Lib.hid hst2
      have HB2 := Lib.hid (hb.out.setCell (p := ⟨w.heap.size, j, none⟩) (Nat.le_refl _) (.int .i64 (-1)))
      clear hst hst2 hO hb
      go_wp2_with fail
      go_roundw
      case rel => exact ⟨j + 1, by go_num, by omega, HST, HB2⟩
      case measure => simp [intOf]; omega
    · obtain rfl : j = n := by omega
      have i3 : ¬ (j : Int) < (j : Int) := by omega
      have hO2 := hO.out
      rw [fillN_all] at hO2
      have o0 : wr.cell? ⟨w.heap.size, 0, none⟩ = some (.int .i64 (-1)) := by rw [hO2.cellAt 0 (by omega), List.getElem?_map, List.getElem?_replicate, if_pos (by omega)]; rfl
      have f0 := hO2.frozenAt 0
      have hst := (hO2.stored 0 (.int .i64 0)).1
      have hb1 : Below w.heap.size w (wr.setCell ⟨w.heap.size, 0, none⟩ (.int .i64 0)) := hb.out.setCell (p := ⟨w.heap.size, 0, none⟩) (Nat.le_refl _) _
      have hb2 := bnew (wr.setCell ⟨w.heap.size, 0, none⟩ (.int .i64 0)) (.cells #[.int .i64 0] 2)
      have hgl := hO2.lt w.heap.size rfl
      have hM0 : HgoW w w.heap.size j wr.heap.size 1 j ((List.replicate j (-1 : Int)).set 0 0) [0] ((wr.setCell ⟨w.heap.size, 0, none⟩ (.int .i64 0)).alloc (.cells #[.int .i64 0] 2)) := by
        refine ⟨?_, ?_, by omega, ?_, fun y hy => by rcases List.mem_or_eq_of_mem_set hy with e | rfl; have := List.eq_of_mem_replicate e; omega; omega, bon hb1 hb2⟩
        · rw [List.map_set]; exact own_below hst hb2
        · have h1 := own_one (wr.setCell ⟨w.heap.size, 0, none⟩ (.int .i64 0)) 0
          have hs : (wr.setCell ⟨w.heap.size, 0, none⟩ (.int .i64 0)).heap.size = wr.heap.size := by simp
          rw [hs] at h1
          exact own_less h1 hb.out.size
        · have h1 := negN_set (L := List.replicate j (-1 : Int)) (k := 0) (a := -1) (b := 0) (by rw [List.getElem?_replicate, if_pos (by omega)]) (by omega) (by omega)
          have h2 := negN_le (List.replicate j (-1 : Int))
          rw [List.length_replicate] at h2
          simp only [List.length_singleton]; omega
      have hS0 : SrchV xs ps ((List.replicate j (-1 : Int)).set 0 0) [0] := by
        have := SrchV.init (xs := xs) (ps := ps) (by rw [HXN.out]; omega)
        rw [HXN.out] at this; exact this
      have i4 : (0 : Int) < (j : Int) := by omega
      have HM0 := Lib.hid hM0
      have HS0 := Lib.hid hS0
      clear hM0 hS0 hst hb1 hb2 hO hO2
      go_wp2_with fail
      clear i3 i4 o0 f0 hgl hb hlt hj
      generalize (wr.setCell ⟨w.heap.size, 0, none⟩ (.int .i64 0)).alloc (.cells #[.int .i64 0] 2) = W at HM0 ⊢
      generalize wr.heap.size = gw at HM0 ⊢
      go_loopw [7, 8, 9, 10, 11, 12, 13, 14] (fun v i _ _ _ _ _ _ wr => ∃ (ii gW cW : Nat) (out wk : List Int), v = .slice (some ⟨gW, 0, none⟩) wk.length cW ∧ i = .int .i64 ii ∧ ii ≤ wk.length ∧ Hid (SrchV xs ps out (wk.drop ii)) ∧ Hid (HgoW w w.heap.size j gW cW j out wk wr)) (fun _ i _ _ _ _ _ _ _ => (j - intOf i).toNat)
      case atStart => exact ⟨0, gw, 1, _, [0], rfl, rfl, Nat.zero_le _, HS0, HM0⟩
      case round =>
        clear HS0 HM0
        rename World => wr
        obtain ⟨ii, gW, cW, out, wk, rfl, rfl, hii, HS, HM⟩ := hrel
        have hwl : wk.length ≤ j := by have := HM.out.size; omega
        by_cases hlt : ii < wk.length
        · have i3 : (ii : Int) < (wk.length : Int) := by omega
          obtain ⟨t, ht⟩ : ∃ t, wk[ii]? = some t := ⟨_, List.getElem?_eq_getElem hlt⟩
          have hdr : wk.drop ii = t :: wk.drop (ii + 1) := drop_at ht
          have hs0 := HS.out
          rw [hdr] at hs0
          obtain ⟨ht0, htl, h, hth, hh0⟩ := hs0.s.inq t (List.mem_cons_self ..)
          obtain ⟨k, rfl⟩ : ∃ k : Nat, t = (k : Int) := ⟨t.toNat, by omega⟩
          rw [Int.toNat_natCast] at hth
          have hh6 := HM.out.top h (List.mem_of_getElem? hth)
          have hk : k < xs.length := by omega
          have hkj : k < j := by have := HXN.out; omega
          have i4 : (k : Int) < (j : Int) := by omega
          have hM := HM.out
          have wc0 : wr.cell? ⟨gW, ii, none⟩ = some (.int .i64 k) := by rw [hM.work.cellAt ii (by omega), List.getElem?_map, ht]; rfl
          have c0 : wr.cell? ⟨w.heap.size, k, none⟩ = some (.int .i64 h) := by rw [hM.outs.cellAt k (by omega), List.getElem?_map, hth]; rfl
          obtain ⟨cb, coff, x, hAe, hcb, hx, a0, a1⟩ := (HI.out.next hM.below hB).at_ hkj
          subst hAe
          obtain ⟨p2, p3⟩ := HP.out wr hM.below
          have hib := instrB_parts (codeB_at HV.out hx)
          have hop : 0 ≤ x.1 ∧ x.1 ≤ 11 := ⟨hib.1, hib.2.1⟩
          have hpb := popB_range x.1
          have hqb := pushB_range x.1
          have HX := Lib.hid hx
          have HH := Lib.hid hth
          have HS0 := Lib.hid hs0
          have hop1 : opN xs k = x.1 := by unfold opN; rw [List.getD_eq_getElem?_getD, HX.out]; rfl
          have hgB1 : hgB xs k h = h - popB x.1 + pushB x.1 := by unfold hgB; rw [hop1]
          have HG1 := Lib.hid hgB1
          have HO1 := Lib.hid hop1
          have HPT := Lib.hid (l08Point_c b D m d B ps (k : Int) wr p3 (HQ.out.next hM.below hB) hm8)
          have HSW := Lib.hid hM.below
          clear hx hib hM hth hs0 hdr ht htl ht0 hop1 hgB1 HS
          go_wp2_with fail
          refine HPT.out.mono ?_
          rintro e w1 ⟨r, rfl, r1, r0, hw⟩
          subst hw
          have hw1 : IntKind.i64.wrap (h - popB x.1) = h - popB x.1 := IntWalk.i64_in _ (by omega)
          have hw2 : IntKind.i64.wrap (h - popB x.1 + pushB x.1) = h - popB x.1 + pushB x.1 := IntWalk.i64_in _ (by omega)
          cases hpt : ptB ps k
          case true =>
            have i7 : 0 ≤ r := r1 hpt
            by_cases hz : h = 0
            · have e7 : (h != 0) = false := by simp [hz]
              have HPP : Hid (0 < h → ptB ps k = false) := fun e => by omega
              clear hpt hz
              go_wp2_with fail
              refine (effect_c _ hop _).mono ?_
              rintro e w2 ⟨rfl, hw⟩
              subst hw
              by_cases hfa : h < popB x.1
              · have HBAD := Lib.hid (HS0.out.unfit HH.out hh0 (fun f => by have := f.1; rw [HO1.out] at this; omega))
                go_wp2_with fail
                go_ret2
                exact ⟨none, [], 0, false, rfl, (fun e => by cases e), (fun _ => ⟨HBAD.out, rfl⟩), (ownL_nil _).less HSW.out.size, HSW.out⟩
              by_cases hfb : 6 < h - popB x.1 + pushB x.1
              · have HBAD := Lib.hid (HS0.out.unfit HH.out hh0 (fun f => by have := f.2; rw [HG1.out] at this; omega))
                go_wp2_with fail
                go_ret2
                exact ⟨none, [], 0, false, rfl, (fun e => by cases e), (fun _ => ⟨HBAD.out, rfl⟩), (ownL_nil _).less HSW.out.size, HSW.out⟩
              have htg : ∀ t, t ∈ rawT x.1 x.2 k ↔ t ∈ tgtN xs k := fun t => by rw [rawT_mem]; unfold tgtN; rw [List.getD_eq_getElem?_getD, HX.out]; exact Iff.rfl
              have HST := Lib.hid (HS0.out.take HH.out hh0 (show fitH xs k h from ⟨by rw [HO1.out]; omega, by rw [HG1.out]; omega⟩) HPP.out htg)
              obtain ⟨nx, hnx⟩ : ∃ nx, Hid (h - popB x.1 + pushB x.1 = nx) := ⟨_, rfl⟩
              have hnx0 : 0 ≤ nx ∧ nx ≤ 6 := by have := hnx.out; omega
              have HNX := Lib.hid (l08Next_c b (some ⟨cb, coff, none⟩) j c B xs k x _ p2 (HI.out.next HSW.out hB) HX.out (by omega))
              have htl2 := rawT_len x.1 x.2 k
              have HTI : Hid (∀ t ∈ rawT x.1 x.2 k, 0 ≤ t ∧ t ≤ 80) := fun t ht => HT.out k x HX.out t ((rawT_mem _ _ _ _).1 ht)
              have HG2 : Hid (hgB xs k h = nx) := HG1.out.trans hnx.out
              clear hh0 hh6 hcb htg
              go_wp2_with fail
              refine HNX.out.mono ?_
              rintro e w2 ⟨A', ct, rfl, hyo, hb2⟩
              generalize rawT x.1 x.2 k = T at HST htl2 HTI hyo ⊢
              have HM2 := Lib.hid (HM.out.keep hb2)
              have HY := Lib.hid (show w2.ownsRow w.heap.size 2 1 (.slice A' T.length ct) T.length (T.map ic) ∧ (∀ tb, (Value.slice A' T.length ct).ownBlock = some tb → tb ≠ gW) ∧ (∀ tb, (Value.slice A' T.length ct).ownBlock = some tb → tb ≠ w.heap.size) from
                ⟨own_less hyo.2.1 HSW.out.size, fun tb e => by have h1 := (hyo.2.1.lt tb e).1; have h2 := (HM.out.work.lt gW rfl).2; omega, fun tb e => by have h1 := (hyo.2.1.lt tb e).1; have h2 := (HM.out.outs.lt w.heap.size rfl).2; omega⟩)
              have hii1 : ii + 1 ≤ wk.length := hlt
              rw [hnx.out]
              clear hyo hb2 HNX HPT p2 p3 a0 a1 c0 wc0 r0 r1 hfa hfb hw1 hw2 hpb hqb
              go_wp2_with fail
              go_loopw [7, 14] (fun v i wr2 => ∃ (i2 gV cV : Nat) (out2 wk2 : List Int), v = .slice (some ⟨gV, 0, none⟩) wk2.length cV ∧ i = .int .i64 i2 ∧ i2 ≤ T.length ∧ ii + 1 ≤ wk2.length ∧ Hid (SrchU xs ps T out2 (wk2.drop (ii + 1)) k h i2) ∧ Hid (HgoW w w.heap.size j gV cV j out2 wk2 wr2) ∧ Hid (wr2.ownsRow w.heap.size 2 1 (.slice A' T.length ct) T.length (T.map ic) ∧ (∀ tb, (Value.slice A' T.length ct).ownBlock = some tb → tb ≠ gV) ∧ (∀ tb, (Value.slice A' T.length ct).ownBlock = some tb → tb ≠ w.heap.size))) (fun _ i _ => (T.length - intOf i).toNat)
              case atStart => exact ⟨0, gW, cW, out, wk, rfl, rfl, Nat.zero_le _, hii1, HST, HM2, HY⟩
              case round =>
                clear HST HM2 HY HM HSW HS0 HH
                rename World => wr2
                obtain ⟨i2, gV, cV, out2, wk2, rfl, rfl, hi2, hii2, HS2, HM2, HY2⟩ := hrel
                have hwl2 : wk2.length ≤ j := by have := HM2.out.size; omega
                by_cases hl2 : i2 < T.length
                · have i5 : (i2 : Int) < (T.length : Int) := by omega
                  obtain ⟨yb, yoff, t, hAe, hyb, hyt, hyc⟩ := (OwnL.of_own HY2.out.1).all.2.int_at (k := i2) hl2
                  subst hAe
                  have htb := HTI.out t (List.mem_of_getElem? hyt)
                  have HTT := Lib.hid hyt
                  clear hyt hyb
                  by_cases hl : t < (xs.length : Int)
                  · obtain ⟨tn, rfl⟩ : ∃ tn : Nat, t = (tn : Int) := ⟨t.toNat, by omega⟩
                    have htn : tn < j := by have := HXN.out; omega
                    have i6 : (tn : Int) < (j : Int) := by omega
                    have hin : (decide ((0 : Int) ≤ (tn : Int)) && decide ((tn : Int) ≤ (j : Int) - 1)) = true := by simp; omega
                    obtain ⟨a, ha⟩ : ∃ a, out2[tn]? = some a := ⟨_, List.getElem?_eq_getElem (by rw [HS2.out.len]; omega)⟩
                    have hac : wr2.cell? ⟨w.heap.size, tn, none⟩ = some (.int .i64 a) := by rw [HM2.out.outs.cellAt tn (by omega), List.getElem?_map, ha]; rfl
                    have HA : Hid (out2[((tn : Nat) : Int).toNat]? = some a) := by rw [Int.toNat_natCast]; exact ha
                    have HIN := l00In_i (tn : Int) 0 ((j : Int) - 1) wr2
                    rw [hin] at HIN
                    have HIN := Lib.hid HIN
                    clear ha hin
                    by_cases h0 : 0 ≤ a
                    · by_cases hne : a = nx
                      · subst hne
                        have e0 : (a != a) = false := by simp
                        have HS3 := Lib.hid (HS2.out.skip HTT.out hl (by rw [HA.out, HG2.out]))
                        have i8 : ¬ a < 0 := by omega
                        go_wp2_with fail
                        refine HIN.out.mono ?_
                        rintro e w3 ⟨rfl, hw⟩
                        subst hw
                        go_wp2_with fail
                        go_roundw
                        case rel => exact ⟨i2 + 1, gV, cV, out2, wk2, rfl, by go_num, by omega, hii2, HS3, HM2, HY2⟩
                        case measure => simp [intOf]; omega
                      · have HBAD := Lib.hid (HS2.out.other HTT.out HA.out h0 (by rw [HG2.out]; exact hne))
                        have e0 : (a != nx) = true := bne_iff_ne.2 hne
                        go_wp2_with fail
                        refine HIN.out.mono ?_
                        rintro e w3 ⟨rfl, hw⟩
                        subst hw
                        go_wp2_with fail
                        go_ret2
                        exact ⟨none, [], 0, false, rfl, (fun e => by cases e), (fun _ => ⟨HBAD.out, rfl⟩), (ownL_nil _).less HM2.out.below.size, HM2.out.below⟩
                    · have i8 : a < 0 := by omega
                      have i9 : ¬ 0 ≤ a := h0
                      have hf := HM2.out.outs.frozenAt tn
                      have HS3 := Lib.hid (HS2.out.put HTT.out htb.1 hl HA.out i8)
                      have hsz9 : (wr2.setCell ⟨w.heap.size, tn, none⟩ (.int .i64 nx)).heap.size = wr2.heap.size := by simp
                      have hy1 := ownsRow_setCell_other (a := ⟨w.heap.size, tn, none⟩) HY2.out.1 (fun e => HY2.out.2.2 _ e rfl) (.int .i64 nx)
                      obtain ⟨yb2, yoff2, t2, hAe, _, hyt2, hyc2⟩ := (OwnL.of_own hy1).all.2.int_at (k := i2) hl2
                      obtain ⟨rfl, rfl⟩ : yb = yb2 ∧ yoff = yoff2 := by injection hAe with e1; injection e1 with e2 e3; exact ⟨e2, e3⟩
                      rw [HTT.out] at hyt2
                      obtain rfl := Option.some.inj hyt2
                      have hbn := bnew (wr2.setCell ⟨w.heap.size, tn, none⟩ (.int .i64 nx)) (.cells #[.int .i64 (tn : Int)] 2)
                      have hk1 := ownsRow_setCell_other (a := ⟨w.heap.size, tn, none⟩) HM2.out.work (fun e => HM2.out.apart (Option.some.inj e)) (.int .i64 nx)
                      have hk2 := own_below hk1 hbn
                      have hnews := World.news_of_block (cs := #[.int .i64 (tn : Int)]) (blk_new (wr2.setCell ⟨w.heap.size, tn, none⟩ (.int .i64 nx)) 2 #[.int .i64 (tn : Int)] wr2.heap.size hsz9.symm)
                      have hszb := HM2.out.below.size
                      have HC := Lib.hid (And.intro hk2 (And.intro hnews (And.intro hbn hy1)))
                      clear hk1 hk2 hnews hbn hAe hyt2 hy1
                      go_wp2_with fail
                      refine HIN.out.mono ?_
                      rintro e w3 ⟨rfl, hw⟩
                      subst hw
                      go_wp2_with (at_builtin; (refine wpList_append_sep rfl _ _ 28 rfl w.heap.size 2 i0 (.int .i64 0) 1 8 Tryz.underlying28 hi hz0 hz1 hz2 rfl (by decide) _ _ _ rfl HC.out.1 ⟨wr2.heap.size, 0, none⟩ 1 1 [.int .i64 (tn : Int)] rfl rfl HC.out.2.1 (by simp [Value.oneCell']) (by unfold maxLen; omega) (by omega) (by simp; omega) (by omega) ?_); intro g3 c3 w3 hown3 hgrow3 hsep3)
                      have hown4 : w3.ownsRow w.heap.size 2 1 (.slice (some ⟨g3, 0, none⟩) (wk2 ++ [(tn : Int)]).length c3) (wk2 ++ [(tn : Int)]).length ((wk2 ++ [(tn : Int)]).map ic) := by
                        rw [List.length_append, List.length_singleton, List.map_append]; exact hown3
                      have hsep4 : g3 = gV ∨ ((wr2.setCell ⟨w.heap.size, tn, none⟩ (.int .i64 nx)).alloc (.cells #[.int .i64 (tn : Int)] 2)).heap.size ≤ g3 := hsep3.imp (fun e => Option.some.inj (show some g3 = some gV from e)) id
                      have HM3 := Lib.hid (HM2.out.put (by rw [← HA.out, Int.toNat_natCast]) i8 hnx0.1 hnx0.2 HC.out.2.2.1 hown4 hgrow3 hsep4)
                      have hy2 := (own_below HC.out.2.2.2 HC.out.2.2.1).kept hgrow3 (.inr (fun e => HY2.out.2.1 _ e rfl))
                      have hylt := (own_below HC.out.2.2.2 HC.out.2.2.1).lt
                      have HY3 := Lib.hid (And.intro hy2 (And.intro (fun tb (e : (Value.slice (some ⟨yb, yoff, none⟩) T.length ct).ownBlock = some tb) => show tb ≠ g3 from fun e' => by
                        rcases hsep4 with e2 | e2
                        · exact HY2.out.2.1 tb e (e'.trans e2)
                        · have := (hylt _ e).2; omega) HY2.out.2.2))
                      have hdr2 : (wk2 ++ [(tn : Int)]).drop (ii + 1) = wk2.drop (ii + 1) ++ [(tn : Int)] := List.drop_append_of_le_length hii2
                      have HDR := Lib.hid hdr2
                      clear hown3 hown4 hgrow3 hsep3 hsep4 hy2 hylt hdr2
                      go_roundw
                      case rel => exact ⟨i2 + 1, g3, c3, out2.set tn nx, wk2 ++ [(tn : Int)], (by rw [List.length_append]; rfl), by go_num, by omega, (by rw [List.length_append]; omega), (by rw [HDR.out]; have := HS3.out; rw [HG2.out, Int.toNat_natCast] at this; exact this), HM3, HY3⟩
                      case measure => simp [intOf]; omega
                  · have HBAD := Lib.hid (HS2.out.far HTT.out hl)
                    have hin : (decide ((0 : Int) ≤ t) && decide (t ≤ (j : Int) - 1)) = false := by have := HXN.out; simp; omega
                    have HIN := l00In_i t 0 ((j : Int) - 1) wr2
                    rw [hin] at HIN
                    have HIN := Lib.hid HIN
                    clear hin
                    go_wp2_with fail
                    refine HIN.out.mono ?_
                    rintro e w3 ⟨rfl, hw⟩
                    subst hw
                    go_wp2_with fail
                    go_ret2
                    exact ⟨none, [], 0, false, rfl, (fun e => by cases e), (fun _ => ⟨HBAD.out, rfl⟩), (ownL_nil _).less HM2.out.below.size, HM2.out.below⟩
                · have i5 : ¬ (i2 : Int) < (T.length : Int) := by omega
                  have HS4 := Lib.hid (HS2.out.all (by omega))
                  go_wp2_with fail
                  go_roundw
                  case rel => exact ⟨ii + 1, gV, cV, out2, wk2, rfl, by go_num, hii2, HS4, HM2⟩
                  case measure => simp [intOf]; omega
            · have e7 : (h != 0) = true := bne_iff_ne.2 hz
              have HBAD := Lib.hid (HS0.out.point HH.out (by omega) hpt)
              clear hpt
              go_wp2_with fail
              go_ret2
              exact ⟨none, [], 0, false, rfl, (fun e => by cases e), (fun _ => ⟨HBAD.out, rfl⟩), (ownL_nil _).less HSW.out.size, HSW.out⟩
          case false =>
            have i7 : ¬ 0 ≤ r := by have := r0 hpt; omega
            have HPP : Hid (0 < h → ptB ps k = false) := fun _ => hpt
            clear hpt
            go_wp2_with fail
            refine (effect_c _ hop _).mono ?_
            rintro e w2 ⟨rfl, hw⟩
            subst hw
            by_cases hfa : h < popB x.1
            · have HBAD := Lib.hid (HS0.out.unfit HH.out hh0 (fun f => by have := f.1; rw [HO1.out] at this; omega))
              go_wp2_with fail
              go_ret2
              exact ⟨none, [], 0, false, rfl, (fun e => by cases e), (fun _ => ⟨HBAD.out, rfl⟩), (ownL_nil _).less HSW.out.size, HSW.out⟩
            by_cases hfb : 6 < h - popB x.1 + pushB x.1
            · have HBAD := Lib.hid (HS0.out.unfit HH.out hh0 (fun f => by have := f.2; rw [HG1.out] at this; omega))
              go_wp2_with fail
              go_ret2
              exact ⟨none, [], 0, false, rfl, (fun e => by cases e), (fun _ => ⟨HBAD.out, rfl⟩), (ownL_nil _).less HSW.out.size, HSW.out⟩
            have htg : ∀ t, t ∈ rawT x.1 x.2 k ↔ t ∈ tgtN xs k := fun t => by rw [rawT_mem]; unfold tgtN; rw [List.getD_eq_getElem?_getD, HX.out]; exact Iff.rfl
            have HST := Lib.hid (HS0.out.take HH.out hh0 (show fitH xs k h from ⟨by rw [HO1.out]; omega, by rw [HG1.out]; omega⟩) HPP.out htg)
            obtain ⟨nx, hnx⟩ : ∃ nx, Hid (h - popB x.1 + pushB x.1 = nx) := ⟨_, rfl⟩
            have hnx0 : 0 ≤ nx ∧ nx ≤ 6 := by have := hnx.out; omega
            have HNX := Lib.hid (l08Next_c b (some ⟨cb, coff, none⟩) j c B xs k x _ p2 (HI.out.next HSW.out hB) HX.out (by omega))
            have htl2 := rawT_len x.1 x.2 k
            have HTI : Hid (∀ t ∈ rawT x.1 x.2 k, 0 ≤ t ∧ t ≤ 80) := fun t ht => HT.out k x HX.out t ((rawT_mem _ _ _ _).1 ht)
            have HG2 : Hid (hgB xs k h = nx) := HG1.out.trans hnx.out
            clear hh0 hh6 hcb htg
            go_wp2_with fail
            refine HNX.out.mono ?_
            rintro e w2 ⟨A', ct, rfl, hyo, hb2⟩
            generalize rawT x.1 x.2 k = T at HST htl2 HTI hyo ⊢
            have HM2 := Lib.hid (HM.out.keep hb2)
            have HY := Lib.hid (show w2.ownsRow w.heap.size 2 1 (.slice A' T.length ct) T.length (T.map ic) ∧ (∀ tb, (Value.slice A' T.length ct).ownBlock = some tb → tb ≠ gW) ∧ (∀ tb, (Value.slice A' T.length ct).ownBlock = some tb → tb ≠ w.heap.size) from
              ⟨own_less hyo.2.1 HSW.out.size, fun tb e => by have h1 := (hyo.2.1.lt tb e).1; have h2 := (HM.out.work.lt gW rfl).2; omega, fun tb e => by have h1 := (hyo.2.1.lt tb e).1; have h2 := (HM.out.outs.lt w.heap.size rfl).2; omega⟩)
            have hii1 : ii + 1 ≤ wk.length := hlt
            rw [hnx.out]
            clear hyo hb2 HNX HPT p2 p3 a0 a1 c0 wc0 r0 r1 hfa hfb hw1 hw2 hpb hqb
            go_wp2_with fail
            go_loopw [7, 14] (fun v i wr2 => ∃ (i2 gV cV : Nat) (out2 wk2 : List Int), v = .slice (some ⟨gV, 0, none⟩) wk2.length cV ∧ i = .int .i64 i2 ∧ i2 ≤ T.length ∧ ii + 1 ≤ wk2.length ∧ Hid (SrchU xs ps T out2 (wk2.drop (ii + 1)) k h i2) ∧ Hid (HgoW w w.heap.size j gV cV j out2 wk2 wr2) ∧ Hid (wr2.ownsRow w.heap.size 2 1 (.slice A' T.length ct) T.length (T.map ic) ∧ (∀ tb, (Value.slice A' T.length ct).ownBlock = some tb → tb ≠ gV) ∧ (∀ tb, (Value.slice A' T.length ct).ownBlock = some tb → tb ≠ w.heap.size))) (fun _ i _ => (T.length - intOf i).toNat)
            case atStart => exact ⟨0, gW, cW, out, wk, rfl, rfl, Nat.zero_le _, hii1, HST, HM2, HY⟩
            case round =>
              clear HST HM2 HY HM HSW HS0 HH
              rename World => wr2
              obtain ⟨i2, gV, cV, out2, wk2, rfl, rfl, hi2, hii2, HS2, HM2, HY2⟩ := hrel
              have hwl2 : wk2.length ≤ j := by have := HM2.out.size; omega
              by_cases hl2 : i2 < T.length
              · have i5 : (i2 : Int) < (T.length : Int) := by omega
                obtain ⟨yb, yoff, t, hAe, hyb, hyt, hyc⟩ := (OwnL.of_own HY2.out.1).all.2.int_at (k := i2) hl2
                subst hAe
                have htb := HTI.out t (List.mem_of_getElem? hyt)
                have HTT := Lib.hid hyt
                clear hyt hyb
                by_cases hl : t < (xs.length : Int)
                · obtain ⟨tn, rfl⟩ : ∃ tn : Nat, t = (tn : Int) := ⟨t.toNat, by omega⟩
                  have htn : tn < j := by have := HXN.out; omega
                  have i6 : (tn : Int) < (j : Int) := by omega
                  have hin : (decide ((0 : Int) ≤ (tn : Int)) && decide ((tn : Int) ≤ (j : Int) - 1)) = true := by simp; omega
                  obtain ⟨a, ha⟩ : ∃ a, out2[tn]? = some a := ⟨_, List.getElem?_eq_getElem (by rw [HS2.out.len]; omega)⟩
                  have hac : wr2.cell? ⟨w.heap.size, tn, none⟩ = some (.int .i64 a) := by rw [HM2.out.outs.cellAt tn (by omega), List.getElem?_map, ha]; rfl
                  have HA : Hid (out2[((tn : Nat) : Int).toNat]? = some a) := by rw [Int.toNat_natCast]; exact ha
                  have HIN := l00In_i (tn : Int) 0 ((j : Int) - 1) wr2
                  rw [hin] at HIN
                  have HIN := Lib.hid HIN
                  clear ha hin
                  by_cases h0 : 0 ≤ a
                  · by_cases hne : a = nx
                    · subst hne
                      have e0 : (a != a) = false := by simp
                      have HS3 := Lib.hid (HS2.out.skip HTT.out hl (by rw [HA.out, HG2.out]))
                      have i8 : ¬ a < 0 := by omega
                      go_wp2_with fail
                      refine HIN.out.mono ?_
                      rintro e w3 ⟨rfl, hw⟩
                      subst hw
                      go_wp2_with fail
                      go_roundw
                      case rel => exact ⟨i2 + 1, gV, cV, out2, wk2, rfl, by go_num, by omega, hii2, HS3, HM2, HY2⟩
                      case measure => simp [intOf]; omega
                    · have HBAD := Lib.hid (HS2.out.other HTT.out HA.out h0 (by rw [HG2.out]; exact hne))
                      have e0 : (a != nx) = true := bne_iff_ne.2 hne
                      go_wp2_with fail
                      refine HIN.out.mono ?_
                      rintro e w3 ⟨rfl, hw⟩
                      subst hw
                      go_wp2_with fail
                      go_ret2
                      exact ⟨none, [], 0, false, rfl, (fun e => by cases e), (fun _ => ⟨HBAD.out, rfl⟩), (ownL_nil _).less HM2.out.below.size, HM2.out.below⟩
                  · have i8 : a < 0 := by omega
                    have i9 : ¬ 0 ≤ a := h0
                    have hf := HM2.out.outs.frozenAt tn
                    have HS3 := Lib.hid (HS2.out.put HTT.out htb.1 hl HA.out i8)
                    have hsz9 : (wr2.setCell ⟨w.heap.size, tn, none⟩ (.int .i64 nx)).heap.size = wr2.heap.size := by simp
                    have hy1 := ownsRow_setCell_other (a := ⟨w.heap.size, tn, none⟩) HY2.out.1 (fun e => HY2.out.2.2 _ e rfl) (.int .i64 nx)
                    obtain ⟨yb2, yoff2, t2, hAe, _, hyt2, hyc2⟩ := (OwnL.of_own hy1).all.2.int_at (k := i2) hl2
                    obtain ⟨rfl, rfl⟩ : yb = yb2 ∧ yoff = yoff2 := by injection hAe with e1; injection e1 with e2 e3; exact ⟨e2, e3⟩
                    rw [HTT.out] at hyt2
                    obtain rfl := Option.some.inj hyt2
                    have hbn := bnew (wr2.setCell ⟨w.heap.size, tn, none⟩ (.int .i64 nx)) (.cells #[.int .i64 (tn : Int)] 2)
                    have hk1 := ownsRow_setCell_other (a := ⟨w.heap.size, tn, none⟩) HM2.out.work (fun e => HM2.out.apart (Option.some.inj e)) (.int .i64 nx)
                    have hk2 := own_below hk1 hbn
                    have hnews := World.news_of_block (cs := #[.int .i64 (tn : Int)]) (blk_new (wr2.setCell ⟨w.heap.size, tn, none⟩ (.int .i64 nx)) 2 #[.int .i64 (tn : Int)] wr2.heap.size hsz9.symm)
                    have hszb := HM2.out.below.size
                    have HC := Lib.hid (And.intro hk2 (And.intro hnews (And.intro hbn hy1)))
                    clear hk1 hk2 hnews hbn hAe hyt2 hy1
                    go_wp2_with fail
                    refine HIN.out.mono ?_
                    rintro e w3 ⟨rfl, hw⟩
                    subst hw
                    go_wp2_with (at_builtin; (refine wpList_append_sep rfl _ _ 28 rfl w.heap.size 2 i0 (.int .i64 0) 1 8 Tryz.underlying28 hi hz0 hz1 hz2 rfl (by decide) _ _ _ rfl HC.out.1 ⟨wr2.heap.size, 0, none⟩ 1 1 [.int .i64 (tn : Int)] rfl rfl HC.out.2.1 (by simp [Value.oneCell']) (by unfold maxLen; omega) (by omega) (by simp; omega) (by omega) ?_); intro g3 c3 w3 hown3 hgrow3 hsep3)
                    have hown4 : w3.ownsRow w.heap.size 2 1 (.slice (some ⟨g3, 0, none⟩) (wk2 ++ [(tn : Int)]).length c3) (wk2 ++ [(tn : Int)]).length ((wk2 ++ [(tn : Int)]).map ic) := by
                      rw [List.length_append, List.length_singleton, List.map_append]; exact hown3
                    have hsep4 : g3 = gV ∨ ((wr2.setCell ⟨w.heap.size, tn, none⟩ (.int .i64 nx)).alloc (.cells #[.int .i64 (tn : Int)] 2)).heap.size ≤ g3 := hsep3.imp (fun e => Option.some.inj (show some g3 = some gV from e)) id
                    have HM3 := Lib.hid (HM2.out.put (by rw [← HA.out, Int.toNat_natCast]) i8 hnx0.1 hnx0.2 HC.out.2.2.1 hown4 hgrow3 hsep4)
                    have hy2 := (own_below HC.out.2.2.2 HC.out.2.2.1).kept hgrow3 (.inr (fun e => HY2.out.2.1 _ e rfl))
                    have hylt := (own_below HC.out.2.2.2 HC.out.2.2.1).lt
                    have HY3 := Lib.hid (And.intro hy2 (And.intro (fun tb (e : (Value.slice (some ⟨yb, yoff, none⟩) T.length ct).ownBlock = some tb) => show tb ≠ g3 from fun e' => by
                      rcases hsep4 with e2 | e2
                      · exact HY2.out.2.1 tb e (e'.trans e2)
                      · have := (hylt _ e).2; omega) HY2.out.2.2))
                    have hdr2 : (wk2 ++ [(tn : Int)]).drop (ii + 1) = wk2.drop (ii + 1) ++ [(tn : Int)] := List.drop_append_of_le_length hii2
                    have HDR := Lib.hid hdr2
                    clear hown3 hown4 hgrow3 hsep3 hsep4 hy2 hylt hdr2
                    go_roundw
                    case rel => exact ⟨i2 + 1, g3, c3, out2.set tn nx, wk2 ++ [(tn : Int)], (by rw [List.length_append]; rfl), by go_num, by omega, (by rw [List.length_append]; omega), (by rw [HDR.out]; have := HS3.out; rw [HG2.out, Int.toNat_natCast] at this; exact this), HM3, HY3⟩
                    case measure => simp [intOf]; omega
                · have HBAD := Lib.hid (HS2.out.far HTT.out hl)
                  have hin : (decide ((0 : Int) ≤ t) && decide (t ≤ (j : Int) - 1)) = false := by have := HXN.out; simp; omega
                  have HIN := l00In_i t 0 ((j : Int) - 1) wr2
                  rw [hin] at HIN
                  have HIN := Lib.hid HIN
                  clear hin
                  go_wp2_with fail
                  refine HIN.out.mono ?_
                  rintro e w3 ⟨rfl, hw⟩
                  subst hw
                  go_wp2_with fail
                  go_ret2
                  exact ⟨none, [], 0, false, rfl, (fun e => by cases e), (fun _ => ⟨HBAD.out, rfl⟩), (ownL_nil _).less HM2.out.below.size, HM2.out.below⟩
              · have i5 : ¬ (i2 : Int) < (T.length : Int) := by omega
                have HS4 := Lib.hid (HS2.out.all (by omega))
                go_wp2_with fail
                go_roundw
                case rel => exact ⟨ii + 1, gV, cV, out2, wk2, rfl, by go_num, hii2, HS4, HM2⟩
                case measure => simp [intOf]; omega
        · obtain rfl : ii = wk.length := by omega
          have i3 : ¬ (wk.length : Int) < (wk.length : Int) := by omega
          have hs := HS.out
          rw [List.drop_length] at hs
          have HL := Lib.hid hs.least
          have hol : out.length = j := by rw [hs.s.len]; exact HXN.out
          have HO := Lib.hid (show wr.ownsRow w.heap.size 2 1 (.slice (some ⟨w.heap.size, 0, none⟩) out.length j) out.length (out.map ic) by rw [hol]; exact HM.out.outs)
          have HOL := Lib.hid hol
          clear hs hol
          go_wp2_with fail
          go_ret2
          exact ⟨some ⟨w.heap.size, 0, none⟩, out, j, .inr ⟨congrArg (fun q => Ending.returned (.tuple #[.slice (some ⟨w.heap.size, 0, none⟩) q j, .bool true])) HOL.out.symm, HL.out, OwnL.of_own HO.out, HM.out.below⟩⟩
end Go.Proofs.YtffkdidgfeknkaaGreatDoor
