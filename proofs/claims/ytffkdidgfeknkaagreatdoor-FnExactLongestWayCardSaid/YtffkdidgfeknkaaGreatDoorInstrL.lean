/-
  What the law does with lists of instructions: it counts, copies, compares them, writes numbers that rise, and looks for them. Conditions: at most 2^20 instructions.
-/
import Derived.Test.YtffkdidgfeknkaaGreatDoorInstr
namespace Go.Proofs.YtffkdidgfeknkaaGreatDoor
set_option linter.unusedVariables false
open Go.RowKit

theorem infoInstr : (Tryz.prog.info? 92).map (fun i => (i.zero, i.size, i.bytes)) = some (some (.agg #[.int .i64 0, .int .i64 0]), 2, 16) := by kernel_rfl

set_option maxRecDepth 100000 in
theorem szInstrS_k (A : Option Addr) (n c : Nat) (left : Int) (w : World) (hl0 : 0 ≤ left) (hl1 : left ≤ 1048576) (hn : n ≤ maxLen) :
    Calls Tryz.prog 20 #[.slice A n c, .int .i64 left] w fun e w' => e = .returned (.int .i64 (szv left n)) ∧ Below w.heap.size w w' := by
  unfold maxLen at hn
  rcases Int.lt_or_le left n with h | h
  · have HV := Lib.hid (szv_no h)
    have h1 : left - (n : Int) < 0 := by omega
    clear h
    go_enter Tryz.func20, Tryz.ntmps20
    go_wp2
    go_ret
    exact ⟨ret_int HV.out.symm, Below.refl _ _⟩
  · have HV := Lib.hid (szv_yes h)
    have h1 : 0 ≤ left - (n : Int) := by omega
    clear h
    go_enter Tryz.func20, Tryz.ntmps20
    go_wp2
    go_ret
    exact ⟨ret_int HV.out.symm, Below.refl _ _⟩

/-- The first k pairs lie in a row. -/
def LaidC (ys : List Value) (k : Nat) (xs : List (Int × Int)) : Prop := ∀ j x, j < k → xs[j]? = some x → ys[j * 2]? = some (.int .i64 x.1) ∧ ys[j * 2 + 1]? = some (.int .i64 x.2)
theorem laidC_step {ys : List Value} {k n : Nat} {xs : List (Int × Int)} {x : Int × Int} (h : LaidC ys k xs) (hl : ys.length = n * 2) (hk : k < n) (hx : xs[k]? = some x) : LaidC ((ys.set (k * 2) (.int .i64 x.1)).set (k * 2 + 1) (.int .i64 x.2)) (k + 1) xs := by
  intro j y hj hy
  by_cases e : j = k
  · subst e
    obtain rfl : x = y := by rw [hx] at hy; exact Option.some.inj hy
    exact ⟨by rw [List.getElem?_set_ne (by omega), List.getElem?_set_self (by omega)], by rw [List.getElem?_set_self (by rw [List.length_set]; omega)]⟩
  · obtain ⟨h1, h2⟩ := h j y (by omega) hy
    exact ⟨by rw [List.getElem?_set_ne (by omega), List.getElem?_set_ne (by omega), h1], by rw [List.getElem?_set_ne (by omega), List.getElem?_set_ne (by omega), h2]⟩
theorem laidC_end {ys : List Value} {n : Nat} {xs : List (Int × Int)} (h : LaidC ys n xs) (hl : ys.length = n * 2) (hn : xs.length = n) : ys = flatC xs := by
  apply List.ext_getElem?
  intro j
  rcases Nat.lt_or_ge j (n * 2) with hj | hj
  · have hi : j / 2 < xs.length := by omega
    have hx : xs[j / 2]? = some xs[j / 2] := List.getElem?_eq_getElem hi
    obtain ⟨h1, h2⟩ := h (j / 2) _ (by omega) hx
    obtain ⟨f1, f2⟩ := flatC_at hx
    rcases Nat.mod_two_eq_zero_or_one j with e | e
    · rw [show j / 2 * 2 = j by omega] at h1 f1
      rw [h1, f1]
    · rw [show j / 2 * 2 + 1 = j by omega] at h2 f2
      rw [h2, f2]
  · rw [List.getElem?_eq_none (by omega), List.getElem?_eq_none (by rw [flatC_len]; omega)]

set_option maxRecDepth 100000 in
set_option maxHeartbeats 1000000 in
theorem toInstr_c (p q : Int) (w : World) :
    Calls Tryz.prog 55 #[.agg #[.int .i64 p, .int .i64 q]] w fun e w' => e = .returned (.agg #[.int .i64 p, .int .i64 q]) ∧ Below w.heap.size w w' := by
  go_enter Tryz.func55, Tryz.ntmps55
  go_wp2_with fail
  exact bodyPost_ret (v := .agg #[.int .i64 p, .int .i64 q]) (by simp [results, Tryz.results55, go_sem]) rfl ⟨rfl, bon (bon (bnew _ _) (bnew _ _)) (bnew _ _)⟩

set_option maxRecDepth 100000 in
set_option maxHeartbeats 2000000 in
theorem toInstrS_k (A : Option Addr) (n c B : Nat) (xs : List (Int × Int)) (w : World) (h : InC w B A n xs) (hB : B ≤ w.heap.size) (hn : n ≤ 1048576) :
    Calls Tryz.prog 25 #[.slice A n c] w fun e w' => ∃ g, e = .returned (.slice (some ⟨g, 0, none⟩) n n) ∧ OwnC w' w.heap.size w'.heap.size (some ⟨g, 0, none⟩) n n xs ∧ Below w.heap.size w w' := by
  obtain ⟨i0, hi, hz0, hz1, hz2⟩ := info_parts infoInstr
  have hlen := Lib.hid h.1
  go_enter Tryz.func25, Tryz.ntmps25
  go_wp2_with (at_make; refine wpList_make_full _ rfl _ _ 32 rfl w.heap.size 92 i0 (.agg #[.int .i64 0, .int .i64 0]) 2 Tryz.underlying32 hi hz0 hz1 .i64 .i64 _ _ n rfl rfl rfl rfl (by rw [hz2]; omega) (by unfold maxLen; omega) (Nat.le_refl _) ?_; intro w1 hown hgrow)
  have hb1 := (Below.refl w.heap.size w).grown hgrow (Nat.le_refl _) (fun _ h => by cases h)
  have hlt0 : w.heap.size < w1.heap.size := (hown.lt w.heap.size rfl).2
  have hl0 : ∃ ys, w1.ownsRow w.heap.size 92 2 (.slice (some ⟨w.heap.size, 0, none⟩) n n) n ys ∧ LaidC ys 0 xs := ⟨_, hown, fun j x hj => by omega⟩
  clear hgrow hown
  go_loopw [4] (fun i wr => ∃ k : Nat, k ≤ n ∧ i = .int .i64 k ∧ (∃ ys, wr.ownsRow w.heap.size 92 2 (.slice (some ⟨w.heap.size, 0, none⟩) n n) n ys ∧ LaidC ys k xs) ∧ w.heap.size < wr.heap.size ∧ Below w.heap.size w wr) (fun i _ => n - (intOf i).toNat)
  case atStart => exact ⟨0, Nat.zero_le _, rfl, hl0, hlt0, hb1⟩
  case round =>
    clear hl0 hlt0 hb1
    obtain ⟨k, hk, rfl, ⟨ys, hox, hl⟩, hlt0, hbel⟩ := hrel
    by_cases hlt : k < n
    · obtain ⟨b, off, t, rfl, hb, ht, q0, q1⟩ := (h.next hbel hB).at_ hlt
      have HI := Lib.hid (toInstr_c t.1 t.2 wr)
      have HT := Lib.hid ht
      have hxl : ys.length = n * 2 := hox.1
      clear ht
      go_wp2_with fail
      refine HI.out.mono ?_
      rintro e w2 ⟨rfl, hb2⟩
      have hs2 := hb2.size
      have hox2 := own_below hox hb2
      have c0 := hox2.cellAt (k * 2) (by omega)
      have c1 := hox2.cellAt (k * 2 + 1) (by omega)
      rw [List.getElem?_eq_getElem (by omega)] at c0 c1
      have f0 := hox2.frozenAt (k * 2)
      have f1 := hox2.frozenAt (k * 2 + 1)
      have hst := Lib.hid (((hox2.stored (k * 2) (.int .i64 t.1)).1.stored (k * 2 + 1) (.int .i64 t.2)).1)
      have HL := Lib.hid (laidC_step hl hxl hlt HT.out)
      have hb3 := ((hbel.trans (hb2.mono (by omega))).setCell (p := ⟨w.heap.size, k * 2, none⟩) (Nat.le_refl _) (.int .i64 t.1)).setCell (p := ⟨w.heap.size, k * 2 + 1, none⟩) (Nat.le_refl _) (.int .i64 t.2)
      clear hox hox2 hl q0 q1
      go_wp2_with fail
      go_roundw
      case rel => exact ⟨k + 1, by omega, by go_num, ⟨_, hst.out, HL.out⟩, by simp; omega, hb3⟩
      case measure => simp [intOf]; omega
    · have e : k = n := by omega
      subst e
      have hxl : ys.length = k * 2 := hox.1
      have HE := laidC_end hl hxl hlen.out
      subst HE
      have HO := Lib.hid hox
      clear hox hl hxl
      go_wp2_with fail
      go_ret
      exact ⟨_, rfl, OwnC.of_own HO.out hlen.out, hbel⟩

set_option maxRecDepth 100000 in
set_option maxHeartbeats 1000000 in
theorem eqInstr_c (p q p' q' : Int) (w : World) :
    Calls Tryz.prog 67 #[.agg #[.int .i64 p, .int .i64 q], .agg #[.int .i64 p', .int .i64 q']] w fun e w' => e = .returned (.bool (decide ((p, q) = (p', q')))) ∧ Below w.heap.size w w' := by
  have hb0 : Below w.heap.size w ((w.alloc (.cells #[.int .i64 p, .int .i64 q] 92)).alloc (.cells #[.int .i64 p', .int .i64 q'] 92)) := bon (bnew _ _) (bnew _ _)
  by_cases h1 : p = p'
  · subst h1
    by_cases h2 : q = q'
    · subst h2
      rw [decide_eq_true rfl]
      go_enter Tryz.func67, Tryz.ntmps67
      go_wp2_with fail
      go_ret
      exact ⟨rfl, hb0⟩
    · rw [decide_eq_false (fun e => h2 (by injection e))]
      have e2 : (q == q') = false := by simpa using h2
      go_enter Tryz.func67, Tryz.ntmps67
      go_wp2_with fail
      go_ret
      exact ⟨rfl, hb0⟩
  · rw [decide_eq_false (fun e => h1 (by injection e))]
    have e2 : (p == p') = false := by simpa using h1
    go_enter Tryz.func67, Tryz.ntmps67
    go_wp2_with fail
    go_ret
    exact ⟨rfl, hb0⟩
set_option maxRecDepth 100000 in
set_option maxHeartbeats 4000000 in
theorem eqInstrS_k (A A' : Option Addr) (n c c' B B' : Nat) (xs : List (Int × Int)) (w : World) (h0 : InC w B A n xs) (h0' : InC w B' A' n xs) (hB : B ≤ w.heap.size) (hB' : B' ≤ w.heap.size) (hn : n ≤ 1048576) :
    Calls Tryz.prog 30 #[.slice A n c, .slice A' n c'] w fun e w' => e = .returned (.bool true) ∧ Below w.heap.size w w' := by
  have h : InC w w.heap.size A n xs := h0.more hB
  have h' : InC w w.heap.size A' n xs := h0'.more hB'
  clear h0 h0'
  go_enter Tryz.func30, Tryz.ntmps30
  go_wp2_with fail
  go_loopw [5] (fun i wr => ∃ k : Nat, k ≤ n ∧ i = .int .i64 k ∧ Below w.heap.size w wr) (fun i _ => n - (intOf i).toNat)
  case atStart => exact ⟨0, Nat.zero_le _, rfl, Below.refl _ _⟩
  case round =>
    obtain ⟨k, hk, rfl, hbel⟩ := hrel
    have hsz := hbel.size
    by_cases hlt : k < n
    · obtain ⟨b, off, x, rfl, hb, ht, q0, q1⟩ := (h.next hbel (Nat.le_refl _)).at_ hlt
      obtain ⟨b', off', x', rfl, hb', ht', p0, p1⟩ := (h'.next hbel (Nat.le_refl _)).at_ hlt
      obtain rfl : x = x' := by rw [ht] at ht'; exact Option.some.inj ht'
      have HE0 := eqInstr_c x.1 x.2 x.1 x.2 wr.drew
      rw [decide_eq_true rfl] at HE0
      have HE := Lib.hid HE0
      have i1 : (k : Int) < (n : Int) := by omega
      clear ht ht' HE0
      go_wp2_with fail
      go_region_held3 (fun w' => w'.cell? ⟨b, off + k * 2, none⟩ = some (.int .i64 x.1) ∧ w'.cell? ⟨b, off + k * 2 + 1, none⟩ = some (.int .i64 x.2) ∧ w'.cell? ⟨b', off' + k * 2, none⟩ = some (.int .i64 x.1) ∧ w'.cell? ⟨b', off' + k * 2 + 1, none⟩ = some (.int .i64 x.2))
        (first | go_keep | exact ⟨cell_on q0 hb9, cell_on q1 hb9, cell_on p0 hb9, cell_on p1 hb9⟩)
        (first | (go_at_call 67; refine HE.out.mono ?_; rintro e w9 ⟨rfl, hb9⟩))
      go_wp2_with fail
      go_roundw
      case rel => exact ⟨k + 1, by omega, by go_num, hbel.trans ((bstep hb9).mono hsz)⟩
      case measure => simp [intOf]; omega
    · go_wp2_with fail
      go_ret
      exact ⟨rfl, hbel⟩

/-- Pairs of numbers that rise. -/
def riseC (k : Int) (n : Nat) : List (Int × Int) := (List.range n).map fun i => (k + 2 * (i : Nat), k + 2 * (i : Nat) + 1)
theorem riseC_len (k : Int) (n : Nat) : (riseC k n).length = n := by simp [riseC]
theorem riseC_at {k : Int} {n i : Nat} (h : i < n) : (riseC k n)[i]? = some (k + 2 * (i : Nat), k + 2 * (i : Nat) + 1) := by simp [riseC, h]
def mixC (k : Int) (i : Nat) (xs : List (Int × Int)) : List (Int × Int) := riseC k i ++ xs.drop i
theorem mixC_zero (k : Int) (xs : List (Int × Int)) : mixC k 0 xs = xs := by simp [mixC, riseC]
theorem mixC_end {k : Int} {n : Nat} {xs : List (Int × Int)} (h : xs.length = n) : mixC k n xs = riseC k n := by subst h; simp [mixC]
theorem mixC_len {k : Int} {i : Nat} {xs : List (Int × Int)} (h : i ≤ xs.length) : (mixC k i xs).length = xs.length := by simp [mixC, riseC_len]; omega
theorem mixC_at {k : Int} {i : Nat} {xs : List (Int × Int)} {x : Int × Int} (h : xs[i]? = some x) : (mixC k i xs)[i]? = some x := by
  unfold mixC
  rw [List.getElem?_append_right (by rw [riseC_len]; omega), riseC_len, Nat.sub_self, List.getElem?_drop, Nat.add_zero, h]
theorem mixC_succ {k : Int} {i : Nat} {xs : List (Int × Int)} (h : i < xs.length) : (mixC k i xs).set i (k + 2 * (i : Nat), k + 2 * (i : Nat) + 1) = mixC k (i + 1) xs := by
  unfold mixC
  rw [List.set_append_right _ _ (by rw [riseC_len]; omega), riseC_len, Nat.sub_self, List.drop_eq_getElem_cons h, List.set_cons_zero]
  simp [riseC, List.range_succ]

set_option maxRecDepth 100000 in
set_option maxHeartbeats 2000000 in
theorem markInstrS_k (lo hi : Nat) (A : Option Addr) (n c : Nat) (xs : List (Int × Int)) (k : Int) (w : World) (h : OwnC w lo hi A n c xs) (hn : n ≤ 100000000) (hk1 : 0 ≤ k) (hk2 : k ≤ 1000000000) :
    Calls Tryz.prog 33 #[.slice A n c, .int .i64 k] w fun e w' => e = .returned (.int .i64 (k + 2 * (n : Int))) ∧ OwnC w' lo hi A n c (riseC k n) ∧ Out lo hi w w' := by
  have hlen := Lib.hid h.1
  have HR0 : Hid (OwnC w lo hi A n c (mixC k 0 xs)) := by show OwnC w lo hi A n c (mixC k 0 xs); rw [mixC_zero]; exact h
  clear h
  go_enter Tryz.func33, Tryz.ntmps33
  go_wp2_with fail
  go_loopw [1, 5] (fun kv i wr => ∃ j : Nat, j ≤ n ∧ i = .int .i64 j ∧ kv = .int .i64 (k + 2 * (j : Nat)) ∧ Hid (OwnC wr lo hi A n c (mixC k j xs)) ∧ Out lo hi w wr) (fun _ i _ => n - (intOf i).toNat)
  case atStart => exact ⟨0, Nat.zero_le _, rfl, by simp, HR0, Out.refl _ _ _⟩
  case round =>
    clear HR0
    obtain ⟨j, hj, rfl, rfl, hR, hout⟩ := hrel
    by_cases hlt : j < n
    · obtain ⟨h1, h2, h3, h4⟩ := hR.out
      obtain ⟨t, ht⟩ : ∃ t, xs[j]? = some t := ⟨_, List.getElem?_eq_getElem (by have := hlen.out; omega)⟩
      obtain ⟨q0, q1⟩ := flatC_at (mixC_at (k := k) ht)
      obtain ⟨g, rfl⟩ : ∃ g, A = some ⟨g, 0, none⟩ := by
        rcases h2.2 with h' | ⟨g, cap, cur, k1, _⟩
        · have := h'.2; omega
        · injection k1 with k1; exact ⟨g, k1⟩
      have hg1 := h3 g rfl
      have hlg := (h2.lt g rfl).1
      have c0 := h2.cellAt (j * 2) (by omega)
      have c1 := h2.cellAt (j * 2 + 1) (by omega)
      rw [q0] at c0
      rw [q1] at c1
      have f0 := h2.frozenAt (j * 2)
      have f1 := h2.frozenAt (j * 2 + 1)
      obtain ⟨K, hK⟩ : ∃ K : Int, K = k + 2 * ((j : Nat) : Int) := ⟨_, rfl⟩
      have hst0 := ((h2.stored (j * 2) (.int .i64 K)).1.stored (j * 2 + 1) (.int .i64 (K + 1))).1
      rw [show flatC (mixC k j xs) = flatC (mixC k j xs) from rfl, flatC_set (K, K + 1) (by rw [mixC_len (by have := hlen.out; omega)]; have := hlen.out; omega), hK, mixC_succ (by have := hlen.out; omega), ← hK] at hst0
      have hout2 : Out lo hi w ((wr.setCell ⟨g, j * 2, none⟩ (.int .i64 K)).setCell ⟨g, j * 2 + 1, none⟩ (.int .i64 (K + 1))) := out_set (out_set hout (by omega)) (by omega)
      have HN : Hid (OwnC ((wr.setCell ⟨g, j * 2, none⟩ (.int .i64 K)).setCell ⟨g, j * 2 + 1, none⟩ (.int .i64 (K + 1))) lo hi (some ⟨g, 0, none⟩) n c (mixC k (j + 1) xs)) := ⟨by rw [mixC_len (by have := hlen.out; omega)]; exact hlen.out, hst0, h3, by simpa using h4⟩
      have hK1 : 0 ≤ K := by omega
      have hK2 : K ≤ 2000000000 := by omega
      have HK : Hid (K + 1 + 1 = k + 2 * (((j + 1 : Nat) : Nat) : Int)) := by show _ = _; omega
      rw [← hK]
      clear hK hst0 h1 h2 h3 h4 hR ht q0 q1
      go_wp2_with fail
      go_roundw
      case rel => exact ⟨j + 1, by omega, by go_num, by rw [HK.out], HN, hout2⟩
      case measure => simp [intOf]; omega
    · have e : j = n := by omega
      subst e
      have HF : Hid (OwnC wr lo hi A j c (riseC k j)) := by
        have := hR.out
        rw [mixC_end hlen.out] at this
        exact this
      clear hR
      go_wp2_with fail
      go_ret
      exact ⟨rfl, HF.out, hout⟩

end Go.Proofs.YtffkdidgfeknkaaGreatDoor
