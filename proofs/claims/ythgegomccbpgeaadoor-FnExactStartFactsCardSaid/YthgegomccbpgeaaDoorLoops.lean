/-
  The loops of a body: what the model's l04Loops and the program's LoopsOf give. Conditions: at most 2^20 elements, terms and coefficients; the table elementForms holds what the program's text lays.
-/
import Derived.Test.YthgegomccbpgeaaDoorPgmV
import Derived.Test.YthgegomccbpgeaaDoorAppend
import Derived.Deep.Cut
namespace Go.Proofs.YthgegomccbpgeaaDoor
set_option linter.unusedVariables false
open Go.RowKit

/-- The indices of the loops among the first j elements. -/
def loopsU (xs : List S8) (j : Nat) : List Int := ((List.range j).filter fun i => (xs[i]?.map S8.k) == some 8).map fun i => ((i : Nat) : Int)
theorem loopsU_yes {xs : List S8} {j : Nat} {x : S8} (hx : xs[j]? = some x) (hk : x.k = 8) : loopsU xs (j + 1) = loopsU xs j ++ [(j : Int)] := by
  unfold loopsU
  rw [List.range_succ, List.filter_append, List.map_append]
  simp [hx, hk]
theorem loopsU_no {xs : List S8} {j : Nat} {x : S8} (hx : xs[j]? = some x) (hk : ¬ x.k = 8) : loopsU xs (j + 1) = loopsU xs j := by
  unfold loopsU
  rw [List.range_succ, List.filter_append, List.map_append]
  simp [hx, hk]
theorem loopsU_len (xs : List S8) (j : Nat) : (loopsU xs j).length ≤ j := by
  unfold loopsU
  rw [List.length_map]
  exact Nat.le_trans (List.length_filter_le _ _) (by simp)
theorem loopsU_in {xs : List S8} {j : Nat} {z : Int} (h : z ∈ loopsU xs j) : ∃ i : Nat, z = i ∧ i < j ∧ ∃ x, xs[i]? = some x ∧ x.k = 8 := by
  unfold loopsU at h
  obtain ⟨i, hi, rfl⟩ := List.mem_map.1 h
  obtain ⟨h1, h2⟩ := List.mem_filter.1 hi
  refine ⟨i, rfl, by simpa using h1, ?_⟩
  cases hx : xs[i]? with
  | none => rw [hx] at h2; simp at h2
  | some x => rw [hx] at h2; exact ⟨x, rfl, by simpa using h2⟩
theorem loop_step {base : Nat} {v' : Value} {w1 : World} {zs : List Int} {x : Int} (h : w1.ownsRow base 2 1 v' (zs.length + 1) (zs.map ic ++ [Value.int .i64 x])) :
    w1.ownsRow base 2 1 v' (zs ++ [x]).length ((zs ++ [x]).map ic) := by
  simpa [ic] using h

set_option maxRecDepth 100000 in
set_option maxHeartbeats 2000000 in
theorem l04Loops_c (b : Nat) (D : Option Addr) (m d : Nat) (xs : List S8) (B : Nat) (w : World) (h : InST w B D m xs) (hB : B ≤ w.heap.size) (p1 : w.cell? ⟨b, 1, none⟩ = some (.slice D m d)) (hm : m ≤ 1048576) :
    Calls Tryd.prog 34 #[.pointer (some ⟨b, 0, none⟩)] w fun e w' => ∃ v, e = .returned v ∧ w'.ownsRow w.heap.size 2 1 v (loopsU xs m).length ((loopsU xs m).map ic) ∧ Below w.heap.size w w' := by
  obtain ⟨i0, hi, hz0, hz1, hz2⟩ := info_parts info64
  have hlen := Lib.hid h.1
  go_enter Tryd.func34, Tryd.ntmps34
  go_wp2
  go_loopw [3, 4] (fun v i wr => ∃ k : Nat, k ≤ m ∧ i = .int .i64 k ∧ wr.ownsRow w.heap.size 2 1 v (loopsU xs k).length ((loopsU xs k).map ic) ∧ Below w.heap.size w wr) (fun _ i _ => m - (intOf i).toNat)
  case atStart => exact ⟨0, Nat.zero_le _, rfl, World.ownsRow_made w #[] 0 (Nat.le_refl _) (by decide) rfl, (Below.refl _ _).alloc (Nat.le_refl _) _⟩
  case round =>
    obtain ⟨k, hk, rfl, hown, hbel⟩ := hrel
    have hsz := hbel.size
    have P1 := cell_next p1 hbel
    by_cases hlt : k < m
    · obtain ⟨bb, off, x, rfl, hbb, hx, As, ns, cs, Ai, ni, ci, Af, nf, cf, q0, q1, q2, q3, q4, q5, q6, q7, k1, k2, k3⟩ := (h.next hbel hB).at_ hlt
      have hul := loopsU_len xs k
      clear k1 k2 k3 q1 q2 q3 q4 q5 q6 q7
      by_cases h8 : x.k = 8
      · have r1 : (x.k == 8) = true := by simpa using h8
        have HS := Lib.hid (loopsU_yes hx h8)
        generalize loopsU xs k = zs at hown hul HS
        clear hx h8
        go_wp2_with (at_builtin; refine wpList_append_own _ rfl _ _ 47 rfl w.heap.size 2 i0 (.int .i64 0) 1 8 Tryd.underlying47 hi hz0 hz1 hz2 rfl (by decide) _ _ _ rfl (hown.alloc _) ⟨wr.heap.size, 0, none⟩ 1 1 [.int .i64 k] rfl rfl ?c1 ?c2 ?c3 ?c4 ?c5 ?_)
        case c1 =>
          intro j u hj
          match j, hj with
          | 0, hj => simp at hj; subst hj; simp [Addr.add]
        case c2 => intro u hu; simp at hu; subst hu; rfl
        case c3 => unfold maxLen; omega
        case c4 => omega
        case c5 => simp; omega
        intro v1 w1 hown1 hgrow _
        have hown2 := loop_step hown1
        have hbel1 : Below w.heap.size w w1 := (hbel.alloc hsz _).grown hgrow (by simp; omega) (fun j hj => (hown.lt j hj).1)
        rw [← HS.out] at hown2
        clear hown hown1 hgrow hbel
        go_wp2_with fail
        go_roundw
        case rel => exact ⟨k + 1, by omega, by go_num, hown2, hbel1⟩
        case measure => simp [intOf]; omega
      · have r1 : (x.k == 8) = false := by simpa using h8
        have HS := Lib.hid (loopsU_no hx h8)
        clear hx h8
        go_wp2_with fail
        go_roundw
        case rel => exact ⟨k + 1, by omega, by go_num, by rw [HS.out]; exact hown, hbel⟩
        case measure => simp [intOf]; omega
    · have e : k = m := by omega
      subst e
      go_wp2_with fail
      go_ret
      exact ⟨_, rfl, hown, hbel⟩

/-- The loops of a program, and whether it is valid. -/
def loopsR (ts : List (Int × List Int)) (xs : List S8) (us : List (Int × List Int)) : List Int × Bool := if progB ts xs us = true then (loopsU xs xs.length, true) else ([], false)
theorem loopsR_yes {ts us : List (Int × List Int)} {xs : List S8} (h : progB ts xs us = true) : loopsR ts xs us = (loopsU xs xs.length, true) := if_pos h
theorem loopsR_no {ts us : List (Int × List Int)} {xs : List S8} (h : progB ts xs us = false) : loopsR ts xs us = ([], false) := if_neg (by rw [h]; simp)

set_option maxRecDepth 100000 in
set_option maxHeartbeats 4000000 in
theorem loopsOf_c (A : Option Addr) (n c : Nat) (ts : List (Int × List Int)) (D : Option Addr) (m d : Nat) (xs : List S8) (E : Option Addr) (q e' B : Nat) (us : List (Int × List Int)) (w : World) (hT : TabE w) (h : PIn w B A n ts D m xs E q us) (hB : B ≤ w.heap.size)
    (hn : progN n ts m xs q us ≤ 1048576) :
    Calls Tryd.prog 20 #[.agg #[.slice A n c, .slice D m d, .slice E q e']] w fun e w' => ∃ v, e = .returned (.tuple #[v, .bool (loopsR ts xs us).2]) ∧ w'.ownsRow w.heap.size 2 1 v (loopsR ts xs us).1.length ((loopsR ts xs us).1.map ic) ∧ Below w.heap.size w w' := by
  obtain ⟨i0, hi, hz0, hz1, hz2⟩ := info_parts info64
  have hb0 := bnew w (.cells #[.slice A n c, .slice D m d, .slice E q e'] 32)
  have hP : BlkIs (w.alloc (.cells #[.slice A n c, .slice D m d, .slice E q e'] 32)) w.heap.size 32 #[.slice A n c, .slice D m d, .slice E q e'] := blk_new _ _ _ _ rfl
  have HN := Lib.hid (h.next hb0 hB)
  have C0 := validProg_c A n c ts D m d xs E q e' B us _ (hT.next hb0) HN.out (Nat.le_trans hB hb0.size) hn
  have hmle : m ≤ 1048576 := by unfold progN at hn; omega
  clear h hn
  obtain ⟨R, HR⟩ : ∃ R, Hid (loopsR ts xs us = R) := ⟨_, rfl⟩
  rw [HR.out]
  cases hp : progB ts xs us with
  | false =>
    have HE : Hid (R = ([], false)) := HR.out.symm.trans (loopsR_no hp)
    rw [hp] at C0
    have HC := Lib.hid C0
    obtain rfl := HE.out
    clear C0 hp HR HE
    go_enter Tryd.func20, Tryd.ntmps20
    go_wp2_with fail
    generalize w.alloc (.cells #[.slice A n c, .slice D m d, .slice E q e'] 32) = W at hb0 hP HN HC ⊢
    refine HC.out.mono ?_
    rintro e w1 ⟨rfl, hb1⟩
    go_wp2_with fail
    go_ret2
    exact ⟨_, rfl, World.ownsRow_nil _ _ _ _, bon hb0 hb1⟩
  | true =>
    have hlen := HN.out.2.1.1
    have HE : Hid (R = (loopsU xs m, true)) := HR.out.symm.trans (by rw [loopsR_yes hp, hlen])
    rw [hp] at C0
    have HC := Lib.hid C0
    obtain rfl := HE.out
    clear C0 hp HR HE hlen
    go_enter Tryd.func20, Tryd.ntmps20
    go_wp2_with fail
    generalize w.alloc (.cells #[.slice A n c, .slice D m d, .slice E q e'] 32) = W at hb0 hP HN HC ⊢
    have hs0 := hb0.size
    refine HC.out.mono ?_
    rintro e w1 ⟨rfl, hb1⟩
    have hs1 := hb1.size
    have hP1 := hP.next hb1
    have a1 : w1.cell? ⟨w.heap.size, 1, none⟩ = some (.slice D m d) := hP1.cell 1
    have H1 := Lib.hid (HN.out.2.1.next hb1 (by omega))
    have hb01 := bon hb0 hb1
    clear HC HN hP
    go_wp2_with fail
    go_loopw [4, 5, 6, 13] (fun v _ _ i wr => ∃ k : Nat, k ≤ m ∧ i = .int .i64 k ∧ wr.ownsRow w1.heap.size 2 1 v (loopsU xs k).length ((loopsU xs k).map ic) ∧ Below w1.heap.size w1 wr) (fun _ _ _ i _ => m - (intOf i).toNat)
    case atStart => exact ⟨0, Nat.zero_le _, rfl, World.ownsRow_nil _ _ _ _, Below.refl _ _⟩
    case round =>
      obtain ⟨k, hk, rfl, hown, hbel⟩ := hrel
      have hsz := hbel.size
      by_cases hlt : k < m
      · obtain ⟨bb, off, x, rfl, hbb, hx, As, ns, cs, Ai, ni, ci, Af, nf, cf, q0, q1, q2, q3, q4, q5, q6, q7, k1, k2, k3⟩ := (H1.out.next hbel (by omega)).at_ hlt
        have hul := loopsU_len xs k
        have hb2 := bnew wr (.cells #[.int .i64 x.k, .int .i64 x.v, .int .i64 x.e, .int .i64 x.s.1, .slice As ns cs, .int .i64 x.i.1, .slice Ai ni ci, .slice Af nf cf] 56)
        have hown2 := hown.alloc (.cells #[.int .i64 x.k, .int .i64 x.v, .int .i64 x.e, .int .i64 x.s.1, .slice As ns cs, .int .i64 x.i.1, .slice Ai ni ci, .slice Af nf cf] 56)
        clear k1 k2 k3
        by_cases h8 : x.k = 8
        · have r1 : (x.k == 8) = true := by simpa using h8
          have HS := Lib.hid (loopsU_yes hx h8)
          generalize loopsU xs k = zs at hown hown2 hul HS
          clear hx h8
          go_upto_region 8 with fail
          generalize wr.alloc (.cells #[.int .i64 x.k, .int .i64 x.v, .int .i64 x.e, .int .i64 x.s.1, .slice As ns cs, .int .i64 x.i.1, .slice Ai ni ci, .slice Af nf cf] 56) = W2 at hb2 hown2 ⊢
          have hs2 := hb2.size
          have hbel2 := bon hbel hb2
          clear hown hbel q0 q1 q2 q3 q4 q5 q6 q7
          go_wp2_with (at_builtin; refine wpList_append_own _ rfl _ _ 47 rfl w1.heap.size 2 i0 (.int .i64 0) 1 8 Tryd.underlying47 hi hz0 hz1 hz2 rfl (by decide) _ _ _ rfl (hown2.alloc _) ⟨W2.heap.size, 0, none⟩ 1 1 [.int .i64 k] rfl rfl ?c1 ?c2 ?c3 ?c4 ?c5 ?_)
          case c1 =>
            intro j u hj
            match j, hj with
            | 0, hj => simp at hj; subst hj; simp [Addr.add]
          case c2 => intro u hu; simp at hu; subst hu; rfl
          case c3 => unfold maxLen; omega
          case c4 => omega
          case c5 => simp; omega
          intro v1 w3 hown3 hgrow _
          have hown4 := loop_step hown3
          have hbel3 : Below w1.heap.size w1 w3 := (hbel2.alloc (by omega) _).grown hgrow (by simp; omega) (fun j hj => (hown2.lt j hj).1)
          rw [← HS.out] at hown4
          clear hown2 hown3 hgrow hbel2
          go_wp2_with fail
          go_roundw
          case rel => exact ⟨k + 1, by omega, by go_num, hown4, hbel3⟩
          case measure => simp [intOf]; omega
        · have r1 : (x.k == 8) = false := by simpa using h8
          have HS := Lib.hid (loopsU_no hx h8)
          clear hx h8
          go_wp2_with fail
          go_roundw
          case rel => exact ⟨k + 1, by omega, by go_num, by rw [HS.out]; exact hown2, bon hbel hb2⟩
          case measure => simp [intOf]; omega
      · have e : k = m := by omega
        subst e
        go_wp2_with fail
        go_ret2
        exact ⟨_, rfl, own_less hown (by omega), bon hb01 hbel⟩
end Go.Proofs.YthgegomccbpgeaaDoor
