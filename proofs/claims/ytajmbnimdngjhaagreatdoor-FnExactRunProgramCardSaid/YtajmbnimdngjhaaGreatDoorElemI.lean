/-
  Elements of bodies, and whole bodies: what the program's isElement, endAt and IsBody give. Conditions: at most 2^20 elements, terms and coefficients; the table elementForms holds what the program's text lays.
-/
import Derived.Test.YtajmbnimdngjhaaGreatDoorElemA
import Derived.Test.YtajmbnimdngjhaaGreatDoorOverI
import Derived.Test.YtajmbnimdngjhaaGreatDoorSame
namespace Go.Proofs.YtajmbnimdngjhaaGreatDoor
set_option linter.unusedVariables false
open Go.RowKit

/-- What the table of the kinds says: the last variable, the last event, whether there are a sum and an index, how many facts, how many statements behind. -/
def formL : List (Int × Int × Bool × Bool × Nat × Nat) := [(0, 0, false, false, 0, 0), (0, 0, false, false, 0, 2), (3, 0, true, false, 0, 0), (3, 0, false, true, 0, 0), (0, 0, true, true, 0, 0), (0, 3, false, false, 0, 0), (0, 0, true, false, 0, 0), (0, 0, true, false, 0, 2), (0, 0, true, false, 6, 1)]
def formAt (k : Nat) : Int × Int × Bool × Bool × Nat × Nat := formL.getD k (0, 0, false, false, 0, 0)
/-- The table's cells. -/
def TabE (w : World) : Prop := ∀ k, k < 9 → w.cell? ⟨0, k * 6, none⟩ = some (.int .i64 (formAt k).1) ∧ w.cell? ⟨0, k * 6 + 1, none⟩ = some (.int .i64 (formAt k).2.1) ∧
  w.cell? ⟨0, k * 6 + 2, none⟩ = some (.bool (formAt k).2.2.1) ∧ w.cell? ⟨0, k * 6 + 3, none⟩ = some (.bool (formAt k).2.2.2.1) ∧
  w.cell? ⟨0, k * 6 + 4, none⟩ = some (.int .i64 ((formAt k).2.2.2.2.1 : Int)) ∧ w.cell? ⟨0, k * 6 + 5, none⟩ = some (.int .i64 ((formAt k).2.2.2.2.2 : Int))
theorem TabE.next {w w' : World} (h : TabE w) (hb : Below w.heap.size w w') : TabE w' := fun k hk => by
  obtain ⟨a, b, c, d, e, f⟩ := h k hk
  exact ⟨cell_next a hb, cell_next b hb, cell_next c hb, cell_next d hb, cell_next e hb, cell_next f hb⟩
theorem TabE.drawn {w : World} (h : TabE w) (d : Nat) : TabE (w.drewN d) := h
theorem form_below : ∀ k, k ≤ 8 → (formAt k).2.2.2.2.2 = below (k : Int) ∧ (formAt k).2.2.2.2.1 ≤ 6
  | 0, _ => ⟨rfl, by decide⟩ | 1, _ => ⟨rfl, by decide⟩ | 2, _ => ⟨rfl, by decide⟩ | 3, _ => ⟨rfl, by decide⟩ | 4, _ => ⟨rfl, by decide⟩ | 5, _ => ⟨rfl, by decide⟩ | 6, _ => ⟨rfl, by decide⟩ | 7, _ => ⟨rfl, by decide⟩ | 8, _ => ⟨rfl, by decide⟩

/-- A field's term: over variables, and 0 where the kind does not use it. -/
def fieldB (t : Int × List Int) (u : Bool) : Bool := overB t && (u || zeroB t)
theorem over_tm {t : Int × List Int} (h : overB t = true) : tmB t = true := by
  unfold overB at h
  cases ht : tmB t with
  | true => rfl
  | false => rw [ht] at h; cases h
theorem same_zero {t : Int × List Int} (h : tmB t = true) : sameT t (0, []) = zeroB t := by
  rw [sameT_is h (by decide)]
  obtain ⟨c, zs⟩ := t
  unfold zeroB
  cases zs <;> simp
theorem overs_zero (ts : List (Int × List Int)) : oversB 0 ts = (oversB 6 ts && decide (ts.length = 0)) := by
  unfold oversB
  cases ts with
  | nil => rfl
  | cons t ts => simp
theorem btw_zero (v : Int) : (decide (0 ≤ v) && decide (v ≤ 0)) = (v == 0) := by
  rw [Bool.eq_iff_iff]; simp; omega
def elemV (x : S8) (f : Int × Int × Bool × Bool × Nat × Nat) : Bool := decide (0 ≤ x.v ∧ x.v ≤ f.1) && (decide (0 ≤ x.e ∧ x.e ≤ f.2.1) && (fieldB x.s f.2.2.1 && (fieldB x.i f.2.2.2.1 && oversB f.2.2.2.2.1 x.f)))
theorem bool6 (bs bi bf zb yb l v e : Bool) :
    (bs && bi && bf && zb && yb && l && v && e) = (v && (e && ((bs && zb) && ((bi && yb) && (bf && l))))) := by
  cases bs <;> cases bi <;> cases bf <;> cases zb <;> cases yb <;> cases l <;> cases v <;> cases e <;> rfl
theorem stmtB_form (x : S8) (k : Nat) (hk : k ≤ 8) (e : x.k = (k : Int)) : stmtB x = elemV x (formAt k) := by
  obtain ⟨k', v, ev, s, i, f⟩ := x
  have e : k' = (k : Int) := e
  subst e
  have h1 : decide (0 ≤ (k : Int) ∧ (k : Int) ≤ 8) = true := decide_eq_true (by omega)
  unfold stmtB elemV fieldB
  show (decide (0 ≤ (k : Int) ∧ (k : Int) ≤ 8) && overB s && overB i && oversB 6 f && _ && _ && _ && _ && _) = _
  rw [h1, Bool.true_and, bool6]
  match k, hk with
  | 0, _ => simp [formAt, formL, overs_zero, btw_zero]
  | 1, _ => simp [formAt, formL, overs_zero, btw_zero]
  | 2, _ => simp [formAt, formL, overs_zero, btw_zero]
  | 3, _ => simp [formAt, formL, overs_zero, btw_zero]
  | 4, _ => simp [formAt, formL, overs_zero, btw_zero]
  | 5, _ => simp [formAt, formL, overs_zero, btw_zero]
  | 6, _ => simp [formAt, formL, overs_zero, btw_zero]
  | 7, _ => simp [formAt, formL, overs_zero, btw_zero]
  | 8, _ => simp [formAt, formL, btw_zero]
theorem stmtB_kind {x : S8} (h : ¬ (0 ≤ x.k ∧ x.k ≤ 8)) : stmtB x = false := by
  unfold stmtB
  rw [decide_eq_false h]; simp
theorem stmtB_is {x : S8} (h : stmtB x = true) : 0 ≤ x.k ∧ x.k ≤ 8 := Decidable.byContradiction fun hn => by rw [stmtB_kind hn] at h; cases h

theorem isBetween_k (n a c : Int) (w : World) : Calls Tryz.prog 76 #[.int .i64 n, .int .i64 a, .int .i64 c] w fun e w' => e = .returned (.bool (decide (a ≤ n ∧ n ≤ c))) ∧ w = w' := by
  by_cases z : a ≤ n
  · by_cases y : n ≤ c
    · rw [decide_eq_true ⟨z, y⟩]
      go_enter Tryz.func76, Tryz.ntmps76
      go_wp2_with fail
      go_ret
      exact ⟨ret_bool (by first | (simp; done) | (simp [z, y]; done)), rfl⟩
    · rw [decide_eq_false (fun h => y h.2)]
      go_enter Tryz.func76, Tryz.ntmps76
      go_wp2_with fail
      go_ret
      exact ⟨ret_bool (by first | (simp; done) | (simp [y]; done)), rfl⟩
  · rw [decide_eq_false (fun h => z h.1)]
    go_enter Tryz.func76, Tryz.ntmps76
    go_wp2_with fail
    go_ret
    exact ⟨ret_bool (by first | (simp; done) | (simp [z]; done)), rfl⟩

set_option maxRecDepth 100000 in
set_option maxHeartbeats 1000000 in
theorem isField_c (c0 : Int) (A : Option Addr) (n c B : Nat) (zs : List Int) (u : Bool) (w : World) (h : InL w B A n zs) (hB : B ≤ w.heap.size) (hn : n ≤ 1048576) :
    Calls Tryz.prog 132 #[.agg #[.int .i64 c0, .slice A n c], .bool u] w fun e w' => e = .returned (.bool (fieldB (c0, zs) u)) ∧ Below w.heap.size w w' := by
  have hb0 := bnew w (.cells #[.int .i64 c0, .slice A n c] 81)
  have p0 : (w.alloc (.cells #[.int .i64 c0, .slice A n c] 81)).cell? ⟨w.heap.size, 0, none⟩ = some (.int .i64 c0) := by simp
  have p1 : (w.alloc (.cells #[.int .i64 c0, .slice A n c] 81)).cell? ⟨w.heap.size, 1, none⟩ = some (.slice A n c) := by simp
  have H1 := Lib.hid (h.next hb0 hB)
  have HI := Lib.hid (isOver_c c0 A n c B zs _ H1.out (Nat.le_trans hB hb0.size) hn)
  clear h
  obtain ⟨bt, HT⟩ : ∃ x, Hid (overB (c0, zs) = x) := ⟨_, rfl⟩
  have HV : Hid (fieldB (c0, zs) u = (bt && (u || zeroB (c0, zs)))) := by show _ = _; unfold fieldB; rw [HT.out]
  rw [HV.out]
  rw [HT.out] at HI
  clear HV
  go_enter Tryz.func132, Tryz.ntmps132
  go_wp2_with fail
  generalize w.alloc (.cells #[.int .i64 c0, .slice A n c] 81) = W at hb0 p0 p1 H1 HI ⊢
  have hsW := hb0.size
  refine HI.out.mono ?_
  rintro e w1 ⟨rfl, hb1⟩
  have P0 := cell_next p0 hb1
  have P1 := cell_next p1 hb1
  have hs1 := hb1.size
  have H2 := Lib.hid (H1.out.next hb1 (by omega))
  clear p0 p1 H1 HI
  cases bt
  · go_wp2_with fail
    go_ret
    exact ⟨rfl, bon hb0 hb1⟩
  · cases u
    · have HS := Lib.hid (implSame_c c0 A n c zs 0 none 0 0 [] w1 (H2.out.more (by omega)) hn ⟨rfl, Row.nil⟩ (by omega))
      rw [same_zero (over_tm HT.out)] at HS
      go_wp2_with fail
      refine HS.out.mono ?_
      rintro e w2 ⟨rfl, hb2⟩
      go_wp2_with fail
      go_ret
      exact ⟨ret_bool (by simp), bon (bon hb0 hb1) hb2⟩
    · go_wp2_with fail
      go_ret
      exact ⟨rfl, bon hb0 hb1⟩

set_option maxRecDepth 100000 in
set_option maxHeartbeats 4000000 in
theorem isElement_c (x : S8) (As : Option Addr) (ns c1 : Nat) (Ai : Option Addr) (ni c2 : Nat) (Af : Option Addr) (nf c3 B : Nat) (w : World) (hT : TabE w) (hs : InL w B As ns x.s.2) (hi : InL w B Ai ni x.i.2) (hf : InTS w B Af nf x.f) (hB : B ≤ w.heap.size) (hx : x.tot ≤ 1048576) :
    Calls Tryz.prog 104 #[.agg (x.val As ns c1 Ai ni c2 Af nf c3)] w fun e w' => e = .returned (.bool (stmtB x)) ∧ Below w.heap.size w w' := by
  unfold S8.tot at hx
  rw [hs.1, hi.1, hf.1] at hx
  obtain ⟨xk, xv, xe, ⟨xs, zs⟩, ⟨xi, zi⟩, xf⟩ := x
  unfold S8.val
  have hx : ns + (ni + (nf + totT xf)) ≤ 1048576 := hx
  have hb0 := bnew w (.cells #[.int .i64 xk, .int .i64 xv, .int .i64 xe, .int .i64 xs, .slice As ns c1, .int .i64 xi, .slice Ai ni c2, .slice Af nf c3] 83)
  have hP : BlkIs (w.alloc (.cells #[.int .i64 xk, .int .i64 xv, .int .i64 xe, .int .i64 xs, .slice As ns c1, .int .i64 xi, .slice Ai ni c2, .slice Af nf c3] 83)) w.heap.size 83 #[.int .i64 xk, .int .i64 xv, .int .i64 xe, .int .i64 xs, .slice As ns c1, .int .i64 xi, .slice Ai ni c2, .slice Af nf c3] := blk_new _ _ _ _ rfl
  have H1 := Lib.hid (hs.next hb0 hB)
  have H2 := Lib.hid (hi.next hb0 hB)
  have H3 := Lib.hid (hf.next hb0 hB)
  have HT := Lib.hid (hT.next hb0)
  clear hs hi hf hT
  by_cases hk : 0 ≤ xk ∧ xk ≤ 8
  · obtain ⟨h0, h8⟩ := hk
    obtain ⟨k, rfl⟩ := Int.eq_ofNat_of_zero_le h0
    have hk8 : k ≤ 8 := by omega
    have HV := Lib.hid (stmtB_form ⟨(k : Int), xv, xe, (xs, zs), (xi, zi), xf⟩ k hk8 rfl)
    unfold elemV at HV
    obtain ⟨t0, t1, t2, t3, t4, t5⟩ := HT.out k (by omega)
    have hf6 := (form_below k hk8).2
    generalize formAt k = F at HV t0 t1 t2 t3 t4 t5 hf6
    obtain ⟨lv, le, fs, fi, fa, fb⟩ := F
    have hf6 : fa ≤ 6 := hf6
    have HV : Hid (stmtB ⟨(k : Int), xv, xe, (xs, zs), (xi, zi), xf⟩ = (decide (0 ≤ xv ∧ xv ≤ lv) && (decide (0 ≤ xe ∧ xe ≤ le) && (fieldB (xs, zs) fs && (fieldB (xi, zi) fi && oversB fa xf))))) := HV
    rw [HV.out]
    clear HV
    obtain ⟨b1, HB1⟩ : ∃ x, Hid (decide (0 ≤ xv ∧ xv ≤ lv) = x) := ⟨_, rfl⟩
    obtain ⟨b2, HB2⟩ : ∃ x, Hid (decide (0 ≤ xe ∧ xe ≤ le) = x) := ⟨_, rfl⟩
    obtain ⟨b3, HB3⟩ : ∃ x, Hid (fieldB (xs, zs) fs = x) := ⟨_, rfl⟩
    obtain ⟨b4, HB4⟩ : ∃ x, Hid (fieldB (xi, zi) fi = x) := ⟨_, rfl⟩
    obtain ⟨b5, HB5⟩ : ∃ x, Hid (oversB fa xf = x) := ⟨_, rfl⟩
    rw [HB1.out, HB2.out, HB3.out, HB4.out, HB5.out]
    have t0 : (w.alloc (.cells #[.int .i64 k, .int .i64 xv, .int .i64 xe, .int .i64 xs, .slice As ns c1, .int .i64 xi, .slice Ai ni c2, .slice Af nf c3] 83)).cell? ⟨0, k * 6, none⟩ = some (.int .i64 lv) := t0
    have t1 : (w.alloc (.cells #[.int .i64 k, .int .i64 xv, .int .i64 xe, .int .i64 xs, .slice As ns c1, .int .i64 xi, .slice Ai ni c2, .slice Af nf c3] 83)).cell? ⟨0, k * 6 + 1, none⟩ = some (.int .i64 le) := t1
    have t2 : (w.alloc (.cells #[.int .i64 k, .int .i64 xv, .int .i64 xe, .int .i64 xs, .slice As ns c1, .int .i64 xi, .slice Ai ni c2, .slice Af nf c3] 83)).cell? ⟨0, k * 6 + 2, none⟩ = some (.bool fs) := t2
    have t3 : (w.alloc (.cells #[.int .i64 k, .int .i64 xv, .int .i64 xe, .int .i64 xs, .slice As ns c1, .int .i64 xi, .slice Ai ni c2, .slice Af nf c3] 83)).cell? ⟨0, k * 6 + 3, none⟩ = some (.bool fi) := t3
    have t4 : (w.alloc (.cells #[.int .i64 k, .int .i64 xv, .int .i64 xe, .int .i64 xs, .slice As ns c1, .int .i64 xi, .slice Ai ni c2, .slice Af nf c3] 83)).cell? ⟨0, k * 6 + 4, none⟩ = some (.int .i64 fa) := t4
    have t5 : (w.alloc (.cells #[.int .i64 k, .int .i64 xv, .int .i64 xe, .int .i64 xs, .slice As ns c1, .int .i64 xi, .slice Ai ni c2, .slice Af nf c3] 83)).cell? ⟨0, k * 6 + 5, none⟩ = some (.int .i64 fb) := t5
    have HK0 := isBetween_k k 0 8 (w.alloc (.cells #[.int .i64 k, .int .i64 xv, .int .i64 xe, .int .i64 xs, .slice As ns c1, .int .i64 xi, .slice Ai ni c2, .slice Af nf c3] 83))
    rw [decide_eq_true ⟨h0, h8⟩] at HK0
    have HK := Lib.hid HK0
    clear HK0
    go_enter Tryz.func104, Tryz.ntmps104
    go_wp2_with fail
    generalize w.alloc (.cells #[.int .i64 k, .int .i64 xv, .int .i64 xe, .int .i64 xs, .slice As ns c1, .int .i64 xi, .slice Ai ni c2, .slice Af nf c3] 83) = W at hb0 hP H1 H2 H3 HT t0 t1 t2 t3 t4 t5 HK ⊢
    have hsW := hb0.size
    have p0 := hP.cell 0
    simp at p0
    have hb1 := bnew W (.cells #[.int .i64 lv, .int .i64 le, .bool fs, .bool fi, .int .i64 fa, .int .i64 fb] 179)
    have hP1 := hP.next hb1
    have hR1 : BlkIs (W.alloc (.cells #[.int .i64 lv, .int .i64 le, .bool fs, .bool fi, .int .i64 fa, .int .i64 fb] 179)) W.heap.size 179 #[.int .i64 lv, .int .i64 le, .bool fs, .bool fi, .int .i64 fa, .int .i64 fb] := blk_new _ _ _ _ rfl
    have H11 := Lib.hid (H1.out.next hb1 (by omega))
    have H21 := Lib.hid (H2.out.next hb1 (by omega))
    have H31 := Lib.hid (H3.out.next hb1 (by omega))
    have a1 : (W.alloc (.cells #[.int .i64 lv, .int .i64 le, .bool fs, .bool fi, .int .i64 fa, .int .i64 fb] 179)).cell? ⟨w.heap.size, 1, none⟩ = some (.int .i64 xv) := hP1.cell 1
    have r0 : (W.alloc (.cells #[.int .i64 lv, .int .i64 le, .bool fs, .bool fi, .int .i64 fa, .int .i64 fb] 179)).cell? ⟨W.heap.size, 0, none⟩ = some (.int .i64 lv) := hR1.cell 0
    clear H1 H2 H3 hP
    refine HK.out.mono ?_
    rintro e9 w9 ⟨rfl, rfl⟩
    clear HK
    go_wp2_with fail
    have hb01 := bon hb0 hb1
    generalize W.alloc (.cells #[.int .i64 lv, .int .i64 le, .bool fs, .bool fi, .int .i64 fa, .int .i64 fb] 179) = W2 at hb1 hP1 hR1 H11 H21 H31 a1 r0 hb01 ⊢
    have hs2 := hb1.size
    have a2 : W2.cell? ⟨w.heap.size, 2, none⟩ = some (.int .i64 xe) := hP1.cell 2
    have r1 : W2.cell? ⟨W.heap.size, 1, none⟩ = some (.int .i64 le) := hR1.cell 1
    have a3 : W2.cell? ⟨w.heap.size, 3, none⟩ = some (.int .i64 xs) := hP1.cell 3
    have a4 : W2.cell? ⟨w.heap.size, 4, none⟩ = some (.slice As ns c1) := hP1.cell 4
    have r2 : W2.cell? ⟨W.heap.size, 2, none⟩ = some (.bool fs) := hR1.cell 2
    have C1 := isBetween_k xv 0 lv W2
    have C2 := isBetween_k xe 0 le W2
    have C3 := isField_c xs As ns c1 B zs fs W2 H11.out (by omega) (by omega)
    rw [HB1.out] at C1
    rw [HB2.out] at C2
    rw [HB3.out] at C3
    have CC1 := Lib.hid C1
    have CC2 := Lib.hid C2
    have CC3 := Lib.hid C3
    clear C1 C2 C3 HB1 HB2 HB3
    refine CC1.out.mono ?_
    rintro e9 w9 ⟨rfl, rfl⟩
    cases b1
    · go_wp2_with fail
      go_ret
      exact ⟨rfl, hb01⟩
    go_wp2_with fail
    refine CC2.out.mono ?_
    rintro e9 w9 ⟨rfl, rfl⟩
    cases b2
    · go_wp2_with fail
      go_ret
      exact ⟨rfl, hb01⟩
    go_wp2_with fail
    refine CC3.out.mono ?_
    rintro e9 w3 ⟨rfl, hb3⟩
    have hs3 := hb3.size
    have hP3 := hP1.next hb3
    have hR3 := hR1.next hb3
    have H23 := Lib.hid (H21.out.next hb3 (by omega))
    have H33 := Lib.hid (H31.out.next hb3 (by omega))
    have hb03 := bon hb01 hb3
    clear CC1 CC2 CC3 a1 a2 a3 a4 r0 r1 r2 hP1 hR1 H11 H21 H31
    have a5 : w3.cell? ⟨w.heap.size, 5, none⟩ = some (.int .i64 xi) := hP3.cell 5
    have a6 : w3.cell? ⟨w.heap.size, 6, none⟩ = some (.slice Ai ni c2) := hP3.cell 6
    have r3 : w3.cell? ⟨W.heap.size, 3, none⟩ = some (.bool fi) := hR3.cell 3
    have C4 := isField_c xi Ai ni c2 B zi fi w3 H23.out (by omega) (by omega)
    rw [HB4.out] at C4
    have CC4 := Lib.hid C4
    clear C4 HB4
    cases b3
    · go_wp2_with fail
      go_ret
      exact ⟨rfl, hb03⟩
    go_wp2_with fail
    refine CC4.out.mono ?_
    rintro e9 w4 ⟨rfl, hb4⟩
    have hs4 := hb4.size
    have hP4 := hP3.next hb4
    have hR4 := hR3.next hb4
    have H34 := Lib.hid (H33.out.next hb4 (by omega))
    have hb04 := bon hb03 hb4
    clear CC4 a5 a6 r3 hP3 hR3 H23 H33
    have a7 : w4.cell? ⟨w.heap.size, 7, none⟩ = some (.slice Af nf c3) := hP4.cell 7
    have r4 : w4.cell? ⟨W.heap.size, 4, none⟩ = some (.int .i64 fa) := hR4.cell 4
    have C5 := areOver_c Af nf c3 B xf fa w4 H34.out (by omega) (by omega) (by omega)
    rw [HB5.out] at C5
    have CC5 := Lib.hid C5
    clear C5 HB5
    cases b4
    · go_wp2_with fail
      go_ret
      exact ⟨rfl, hb04⟩
    go_wp2_with fail
    refine CC5.out.mono ?_
    rintro e9 w5 ⟨rfl, hb5⟩
    go_wp2_with fail
    go_ret
    exact ⟨ret_bool (by simp), bon hb04 hb5⟩
  · have HV := Lib.hid (stmtB_kind (x := ⟨xk, xv, xe, (xs, zs), (xi, zi), xf⟩) hk)
    have HK0 := isBetween_k xk 0 8 (w.alloc (.cells #[.int .i64 xk, .int .i64 xv, .int .i64 xe, .int .i64 xs, .slice As ns c1, .int .i64 xi, .slice Ai ni c2, .slice Af nf c3] 83))
    rw [decide_eq_false hk] at HK0
    have HK := Lib.hid HK0
    clear HK0
    rw [HV.out]
    go_enter Tryz.func104, Tryz.ntmps104
    go_wp2_with fail
    refine HK.out.mono ?_
    rintro e9 w9 ⟨rfl, rfl⟩
    go_wp2_with fail
    go_ret
    exact ⟨rfl, hb0⟩
end Go.Proofs.YtajmbnimdngjhaaGreatDoor
