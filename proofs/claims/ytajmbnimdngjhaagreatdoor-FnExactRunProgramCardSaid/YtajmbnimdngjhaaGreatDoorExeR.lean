/-
  The run methods of the statements: skip, set, get, put, assert. Conditions: a valid element, a run as ExM tells it, a fuel up to 2000.
-/
import Derived.Test.YtajmbnimdngjhaaGreatDoorExeS
namespace Go.Proofs.YtajmbnimdngjhaaGreatDoor
set_option linter.unusedVariables false
open Go.RowKit

theorem ExM.fresh {w : World} {base gx gv cv gc cc : Nat} {E : Option Addr} {ce fuel : Nat} {s : RS} (h : ExM w base gx gv cv gc cc E ce fuel s) {b : Nat} (hb : w.heap.size ≤ b) : b ≠ gx ∧ b ≠ gv ∧ b ≠ gc ∧ E ≠ some ⟨b, 0, none⟩ := by
  have hl := h.lt
  refine ⟨by omega, by omega, by omega, fun e => ?_⟩
  subst e
  have := (h.e.lt b rfl).2
  omega
theorem ExM.size {w : World} {base gx gv cv gc cc : Nat} {E : Option Addr} {ce fuel : Nat} {s : RS} (h : ExM w base gx gv cv gc cc E ce fuel s) : base ≤ w.heap.size := Nat.le_trans h.bx (Nat.le_of_lt h.lt.1)
theorem GoodR.more {fuel : Nat} {s : RS} (h : GoodR fuel s) (hn : ¬ s.n = fuel) : GoodR fuel s.more := ⟨h.g.more, by have := h.e; show s.e.length ≤ s.n + 1; omega, by have := h.n; show s.n + 1 ≤ fuel; omega, h.f⟩
theorem stepS_e (x : S8) (s : RS) : (stepS x s).2.e = s.e := by
  unfold stepS
  repeat' split
  all_goals rfl
theorem GoodR.step {fuel : Nat} {s s1 : RS} {x : S8} {o : Int} (h : GoodR fuel s) (hn : ¬ s.n = fuel) (e : stepS x s.more = (o, s1)) : GoodR fuel s1 := by
  have h1 := h.more hn
  have h2 := stepS_good (x := x) h1.g
  have h3 := stepS_n x s.more
  have h4 := stepS_e x s.more
  rw [e] at h2 h3 h4
  exact ⟨h2, by have := h1.e; rw [h3, h4]; exact this, by have := h1.n; rw [h3]; exact this, h.f⟩
/-- How the run of a statement leaves the program. -/
def RunQ (w : World) (base gx gv cv gc cc : Nat) (E : Option Addr) (fuel : Nat) (t : Tr) (s : RS) : Ending → World → Prop := fun e w' =>
  ∃ (o : Int) (s1 : RS) (E' : Option Addr) (ce' : Nat), e = .returned (.int .i64 o) ∧ ExM w' base gx gv cv gc cc E' ce' fuel s1 ∧ GoodR fuel s1 ∧ FarX w w' base gx gv gc E E' ∧ s.n ≤ s1.n ∧ Ends fuel t s o s1

section
variable {x : S8} {s : RS}
theorem stepS_set (hk : x.k = 2) (hr : -1000000000 ≤ numS s.v x.s ∧ numS s.v x.s ≤ 1000000000) : stepS x s = (0, { s with v := s.v.set x.v.toNat (numS s.v x.s) }) := by
  unfold stepS; rw [if_neg (fun q => by have := q.1; omega), if_neg (fun q => q.2 hr), if_pos hk]
theorem stepS_setr (hk : x.k = 2) (hr : ¬ (-1000000000 ≤ numS s.v x.s ∧ numS s.v x.s ≤ 1000000000)) : stepS x s = (4, s) := by
  unfold stepS; rw [if_neg (fun q => by have := q.1; omega), if_pos ⟨.inl hk, hr⟩]
theorem stepS_get (hk : x.k = 3) (hc : 0 ≤ numS s.v x.i ∧ numS s.v x.i ≤ 7) : stepS x s = (0, { s with v := s.v.set x.v.toNat (s.c.getD (numS s.v x.i).toNat 0) }) := by
  unfold stepS; rw [if_neg (fun q => q.2 hc), if_neg (fun q => by have := q.1; omega), if_neg (by omega), if_pos hk]
theorem stepS_getc (hk : x.k = 3 ∨ x.k = 4) (hc : ¬ (0 ≤ numS s.v x.i ∧ numS s.v x.i ≤ 7)) : stepS x s = (2, s) := by
  unfold stepS; rw [if_pos ⟨hk, hc⟩]
theorem stepS_put (hk : x.k = 4) (hc : 0 ≤ numS s.v x.i ∧ numS s.v x.i ≤ 7) (hr : -1000000000 ≤ numS s.v x.s ∧ numS s.v x.s ≤ 1000000000) : stepS x s = (0, { s with c := s.c.set (numS s.v x.i).toNat (numS s.v x.s) }) := by
  unfold stepS; rw [if_neg (fun q => q.2 hc), if_neg (fun q => q.2 hr), if_neg (by omega), if_neg (by omega), if_pos hk]
theorem stepS_putr (hk : x.k = 4) (hc : 0 ≤ numS s.v x.i ∧ numS s.v x.i ≤ 7) (hr : ¬ (-1000000000 ≤ numS s.v x.s ∧ numS s.v x.s ≤ 1000000000)) : stepS x s = (4, s) := by
  unfold stepS; rw [if_neg (fun q => q.2 hc), if_pos ⟨.inr hk, hr⟩]
theorem stepS_ass (hk : x.k = 6) (hr : 0 ≤ numS s.v x.s) : stepS x s = (0, s) := by
  unfold stepS; rw [if_neg (fun q => by have := q.1; omega), if_neg (fun q => by have := q.1; omega), if_neg (by omega), if_neg (by omega), if_neg (by omega), if_neg (fun q => by have := q.2; omega)]
theorem stepS_assr (hk : x.k = 6) (hr : numS s.v x.s < 0) : stepS x s = (3, s) := by
  unfold stepS; rw [if_neg (fun q => by have := q.1; omega), if_neg (fun q => by have := q.1; omega), if_neg (by omega), if_neg (by omega), if_neg (by omega), if_pos ⟨hk, hr⟩]
theorem stepS_no (hk : x.k = 0 ∨ x.k = 1 ∨ x.k = 5 ∨ x.k = 7 ∨ x.k = 8) : stepS x s = (0, s) := by
  unfold stepS; rw [if_neg (fun q => by have := q.1; omega), if_neg (fun q => by have := q.1; omega), if_neg (by omega), if_neg (by omega), if_neg (by omega), if_neg (fun q => by have := q.1; omega)]
theorem ends_leaf_no {fuel : Nat} (hk : x.k ≠ 1) (h5 : x.k ≠ 5) {s1 : RS} (hn : s.n ≠ fuel) (h : stepS x s.more = (0, s1)) : Ends fuel (.leaf x) s 0 s1 := by
  have := ends_leaf hk hn h
  simp only [nextS] at this
  rw [if_neg h5] at this
  exact this
end
section
variable {x : S8} {s : RS} {base gx gv cv gc cc : Nat} {E : Option Addr} {ce fuel : Nat}
set_option maxRecDepth 100000 in
set_option maxHeartbeats 1000000 in
theorem run_skip (hk : x.k = 0) (w : World) (hx : stmtB x = true)  (h : ExM w base gx gv cv gc cc E ce fuel s) (g : GoodR fuel s) :
    Calls Tryz.prog 239 #[.agg #[], .pointer (some ⟨gx, 0, none⟩)] w (RunQ w base gx gv cv gc cc E fuel (.leaf x) s) := by
  have hb0 := bnew w (.cells #[] 144)
  have hsz : (w.alloc (.cells #[] 144)).heap.size = w.heap.size + 1 := by simp
  have hbase := h.size
  have hnf := g.n
  have hf2 := g.f
  have h0 := h.next hb0
  have hfr := h.fresh (Nat.le_refl _)
  obtain ⟨hkk, hokS, hokI, hokV, hokE⟩ := stmt_ok hx
  have F0 : FarX w (w.alloc (.cells #[] 144)) base gx gv gc E E := FarX.of_below hbase hb0
  by_cases hn : s.n = fuel
  · have C := Lib.hid (step_no _ h0 hn)
    have HX := Lib.hid h0
    clear h h0
    go_enter Tryz.func239, Tryz.ntmps239
    go_wp2_with fail
    refine C.out.mono ?_
    rintro e w1 ⟨rfl, hb1⟩
    go_wp2_with fail
    go_ret
    exact ⟨1, s, E, ce, rfl, HX.out.next hb1, g, F0.trans (FarX.of_below (by omega) hb1), Nat.le_refl _, ends_fuel (show x.k ≠ 1 by omega) hn⟩
  · have C := Lib.hid (step_yes _ h0 (by omega) hf2)
    clear h h0
    go_enter Tryz.func239, Tryz.ntmps239
    go_wp2_with fail
    refine C.out.mono ?_
    rintro e w1 ⟨rfl, h1, F1⟩
    go_wp2_with fail
    go_ret
    exact ⟨0, s.more, E, ce, rfl, h1, g.more hn, F0.trans F1, Nat.le_succ _, ends_leaf_no (by omega) (by omega) hn (stepS_no (.inl hk))⟩
set_option maxRecDepth 100000 in
set_option maxHeartbeats 1000000 in
theorem run_set (hk : x.k = 2) (As : Option Addr) (ns cs : Nat) (w : World) (hx : stmtB x = true) (hi : InL w w.heap.size As ns x.s.2) (h : ExM w base gx gv cv gc cc E ce fuel s) (g : GoodR fuel s) :
    Calls Tryz.prog 209 #[.agg #[.int .i64 x.v, .int .i64 x.s.1, .slice As ns cs], .pointer (some ⟨gx, 0, none⟩)] w (RunQ w base gx gv cv gc cc E fuel (.leaf x) s) := by
  obtain ⟨v, hv⟩ : ∃ v : Nat, x.v = (v : Int) := ⟨x.v.toNat, by have := (stmt_ok hx).2.2.2.1; omega⟩
  rw [hv]
  have hb0 := bnew w (.cells #[.int .i64 (v : Int), .int .i64 x.s.1, .slice As ns cs] 130)
  have p0 : (w.alloc (.cells #[.int .i64 (v : Int), .int .i64 x.s.1, .slice As ns cs] 130)).cell? ⟨w.heap.size, 0, none⟩ = some (.int .i64 (v : Int)) := by simp
  have p1 : (w.alloc (.cells #[.int .i64 (v : Int), .int .i64 x.s.1, .slice As ns cs] 130)).cell? ⟨w.heap.size, 1, none⟩ = some (.int .i64 x.s.1) := by simp
  have p2 : (w.alloc (.cells #[.int .i64 (v : Int), .int .i64 x.s.1, .slice As ns cs] 130)).cell? ⟨w.heap.size, 2, none⟩ = some (.slice As ns cs) := by simp
  have hsz : (w.alloc (.cells #[.int .i64 (v : Int), .int .i64 x.s.1, .slice As ns cs] 130)).heap.size = w.heap.size + 1 := by simp
  have hbase := h.size
  have hnf := g.n
  have hf2 := g.f
  have h0 := h.next hb0
  have hfr := h.fresh (Nat.le_refl _)
  obtain ⟨hkk, hokS, hokI, hokV, hokE⟩ := stmt_ok hx
  have F0 : FarX w (w.alloc (.cells #[.int .i64 (v : Int), .int .i64 x.s.1, .slice As ns cs] 130)) base gx gv gc E E := FarX.of_below hbase hb0
  have hv4 : v < 4 := by omega
  obtain ⟨n, HN⟩ : ∃ n, Hid (numS s.v x.s = n) := ⟨_, rfl⟩
  have C := number_c x.s.1 As ns cs x.s.2 (w.alloc (.cells #[.int .i64 (v : Int), .int .i64 x.s.1, .slice As ns cs] 130)) h0 g.g (hi.next hb0 (Nat.le_refl _) |>.more hb0.size) hokS.1 hokS.2
  rw [show numS s.v (x.s.1, x.s.2) = n from HN.out] at C
  have CH := Lib.hid C
  have HX := Lib.hid h0
  clear C h h0 hi hx
  go_enter Tryz.func209, Tryz.ntmps209
  go_wp2_with fail
  generalize w.alloc (.cells #[.int .i64 (v : Int), .int .i64 x.s.1, .slice As ns cs] 130) = W at hb0 p0 p1 p2 hsz F0 CH HX ⊢
  refine CH.out.mono ?_
  rintro e w1 ⟨rfl, hb1⟩
  have hz1 := hb1.size
  have h1 := HX.out.next hb1
  have F1 := F0.trans (FarX.of_below (by omega) hb1)
  replace p0 := cell_next p0 hb1
  replace p1 := cell_next p1 hb1
  replace p2 := cell_next p2 hb1
  clear CH HX
  go_wp2_with fail
  by_cases hn : s.n = fuel
  · have C := Lib.hid (step_no w1 h1 hn)
    have HX := Lib.hid h1
    clear h1
    go_wp2_with fail
    refine C.out.mono ?_
    rintro e w2 ⟨rfl, hb2⟩
    go_wp2_with fail
    go_ret
    exact ⟨1, s, E, ce, rfl, HX.out.next hb2, g, F1.trans (FarX.of_below (by omega) hb2), Nat.le_refl _, ends_fuel (show x.k ≠ 1 by omega) hn⟩
  · have C := Lib.hid (step_yes w1 h1 (by omega) hf2)
    clear h1
    refine C.out.mono ?_
    rintro e w2 ⟨rfl, h2, F2⟩
    replace p0 := F2.cell p0 hfr.1 hfr.2.1 hfr.2.2.1 hfr.2.2.2
    replace F2 := F1.trans F2
    clear C F0 F1
    go_wp2_with fail
    refine (isInt_c n w2).mono ?_
    rintro e w3 ⟨rfl, rfl⟩
    by_cases hr : -1000000000 ≤ n ∧ n ≤ 1000000000
    · have e1 : decide (-1000000000 ≤ n) = true := decide_eq_true hr.1
      have e2 : decide (n ≤ 1000000000) = true := decide_eq_true hr.2
      have q0 : w2.cell? ⟨gx, 0, none⟩ = some (.slice (some ⟨gv, 0, none⟩) 4 cv) := h2.blk.cell 0
      have q1 := h2.v.cellE (i := v) hv4
      have q2 := h2.v.frozenE v
      have hst := stepS_set (s := s.more) hk (by show -1000000000 ≤ numS s.v x.s ∧ numS s.v x.s ≤ 1000000000; rw [HN.out]; exact hr)
      rw [hv, show numS s.more.v x.s = n from HN.out] at hst
      have HV := Lib.hid (h2.vars (i := v) hv4 n)
      have FS := Lib.hid (F2.trans (FarX.set (i := v) (v := .int .i64 n) (E := E) (by exact h2.size) (.inr (.inl rfl)) h2.bv))
      have HST := Lib.hid hst
      clear h2 F2 hst p1 p2
      go_wp2_with fail
      go_region
      all_goals (go_wp2_with fail; go_ret; exact ⟨0, _, E, ce, rfl, HV.out.drew, g.step hn HST.out, FS.out.drew, Nat.le_succ _, ends_leaf_no (by omega) (by omega) hn HST.out⟩)
    · have e1 : (decide (-1000000000 ≤ n) && decide (n ≤ 1000000000)) = false := by simp; omega
      rw [e1]
      have hst := stepS_setr (s := s.more) hk (by show ¬ (-1000000000 ≤ numS s.v x.s ∧ numS s.v x.s ≤ 1000000000); rw [HN.out]; exact hr)
      have HX := Lib.hid h2
      clear h2
      go_wp2_with fail
      go_ret
      exact ⟨4, s.more, E, ce, rfl, HX.out, g.more hn, F2, Nat.le_succ _, ends_stop (show x.k ≠ 1 by omega) hn hst (by decide)⟩
set_option maxRecDepth 100000 in
set_option maxHeartbeats 1000000 in
theorem run_get (hk : x.k = 3) (As : Option Addr) (ns cs : Nat) (w : World) (hx : stmtB x = true) (hi : InL w w.heap.size As ns x.i.2) (h : ExM w base gx gv cv gc cc E ce fuel s) (g : GoodR fuel s) :
    Calls Tryz.prog 215 #[.agg #[.int .i64 x.v, .int .i64 x.i.1, .slice As ns cs], .pointer (some ⟨gx, 0, none⟩)] w (RunQ w base gx gv cv gc cc E fuel (.leaf x) s) := by
  obtain ⟨v, hv⟩ : ∃ v : Nat, x.v = (v : Int) := ⟨x.v.toNat, by have := (stmt_ok hx).2.2.2.1; omega⟩
  rw [hv]
  have hb0 := bnew w (.cells #[.int .i64 (v : Int), .int .i64 x.i.1, .slice As ns cs] 132)
  have p0 : (w.alloc (.cells #[.int .i64 (v : Int), .int .i64 x.i.1, .slice As ns cs] 132)).cell? ⟨w.heap.size, 0, none⟩ = some (.int .i64 (v : Int)) := by simp
  have p1 : (w.alloc (.cells #[.int .i64 (v : Int), .int .i64 x.i.1, .slice As ns cs] 132)).cell? ⟨w.heap.size, 1, none⟩ = some (.int .i64 x.i.1) := by simp
  have p2 : (w.alloc (.cells #[.int .i64 (v : Int), .int .i64 x.i.1, .slice As ns cs] 132)).cell? ⟨w.heap.size, 2, none⟩ = some (.slice As ns cs) := by simp
  have hsz : (w.alloc (.cells #[.int .i64 (v : Int), .int .i64 x.i.1, .slice As ns cs] 132)).heap.size = w.heap.size + 1 := by simp
  have hbase := h.size
  have hnf := g.n
  have hf2 := g.f
  have h0 := h.next hb0
  have hfr := h.fresh (Nat.le_refl _)
  obtain ⟨hkk, hokS, hokI, hokV, hokE⟩ := stmt_ok hx
  have F0 : FarX w (w.alloc (.cells #[.int .i64 (v : Int), .int .i64 x.i.1, .slice As ns cs] 132)) base gx gv gc E E := FarX.of_below hbase hb0
  have hv4 : v < 4 := by omega
  obtain ⟨n, HN⟩ : ∃ n, Hid (numS s.v x.i = n) := ⟨_, rfl⟩
  have C := number_c x.i.1 As ns cs x.i.2 (w.alloc (.cells #[.int .i64 (v : Int), .int .i64 x.i.1, .slice As ns cs] 132)) h0 g.g (hi.next hb0 (Nat.le_refl _) |>.more hb0.size) hokI.1 hokI.2
  rw [show numS s.v (x.i.1, x.i.2) = n from HN.out] at C
  have CH := Lib.hid C
  have HX := Lib.hid h0
  clear C h h0 hi hx
  go_enter Tryz.func215, Tryz.ntmps215
  go_wp2_with fail
  generalize w.alloc (.cells #[.int .i64 (v : Int), .int .i64 x.i.1, .slice As ns cs] 132) = W at hb0 p0 p1 p2 hsz F0 CH HX ⊢
  refine CH.out.mono ?_
  rintro e w1 ⟨rfl, hb1⟩
  have hz1 := hb1.size
  have h1 := HX.out.next hb1
  have F1 := F0.trans (FarX.of_below (by omega) hb1)
  replace p0 := cell_next p0 hb1
  replace p1 := cell_next p1 hb1
  replace p2 := cell_next p2 hb1
  clear CH HX
  go_wp2_with fail
  by_cases hn : s.n = fuel
  · have C := Lib.hid (step_no w1 h1 hn)
    have HX := Lib.hid h1
    clear h1
    go_wp2_with fail
    refine C.out.mono ?_
    rintro e w2 ⟨rfl, hb2⟩
    go_wp2_with fail
    go_ret
    exact ⟨1, s, E, ce, rfl, HX.out.next hb2, g, F1.trans (FarX.of_below (by omega) hb2), Nat.le_refl _, ends_fuel (show x.k ≠ 1 by omega) hn⟩
  · have C := Lib.hid (step_yes w1 h1 (by omega) hf2)
    clear h1
    refine C.out.mono ?_
    rintro e w2 ⟨rfl, h2, F2⟩
    replace p0 := F2.cell p0 hfr.1 hfr.2.1 hfr.2.2.1 hfr.2.2.2
    replace F2 := F1.trans F2
    clear C F0 F1
    go_wp2_with fail
    refine (isCell_c n w2).mono ?_
    rintro e w3 ⟨rfl, rfl⟩
    by_cases hr : 0 ≤ n ∧ n ≤ 7
    · obtain ⟨i, rfl⟩ : ∃ i : Nat, n = (i : Int) := ⟨n.toNat, by omega⟩
      have hi8 : i < 8 := by omega
      have e1 : decide (0 ≤ (i : Int)) = true := decide_eq_true hr.1
      have e2 : decide ((i : Int) ≤ 7) = true := decide_eq_true hr.2
      have q0 : w2.cell? ⟨gx, 0, none⟩ = some (.slice (some ⟨gv, 0, none⟩) 4 cv) := h2.blk.cell 0
      have q0b : w2.cell? ⟨gx, 1, none⟩ = some (.slice (some ⟨gc, 0, none⟩) 8 cc) := h2.blk.cell 1
      have q1 := h2.v.cellE (i := v) hv4
      have q2 := h2.v.frozenE v
      have q3 := h2.c.cellE (i := i) hi8
      have hst := stepS_get (s := s.more) hk (by show 0 ≤ numS s.v x.i ∧ numS s.v x.i ≤ 7; rw [HN.out]; exact hr)
      rw [hv, show numS s.more.v x.i = (i : Int) from HN.out] at hst
      obtain ⟨z, HZ⟩ : ∃ z, Hid (s.more.c.getD i 0 = z) := ⟨_, rfl⟩
      rw [show s.more.c.getD ((i : Int)).toNat 0 = z from HZ.out] at hst
      rw [HZ.out] at q3
      have HV := Lib.hid (h2.vars (i := v) hv4 z)
      have FS := Lib.hid (F2.trans (FarX.set (i := v) (v := .int .i64 z) (E := E) (by exact h2.size) (.inr (.inl rfl)) h2.bv))
      have HST := Lib.hid hst
      clear h2 F2 hst p1 p2
      go_wp2_with fail
      go_region
      all_goals (go_wp2_with fail; go_ret; exact ⟨0, _, E, ce, rfl, HV.out.drew, g.step hn HST.out, FS.out.drew, Nat.le_succ _, ends_leaf_no (by omega) (by omega) hn HST.out⟩)
    · have e1 : (decide (0 ≤ n) && decide (n ≤ 7)) = false := by simp; omega
      rw [e1]
      have hst := stepS_getc (s := s.more) (.inl hk) (by show ¬ (0 ≤ numS s.v x.i ∧ numS s.v x.i ≤ 7); rw [HN.out]; exact hr)
      have HX := Lib.hid h2
      clear h2
      go_wp2_with fail
      go_ret
      exact ⟨2, s.more, E, ce, rfl, HX.out, g.more hn, F2, Nat.le_succ _, ends_stop (show x.k ≠ 1 by omega) hn hst (by decide)⟩
set_option maxRecDepth 100000 in
set_option maxHeartbeats 1000000 in
theorem run_ass (hk : x.k = 6) (As : Option Addr) (ns cs : Nat) (w : World) (hx : stmtB x = true) (hi : InL w base As ns x.s.2) (h : ExM w base gx gv cv gc cc E ce fuel s) (g : GoodR fuel s) :
    Calls Tryz.prog 227 #[.agg #[.int .i64 x.s.1, .slice As ns cs], .pointer (some ⟨gx, 0, none⟩)] w (RunQ w base gx gv cv gc cc E fuel (.leaf x) s) := by
  have hb0 := bnew w (.cells #[.int .i64 x.s.1, .slice As ns cs] 138)
  have p0 : (w.alloc (.cells #[.int .i64 x.s.1, .slice As ns cs] 138)).cell? ⟨w.heap.size, 0, none⟩ = some (.int .i64 x.s.1) := by simp
  have p1 : (w.alloc (.cells #[.int .i64 x.s.1, .slice As ns cs] 138)).cell? ⟨w.heap.size, 1, none⟩ = some (.slice As ns cs) := by simp
  have hsz : (w.alloc (.cells #[.int .i64 x.s.1, .slice As ns cs] 138)).heap.size = w.heap.size + 1 := by simp
  have hbase := h.size
  have hnf := g.n
  have hf2 := g.f
  have h0 := h.next hb0
  have hfr := h.fresh (Nat.le_refl _)
  obtain ⟨hkk, hokS, hokI, hokV, hokE⟩ := stmt_ok hx
  have F0 : FarX w (w.alloc (.cells #[.int .i64 x.s.1, .slice As ns cs] 138)) base gx gv gc E E := FarX.of_below hbase hb0
  obtain ⟨n, HN⟩ : ∃ n, Hid (numS s.v x.s = n) := ⟨_, rfl⟩
  by_cases hn : s.n = fuel
  · have C := Lib.hid (step_no _ h0 hn)
    have HX := Lib.hid h0
    clear h h0 hi
    go_enter Tryz.func227, Tryz.ntmps227
    go_wp2_with fail
    refine C.out.mono ?_
    rintro e w1 ⟨rfl, hb1⟩
    go_wp2_with fail
    go_ret
    exact ⟨1, s, E, ce, rfl, HX.out.next hb1, g, F0.trans (FarX.of_below (by omega) hb1), Nat.le_refl _, ends_fuel (show x.k ≠ 1 by omega) hn⟩
  · have C := Lib.hid (step_yes _ h0 (by omega) hf2)
    have hiB := hi
    have h1g := g.g.more
    clear h h0 hi
    go_enter Tryz.func227, Tryz.ntmps227
    go_wp2_with fail
    generalize w.alloc (.cells #[.int .i64 x.s.1, .slice As ns cs] 138) = W at hb0 p0 p1 hsz F0 C ⊢
    refine C.out.mono ?_
    rintro e w1 ⟨rfl, h1, F1⟩
    have hz1 := F1.below.size
    replace p0 := F1.cell p0 hfr.1 hfr.2.1 hfr.2.2.1 hfr.2.2.2
    replace p1 := F1.cell p1 hfr.1 hfr.2.1 hfr.2.2.1 hfr.2.2.2
    have HI1 := (hiB.next (F0.below.trans F1.below) (Nat.le_refl _)).more h1.size
    have C := number_c x.s.1 As ns cs x.s.2 w1 h1 h1g HI1 hokS.1 hokS.2
    rw [show numS s.more.v (x.s.1, x.s.2) = n from HN.out] at C
    have CH := Lib.hid C
    have HX := Lib.hid h1
    clear C h1
    go_wp2_with fail
    refine CH.out.mono ?_
    rintro e w2 ⟨rfl, hb2⟩
    have FF := (F0.trans F1).trans (FarX.of_below (by exact HX.out.size) hb2)
    by_cases hr : n < 0
    · have hst := stepS_assr (s := s.more) hk (by show numS s.v x.s < 0; rw [HN.out]; exact hr)
      go_wp2_with fail
      go_ret
      exact ⟨3, s.more, E, ce, rfl, HX.out.next hb2, g.more hn, FF, Nat.le_succ _, ends_stop (show x.k ≠ 1 by omega) hn hst (by decide)⟩
    · have hst := stepS_ass (s := s.more) hk (by show 0 ≤ numS s.v x.s; rw [HN.out]; omega)
      go_wp2_with fail
      go_ret
      exact ⟨0, s.more, E, ce, rfl, HX.out.next hb2, g.more hn, FF, Nat.le_succ _, ends_leaf_no (by omega) (by omega) hn hst⟩
set_option maxRecDepth 100000 in
set_option maxHeartbeats 1000000 in
theorem run_put (hk : x.k = 4) (As : Option Addr) (ns cs : Nat) (Ai : Option Addr) (ni ci : Nat) (w : World) (hx : stmtB x = true) (hi : InL w w.heap.size As ns x.s.2) (hj : InL w w.heap.size Ai ni x.i.2) (h : ExM w base gx gv cv gc cc E ce fuel s) (g : GoodR fuel s) :
    Calls Tryz.prog 219 #[.agg #[.int .i64 x.i.1, .slice Ai ni ci, .int .i64 x.s.1, .slice As ns cs], .pointer (some ⟨gx, 0, none⟩)] w (RunQ w base gx gv cv gc cc E fuel (.leaf x) s) := by
  have hb0 := bnew w (.cells #[.int .i64 x.i.1, .slice Ai ni ci, .int .i64 x.s.1, .slice As ns cs] 134)
  have p0 : (w.alloc (.cells #[.int .i64 x.i.1, .slice Ai ni ci, .int .i64 x.s.1, .slice As ns cs] 134)).cell? ⟨w.heap.size, 0, none⟩ = some (.int .i64 x.i.1) := by simp
  have p1 : (w.alloc (.cells #[.int .i64 x.i.1, .slice Ai ni ci, .int .i64 x.s.1, .slice As ns cs] 134)).cell? ⟨w.heap.size, 1, none⟩ = some (.slice Ai ni ci) := by simp
  have p2 : (w.alloc (.cells #[.int .i64 x.i.1, .slice Ai ni ci, .int .i64 x.s.1, .slice As ns cs] 134)).cell? ⟨w.heap.size, 2, none⟩ = some (.int .i64 x.s.1) := by simp
  have p3 : (w.alloc (.cells #[.int .i64 x.i.1, .slice Ai ni ci, .int .i64 x.s.1, .slice As ns cs] 134)).cell? ⟨w.heap.size, 3, none⟩ = some (.slice As ns cs) := by simp
  have hsz : (w.alloc (.cells #[.int .i64 x.i.1, .slice Ai ni ci, .int .i64 x.s.1, .slice As ns cs] 134)).heap.size = w.heap.size + 1 := by simp
  have hbase := h.size
  have hnf := g.n
  have hf2 := g.f
  have h0 := h.next hb0
  have hfr := h.fresh (Nat.le_refl _)
  obtain ⟨hkk, hokS, hokI, hokV, hokE⟩ := stmt_ok hx
  have F0 : FarX w (w.alloc (.cells #[.int .i64 x.i.1, .slice Ai ni ci, .int .i64 x.s.1, .slice As ns cs] 134)) base gx gv gc E E := FarX.of_below hbase hb0
  obtain ⟨n, HN⟩ : ∃ n, Hid (numS s.v x.s = n) := ⟨_, rfl⟩
  obtain ⟨a, HA⟩ : ∃ n, Hid (numS s.v x.i = n) := ⟨_, rfl⟩
  have HCI : Hid (∀ X, Below (w.alloc (.cells #[.int .i64 x.i.1, .slice Ai ni ci, .int .i64 x.s.1, .slice As ns cs] 134)).drew.heap.size (w.alloc (.cells #[.int .i64 x.i.1, .slice Ai ni ci, .int .i64 x.s.1, .slice As ns cs] 134)).drew X → Calls Tryz.prog 210 #[.pointer (some ⟨gx, 0, none⟩), .agg #[.int .i64 x.i.1, .slice Ai ni ci]] X fun e w' => e = .returned (.int .i64 a) ∧ Below X.heap.size X w') := fun X hX => by
    have C := number_c x.i.1 Ai ni ci x.i.2 X (h0.next (bstep hX)) g.g ((hj.next (hb0.trans ((bstep hX).mono hb0.size)) (Nat.le_refl _)).more (by have := (bstep hX).size; have := hb0.size; omega)) hokI.1 hokI.2
    rw [show numS s.v (x.i.1, x.i.2) = a from HA.out] at C
    exact C
  have HCS : Hid (∀ X, Below (w.alloc (.cells #[.int .i64 x.i.1, .slice Ai ni ci, .int .i64 x.s.1, .slice As ns cs] 134)).drew.heap.size (w.alloc (.cells #[.int .i64 x.i.1, .slice Ai ni ci, .int .i64 x.s.1, .slice As ns cs] 134)).drew X → Calls Tryz.prog 210 #[.pointer (some ⟨gx, 0, none⟩), .agg #[.int .i64 x.s.1, .slice As ns cs]] X fun e w' => e = .returned (.int .i64 n) ∧ Below X.heap.size X w') := fun X hX => by
    have C := number_c x.s.1 As ns cs x.s.2 X (h0.next (bstep hX)) g.g ((hi.next (hb0.trans ((bstep hX).mono hb0.size)) (Nat.le_refl _)).more (by have := (bstep hX).size; have := hb0.size; omega)) hokS.1 hokS.2
    rw [show numS s.v (x.s.1, x.s.2) = n from HN.out] at C
    exact C
  have HX := Lib.hid h0
  clear h h0 hi hj hx
  go_enter Tryz.func219, Tryz.ntmps219
  go_wp2_with fail
  generalize w.alloc (.cells #[.int .i64 x.i.1, .slice Ai ni ci, .int .i64 x.s.1, .slice As ns cs] 134) = W at hb0 p0 p1 p2 p3 hsz F0 HCI HCS HX ⊢
  go_region_held3 (fun w' => w'.cell? ⟨w.heap.size, 0, none⟩ = some (.int .i64 x.i.1) ∧ w'.cell? ⟨w.heap.size, 1, none⟩ = some (.slice Ai ni ci) ∧ w'.cell? ⟨w.heap.size, 2, none⟩ = some (.int .i64 x.s.1) ∧ w'.cell? ⟨w.heap.size, 3, none⟩ = some (.slice As ns cs))
    (first | go_keep | exact ⟨cell_on p0 hbi, cell_on p1 hbi, cell_on p2 hbi, cell_on p3 hbi⟩ | exact ⟨cell_on2 p0 hbi hbs, cell_on2 p1 hbi hbs, cell_on2 p2 hbi hbs, cell_on2 p3 hbi hbs⟩ | fail)
    (first | (go_at_call_of 210 Ai; refine (HCI.out _ (Below.refl _ _)).mono ?_; rintro e v1 ⟨rfl, hbi⟩) | (go_at_call_of 210 As; refine (HCS.out _ hbi).mono ?_; rintro e w1 ⟨rfl, hbs⟩) | fail)
  have hb1 := bon (bstep hbi) hbs
  have hz1 := hb1.size
  have h1 := HX.out.next hb1
  have F1 := F0.trans (FarX.of_below (by omega) hb1)
  clear HX HCI HCS p0 p1 p2 p3
  go_wp2_with fail
  by_cases hn : s.n = fuel
  · have C := Lib.hid (step_no w1 h1 hn)
    have HX := Lib.hid h1
    clear h1
    go_wp2_with fail
    refine C.out.mono ?_
    rintro e w2 ⟨rfl, hb2⟩
    go_wp2_with fail
    go_ret
    exact ⟨1, s, E, ce, rfl, HX.out.next hb2, g, F1.trans (FarX.of_below (by omega) hb2), Nat.le_refl _, ends_fuel (show x.k ≠ 1 by omega) hn⟩
  · have C := Lib.hid (step_yes w1 h1 (by omega) hf2)
    clear h1
    refine C.out.mono ?_
    rintro e w2 ⟨rfl, h2, F2⟩
    replace F2 := F1.trans F2
    clear C F0 F1
    go_wp2_with fail
    refine (isCell_c a w2).mono ?_
    rintro e w3 ⟨rfl, rfl⟩
    by_cases hr : 0 ≤ a ∧ a ≤ 7
    · obtain ⟨i, rfl⟩ : ∃ i : Nat, a = (i : Int) := ⟨a.toNat, by omega⟩
      have hi8 : i < 8 := by omega
      have e1 : decide (0 ≤ (i : Int)) = true := decide_eq_true hr.1
      have e2 : decide ((i : Int) ≤ 7) = true := decide_eq_true hr.2
      have HI8 : Hid (0 ≤ numS s.more.v x.i ∧ numS s.more.v x.i ≤ 7) := by show 0 ≤ numS s.v x.i ∧ numS s.v x.i ≤ 7; rw [HA.out]; exact hr
      go_wp2_with fail
      refine (isInt_c n w2).mono ?_
      rintro e w3 ⟨rfl, rfl⟩
      by_cases hq : -1000000000 ≤ n ∧ n ≤ 1000000000
      · have e3 : decide (-1000000000 ≤ n) = true := decide_eq_true hq.1
        have e4 : decide (n ≤ 1000000000) = true := decide_eq_true hq.2
        have q0 : w2.cell? ⟨gx, 1, none⟩ = some (.slice (some ⟨gc, 0, none⟩) 8 cc) := h2.blk.cell 1
        have q1 := h2.c.cellE (i := i) hi8
        have q2 := h2.c.frozenE i
        have hst := stepS_put (s := s.more) hk HI8.out (by show -1000000000 ≤ numS s.v x.s ∧ numS s.v x.s ≤ 1000000000; rw [HN.out]; exact hq)
        rw [show numS s.more.v x.i = (i : Int) from HA.out, show numS s.more.v x.s = n from HN.out] at hst
        have HV := Lib.hid (h2.cells (i := i) hi8 n)
        have FS := Lib.hid (F2.trans (FarX.set (i := i) (v := .int .i64 n) (E := E) (by exact h2.size) (.inr (.inr rfl)) h2.bc))
        have HST := Lib.hid hst
        clear h2 F2 hst
        go_wp2_with fail
        go_ret
        exact ⟨0, _, E, ce, rfl, HV.out, g.step hn HST.out, FS.out, Nat.le_succ _, ends_leaf_no (by omega) (by omega) hn HST.out⟩
      · have e3 : (decide (-1000000000 ≤ n) && decide (n ≤ 1000000000)) = false := by simp; omega
        rw [e3]
        have hst := stepS_putr (s := s.more) hk HI8.out (by show ¬ (-1000000000 ≤ numS s.v x.s ∧ numS s.v x.s ≤ 1000000000); rw [HN.out]; exact hq)
        have HX := Lib.hid h2
        clear h2
        go_wp2_with fail
        go_ret
        exact ⟨4, s.more, E, ce, rfl, HX.out, g.more hn, F2, Nat.le_succ _, ends_stop (show x.k ≠ 1 by omega) hn hst (by decide)⟩
    · have e1 : (decide (0 ≤ a) && decide (a ≤ 7)) = false := by simp; omega
      rw [e1]
      have hst := stepS_getc (s := s.more) (.inr hk) (by show ¬ (0 ≤ numS s.v x.i ∧ numS s.v x.i ≤ 7); rw [HA.out]; exact hr)
      have HX := Lib.hid h2
      clear h2
      go_wp2_with fail
      go_ret
      exact ⟨2, s.more, E, ce, rfl, HX.out, g.more hn, F2, Nat.le_succ _, ends_stop (show x.k ≠ 1 by omega) hn hst (by decide)⟩
end
end Go.Proofs.YtajmbnimdngjhaaGreatDoor
