/-
  The model's step of an element. Conditions: a valid element, a run as MdM tells it.
-/
import Derived.Test.YtajmbnimdngjhaaGreatDoorMd
import Derived.Test.YtajmbnimdngjhaaGreatDoorExeR
namespace Go.Proofs.YtajmbnimdngjhaaGreatDoor
set_option linter.unusedVariables false
open Go.RowKit

theorem MdM.drew {w : World} {base sb gv cv gc cc ge ce gw cw : Nat} {s : RS} {ws : List Nat} (h : MdM w base sb gv cv gc cc ge ce gw cw s ws) : MdM w.drew base sb gv cv gc cc ge ce gw cw s ws := ⟨h.blk, h.v, h.c, h.e, h.k, h.bs, h.bv, h.bc, h.d⟩
theorem MdM.drewN {w : World} {base sb gv cv gc cc ge ce gw cw : Nat} {s : RS} {ws : List Nat} (h : MdM w base sb gv cv gc cc ge ce gw cw s ws) (d : Nat) : MdM (w.drewN d) base sb gv cv gc cc ge ce gw cw s ws := ⟨h.blk, h.v, h.c, h.e, h.k, h.bs, h.bv, h.bc, h.d⟩
theorem below_drewN {w : World} {B : Nat} (d : Nat) : Below B w (w.drewN d) := ⟨rfl, rfl, rfl, Nat.le_refl _, fun _ _ => rfl⟩
theorem StAt.drewN {w : World} {B b o : Nat} {x : S8} (h : StAt w B b o x) (d : Nat) : StAt (w.drewN d) B b o x := h
section
variable {x : S8} {s : RS} {base sb gv cv gc cc ge ce gw cw B b o : Nat} {ws : List Nat}
/-- What the step of an element leaves. -/
def StepQ (w : World) (base sb gv cv gc cc ge ce gw cw : Nat) (x : S8) (s : RS) (ws : List Nat) : Ending → World → Prop := fun e w' =>
  e = .returned (.int .i64 (stepS x s).1) ∧ MdM w' base sb gv cv gc cc ge ce gw cw (stepS x s).2 ws ∧ Below base w w'
set_option maxRecDepth 100000 in
set_option maxHeartbeats 2000000 in
theorem mstep_0 (hk : x.k = 0) (w : World) (hx : stmtB x = true) (hst : StAt w B b o x) (hbB : b < B) (hB : B ≤ base) (h : MdM w base sb gv cv gc cc ge ce gw cw s ws) (g : GoodS s) :
    Calls Tryz.prog 71 #[.pointer (some ⟨b, o, none⟩), .pointer (some ⟨sb, 0, none⟩)] w (StepQ w base sb gv cv gc cc ge ce gw cw x s ws) := by
  obtain ⟨As, ns, cs, Ai, ni, ci, Af, nf, cf, s0, s1, s2, s3, s4, s5, s6, s7, hS, hI, hF⟩ := hst
  obtain ⟨hkk, hokS, hokI, hokV, hokE⟩ := stmt_ok hx
  obtain ⟨v, hv⟩ : ∃ v : Nat, x.v = (v : Int) := ⟨x.v.toNat, by omega⟩
  have hv4 : v < 4 := by omega
  rw [hk] at s0
  rw [hv] at s1
  have hbs : base ≤ w.heap.size := Nat.le_trans h.bs (Nat.le_of_lt h.lt.1)
  have x0 : w.cell? ⟨sb, 0, none⟩ = some (.slice (some ⟨gv, 0, none⟩) 4 cv) := h.blk.cell 0
  have x1 : w.cell? ⟨sb, 1, none⟩ = some (.slice (some ⟨gc, 0, none⟩) 8 cc) := h.blk.cell 1
  have HEI : Hid (∀ X d, X = w.drewN d → Calls Tryz.prog 72 #[.pointer (some ⟨b, o + 5, none⟩), .pointer (some ⟨sb, 0, none⟩)] X fun e w' => e = .returned (.int .i64 (numS s.v x.i)) ∧ ∃ d, w' = X.drewN d) := fun X d e => by
    subst e
    exact l03Eval_c w.heap.size b (o + 5) x.i sb 0 (some ⟨gv, 0, none⟩) 4 cv s.v (w.drewN d) ⟨Ai, ni, ci, by omega, s5, s6, hI.more (by omega)⟩ x0 h.v.all hokI.1 hokI.2 g.big
  have HES : Hid (∀ X d, X = w.drewN d → Calls Tryz.prog 72 #[.pointer (some ⟨b, o + 3, none⟩), .pointer (some ⟨sb, 0, none⟩)] X fun e w' => e = .returned (.int .i64 (numS s.v x.s)) ∧ ∃ d, w' = X.drewN d) := fun X d e => by
    subst e
    exact l03Eval_c w.heap.size b (o + 3) x.s sb 0 (some ⟨gv, 0, none⟩) 4 cv s.v (w.drewN d) ⟨As, ns, cs, by omega, s3, s4, hS.more (by omega)⟩ x0 h.v.all hokS.1 hokS.2 g.big
  obtain ⟨a, HA⟩ : ∃ n, Hid (numS s.v x.i = n) := ⟨_, rfl⟩
  obtain ⟨n, HN⟩ : ∃ n, Hid (numS s.v x.s = n) := ⟨_, rfl⟩
  rw [HA.out] at HEI
  rw [HN.out] at HES
  have HX := Lib.hid h
  clear h hS hI hF s3 s4 s5 s6 s7
  go_enter Tryz.func71, Tryz.ntmps71
  go_wp2_with fail
  refine (HEI.out w 0 rfl).mono ?_
  rintro e w1 ⟨rfl, d1, rfl⟩
  go_wp2_with fail
  refine (HES.out (w.drewN d1) d1 rfl).mono ?_
  rintro e w2 ⟨rfl, d2, rfl⟩
  clear HEI HES
  have hq : stepS x s = (0, s) := stepS_no (by omega)
  go_wp2_with fail
  go_ret
  exact ⟨by rw [hq]; rfl, by rw [hq]; exact HX.out.drewN (d1 + d2), below_drewN (d1 + d2)⟩
set_option maxRecDepth 100000 in
set_option maxHeartbeats 2000000 in
theorem mstep_1 (hk : x.k = 1) (w : World) (hx : stmtB x = true) (hst : StAt w B b o x) (hbB : b < B) (hB : B ≤ base) (h : MdM w base sb gv cv gc cc ge ce gw cw s ws) (g : GoodS s) :
    Calls Tryz.prog 71 #[.pointer (some ⟨b, o, none⟩), .pointer (some ⟨sb, 0, none⟩)] w (StepQ w base sb gv cv gc cc ge ce gw cw x s ws) := by
  obtain ⟨As, ns, cs, Ai, ni, ci, Af, nf, cf, s0, s1, s2, s3, s4, s5, s6, s7, hS, hI, hF⟩ := hst
  obtain ⟨hkk, hokS, hokI, hokV, hokE⟩ := stmt_ok hx
  obtain ⟨v, hv⟩ : ∃ v : Nat, x.v = (v : Int) := ⟨x.v.toNat, by omega⟩
  have hv4 : v < 4 := by omega
  rw [hk] at s0
  rw [hv] at s1
  have hbs : base ≤ w.heap.size := Nat.le_trans h.bs (Nat.le_of_lt h.lt.1)
  have x0 : w.cell? ⟨sb, 0, none⟩ = some (.slice (some ⟨gv, 0, none⟩) 4 cv) := h.blk.cell 0
  have x1 : w.cell? ⟨sb, 1, none⟩ = some (.slice (some ⟨gc, 0, none⟩) 8 cc) := h.blk.cell 1
  have HEI : Hid (∀ X d, X = w.drewN d → Calls Tryz.prog 72 #[.pointer (some ⟨b, o + 5, none⟩), .pointer (some ⟨sb, 0, none⟩)] X fun e w' => e = .returned (.int .i64 (numS s.v x.i)) ∧ ∃ d, w' = X.drewN d) := fun X d e => by
    subst e
    exact l03Eval_c w.heap.size b (o + 5) x.i sb 0 (some ⟨gv, 0, none⟩) 4 cv s.v (w.drewN d) ⟨Ai, ni, ci, by omega, s5, s6, hI.more (by omega)⟩ x0 h.v.all hokI.1 hokI.2 g.big
  have HES : Hid (∀ X d, X = w.drewN d → Calls Tryz.prog 72 #[.pointer (some ⟨b, o + 3, none⟩), .pointer (some ⟨sb, 0, none⟩)] X fun e w' => e = .returned (.int .i64 (numS s.v x.s)) ∧ ∃ d, w' = X.drewN d) := fun X d e => by
    subst e
    exact l03Eval_c w.heap.size b (o + 3) x.s sb 0 (some ⟨gv, 0, none⟩) 4 cv s.v (w.drewN d) ⟨As, ns, cs, by omega, s3, s4, hS.more (by omega)⟩ x0 h.v.all hokS.1 hokS.2 g.big
  obtain ⟨a, HA⟩ : ∃ n, Hid (numS s.v x.i = n) := ⟨_, rfl⟩
  obtain ⟨n, HN⟩ : ∃ n, Hid (numS s.v x.s = n) := ⟨_, rfl⟩
  rw [HA.out] at HEI
  rw [HN.out] at HES
  have HX := Lib.hid h
  clear h hS hI hF s3 s4 s5 s6 s7
  go_enter Tryz.func71, Tryz.ntmps71
  go_wp2_with fail
  refine (HEI.out w 0 rfl).mono ?_
  rintro e w1 ⟨rfl, d1, rfl⟩
  go_wp2_with fail
  refine (HES.out (w.drewN d1) d1 rfl).mono ?_
  rintro e w2 ⟨rfl, d2, rfl⟩
  clear HEI HES
  have hq : stepS x s = (0, s) := stepS_no (by omega)
  go_wp2_with fail
  go_ret
  exact ⟨by rw [hq]; rfl, by rw [hq]; exact HX.out.drewN (d1 + d2), below_drewN (d1 + d2)⟩
set_option maxRecDepth 100000 in
set_option maxHeartbeats 2000000 in
theorem mstep_2 (hk : x.k = 2) (w : World) (hx : stmtB x = true) (hst : StAt w B b o x) (hbB : b < B) (hB : B ≤ base) (h : MdM w base sb gv cv gc cc ge ce gw cw s ws) (g : GoodS s) :
    Calls Tryz.prog 71 #[.pointer (some ⟨b, o, none⟩), .pointer (some ⟨sb, 0, none⟩)] w (StepQ w base sb gv cv gc cc ge ce gw cw x s ws) := by
  obtain ⟨As, ns, cs, Ai, ni, ci, Af, nf, cf, s0, s1, s2, s3, s4, s5, s6, s7, hS, hI, hF⟩ := hst
  obtain ⟨hkk, hokS, hokI, hokV, hokE⟩ := stmt_ok hx
  obtain ⟨v, hv⟩ : ∃ v : Nat, x.v = (v : Int) := ⟨x.v.toNat, by omega⟩
  have hv4 : v < 4 := by omega
  rw [hk] at s0
  rw [hv] at s1
  have hbs : base ≤ w.heap.size := Nat.le_trans h.bs (Nat.le_of_lt h.lt.1)
  have x0 : w.cell? ⟨sb, 0, none⟩ = some (.slice (some ⟨gv, 0, none⟩) 4 cv) := h.blk.cell 0
  have x1 : w.cell? ⟨sb, 1, none⟩ = some (.slice (some ⟨gc, 0, none⟩) 8 cc) := h.blk.cell 1
  have HEI : Hid (∀ X d, X = w.drewN d → Calls Tryz.prog 72 #[.pointer (some ⟨b, o + 5, none⟩), .pointer (some ⟨sb, 0, none⟩)] X fun e w' => e = .returned (.int .i64 (numS s.v x.i)) ∧ ∃ d, w' = X.drewN d) := fun X d e => by
    subst e
    exact l03Eval_c w.heap.size b (o + 5) x.i sb 0 (some ⟨gv, 0, none⟩) 4 cv s.v (w.drewN d) ⟨Ai, ni, ci, by omega, s5, s6, hI.more (by omega)⟩ x0 h.v.all hokI.1 hokI.2 g.big
  have HES : Hid (∀ X d, X = w.drewN d → Calls Tryz.prog 72 #[.pointer (some ⟨b, o + 3, none⟩), .pointer (some ⟨sb, 0, none⟩)] X fun e w' => e = .returned (.int .i64 (numS s.v x.s)) ∧ ∃ d, w' = X.drewN d) := fun X d e => by
    subst e
    exact l03Eval_c w.heap.size b (o + 3) x.s sb 0 (some ⟨gv, 0, none⟩) 4 cv s.v (w.drewN d) ⟨As, ns, cs, by omega, s3, s4, hS.more (by omega)⟩ x0 h.v.all hokS.1 hokS.2 g.big
  obtain ⟨a, HA⟩ : ∃ n, Hid (numS s.v x.i = n) := ⟨_, rfl⟩
  obtain ⟨n, HN⟩ : ∃ n, Hid (numS s.v x.s = n) := ⟨_, rfl⟩
  rw [HA.out] at HEI
  rw [HN.out] at HES
  have HX := Lib.hid h
  clear h hS hI hF s3 s4 s5 s6 s7
  go_enter Tryz.func71, Tryz.ntmps71
  go_wp2_with fail
  refine (HEI.out w 0 rfl).mono ?_
  rintro e w1 ⟨rfl, d1, rfl⟩
  go_wp2_with fail
  refine (HES.out (w.drewN d1) d1 rfl).mono ?_
  rintro e w2 ⟨rfl, d2, rfl⟩
  clear HEI HES
  go_wp2_with fail
  refine (l03Int_s n _).mono ?_
  rintro e w3 ⟨rfl, rfl⟩
  by_cases hr : -1000000000 ≤ n ∧ n ≤ 1000000000
  · have e1 : decide (-1000000000 ≤ n) = true := decide_eq_true hr.1
    have e2 : decide (n ≤ 1000000000) = true := decide_eq_true hr.2
    have hq : stepS x s = (0, { s with v := s.v.set v n }) := by have := stepS_set (s := s) hk (by rw [HN.out]; exact hr); rw [HN.out, hv] at this; exact this
    have q1 := HX.out.v.cellE (i := v) hv4
    have q2 := HX.out.v.frozenE v
    have HV := Lib.hid ((HX.out.drewN (d1 + d2)).vars (i := v) hv4 n)
    have FS : Hid (Below base (w.drewN (d1 + d2)) ((w.drewN (d1 + d2)).setCell ⟨gv, v, none⟩ (.int .i64 n))) := only_below only_set HX.out.bv hbs
    go_wp2_with fail
    go_region
    all_goals (go_wp2_with fail; go_ret; exact ⟨by rw [hq]; rfl, by rw [hq]; exact HV.out.drew, (below_drewN (d1 + d2)).trans FS.out.drew⟩)
  · have e1 : (decide (-1000000000 ≤ n) && decide (n ≤ 1000000000)) = false := by simp; omega
    rw [e1]
    have hq : stepS x s = (4, s) := stepS_setr hk (by rw [HN.out]; exact hr)
    go_wp2_with fail
    go_ret
    exact ⟨by rw [hq]; rfl, by rw [hq]; exact HX.out.drewN (d1 + d2), below_drewN (d1 + d2)⟩
set_option maxRecDepth 100000 in
set_option maxHeartbeats 2000000 in
theorem mstep_3 (hk : x.k = 3) (w : World) (hx : stmtB x = true) (hst : StAt w B b o x) (hbB : b < B) (hB : B ≤ base) (h : MdM w base sb gv cv gc cc ge ce gw cw s ws) (g : GoodS s) :
    Calls Tryz.prog 71 #[.pointer (some ⟨b, o, none⟩), .pointer (some ⟨sb, 0, none⟩)] w (StepQ w base sb gv cv gc cc ge ce gw cw x s ws) := by
  obtain ⟨As, ns, cs, Ai, ni, ci, Af, nf, cf, s0, s1, s2, s3, s4, s5, s6, s7, hS, hI, hF⟩ := hst
  obtain ⟨hkk, hokS, hokI, hokV, hokE⟩ := stmt_ok hx
  obtain ⟨v, hv⟩ : ∃ v : Nat, x.v = (v : Int) := ⟨x.v.toNat, by omega⟩
  have hv4 : v < 4 := by omega
  rw [hk] at s0
  rw [hv] at s1
  have hbs : base ≤ w.heap.size := Nat.le_trans h.bs (Nat.le_of_lt h.lt.1)
  have x0 : w.cell? ⟨sb, 0, none⟩ = some (.slice (some ⟨gv, 0, none⟩) 4 cv) := h.blk.cell 0
  have x1 : w.cell? ⟨sb, 1, none⟩ = some (.slice (some ⟨gc, 0, none⟩) 8 cc) := h.blk.cell 1
  have HEI : Hid (∀ X d, X = w.drewN d → Calls Tryz.prog 72 #[.pointer (some ⟨b, o + 5, none⟩), .pointer (some ⟨sb, 0, none⟩)] X fun e w' => e = .returned (.int .i64 (numS s.v x.i)) ∧ ∃ d, w' = X.drewN d) := fun X d e => by
    subst e
    exact l03Eval_c w.heap.size b (o + 5) x.i sb 0 (some ⟨gv, 0, none⟩) 4 cv s.v (w.drewN d) ⟨Ai, ni, ci, by omega, s5, s6, hI.more (by omega)⟩ x0 h.v.all hokI.1 hokI.2 g.big
  have HES : Hid (∀ X d, X = w.drewN d → Calls Tryz.prog 72 #[.pointer (some ⟨b, o + 3, none⟩), .pointer (some ⟨sb, 0, none⟩)] X fun e w' => e = .returned (.int .i64 (numS s.v x.s)) ∧ ∃ d, w' = X.drewN d) := fun X d e => by
    subst e
    exact l03Eval_c w.heap.size b (o + 3) x.s sb 0 (some ⟨gv, 0, none⟩) 4 cv s.v (w.drewN d) ⟨As, ns, cs, by omega, s3, s4, hS.more (by omega)⟩ x0 h.v.all hokS.1 hokS.2 g.big
  obtain ⟨a, HA⟩ : ∃ n, Hid (numS s.v x.i = n) := ⟨_, rfl⟩
  obtain ⟨n, HN⟩ : ∃ n, Hid (numS s.v x.s = n) := ⟨_, rfl⟩
  rw [HA.out] at HEI
  rw [HN.out] at HES
  have HX := Lib.hid h
  clear h hS hI hF s3 s4 s5 s6 s7
  go_enter Tryz.func71, Tryz.ntmps71
  go_wp2_with fail
  refine (HEI.out w 0 rfl).mono ?_
  rintro e w1 ⟨rfl, d1, rfl⟩
  go_wp2_with fail
  refine (HES.out (w.drewN d1) d1 rfl).mono ?_
  rintro e w2 ⟨rfl, d2, rfl⟩
  clear HEI HES
  go_wp2_with fail
  refine (l03Cell_s a _).mono ?_
  rintro e w3 ⟨rfl, rfl⟩
  by_cases hr : 0 ≤ a ∧ a ≤ 7
  · obtain ⟨i, rfl⟩ : ∃ i : Nat, a = (i : Int) := ⟨a.toNat, by omega⟩
    have hi8 : i < 8 := by omega
    have e1 : decide (0 ≤ (i : Int)) = true := decide_eq_true hr.1
    have e2 : decide ((i : Int) ≤ 7) = true := decide_eq_true hr.2
    obtain ⟨z, HZ⟩ : ∃ z, Hid (s.c.getD i 0 = z) := ⟨_, rfl⟩
    have hq : stepS x s = (0, { s with v := s.v.set v z }) := by have := stepS_get (s := s) hk (by rw [HA.out]; exact hr); rw [HA.out, hv, show s.c.getD ((i : Int)).toNat 0 = z from HZ.out] at this; exact this
    have q1 := HX.out.v.cellE (i := v) hv4
    have q2 := HX.out.v.frozenE v
    have q3 := HX.out.c.cellE (i := i) hi8
    rw [HZ.out] at q3
    have HV := Lib.hid ((HX.out.drewN (d1 + d2)).vars (i := v) hv4 z)
    have FS : Hid (Below base (w.drewN (d1 + d2)) ((w.drewN (d1 + d2)).setCell ⟨gv, v, none⟩ (.int .i64 z))) := only_below only_set HX.out.bv hbs
    go_wp2_with fail
    go_region
    all_goals (go_wp2_with fail; go_ret; exact ⟨by rw [hq]; rfl, by rw [hq]; exact HV.out.drew, (below_drewN (d1 + d2)).trans FS.out.drew⟩)
  · have e1 : (decide (0 ≤ a) && decide (a ≤ 7)) = false := by simp; omega
    rw [e1]
    have hq : stepS x s = (2, s) := stepS_getc (.inl hk) (by rw [HA.out]; exact hr)
    go_wp2_with fail
    go_ret
    exact ⟨by rw [hq]; rfl, by rw [hq]; exact HX.out.drewN (d1 + d2), below_drewN (d1 + d2)⟩
set_option maxRecDepth 100000 in
set_option maxHeartbeats 2000000 in
theorem mstep_4 (hk : x.k = 4) (w : World) (hx : stmtB x = true) (hst : StAt w B b o x) (hbB : b < B) (hB : B ≤ base) (h : MdM w base sb gv cv gc cc ge ce gw cw s ws) (g : GoodS s) :
    Calls Tryz.prog 71 #[.pointer (some ⟨b, o, none⟩), .pointer (some ⟨sb, 0, none⟩)] w (StepQ w base sb gv cv gc cc ge ce gw cw x s ws) := by
  obtain ⟨As, ns, cs, Ai, ni, ci, Af, nf, cf, s0, s1, s2, s3, s4, s5, s6, s7, hS, hI, hF⟩ := hst
  obtain ⟨hkk, hokS, hokI, hokV, hokE⟩ := stmt_ok hx
  obtain ⟨v, hv⟩ : ∃ v : Nat, x.v = (v : Int) := ⟨x.v.toNat, by omega⟩
  have hv4 : v < 4 := by omega
  rw [hk] at s0
  rw [hv] at s1
  have hbs : base ≤ w.heap.size := Nat.le_trans h.bs (Nat.le_of_lt h.lt.1)
  have x0 : w.cell? ⟨sb, 0, none⟩ = some (.slice (some ⟨gv, 0, none⟩) 4 cv) := h.blk.cell 0
  have x1 : w.cell? ⟨sb, 1, none⟩ = some (.slice (some ⟨gc, 0, none⟩) 8 cc) := h.blk.cell 1
  have HEI : Hid (∀ X d, X = w.drewN d → Calls Tryz.prog 72 #[.pointer (some ⟨b, o + 5, none⟩), .pointer (some ⟨sb, 0, none⟩)] X fun e w' => e = .returned (.int .i64 (numS s.v x.i)) ∧ ∃ d, w' = X.drewN d) := fun X d e => by
    subst e
    exact l03Eval_c w.heap.size b (o + 5) x.i sb 0 (some ⟨gv, 0, none⟩) 4 cv s.v (w.drewN d) ⟨Ai, ni, ci, by omega, s5, s6, hI.more (by omega)⟩ x0 h.v.all hokI.1 hokI.2 g.big
  have HES : Hid (∀ X d, X = w.drewN d → Calls Tryz.prog 72 #[.pointer (some ⟨b, o + 3, none⟩), .pointer (some ⟨sb, 0, none⟩)] X fun e w' => e = .returned (.int .i64 (numS s.v x.s)) ∧ ∃ d, w' = X.drewN d) := fun X d e => by
    subst e
    exact l03Eval_c w.heap.size b (o + 3) x.s sb 0 (some ⟨gv, 0, none⟩) 4 cv s.v (w.drewN d) ⟨As, ns, cs, by omega, s3, s4, hS.more (by omega)⟩ x0 h.v.all hokS.1 hokS.2 g.big
  obtain ⟨a, HA⟩ : ∃ n, Hid (numS s.v x.i = n) := ⟨_, rfl⟩
  obtain ⟨n, HN⟩ : ∃ n, Hid (numS s.v x.s = n) := ⟨_, rfl⟩
  rw [HA.out] at HEI
  rw [HN.out] at HES
  have HX := Lib.hid h
  clear h hS hI hF s3 s4 s5 s6 s7
  go_enter Tryz.func71, Tryz.ntmps71
  go_wp2_with fail
  refine (HEI.out w 0 rfl).mono ?_
  rintro e w1 ⟨rfl, d1, rfl⟩
  go_wp2_with fail
  refine (HES.out (w.drewN d1) d1 rfl).mono ?_
  rintro e w2 ⟨rfl, d2, rfl⟩
  clear HEI HES
  go_wp2_with fail
  refine (l03Cell_s a _).mono ?_
  rintro e w3 ⟨rfl, rfl⟩
  by_cases hr : 0 ≤ a ∧ a ≤ 7
  · obtain ⟨i, rfl⟩ : ∃ i : Nat, a = (i : Int) := ⟨a.toNat, by omega⟩
    have hi8 : i < 8 := by omega
    have e1 : decide (0 ≤ (i : Int)) = true := decide_eq_true hr.1
    have e2 : decide ((i : Int) ≤ 7) = true := decide_eq_true hr.2
    go_wp2_with fail
    refine (l03Int_s n _).mono ?_
    rintro e w3 ⟨rfl, rfl⟩
    by_cases hq0 : -1000000000 ≤ n ∧ n ≤ 1000000000
    · have e3 : decide (-1000000000 ≤ n) = true := decide_eq_true hq0.1
      have e4 : decide (n ≤ 1000000000) = true := decide_eq_true hq0.2
      have hq : stepS x s = (0, { s with c := s.c.set i n }) := by have := stepS_put (s := s) hk (by rw [HA.out]; exact hr) (by rw [HN.out]; exact hq0); rw [HA.out, HN.out] at this; exact this
      have q1 := HX.out.c.cellE (i := i) hi8
      have q2 := HX.out.c.frozenE i
      have HV := Lib.hid ((HX.out.drewN (d1 + d2)).cells (i := i) hi8 n)
      have FS : Hid (Below base (w.drewN (d1 + d2)) ((w.drewN (d1 + d2)).setCell ⟨gc, i, none⟩ (.int .i64 n))) := only_below only_set HX.out.bc hbs
      go_wp2_with fail
      go_ret
      exact ⟨by rw [hq]; rfl, by rw [hq]; exact HV.out, (below_drewN (d1 + d2)).trans FS.out⟩
    · have e3 : (decide (-1000000000 ≤ n) && decide (n ≤ 1000000000)) = false := by simp; omega
      rw [e3]
      have hq : stepS x s = (4, s) := stepS_putr hk (by rw [HA.out]; exact hr) (by rw [HN.out]; exact hq0)
      go_wp2_with fail
      go_ret
      exact ⟨by rw [hq]; rfl, by rw [hq]; exact HX.out.drewN (d1 + d2), below_drewN (d1 + d2)⟩
  · have e1 : (decide (0 ≤ a) && decide (a ≤ 7)) = false := by simp; omega
    rw [e1]
    have hq : stepS x s = (2, s) := stepS_getc (.inr hk) (by rw [HA.out]; exact hr)
    go_wp2_with fail
    go_ret
    exact ⟨by rw [hq]; rfl, by rw [hq]; exact HX.out.drewN (d1 + d2), below_drewN (d1 + d2)⟩
set_option maxRecDepth 100000 in
set_option maxHeartbeats 2000000 in
theorem mstep_5 (hk : x.k = 5) (w : World) (hx : stmtB x = true) (hst : StAt w B b o x) (hbB : b < B) (hB : B ≤ base) (h : MdM w base sb gv cv gc cc ge ce gw cw s ws) (g : GoodS s) :
    Calls Tryz.prog 71 #[.pointer (some ⟨b, o, none⟩), .pointer (some ⟨sb, 0, none⟩)] w (StepQ w base sb gv cv gc cc ge ce gw cw x s ws) := by
  obtain ⟨As, ns, cs, Ai, ni, ci, Af, nf, cf, s0, s1, s2, s3, s4, s5, s6, s7, hS, hI, hF⟩ := hst
  obtain ⟨hkk, hokS, hokI, hokV, hokE⟩ := stmt_ok hx
  obtain ⟨v, hv⟩ : ∃ v : Nat, x.v = (v : Int) := ⟨x.v.toNat, by omega⟩
  have hv4 : v < 4 := by omega
  rw [hk] at s0
  rw [hv] at s1
  have hbs : base ≤ w.heap.size := Nat.le_trans h.bs (Nat.le_of_lt h.lt.1)
  have x0 : w.cell? ⟨sb, 0, none⟩ = some (.slice (some ⟨gv, 0, none⟩) 4 cv) := h.blk.cell 0
  have x1 : w.cell? ⟨sb, 1, none⟩ = some (.slice (some ⟨gc, 0, none⟩) 8 cc) := h.blk.cell 1
  have HEI : Hid (∀ X d, X = w.drewN d → Calls Tryz.prog 72 #[.pointer (some ⟨b, o + 5, none⟩), .pointer (some ⟨sb, 0, none⟩)] X fun e w' => e = .returned (.int .i64 (numS s.v x.i)) ∧ ∃ d, w' = X.drewN d) := fun X d e => by
    subst e
    exact l03Eval_c w.heap.size b (o + 5) x.i sb 0 (some ⟨gv, 0, none⟩) 4 cv s.v (w.drewN d) ⟨Ai, ni, ci, by omega, s5, s6, hI.more (by omega)⟩ x0 h.v.all hokI.1 hokI.2 g.big
  have HES : Hid (∀ X d, X = w.drewN d → Calls Tryz.prog 72 #[.pointer (some ⟨b, o + 3, none⟩), .pointer (some ⟨sb, 0, none⟩)] X fun e w' => e = .returned (.int .i64 (numS s.v x.s)) ∧ ∃ d, w' = X.drewN d) := fun X d e => by
    subst e
    exact l03Eval_c w.heap.size b (o + 3) x.s sb 0 (some ⟨gv, 0, none⟩) 4 cv s.v (w.drewN d) ⟨As, ns, cs, by omega, s3, s4, hS.more (by omega)⟩ x0 h.v.all hokS.1 hokS.2 g.big
  obtain ⟨a, HA⟩ : ∃ n, Hid (numS s.v x.i = n) := ⟨_, rfl⟩
  obtain ⟨n, HN⟩ : ∃ n, Hid (numS s.v x.s = n) := ⟨_, rfl⟩
  rw [HA.out] at HEI
  rw [HN.out] at HES
  have HX := Lib.hid h
  clear h hS hI hF s3 s4 s5 s6 s7
  go_enter Tryz.func71, Tryz.ntmps71
  go_wp2_with fail
  refine (HEI.out w 0 rfl).mono ?_
  rintro e w1 ⟨rfl, d1, rfl⟩
  go_wp2_with fail
  refine (HES.out (w.drewN d1) d1 rfl).mono ?_
  rintro e w2 ⟨rfl, d2, rfl⟩
  clear HEI HES
  have hq : stepS x s = (0, s) := stepS_no (by omega)
  go_wp2_with fail
  go_ret
  exact ⟨by rw [hq]; rfl, by rw [hq]; exact HX.out.drewN (d1 + d2), below_drewN (d1 + d2)⟩
set_option maxRecDepth 100000 in
set_option maxHeartbeats 2000000 in
theorem mstep_6 (hk : x.k = 6) (w : World) (hx : stmtB x = true) (hst : StAt w B b o x) (hbB : b < B) (hB : B ≤ base) (h : MdM w base sb gv cv gc cc ge ce gw cw s ws) (g : GoodS s) :
    Calls Tryz.prog 71 #[.pointer (some ⟨b, o, none⟩), .pointer (some ⟨sb, 0, none⟩)] w (StepQ w base sb gv cv gc cc ge ce gw cw x s ws) := by
  obtain ⟨As, ns, cs, Ai, ni, ci, Af, nf, cf, s0, s1, s2, s3, s4, s5, s6, s7, hS, hI, hF⟩ := hst
  obtain ⟨hkk, hokS, hokI, hokV, hokE⟩ := stmt_ok hx
  obtain ⟨v, hv⟩ : ∃ v : Nat, x.v = (v : Int) := ⟨x.v.toNat, by omega⟩
  have hv4 : v < 4 := by omega
  rw [hk] at s0
  rw [hv] at s1
  have hbs : base ≤ w.heap.size := Nat.le_trans h.bs (Nat.le_of_lt h.lt.1)
  have x0 : w.cell? ⟨sb, 0, none⟩ = some (.slice (some ⟨gv, 0, none⟩) 4 cv) := h.blk.cell 0
  have x1 : w.cell? ⟨sb, 1, none⟩ = some (.slice (some ⟨gc, 0, none⟩) 8 cc) := h.blk.cell 1
  have HEI : Hid (∀ X d, X = w.drewN d → Calls Tryz.prog 72 #[.pointer (some ⟨b, o + 5, none⟩), .pointer (some ⟨sb, 0, none⟩)] X fun e w' => e = .returned (.int .i64 (numS s.v x.i)) ∧ ∃ d, w' = X.drewN d) := fun X d e => by
    subst e
    exact l03Eval_c w.heap.size b (o + 5) x.i sb 0 (some ⟨gv, 0, none⟩) 4 cv s.v (w.drewN d) ⟨Ai, ni, ci, by omega, s5, s6, hI.more (by omega)⟩ x0 h.v.all hokI.1 hokI.2 g.big
  have HES : Hid (∀ X d, X = w.drewN d → Calls Tryz.prog 72 #[.pointer (some ⟨b, o + 3, none⟩), .pointer (some ⟨sb, 0, none⟩)] X fun e w' => e = .returned (.int .i64 (numS s.v x.s)) ∧ ∃ d, w' = X.drewN d) := fun X d e => by
    subst e
    exact l03Eval_c w.heap.size b (o + 3) x.s sb 0 (some ⟨gv, 0, none⟩) 4 cv s.v (w.drewN d) ⟨As, ns, cs, by omega, s3, s4, hS.more (by omega)⟩ x0 h.v.all hokS.1 hokS.2 g.big
  obtain ⟨a, HA⟩ : ∃ n, Hid (numS s.v x.i = n) := ⟨_, rfl⟩
  obtain ⟨n, HN⟩ : ∃ n, Hid (numS s.v x.s = n) := ⟨_, rfl⟩
  rw [HA.out] at HEI
  rw [HN.out] at HES
  have HX := Lib.hid h
  clear h hS hI hF s3 s4 s5 s6 s7
  go_enter Tryz.func71, Tryz.ntmps71
  go_wp2_with fail
  refine (HEI.out w 0 rfl).mono ?_
  rintro e w1 ⟨rfl, d1, rfl⟩
  go_wp2_with fail
  refine (HES.out (w.drewN d1) d1 rfl).mono ?_
  rintro e w2 ⟨rfl, d2, rfl⟩
  clear HEI HES
  by_cases hr : n < 0
  · have hq : stepS x s = (3, s) := stepS_assr hk (by rw [HN.out]; exact hr)
    go_wp2_with fail
    go_ret
    exact ⟨by rw [hq]; rfl, by rw [hq]; exact HX.out.drewN (d1 + d2), below_drewN (d1 + d2)⟩
  · have hq : stepS x s = (0, s) := stepS_ass hk (by rw [HN.out]; omega)
    go_wp2_with fail
    go_ret
    exact ⟨by rw [hq]; rfl, by rw [hq]; exact HX.out.drewN (d1 + d2), below_drewN (d1 + d2)⟩
set_option maxRecDepth 100000 in
set_option maxHeartbeats 2000000 in
theorem mstep_7 (hk : x.k = 7) (w : World) (hx : stmtB x = true) (hst : StAt w B b o x) (hbB : b < B) (hB : B ≤ base) (h : MdM w base sb gv cv gc cc ge ce gw cw s ws) (g : GoodS s) :
    Calls Tryz.prog 71 #[.pointer (some ⟨b, o, none⟩), .pointer (some ⟨sb, 0, none⟩)] w (StepQ w base sb gv cv gc cc ge ce gw cw x s ws) := by
  obtain ⟨As, ns, cs, Ai, ni, ci, Af, nf, cf, s0, s1, s2, s3, s4, s5, s6, s7, hS, hI, hF⟩ := hst
  obtain ⟨hkk, hokS, hokI, hokV, hokE⟩ := stmt_ok hx
  obtain ⟨v, hv⟩ : ∃ v : Nat, x.v = (v : Int) := ⟨x.v.toNat, by omega⟩
  have hv4 : v < 4 := by omega
  rw [hk] at s0
  rw [hv] at s1
  have hbs : base ≤ w.heap.size := Nat.le_trans h.bs (Nat.le_of_lt h.lt.1)
  have x0 : w.cell? ⟨sb, 0, none⟩ = some (.slice (some ⟨gv, 0, none⟩) 4 cv) := h.blk.cell 0
  have x1 : w.cell? ⟨sb, 1, none⟩ = some (.slice (some ⟨gc, 0, none⟩) 8 cc) := h.blk.cell 1
  have HEI : Hid (∀ X d, X = w.drewN d → Calls Tryz.prog 72 #[.pointer (some ⟨b, o + 5, none⟩), .pointer (some ⟨sb, 0, none⟩)] X fun e w' => e = .returned (.int .i64 (numS s.v x.i)) ∧ ∃ d, w' = X.drewN d) := fun X d e => by
    subst e
    exact l03Eval_c w.heap.size b (o + 5) x.i sb 0 (some ⟨gv, 0, none⟩) 4 cv s.v (w.drewN d) ⟨Ai, ni, ci, by omega, s5, s6, hI.more (by omega)⟩ x0 h.v.all hokI.1 hokI.2 g.big
  have HES : Hid (∀ X d, X = w.drewN d → Calls Tryz.prog 72 #[.pointer (some ⟨b, o + 3, none⟩), .pointer (some ⟨sb, 0, none⟩)] X fun e w' => e = .returned (.int .i64 (numS s.v x.s)) ∧ ∃ d, w' = X.drewN d) := fun X d e => by
    subst e
    exact l03Eval_c w.heap.size b (o + 3) x.s sb 0 (some ⟨gv, 0, none⟩) 4 cv s.v (w.drewN d) ⟨As, ns, cs, by omega, s3, s4, hS.more (by omega)⟩ x0 h.v.all hokS.1 hokS.2 g.big
  obtain ⟨a, HA⟩ : ∃ n, Hid (numS s.v x.i = n) := ⟨_, rfl⟩
  obtain ⟨n, HN⟩ : ∃ n, Hid (numS s.v x.s = n) := ⟨_, rfl⟩
  rw [HA.out] at HEI
  rw [HN.out] at HES
  have HX := Lib.hid h
  clear h hS hI hF s3 s4 s5 s6 s7
  go_enter Tryz.func71, Tryz.ntmps71
  go_wp2_with fail
  refine (HEI.out w 0 rfl).mono ?_
  rintro e w1 ⟨rfl, d1, rfl⟩
  go_wp2_with fail
  refine (HES.out (w.drewN d1) d1 rfl).mono ?_
  rintro e w2 ⟨rfl, d2, rfl⟩
  clear HEI HES
  have hq : stepS x s = (0, s) := stepS_no (by omega)
  go_wp2_with fail
  go_ret
  exact ⟨by rw [hq]; rfl, by rw [hq]; exact HX.out.drewN (d1 + d2), below_drewN (d1 + d2)⟩
set_option maxRecDepth 100000 in
set_option maxHeartbeats 2000000 in
theorem mstep_8 (hk : x.k = 8) (w : World) (hx : stmtB x = true) (hst : StAt w B b o x) (hbB : b < B) (hB : B ≤ base) (h : MdM w base sb gv cv gc cc ge ce gw cw s ws) (g : GoodS s) :
    Calls Tryz.prog 71 #[.pointer (some ⟨b, o, none⟩), .pointer (some ⟨sb, 0, none⟩)] w (StepQ w base sb gv cv gc cc ge ce gw cw x s ws) := by
  obtain ⟨As, ns, cs, Ai, ni, ci, Af, nf, cf, s0, s1, s2, s3, s4, s5, s6, s7, hS, hI, hF⟩ := hst
  obtain ⟨hkk, hokS, hokI, hokV, hokE⟩ := stmt_ok hx
  obtain ⟨v, hv⟩ : ∃ v : Nat, x.v = (v : Int) := ⟨x.v.toNat, by omega⟩
  have hv4 : v < 4 := by omega
  rw [hk] at s0
  rw [hv] at s1
  have hbs : base ≤ w.heap.size := Nat.le_trans h.bs (Nat.le_of_lt h.lt.1)
  have x0 : w.cell? ⟨sb, 0, none⟩ = some (.slice (some ⟨gv, 0, none⟩) 4 cv) := h.blk.cell 0
  have x1 : w.cell? ⟨sb, 1, none⟩ = some (.slice (some ⟨gc, 0, none⟩) 8 cc) := h.blk.cell 1
  have HEI : Hid (∀ X d, X = w.drewN d → Calls Tryz.prog 72 #[.pointer (some ⟨b, o + 5, none⟩), .pointer (some ⟨sb, 0, none⟩)] X fun e w' => e = .returned (.int .i64 (numS s.v x.i)) ∧ ∃ d, w' = X.drewN d) := fun X d e => by
    subst e
    exact l03Eval_c w.heap.size b (o + 5) x.i sb 0 (some ⟨gv, 0, none⟩) 4 cv s.v (w.drewN d) ⟨Ai, ni, ci, by omega, s5, s6, hI.more (by omega)⟩ x0 h.v.all hokI.1 hokI.2 g.big
  have HES : Hid (∀ X d, X = w.drewN d → Calls Tryz.prog 72 #[.pointer (some ⟨b, o + 3, none⟩), .pointer (some ⟨sb, 0, none⟩)] X fun e w' => e = .returned (.int .i64 (numS s.v x.s)) ∧ ∃ d, w' = X.drewN d) := fun X d e => by
    subst e
    exact l03Eval_c w.heap.size b (o + 3) x.s sb 0 (some ⟨gv, 0, none⟩) 4 cv s.v (w.drewN d) ⟨As, ns, cs, by omega, s3, s4, hS.more (by omega)⟩ x0 h.v.all hokS.1 hokS.2 g.big
  obtain ⟨a, HA⟩ : ∃ n, Hid (numS s.v x.i = n) := ⟨_, rfl⟩
  obtain ⟨n, HN⟩ : ∃ n, Hid (numS s.v x.s = n) := ⟨_, rfl⟩
  rw [HA.out] at HEI
  rw [HN.out] at HES
  have HX := Lib.hid h
  clear h hS hI hF s3 s4 s5 s6 s7
  go_enter Tryz.func71, Tryz.ntmps71
  go_wp2_with fail
  refine (HEI.out w 0 rfl).mono ?_
  rintro e w1 ⟨rfl, d1, rfl⟩
  go_wp2_with fail
  refine (HES.out (w.drewN d1) d1 rfl).mono ?_
  rintro e w2 ⟨rfl, d2, rfl⟩
  clear HEI HES
  have hq : stepS x s = (0, s) := stepS_no (by omega)
  go_wp2_with fail
  go_ret
  exact ⟨by rw [hq]; rfl, by rw [hq]; exact HX.out.drewN (d1 + d2), below_drewN (d1 + d2)⟩
theorem l03Step_c (w : World) (hx : stmtB x = true) (hst : StAt w B b o x) (hbB : b < B) (hB : B ≤ base) (h : MdM w base sb gv cv gc cc ge ce gw cw s ws) (g : GoodS s) :
    Calls Tryz.prog 71 #[.pointer (some ⟨b, o, none⟩), .pointer (some ⟨sb, 0, none⟩)] w (StepQ w base sb gv cv gc cc ge ce gw cw x s ws) := by
  have hk := (stmt_ok hx).1
  have hc : x.k = 0 ∨ x.k = 1 ∨ x.k = 2 ∨ x.k = 3 ∨ x.k = 4 ∨ x.k = 5 ∨ x.k = 6 ∨ x.k = 7 ∨ x.k = 8 := by omega
  rcases hc with k | k | k | k | k | k | k | k | k
  · exact mstep_0 k w hx hst hbB hB h g
  · exact mstep_1 k w hx hst hbB hB h g
  · exact mstep_2 k w hx hst hbB hB h g
  · exact mstep_3 k w hx hst hbB hB h g
  · exact mstep_4 k w hx hst hbB hB h g
  · exact mstep_5 k w hx hst hbB hB h g
  · exact mstep_6 k w hx hst hbB hB h g
  · exact mstep_7 k w hx hst hbB hB h g
  · exact mstep_8 k w hx hst hbB hB h g
end
end Go.Proofs.YtajmbnimdngjhaaGreatDoor
