/-
  Several texts in one: RunX, MdS, MdR, ExeE, ExeT, StOf, ExeI, StepsOf, RunPrg. Conditions: as each says.
-/
import Derived.Test.YtajmbnimdngjhaaGreatDoorExeR
import Derived.Test.YtajmbnimdngjhaaGreatDoorPgmV
import Derived.Test.YtajmbnimdngjhaaGreatDoorStV
import Derived.Test.YtajmbnimdngjhaaGreatDoorBodyI
import Derived.Test.YtajmbnimdngjhaaGreatDoorMd
import Derived.Test.YtajmbnimdngjhaaGreatDoorExe
import Derived.Test.YtajmbnimdngjhaaGreatDoorStmtO
import Derived.Deep.RegionHeld3
import Derived.Lib.Hide
import Derived.Test.YtajmbnimdngjhaaGreatDoorOwn64

/-! What a run of a program gives: pure. Conditions: none. -/
namespace Go.Proofs.YtajmbnimdngjhaaGreatDoor
set_option linter.unusedVariables false

theorem nextR_good {fuel : Nat} {t : Tr} {s : RS} (h : GoodR fuel s) (hm : s.e.length + 1 ≤ s.n) : GoodR fuel (nextS t s).2 := by
  cases t with
  | leaf x =>
    simp only [nextS]
    split
    · exact ⟨⟨h.g.lv, h.g.lc, h.g.v, h.g.c⟩, by show (s.e ++ [x.e]).length ≤ s.n; rw [List.length_append]; exact hm, h.n, h.f⟩
    · exact h
  | one x a => exact h
  | two x a b => exact h
theorem Go.good {fuel : Nat} {ts : List Tr} {s s' : RS} {o : Int} (h : Go fuel ts s o s') : GoodR fuel s → GoodR fuel s' := by
  induction h with
  | done s => exact id
  | seq _ _ ih => exact ih
  | fuel _ _ => exact id
  | stop hk hn hs ho => exact fun g => g.step hn hs
  | @step t r s s1 s' o hk hn hs _ ih =>
    refine fun g => ih (nextR_good (g.step hn hs) ?_)
    have h3 := stepS_n t.top s.more
    have h4 := stepS_e t.top s.more
    rw [hs] at h3 h4
    have := g.e
    show s1.e.length + 1 ≤ s1.n
    rw [h3, h4]
    show s.e.length + 1 ≤ s.n + 1
    omega
/-- What a run of a program gives: how it ends, its last state, whether the program, the state and the fuel are valid. -/
def RunIs (ts : List (Int × List Int)) (xs : List S8) (us : List (Int × List Int)) (vs zs : List Int) (f : Int) (o : Int) (s : RS) (ok : Bool) : Prop :=
  (progB ts xs us = true ∧ stB vs zs = true ∧ (0 ≤ f ∧ f ≤ 2000) ∧ ok = true ∧ ∃ t, xs = flatT t ∧ WfT t ∧ (∀ x ∈ flatT t, stmtB x = true) ∧ (flatT t).length ≤ 30 ∧ Go f.toNat [t] ⟨vs, zs, [], 0⟩ o s ∧ GoodR f.toNat ⟨vs, zs, [], 0⟩ ∧ GoodR f.toNat s) ∨
  (¬ (progB ts xs us = true ∧ stB vs zs = true ∧ 0 ≤ f ∧ f ≤ 2000) ∧ ok = false ∧ o = 0 ∧ s = ⟨[], [], [], 0⟩)
theorem prog_body {ts us : List (Int × List Int)} {xs : List S8} (h : progB ts xs us = true) : bodyB xs = true := by
  unfold progB at h
  simp only [Bool.and_eq_true] at h
  exact h.1.2
theorem run_exists (ts : List (Int × List Int)) (xs : List S8) (us : List (Int × List Int)) (vs zs : List Int) (f : Int) : ∃ o s ok, RunIs ts xs us vs zs f o s ok := by
  by_cases h : progB ts xs us = true ∧ stB vs zs = true ∧ 0 ≤ f ∧ f ≤ 2000
  · obtain ⟨h1, h2, h3, h4⟩ := h
    obtain ⟨hl, hok, hend⟩ := bodyB_parts (prog_body h1)
    obtain ⟨t, rfl, hw⟩ := body_tree hend
    have hst := h2
    unfold stB at hst
    rw [Bool.and_eq_true] at hst
    have a := numsB_parts hst.1
    have b := numsB_parts hst.2
    have g : GoodR f.toNat ⟨vs, zs, [], 0⟩ := ⟨⟨a.1, b.1, a.2, b.2⟩, Nat.le_refl _, Nat.zero_le _, by omega⟩
    obtain ⟨o, s, hg⟩ := go_exists f.toNat 30 _ [t] ⟨vs, zs, [], 0⟩ (Nat.le_refl _) (Nat.zero_le _) (fun u hu => by obtain rfl := List.mem_singleton.1 hu; exact ⟨hw, hl.2⟩)
    exact ⟨o, s, true, .inl ⟨h1, h2, ⟨h3, h4⟩, rfl, t, rfl, hw, hok, hl.2, hg, g, hg.good g⟩⟩
  · exact ⟨0, _, false, .inr ⟨h, rfl, rfl, rfl⟩⟩
theorem RunIs.small {ts us : List (Int × List Int)} {xs : List S8} {vs zs : List Int} {f o : Int} {s : RS} {ok : Bool} (h : RunIs ts xs us vs zs f o s ok) : s.v.length ≤ 4 ∧ s.c.length ≤ 8 ∧ s.e.length ≤ 2000 := by
  rcases h with ⟨_, _, _, _, t, _, _, _, _, _, _, g⟩ | ⟨_, _, _, rfl⟩
  · have := g.e; have := g.n; have := g.f; exact ⟨by rw [g.g.lv]; omega, by rw [g.g.lc]; omega, by omega⟩
  · exact ⟨by simp, by simp, by simp⟩
end Go.Proofs.YtajmbnimdngjhaaGreatDoor

/-! The model's step of an element. Conditions: a valid element, a run as MdM tells it. -/
namespace Go.Proofs.YtajmbnimdngjhaaGreatDoor
set_option linter.unusedVariables false
open Go.RowKit

theorem MdM.drew {w : World} {base sb gv cv gc cc ge ce gw cw : Nat} {s : RS} {ws : List Nat} (h : MdM w base sb gv cv gc cc ge ce gw cw s ws) : MdM w.drew base sb gv cv gc cc ge ce gw cw s ws := ⟨h.blk, h.v, h.c, h.e, h.k, h.bs, h.bv, h.bc, h.d⟩
theorem MdM.drewN {w : World} {base sb gv cv gc cc ge ce gw cw : Nat} {s : RS} {ws : List Nat} (h : MdM w base sb gv cv gc cc ge ce gw cw s ws) (d : Nat) : MdM (w.drewN d) base sb gv cv gc cc ge ce gw cw s ws := ⟨h.blk, h.v, h.c, h.e, h.k, h.bs, h.bv, h.bc, h.d⟩
theorem below_drewN {w : World} {B : Nat} (d : Nat) : Below B w (w.drewN d) := ⟨rfl, rfl, rfl, Nat.le_refl _, fun _ _ => rfl⟩
theorem StAt.drewN {w : World} {B b o : Nat} {x : S8} (h : StAt w B b o x) (d : Nat) : StAt (w.drewN d) B b o x := h
section
variable {x : S8} {s : RS} {base sb gv cv gc cc ge ce gw cw B b o : Nat} {ws : List Nat}
/-- What the step of an element leaves. -/
def StepQ (w : World) (base sb gv cv gc cc ge ce gw cw : Nat) (x : S8) (s : RS) (ws : List Nat) : Ending → World → Prop := fun e w' =>
  e = .returned (.int .i64 (stepS x s).1) ∧ MdM w' base sb gv cv gc cc ge ce gw cw (stepS x s).2 ws ∧ Below base w w'
set_option maxRecDepth 100000 in
set_option maxHeartbeats 2000000 in
theorem mstep_0 (hk : x.k = 0) (w : World) (hx : stmtB x = true) (hst : StAt w B b o x) (hbB : b < B) (hB : B ≤ base) (h : MdM w base sb gv cv gc cc ge ce gw cw s ws) (g : GoodS s) :
    Calls Tryz.prog 71 #[.pointer (some ⟨b, o, none⟩), .pointer (some ⟨sb, 0, none⟩)] w (StepQ w base sb gv cv gc cc ge ce gw cw x s ws) := by
  obtain ⟨As, ns, cs, Ai, ni, ci, Af, nf, cf, s0, s1, s2, s3, s4, s5, s6, s7, hS, hI, hF⟩ := hst
  obtain ⟨hkk, hokS, hokI, hokV, hokE⟩ := stmt_ok hx
  obtain ⟨v, hv⟩ : ∃ v : Nat, x.v = (v : Int) := ⟨x.v.toNat, by omega⟩
  have hv4 : v < 4 := by omega
  rw [hk] at s0
  rw [hv] at s1
  have hbs : base ≤ w.heap.size := Nat.le_trans h.bs (Nat.le_of_lt h.lt.1)
  have x0 : w.cell? ⟨sb, 0, none⟩ = some (.slice (some ⟨gv, 0, none⟩) 4 cv) := h.blk.cell 0
  have x1 : w.cell? ⟨sb, 1, none⟩ = some (.slice (some ⟨gc, 0, none⟩) 8 cc) := h.blk.cell 1
  have HEI : Hid (∀ X d, X = w.drewN d → Calls Tryz.prog 72 #[.pointer (some ⟨b, o + 5, none⟩), .pointer (some ⟨sb, 0, none⟩)] X fun e w' => e = .returned (.int .i64 (numS s.v x.i)) ∧ ∃ d, w' = X.drewN d) := fun X d e => by
    subst e
    exact l03Eval_c w.heap.size b (o + 5) x.i sb 0 (some ⟨gv, 0, none⟩) 4 cv s.v (w.drewN d) ⟨Ai, ni, ci, by omega, s5, s6, hI.more (by omega)⟩ x0 h.v.all hokI.1 hokI.2 g.big
  have HES : Hid (∀ X d, X = w.drewN d → Calls Tryz.prog 72 #[.pointer (some ⟨b, o + 3, none⟩), .pointer (some ⟨sb, 0, none⟩)] X fun e w' => e = .returned (.int .i64 (numS s.v x.s)) ∧ ∃ d, w' = X.drewN d) := fun X d e => by
    subst e
    exact l03Eval_c w.heap.size b (o + 3) x.s sb 0 (some ⟨gv, 0, none⟩) 4 cv s.v (w.drewN d) ⟨As, ns, cs, by omega, s3, s4, hS.more (by omega)⟩ x0 h.v.all hokS.1 hokS.2 g.big
  obtain ⟨a, HA⟩ : ∃ n, Hid (numS s.v x.i = n) := ⟨_, rfl⟩
  obtain ⟨n, HN⟩ : ∃ n, Hid (numS s.v x.s = n) := ⟨_, rfl⟩
  rw [HA.out] at HEI
  rw [HN.out] at HES
  have HX := Lib.hid h
  clear h hS hI hF s3 s4 s5 s6 s7
  go_enter Tryz.func71, Tryz.ntmps71
  go_wp2_with fail
  refine (HEI.out w 0 rfl).mono ?_
  rintro e w1 ⟨rfl, d1, rfl⟩
  go_wp2_with fail
  refine (HES.out (w.drewN d1) d1 rfl).mono ?_
  rintro e w2 ⟨rfl, d2, rfl⟩
  clear HEI HES
  have hq : stepS x s = (0, s) := stepS_no (by omega)
  go_wp2_with fail
  go_ret
  exact ⟨by rw [hq]; rfl, by rw [hq]; exact HX.out.drewN (d1 + d2), below_drewN (d1 + d2)⟩
set_option maxRecDepth 100000 in
set_option maxHeartbeats 2000000 in
theorem mstep_1 (hk : x.k = 1) (w : World) (hx : stmtB x = true) (hst : StAt w B b o x) (hbB : b < B) (hB : B ≤ base) (h : MdM w base sb gv cv gc cc ge ce gw cw s ws) (g : GoodS s) :
    Calls Tryz.prog 71 #[.pointer (some ⟨b, o, none⟩), .pointer (some ⟨sb, 0, none⟩)] w (StepQ w base sb gv cv gc cc ge ce gw cw x s ws) := by
  obtain ⟨As, ns, cs, Ai, ni, ci, Af, nf, cf, s0, s1, s2, s3, s4, s5, s6, s7, hS, hI, hF⟩ := hst
  obtain ⟨hkk, hokS, hokI, hokV, hokE⟩ := stmt_ok hx
  obtain ⟨v, hv⟩ : ∃ v : Nat, x.v = (v : Int) := ⟨x.v.toNat, by omega⟩
  have hv4 : v < 4 := by omega
  rw [hk] at s0
  rw [hv] at s1
  have hbs : base ≤ w.heap.size := Nat.le_trans h.bs (Nat.le_of_lt h.lt.1)
  have x0 : w.cell? ⟨sb, 0, none⟩ = some (.slice (some ⟨gv, 0, none⟩) 4 cv) := h.blk.cell 0
  have x1 : w.cell? ⟨sb, 1, none⟩ = some (.slice (some ⟨gc, 0, none⟩) 8 cc) := h.blk.cell 1
  have HEI : Hid (∀ X d, X = w.drewN d → Calls Tryz.prog 72 #[.pointer (some ⟨b, o + 5, none⟩), .pointer (some ⟨sb, 0, none⟩)] X fun e w' => e = .returned (.int .i64 (numS s.v x.i)) ∧ ∃ d, w' = X.drewN d) := fun X d e => by
    subst e
    exact l03Eval_c w.heap.size b (o + 5) x.i sb 0 (some ⟨gv, 0, none⟩) 4 cv s.v (w.drewN d) ⟨Ai, ni, ci, by omega, s5, s6, hI.more (by omega)⟩ x0 h.v.all hokI.1 hokI.2 g.big
  have HES : Hid (∀ X d, X = w.drewN d → Calls Tryz.prog 72 #[.pointer (some ⟨b, o + 3, none⟩), .pointer (some ⟨sb, 0, none⟩)] X fun e w' => e = .returned (.int .i64 (numS s.v x.s)) ∧ ∃ d, w' = X.drewN d) := fun X d e => by
    subst e
    exact l03Eval_c w.heap.size b (o + 3) x.s sb 0 (some ⟨gv, 0, none⟩) 4 cv s.v (w.drewN d) ⟨As, ns, cs, by omega, s3, s4, hS.more (by omega)⟩ x0 h.v.all hokS.1 hokS.2 g.big
  obtain ⟨a, HA⟩ : ∃ n, Hid (numS s.v x.i = n) := ⟨_, rfl⟩
  obtain ⟨n, HN⟩ : ∃ n, Hid (numS s.v x.s = n) := ⟨_, rfl⟩
  rw [HA.out] at HEI
  rw [HN.out] at HES
  have HX := Lib.hid h
  clear h hS hI hF s3 s4 s5 s6 s7
  go_enter Tryz.func71, Tryz.ntmps71
  go_wp2_with fail
  refine (HEI.out w 0 rfl).mono ?_
  rintro e w1 ⟨rfl, d1, rfl⟩
  go_wp2_with fail
  refine (HES.out (w.drewN d1) d1 rfl).mono ?_
  rintro e w2 ⟨rfl, d2, rfl⟩
  clear HEI HES
  have hq : stepS x s = (0, s) := stepS_no (by omega)
  go_wp2_with fail
  go_ret
  exact ⟨by rw [hq]; rfl, by rw [hq]; exact HX.out.drewN (d1 + d2), below_drewN (d1 + d2)⟩
set_option maxRecDepth 100000 in
set_option maxHeartbeats 2000000 in
theorem mstep_2 (hk : x.k = 2) (w : World) (hx : stmtB x = true) (hst : StAt w B b o x) (hbB : b < B) (hB : B ≤ base) (h : MdM w base sb gv cv gc cc ge ce gw cw s ws) (g : GoodS s) :
    Calls Tryz.prog 71 #[.pointer (some ⟨b, o, none⟩), .pointer (some ⟨sb, 0, none⟩)] w (StepQ w base sb gv cv gc cc ge ce gw cw x s ws) := by
  obtain ⟨As, ns, cs, Ai, ni, ci, Af, nf, cf, s0, s1, s2, s3, s4, s5, s6, s7, hS, hI, hF⟩ := hst
  obtain ⟨hkk, hokS, hokI, hokV, hokE⟩ := stmt_ok hx
  obtain ⟨v, hv⟩ : ∃ v : Nat, x.v = (v : Int) := ⟨x.v.toNat, by omega⟩
  have hv4 : v < 4 := by omega
  rw [hk] at s0
  rw [hv] at s1
  have hbs : base ≤ w.heap.size := Nat.le_trans h.bs (Nat.le_of_lt h.lt.1)
  have x0 : w.cell? ⟨sb, 0, none⟩ = some (.slice (some ⟨gv, 0, none⟩) 4 cv) := h.blk.cell 0
  have x1 : w.cell? ⟨sb, 1, none⟩ = some (.slice (some ⟨gc, 0, none⟩) 8 cc) := h.blk.cell 1
  have HEI : Hid (∀ X d, X = w.drewN d → Calls Tryz.prog 72 #[.pointer (some ⟨b, o + 5, none⟩), .pointer (some ⟨sb, 0, none⟩)] X fun e w' => e = .returned (.int .i64 (numS s.v x.i)) ∧ ∃ d, w' = X.drewN d) := fun X d e => by
    subst e
    exact l03Eval_c w.heap.size b (o + 5) x.i sb 0 (some ⟨gv, 0, none⟩) 4 cv s.v (w.drewN d) ⟨Ai, ni, ci, by omega, s5, s6, hI.more (by omega)⟩ x0 h.v.all hokI.1 hokI.2 g.big
  have HES : Hid (∀ X d, X = w.drewN d → Calls Tryz.prog 72 #[.pointer (some ⟨b, o + 3, none⟩), .pointer (some ⟨sb, 0, none⟩)] X fun e w' => e = .returned (.int .i64 (numS s.v x.s)) ∧ ∃ d, w' = X.drewN d) := fun X d e => by
    subst e
    exact l03Eval_c w.heap.size b (o + 3) x.s sb 0 (some ⟨gv, 0, none⟩) 4 cv s.v (w.drewN d) ⟨As, ns, cs, by omega, s3, s4, hS.more (by omega)⟩ x0 h.v.all hokS.1 hokS.2 g.big
  obtain ⟨a, HA⟩ : ∃ n, Hid (numS s.v x.i = n) := ⟨_, rfl⟩
  obtain ⟨n, HN⟩ : ∃ n, Hid (numS s.v x.s = n) := ⟨_, rfl⟩
  rw [HA.out] at HEI
  rw [HN.out] at HES
  have HX := Lib.hid h
  clear h hS hI hF s3 s4 s5 s6 s7
  go_enter Tryz.func71, Tryz.ntmps71
  go_wp2_with fail
  refine (HEI.out w 0 rfl).mono ?_
  rintro e w1 ⟨rfl, d1, rfl⟩
  go_wp2_with fail
  refine (HES.out (w.drewN d1) d1 rfl).mono ?_
  rintro e w2 ⟨rfl, d2, rfl⟩
  clear HEI HES
  go_wp2_with fail
  refine (l03Int_s n _).mono ?_
  rintro e w3 ⟨rfl, rfl⟩
  by_cases hr : -1000000000 ≤ n ∧ n ≤ 1000000000
  · have e1 : decide (-1000000000 ≤ n) = true := decide_eq_true hr.1
    have e2 : decide (n ≤ 1000000000) = true := decide_eq_true hr.2
    have hq : stepS x s = (0, { s with v := s.v.set v n }) := by have := stepS_set (s := s) hk (by rw [HN.out]; exact hr); rw [HN.out, hv] at this; exact this
    have q1 := HX.out.v.cellE (i := v) hv4
    have q2 := HX.out.v.frozenE v
    have HV := Lib.hid ((HX.out.drewN (d1 + d2)).vars (i := v) hv4 n)
    have FS : Hid (Below base (w.drewN (d1 + d2)) ((w.drewN (d1 + d2)).setCell ⟨gv, v, none⟩ (.int .i64 n))) := only_below only_set HX.out.bv hbs
    go_wp2_with fail
    go_region
    all_goals (go_wp2_with fail; go_ret; exact ⟨by rw [hq]; rfl, by rw [hq]; exact HV.out.drew, (below_drewN (d1 + d2)).trans FS.out.drew⟩)
  · have e1 : (decide (-1000000000 ≤ n) && decide (n ≤ 1000000000)) = false := by simp; omega
    rw [e1]
    have hq : stepS x s = (4, s) := stepS_setr hk (by rw [HN.out]; exact hr)
    go_wp2_with fail
    go_ret
    exact ⟨by rw [hq]; rfl, by rw [hq]; exact HX.out.drewN (d1 + d2), below_drewN (d1 + d2)⟩
set_option maxRecDepth 100000 in
set_option maxHeartbeats 2000000 in
theorem mstep_3 (hk : x.k = 3) (w : World) (hx : stmtB x = true) (hst : StAt w B b o x) (hbB : b < B) (hB : B ≤ base) (h : MdM w base sb gv cv gc cc ge ce gw cw s ws) (g : GoodS s) :
    Calls Tryz.prog 71 #[.pointer (some ⟨b, o, none⟩), .pointer (some ⟨sb, 0, none⟩)] w (StepQ w base sb gv cv gc cc ge ce gw cw x s ws) := by
  obtain ⟨As, ns, cs, Ai, ni, ci, Af, nf, cf, s0, s1, s2, s3, s4, s5, s6, s7, hS, hI, hF⟩ := hst
  obtain ⟨hkk, hokS, hokI, hokV, hokE⟩ := stmt_ok hx
  obtain ⟨v, hv⟩ : ∃ v : Nat, x.v = (v : Int) := ⟨x.v.toNat, by omega⟩
  have hv4 : v < 4 := by omega
  rw [hk] at s0
  rw [hv] at s1
  have hbs : base ≤ w.heap.size := Nat.le_trans h.bs (Nat.le_of_lt h.lt.1)
  have x0 : w.cell? ⟨sb, 0, none⟩ = some (.slice (some ⟨gv, 0, none⟩) 4 cv) := h.blk.cell 0
  have x1 : w.cell? ⟨sb, 1, none⟩ = some (.slice (some ⟨gc, 0, none⟩) 8 cc) := h.blk.cell 1
  have HEI : Hid (∀ X d, X = w.drewN d → Calls Tryz.prog 72 #[.pointer (some ⟨b, o + 5, none⟩), .pointer (some ⟨sb, 0, none⟩)] X fun e w' => e = .returned (.int .i64 (numS s.v x.i)) ∧ ∃ d, w' = X.drewN d) := fun X d e => by
    subst e
    exact l03Eval_c w.heap.size b (o + 5) x.i sb 0 (some ⟨gv, 0, none⟩) 4 cv s.v (w.drewN d) ⟨Ai, ni, ci, by omega, s5, s6, hI.more (by omega)⟩ x0 h.v.all hokI.1 hokI.2 g.big
  have HES : Hid (∀ X d, X = w.drewN d → Calls Tryz.prog 72 #[.pointer (some ⟨b, o + 3, none⟩), .pointer (some ⟨sb, 0, none⟩)] X fun e w' => e = .returned (.int .i64 (numS s.v x.s)) ∧ ∃ d, w' = X.drewN d) := fun X d e => by
    subst e
    exact l03Eval_c w.heap.size b (o + 3) x.s sb 0 (some ⟨gv, 0, none⟩) 4 cv s.v (w.drewN d) ⟨As, ns, cs, by omega, s3, s4, hS.more (by omega)⟩ x0 h.v.all hokS.1 hokS.2 g.big
  obtain ⟨a, HA⟩ : ∃ n, Hid (numS s.v x.i = n) := ⟨_, rfl⟩
  obtain ⟨n, HN⟩ : ∃ n, Hid (numS s.v x.s = n) := ⟨_, rfl⟩
  rw [HA.out] at HEI
  rw [HN.out] at HES
  have HX := Lib.hid h
  clear h hS hI hF s3 s4 s5 s6 s7
  go_enter Tryz.func71, Tryz.ntmps71
  go_wp2_with fail
  refine (HEI.out w 0 rfl).mono ?_
  rintro e w1 ⟨rfl, d1, rfl⟩
  go_wp2_with fail
  refine (HES.out (w.drewN d1) d1 rfl).mono ?_
  rintro e w2 ⟨rfl, d2, rfl⟩
  clear HEI HES
  go_wp2_with fail
  refine (l03Cell_s a _).mono ?_
  rintro e w3 ⟨rfl, rfl⟩
  by_cases hr : 0 ≤ a ∧ a ≤ 7
  · obtain ⟨i, rfl⟩ : ∃ i : Nat, a = (i : Int) := ⟨a.toNat, by omega⟩
    have hi8 : i < 8 := by omega
    have e1 : decide (0 ≤ (i : Int)) = true := decide_eq_true hr.1
    have e2 : decide ((i : Int) ≤ 7) = true := decide_eq_true hr.2
    obtain ⟨z, HZ⟩ : ∃ z, Hid (s.c.getD i 0 = z) := ⟨_, rfl⟩
    have hq : stepS x s = (0, { s with v := s.v.set v z }) := by have := stepS_get (s := s) hk (by rw [HA.out]; exact hr); rw [HA.out, hv, show s.c.getD ((i : Int)).toNat 0 = z from HZ.out] at this; exact this
    have q1 := HX.out.v.cellE (i := v) hv4
    have q2 := HX.out.v.frozenE v
    have q3 := HX.out.c.cellE (i := i) hi8
    rw [HZ.out] at q3
    have HV := Lib.hid ((HX.out.drewN (d1 + d2)).vars (i := v) hv4 z)
    have FS : Hid (Below base (w.drewN (d1 + d2)) ((w.drewN (d1 + d2)).setCell ⟨gv, v, none⟩ (.int .i64 z))) := only_below only_set HX.out.bv hbs
    go_wp2_with fail
    go_region
    all_goals (go_wp2_with fail; go_ret; exact ⟨by rw [hq]; rfl, by rw [hq]; exact HV.out.drew, (below_drewN (d1 + d2)).trans FS.out.drew⟩)
  · have e1 : (decide (0 ≤ a) && decide (a ≤ 7)) = false := by simp; omega
    rw [e1]
    have hq : stepS x s = (2, s) := stepS_getc (.inl hk) (by rw [HA.out]; exact hr)
    go_wp2_with fail
    go_ret
    exact ⟨by rw [hq]; rfl, by rw [hq]; exact HX.out.drewN (d1 + d2), below_drewN (d1 + d2)⟩
set_option maxRecDepth 100000 in
set_option maxHeartbeats 2000000 in
theorem mstep_4 (hk : x.k = 4) (w : World) (hx : stmtB x = true) (hst : StAt w B b o x) (hbB : b < B) (hB : B ≤ base) (h : MdM w base sb gv cv gc cc ge ce gw cw s ws) (g : GoodS s) :
    Calls Tryz.prog 71 #[.pointer (some ⟨b, o, none⟩), .pointer (some ⟨sb, 0, none⟩)] w (StepQ w base sb gv cv gc cc ge ce gw cw x s ws) := by
  obtain ⟨As, ns, cs, Ai, ni, ci, Af, nf, cf, s0, s1, s2, s3, s4, s5, s6, s7, hS, hI, hF⟩ := hst
  obtain ⟨hkk, hokS, hokI, hokV, hokE⟩ := stmt_ok hx
  obtain ⟨v, hv⟩ : ∃ v : Nat, x.v = (v : Int) := ⟨x.v.toNat, by omega⟩
  have hv4 : v < 4 := by omega
  rw [hk] at s0
  rw [hv] at s1
  have hbs : base ≤ w.heap.size := Nat.le_trans h.bs (Nat.le_of_lt h.lt.1)
  have x0 : w.cell? ⟨sb, 0, none⟩ = some (.slice (some ⟨gv, 0, none⟩) 4 cv) := h.blk.cell 0
  have x1 : w.cell? ⟨sb, 1, none⟩ = some (.slice (some ⟨gc, 0, none⟩) 8 cc) := h.blk.cell 1
  have HEI : Hid (∀ X d, X = w.drewN d → Calls Tryz.prog 72 #[.pointer (some ⟨b, o + 5, none⟩), .pointer (some ⟨sb, 0, none⟩)] X fun e w' => e = .returned (.int .i64 (numS s.v x.i)) ∧ ∃ d, w' = X.drewN d) := fun X d e => by
    subst e
    exact l03Eval_c w.heap.size b (o + 5) x.i sb 0 (some ⟨gv, 0, none⟩) 4 cv s.v (w.drewN d) ⟨Ai, ni, ci, by omega, s5, s6, hI.more (by omega)⟩ x0 h.v.all hokI.1 hokI.2 g.big
  have HES : Hid (∀ X d, X = w.drewN d → Calls Tryz.prog 72 #[.pointer (some ⟨b, o + 3, none⟩), .pointer (some ⟨sb, 0, none⟩)] X fun e w' => e = .returned (.int .i64 (numS s.v x.s)) ∧ ∃ d, w' = X.drewN d) := fun X d e => by
    subst e
    exact l03Eval_c w.heap.size b (o + 3) x.s sb 0 (some ⟨gv, 0, none⟩) 4 cv s.v (w.drewN d) ⟨As, ns, cs, by omega, s3, s4, hS.more (by omega)⟩ x0 h.v.all hokS.1 hokS.2 g.big
  obtain ⟨a, HA⟩ : ∃ n, Hid (numS s.v x.i = n) := ⟨_, rfl⟩
  obtain ⟨n, HN⟩ : ∃ n, Hid (numS s.v x.s = n) := ⟨_, rfl⟩
  rw [HA.out] at HEI
  rw [HN.out] at HES
  have HX := Lib.hid h
  clear h hS hI hF s3 s4 s5 s6 s7
  go_enter Tryz.func71, Tryz.ntmps71
  go_wp2_with fail
  refine (HEI.out w 0 rfl).mono ?_
  rintro e w1 ⟨rfl, d1, rfl⟩
  go_wp2_with fail
  refine (HES.out (w.drewN d1) d1 rfl).mono ?_
  rintro e w2 ⟨rfl, d2, rfl⟩
  clear HEI HES
  go_wp2_with fail
  refine (l03Cell_s a _).mono ?_
  rintro e w3 ⟨rfl, rfl⟩
  by_cases hr : 0 ≤ a ∧ a ≤ 7
  · obtain ⟨i, rfl⟩ : ∃ i : Nat, a = (i : Int) := ⟨a.toNat, by omega⟩
    have hi8 : i < 8 := by omega
    have e1 : decide (0 ≤ (i : Int)) = true := decide_eq_true hr.1
    have e2 : decide ((i : Int) ≤ 7) = true := decide_eq_true hr.2
    go_wp2_with fail
    refine (l03Int_s n _).mono ?_
    rintro e w3 ⟨rfl, rfl⟩
    by_cases hq0 : -1000000000 ≤ n ∧ n ≤ 1000000000
    · have e3 : decide (-1000000000 ≤ n) = true := decide_eq_true hq0.1
      have e4 : decide (n ≤ 1000000000) = true := decide_eq_true hq0.2
      have hq : stepS x s = (0, { s with c := s.c.set i n }) := by have := stepS_put (s := s) hk (by rw [HA.out]; exact hr) (by rw [HN.out]; exact hq0); rw [HA.out, HN.out] at this; exact this
      have q1 := HX.out.c.cellE (i := i) hi8
      have q2 := HX.out.c.frozenE i
      have HV := Lib.hid ((HX.out.drewN (d1 + d2)).cells (i := i) hi8 n)
      have FS : Hid (Below base (w.drewN (d1 + d2)) ((w.drewN (d1 + d2)).setCell ⟨gc, i, none⟩ (.int .i64 n))) := only_below only_set HX.out.bc hbs
      go_wp2_with fail
      go_ret
      exact ⟨by rw [hq]; rfl, by rw [hq]; exact HV.out, (below_drewN (d1 + d2)).trans FS.out⟩
    · have e3 : (decide (-1000000000 ≤ n) && decide (n ≤ 1000000000)) = false := by simp; omega
      rw [e3]
      have hq : stepS x s = (4, s) := stepS_putr hk (by rw [HA.out]; exact hr) (by rw [HN.out]; exact hq0)
      go_wp2_with fail
      go_ret
      exact ⟨by rw [hq]; rfl, by rw [hq]; exact HX.out.drewN (d1 + d2), below_drewN (d1 + d2)⟩
  · have e1 : (decide (0 ≤ a) && decide (a ≤ 7)) = false := by simp; omega
    rw [e1]
    have hq : stepS x s = (2, s) := stepS_getc (.inr hk) (by rw [HA.out]; exact hr)
    go_wp2_with fail
    go_ret
    exact ⟨by rw [hq]; rfl, by rw [hq]; exact HX.out.drewN (d1 + d2), below_drewN (d1 + d2)⟩
set_option maxRecDepth 100000 in
set_option maxHeartbeats 2000000 in
theorem mstep_5 (hk : x.k = 5) (w : World) (hx : stmtB x = true) (hst : StAt w B b o x) (hbB : b < B) (hB : B ≤ base) (h : MdM w base sb gv cv gc cc ge ce gw cw s ws) (g : GoodS s) :
    Calls Tryz.prog 71 #[.pointer (some ⟨b, o, none⟩), .pointer (some ⟨sb, 0, none⟩)] w (StepQ w base sb gv cv gc cc ge ce gw cw x s ws) := by
  obtain ⟨As, ns, cs, Ai, ni, ci, Af, nf, cf, s0, s1, s2, s3, s4, s5, s6, s7, hS, hI, hF⟩ := hst
  obtain ⟨hkk, hokS, hokI, hokV, hokE⟩ := stmt_ok hx
  obtain ⟨v, hv⟩ : ∃ v : Nat, x.v = (v : Int) := ⟨x.v.toNat, by omega⟩
  have hv4 : v < 4 := by omega
  rw [hk] at s0
  rw [hv] at s1
  have hbs : base ≤ w.heap.size := Nat.le_trans h.bs (Nat.le_of_lt h.lt.1)
  have x0 : w.cell? ⟨sb, 0, none⟩ = some (.slice (some ⟨gv, 0, none⟩) 4 cv) := h.blk.cell 0
  have x1 : w.cell? ⟨sb, 1, none⟩ = some (.slice (some ⟨gc, 0, none⟩) 8 cc) := h.blk.cell 1
  have HEI : Hid (∀ X d, X = w.drewN d → Calls Tryz.prog 72 #[.pointer (some ⟨b, o + 5, none⟩), .pointer (some ⟨sb, 0, none⟩)] X fun e w' => e = .returned (.int .i64 (numS s.v x.i)) ∧ ∃ d, w' = X.drewN d) := fun X d e => by
    subst e
    exact l03Eval_c w.heap.size b (o + 5) x.i sb 0 (some ⟨gv, 0, none⟩) 4 cv s.v (w.drewN d) ⟨Ai, ni, ci, by omega, s5, s6, hI.more (by omega)⟩ x0 h.v.all hokI.1 hokI.2 g.big
  have HES : Hid (∀ X d, X = w.drewN d → Calls Tryz.prog 72 #[.pointer (some ⟨b, o + 3, none⟩), .pointer (some ⟨sb, 0, none⟩)] X fun e w' => e = .returned (.int .i64 (numS s.v x.s)) ∧ ∃ d, w' = X.drewN d) := fun X d e => by
    subst e
    exact l03Eval_c w.heap.size b (o + 3) x.s sb 0 (some ⟨gv, 0, none⟩) 4 cv s.v (w.drewN d) ⟨As, ns, cs, by omega, s3, s4, hS.more (by omega)⟩ x0 h.v.all hokS.1 hokS.2 g.big
  obtain ⟨a, HA⟩ : ∃ n, Hid (numS s.v x.i = n) := ⟨_, rfl⟩
  obtain ⟨n, HN⟩ : ∃ n, Hid (numS s.v x.s = n) := ⟨_, rfl⟩
  rw [HA.out] at HEI
  rw [HN.out] at HES
  have HX := Lib.hid h
  clear h hS hI hF s3 s4 s5 s6 s7
  go_enter Tryz.func71, Tryz.ntmps71
  go_wp2_with fail
  refine (HEI.out w 0 rfl).mono ?_
  rintro e w1 ⟨rfl, d1, rfl⟩
  go_wp2_with fail
  refine (HES.out (w.drewN d1) d1 rfl).mono ?_
  rintro e w2 ⟨rfl, d2, rfl⟩
  clear HEI HES
  have hq : stepS x s = (0, s) := stepS_no (by omega)
  go_wp2_with fail
  go_ret
  exact ⟨by rw [hq]; rfl, by rw [hq]; exact HX.out.drewN (d1 + d2), below_drewN (d1 + d2)⟩
set_option maxRecDepth 100000 in
set_option maxHeartbeats 2000000 in
theorem mstep_6 (hk : x.k = 6) (w : World) (hx : stmtB x = true) (hst : StAt w B b o x) (hbB : b < B) (hB : B ≤ base) (h : MdM w base sb gv cv gc cc ge ce gw cw s ws) (g : GoodS s) :
    Calls Tryz.prog 71 #[.pointer (some ⟨b, o, none⟩), .pointer (some ⟨sb, 0, none⟩)] w (StepQ w base sb gv cv gc cc ge ce gw cw x s ws) := by
  obtain ⟨As, ns, cs, Ai, ni, ci, Af, nf, cf, s0, s1, s2, s3, s4, s5, s6, s7, hS, hI, hF⟩ := hst
  obtain ⟨hkk, hokS, hokI, hokV, hokE⟩ := stmt_ok hx
  obtain ⟨v, hv⟩ : ∃ v : Nat, x.v = (v : Int) := ⟨x.v.toNat, by omega⟩
  have hv4 : v < 4 := by omega
  rw [hk] at s0
  rw [hv] at s1
  have hbs : base ≤ w.heap.size := Nat.le_trans h.bs (Nat.le_of_lt h.lt.1)
  have x0 : w.cell? ⟨sb, 0, none⟩ = some (.slice (some ⟨gv, 0, none⟩) 4 cv) := h.blk.cell 0
  have x1 : w.cell? ⟨sb, 1, none⟩ = some (.slice (some ⟨gc, 0, none⟩) 8 cc) := h.blk.cell 1
  have HEI : Hid (∀ X d, X = w.drewN d → Calls Tryz.prog 72 #[.pointer (some ⟨b, o + 5, none⟩), .pointer (some ⟨sb, 0, none⟩)] X fun e w' => e = .returned (.int .i64 (numS s.v x.i)) ∧ ∃ d, w' = X.drewN d) := fun X d e => by
    subst e
    exact l03Eval_c w.heap.size b (o + 5) x.i sb 0 (some ⟨gv, 0, none⟩) 4 cv s.v (w.drewN d) ⟨Ai, ni, ci, by omega, s5, s6, hI.more (by omega)⟩ x0 h.v.all hokI.1 hokI.2 g.big
  have HES : Hid (∀ X d, X = w.drewN d → Calls Tryz.prog 72 #[.pointer (some ⟨b, o + 3, none⟩), .pointer (some ⟨sb, 0, none⟩)] X fun e w' => e = .returned (.int .i64 (numS s.v x.s)) ∧ ∃ d, w' = X.drewN d) := fun X d e => by
    subst e
    exact l03Eval_c w.heap.size b (o + 3) x.s sb 0 (some ⟨gv, 0, none⟩) 4 cv s.v (w.drewN d) ⟨As, ns, cs, by omega, s3, s4, hS.more (by omega)⟩ x0 h.v.all hokS.1 hokS.2 g.big
  obtain ⟨a, HA⟩ : ∃ n, Hid (numS s.v x.i = n) := ⟨_, rfl⟩
  obtain ⟨n, HN⟩ : ∃ n, Hid (numS s.v x.s = n) := ⟨_, rfl⟩
  rw [HA.out] at HEI
  rw [HN.out] at HES
  have HX := Lib.hid h
  clear h hS hI hF s3 s4 s5 s6 s7
  go_enter Tryz.func71, Tryz.ntmps71
  go_wp2_with fail
  refine (HEI.out w 0 rfl).mono ?_
  rintro e w1 ⟨rfl, d1, rfl⟩
  go_wp2_with fail
  refine (HES.out (w.drewN d1) d1 rfl).mono ?_
  rintro e w2 ⟨rfl, d2, rfl⟩
  clear HEI HES
  by_cases hr : n < 0
  · have hq : stepS x s = (3, s) := stepS_assr hk (by rw [HN.out]; exact hr)
    go_wp2_with fail
    go_ret
    exact ⟨by rw [hq]; rfl, by rw [hq]; exact HX.out.drewN (d1 + d2), below_drewN (d1 + d2)⟩
  · have hq : stepS x s = (0, s) := stepS_ass hk (by rw [HN.out]; omega)
    go_wp2_with fail
    go_ret
    exact ⟨by rw [hq]; rfl, by rw [hq]; exact HX.out.drewN (d1 + d2), below_drewN (d1 + d2)⟩
set_option maxRecDepth 100000 in
set_option maxHeartbeats 2000000 in
theorem mstep_7 (hk : x.k = 7) (w : World) (hx : stmtB x = true) (hst : StAt w B b o x) (hbB : b < B) (hB : B ≤ base) (h : MdM w base sb gv cv gc cc ge ce gw cw s ws) (g : GoodS s) :
    Calls Tryz.prog 71 #[.pointer (some ⟨b, o, none⟩), .pointer (some ⟨sb, 0, none⟩)] w (StepQ w base sb gv cv gc cc ge ce gw cw x s ws) := by
  obtain ⟨As, ns, cs, Ai, ni, ci, Af, nf, cf, s0, s1, s2, s3, s4, s5, s6, s7, hS, hI, hF⟩ := hst
  obtain ⟨hkk, hokS, hokI, hokV, hokE⟩ := stmt_ok hx
  obtain ⟨v, hv⟩ : ∃ v : Nat, x.v = (v : Int) := ⟨x.v.toNat, by omega⟩
  have hv4 : v < 4 := by omega
  rw [hk] at s0
  rw [hv] at s1
  have hbs : base ≤ w.heap.size := Nat.le_trans h.bs (Nat.le_of_lt h.lt.1)
  have x0 : w.cell? ⟨sb, 0, none⟩ = some (.slice (some ⟨gv, 0, none⟩) 4 cv) := h.blk.cell 0
  have x1 : w.cell? ⟨sb, 1, none⟩ = some (.slice (some ⟨gc, 0, none⟩) 8 cc) := h.blk.cell 1
  have HEI : Hid (∀ X d, X = w.drewN d → Calls Tryz.prog 72 #[.pointer (some ⟨b, o + 5, none⟩), .pointer (some ⟨sb, 0, none⟩)] X fun e w' => e = .returned (.int .i64 (numS s.v x.i)) ∧ ∃ d, w' = X.drewN d) := fun X d e => by
    subst e
    exact l03Eval_c w.heap.size b (o + 5) x.i sb 0 (some ⟨gv, 0, none⟩) 4 cv s.v (w.drewN d) ⟨Ai, ni, ci, by omega, s5, s6, hI.more (by omega)⟩ x0 h.v.all hokI.1 hokI.2 g.big
  have HES : Hid (∀ X d, X = w.drewN d → Calls Tryz.prog 72 #[.pointer (some ⟨b, o + 3, none⟩), .pointer (some ⟨sb, 0, none⟩)] X fun e w' => e = .returned (.int .i64 (numS s.v x.s)) ∧ ∃ d, w' = X.drewN d) := fun X d e => by
    subst e
    exact l03Eval_c w.heap.size b (o + 3) x.s sb 0 (some ⟨gv, 0, none⟩) 4 cv s.v (w.drewN d) ⟨As, ns, cs, by omega, s3, s4, hS.more (by omega)⟩ x0 h.v.all hokS.1 hokS.2 g.big
  obtain ⟨a, HA⟩ : ∃ n, Hid (numS s.v x.i = n) := ⟨_, rfl⟩
  obtain ⟨n, HN⟩ : ∃ n, Hid (numS s.v x.s = n) := ⟨_, rfl⟩
  rw [HA.out] at HEI
  rw [HN.out] at HES
  have HX := Lib.hid h
  clear h hS hI hF s3 s4 s5 s6 s7
  go_enter Tryz.func71, Tryz.ntmps71
  go_wp2_with fail
  refine (HEI.out w 0 rfl).mono ?_
  rintro e w1 ⟨rfl, d1, rfl⟩
  go_wp2_with fail
  refine (HES.out (w.drewN d1) d1 rfl).mono ?_
  rintro e w2 ⟨rfl, d2, rfl⟩
  clear HEI HES
  have hq : stepS x s = (0, s) := stepS_no (by omega)
  go_wp2_with fail
  go_ret
  exact ⟨by rw [hq]; rfl, by rw [hq]; exact HX.out.drewN (d1 + d2), below_drewN (d1 + d2)⟩
set_option maxRecDepth 100000 in
set_option maxHeartbeats 2000000 in
theorem mstep_8 (hk : x.k = 8) (w : World) (hx : stmtB x = true) (hst : StAt w B b o x) (hbB : b < B) (hB : B ≤ base) (h : MdM w base sb gv cv gc cc ge ce gw cw s ws) (g : GoodS s) :
    Calls Tryz.prog 71 #[.pointer (some ⟨b, o, none⟩), .pointer (some ⟨sb, 0, none⟩)] w (StepQ w base sb gv cv gc cc ge ce gw cw x s ws) := by
  obtain ⟨As, ns, cs, Ai, ni, ci, Af, nf, cf, s0, s1, s2, s3, s4, s5, s6, s7, hS, hI, hF⟩ := hst
  obtain ⟨hkk, hokS, hokI, hokV, hokE⟩ := stmt_ok hx
  obtain ⟨v, hv⟩ : ∃ v : Nat, x.v = (v : Int) := ⟨x.v.toNat, by omega⟩
  have hv4 : v < 4 := by omega
  rw [hk] at s0
  rw [hv] at s1
  have hbs : base ≤ w.heap.size := Nat.le_trans h.bs (Nat.le_of_lt h.lt.1)
  have x0 : w.cell? ⟨sb, 0, none⟩ = some (.slice (some ⟨gv, 0, none⟩) 4 cv) := h.blk.cell 0
  have x1 : w.cell? ⟨sb, 1, none⟩ = some (.slice (some ⟨gc, 0, none⟩) 8 cc) := h.blk.cell 1
  have HEI : Hid (∀ X d, X = w.drewN d → Calls Tryz.prog 72 #[.pointer (some ⟨b, o + 5, none⟩), .pointer (some ⟨sb, 0, none⟩)] X fun e w' => e = .returned (.int .i64 (numS s.v x.i)) ∧ ∃ d, w' = X.drewN d) := fun X d e => by
    subst e
    exact l03Eval_c w.heap.size b (o + 5) x.i sb 0 (some ⟨gv, 0, none⟩) 4 cv s.v (w.drewN d) ⟨Ai, ni, ci, by omega, s5, s6, hI.more (by omega)⟩ x0 h.v.all hokI.1 hokI.2 g.big
  have HES : Hid (∀ X d, X = w.drewN d → Calls Tryz.prog 72 #[.pointer (some ⟨b, o + 3, none⟩), .pointer (some ⟨sb, 0, none⟩)] X fun e w' => e = .returned (.int .i64 (numS s.v x.s)) ∧ ∃ d, w' = X.drewN d) := fun X d e => by
    subst e
    exact l03Eval_c w.heap.size b (o + 3) x.s sb 0 (some ⟨gv, 0, none⟩) 4 cv s.v (w.drewN d) ⟨As, ns, cs, by omega, s3, s4, hS.more (by omega)⟩ x0 h.v.all hokS.1 hokS.2 g.big
  obtain ⟨a, HA⟩ : ∃ n, Hid (numS s.v x.i = n) := ⟨_, rfl⟩
  obtain ⟨n, HN⟩ : ∃ n, Hid (numS s.v x.s = n) := ⟨_, rfl⟩
  rw [HA.out] at HEI
  rw [HN.out] at HES
  have HX := Lib.hid h
  clear h hS hI hF s3 s4 s5 s6 s7
  go_enter Tryz.func71, Tryz.ntmps71
  go_wp2_with fail
  refine (HEI.out w 0 rfl).mono ?_
  rintro e w1 ⟨rfl, d1, rfl⟩
  go_wp2_with fail
  refine (HES.out (w.drewN d1) d1 rfl).mono ?_
  rintro e w2 ⟨rfl, d2, rfl⟩
  clear HEI HES
  have hq : stepS x s = (0, s) := stepS_no (by omega)
  go_wp2_with fail
  go_ret
  exact ⟨by rw [hq]; rfl, by rw [hq]; exact HX.out.drewN (d1 + d2), below_drewN (d1 + d2)⟩
theorem l03Step_c (w : World) (hx : stmtB x = true) (hst : StAt w B b o x) (hbB : b < B) (hB : B ≤ base) (h : MdM w base sb gv cv gc cc ge ce gw cw s ws) (g : GoodS s) :
    Calls Tryz.prog 71 #[.pointer (some ⟨b, o, none⟩), .pointer (some ⟨sb, 0, none⟩)] w (StepQ w base sb gv cv gc cc ge ce gw cw x s ws) := by
  have hk := (stmt_ok hx).1
  have hc : x.k = 0 ∨ x.k = 1 ∨ x.k = 2 ∨ x.k = 3 ∨ x.k = 4 ∨ x.k = 5 ∨ x.k = 6 ∨ x.k = 7 ∨ x.k = 8 := by omega
  rcases hc with k | k | k | k | k | k | k | k | k
  · exact mstep_0 k w hx hst hbB hB h g
  · exact mstep_1 k w hx hst hbB hB h g
  · exact mstep_2 k w hx hst hbB hB h g
  · exact mstep_3 k w hx hst hbB hB h g
  · exact mstep_4 k w hx hst hbB hB h g
  · exact mstep_5 k w hx hst hbB hB h g
  · exact mstep_6 k w hx hst hbB hB h g
  · exact mstep_7 k w hx hst hbB hB h g
  · exact mstep_8 k w hx hst hbB hB h g
end
end Go.Proofs.YtajmbnimdngjhaaGreatDoor

/-! The model's run of a program. Conditions: a valid body and state, a fuel from 0 to 2000. -/
namespace Go.Proofs.YtajmbnimdngjhaaGreatDoor
set_option linter.unusedVariables false
open Go.RowKit

theorem infoInt_w : (Tryz.prog.info? 3).map (fun i => (i.zero, i.size, i.bytes)) = some (some (.int .i64 0), 1, 8) := by kernel_rfl
theorem infoInt_e : (Tryz.prog.info? 2).map (fun i => (i.zero, i.size, i.bytes)) = some (some (.int .i64 0), 1, 8) := by kernel_rfl
theorem own_emptyE {w : World} {base g : Nat} {t : TypeId} (h : w.heap[g]? = some (.cells #[] t (0, 0))) (hb : base ≤ g) : w.ownsRow base t 1 (.slice (some ⟨g, 0, none⟩) 0 0) 0 [] := ⟨rfl, .inr ⟨g, 0, #[], rfl, hb, h, Nat.le_refl _, Nat.zero_le _, rfl, rfl⟩⟩
theorem own_single {w : World} {base g : Nat} {t : TypeId} {v : Value} (h : w.heap[g]? = some (.cells #[v] t (0, 0))) (hb : base ≤ g) : w.ownsRow base t 1 (.slice (some ⟨g, 0, none⟩) 1 1) 1 [v] := ⟨rfl, .inr ⟨g, 1, #[v], rfl, hb, h, Nat.le_refl _, by unfold maxLen; omega, rfl, rfl⟩⟩
theorem OwnL.exactE {w : World} {base n c g hi : Nat} {l : List Int} (h : OwnL w base hi (some ⟨g, 0, none⟩) n c l) : OwnL w g (g + 1) (some ⟨g, 0, none⟩) n c l := by
  have hlt := h.2.2.1 g rfl
  have hw := h.2.2.2
  refine ⟨h.1, ⟨h.2.1.1, ?_⟩, (fun k hk => by have hk' : some g = some k := hk; injection hk' with e; omega), by omega⟩
  rcases h.2.1.2 with ⟨h1, h2⟩ | ⟨b, cap, cur, h1, h2, r⟩
  · cases h1
  · have h1' := h1
    injection h1 with e _ _
    injection e with e
    injection e with e _ _
    exact .inr ⟨b, cap, cur, h1', by omega, r⟩
theorem OwnL.someE {w : World} {lo hi n c : Nat} {A : Option Addr} {l : List Int} (h : OwnL w lo hi A n c l) (hn : 0 < n) : ∃ b, A = some ⟨b, 0, none⟩ ∧ lo ≤ b ∧ b < hi := by
  rcases h.2.1.2 with ⟨h1, h2⟩ | ⟨b, cap, cur, h1, h2, r⟩
  · omega
  · have h1' := h1
    injection h1 with e _ _
    subst e
    exact ⟨b, rfl, h2, h.2.2.1 b rfl⟩
theorem own_capE {w : World} {base size n c : Nat} {t : TypeId} {A : Option Addr} {l : List Value} (h : w.ownsRow base t size (.slice A n c) n l) : n ≤ c := by
  rcases h.2 with ⟨h1, h2⟩ | ⟨b, cap, cur, h1, h2, h3, h4, _⟩
  · omega
  · injection h1 with _ _ e
    omega
section
variable {w wr : World} {base sb gv cv gc cc ge ce gw cw : Nat} {s : RS} {ws : List Nat}
theorem MdM.bz (h : MdM w base sb gv cv gc cc ge ce gw cw s ws) : base ≤ w.heap.size := Nat.le_trans h.bs (Nat.le_of_lt h.lt.1)
theorem MdM.kb (h : MdM w base sb gv cv gc cc ge ce gw cw s ws) : base ≤ gw := (h.k.lt gw rfl).1
theorem MdM.eb (h : MdM w base sb gv cv gc cc ge ce gw cw s ws) : base ≤ ge := (h.e.lt ge rfl).1
theorem MdM.leave (h : MdM wr (w.heap.size + 1) sb gv cv gc cc ge ce gw cw s ws) (hR : BlkIs wr w.heap.size 31 #[.slice none 0 0, .slice none 0 0]) (hb : Below w.heap.size w wr) :
    ((wr.setCell ⟨w.heap.size, 0, none⟩ (.slice (some ⟨gv, 0, none⟩) 4 cv)).setCell ⟨w.heap.size, 1, none⟩ (.slice (some ⟨gc, 0, none⟩) 8 cc)).cell? ⟨w.heap.size, 0, none⟩ = some (.slice (some ⟨gv, 0, none⟩) 4 cv) ∧
    ((wr.setCell ⟨w.heap.size, 0, none⟩ (.slice (some ⟨gv, 0, none⟩) 4 cv)).setCell ⟨w.heap.size, 1, none⟩ (.slice (some ⟨gc, 0, none⟩) 8 cc)).cell? ⟨w.heap.size, 1, none⟩ = some (.slice (some ⟨gc, 0, none⟩) 8 cc) ∧
    OwnL ((wr.setCell ⟨w.heap.size, 0, none⟩ (.slice (some ⟨gv, 0, none⟩) 4 cv)).setCell ⟨w.heap.size, 1, none⟩ (.slice (some ⟨gc, 0, none⟩) 8 cc)) w.heap.size ((wr.setCell ⟨w.heap.size, 0, none⟩ (.slice (some ⟨gv, 0, none⟩) 4 cv)).setCell ⟨w.heap.size, 1, none⟩ (.slice (some ⟨gc, 0, none⟩) 8 cc)).heap.size (some ⟨gv, 0, none⟩) 4 cv s.v ∧
    OwnL ((wr.setCell ⟨w.heap.size, 0, none⟩ (.slice (some ⟨gv, 0, none⟩) 4 cv)).setCell ⟨w.heap.size, 1, none⟩ (.slice (some ⟨gc, 0, none⟩) 8 cc)) w.heap.size ((wr.setCell ⟨w.heap.size, 0, none⟩ (.slice (some ⟨gv, 0, none⟩) 4 cv)).setCell ⟨w.heap.size, 1, none⟩ (.slice (some ⟨gc, 0, none⟩) 8 cc)).heap.size (some ⟨gc, 0, none⟩) 8 cc s.c ∧
    OwnL ((wr.setCell ⟨w.heap.size, 0, none⟩ (.slice (some ⟨gv, 0, none⟩) 4 cv)).setCell ⟨w.heap.size, 1, none⟩ (.slice (some ⟨gc, 0, none⟩) 8 cc)) w.heap.size ((wr.setCell ⟨w.heap.size, 0, none⟩ (.slice (some ⟨gv, 0, none⟩) 4 cv)).setCell ⟨w.heap.size, 1, none⟩ (.slice (some ⟨gc, 0, none⟩) 8 cc)).heap.size (some ⟨ge, 0, none⟩) s.e.length ce s.e ∧
    Below w.heap.size w ((wr.setCell ⟨w.heap.size, 0, none⟩ (.slice (some ⟨gv, 0, none⟩) 4 cv)).setCell ⟨w.heap.size, 1, none⟩ (.slice (some ⟨gc, 0, none⟩) 8 cc)) := by
  have hR5 := (hR.set 0 (.slice (some ⟨gv, 0, none⟩) 4 cv)).set 1 (.slice (some ⟨gc, 0, none⟩) 8 cc)
  have ho : Out w.heap.size (w.heap.size + 1) wr ((wr.setCell ⟨w.heap.size, 0, none⟩ (.slice (some ⟨gv, 0, none⟩) 4 cv)).setCell ⟨w.heap.size, 1, none⟩ (.slice (some ⟨gc, 0, none⟩) 8 cc)) := out_set (out_set (Out.refl _ _ _) (by omega)) (by omega)
  have hs := ho.size
  have hl := h.lt
  have b1 := h.bv
  have b2 := h.bc
  have b3 := (h.e.lt ge rfl).1
  refine ⟨by rw [hR5.cell 0]; simp, by rw [hR5.cell 1]; simp, ((h.v.out ho (by omega)).less (by omega)).wide (by omega) (Nat.le_refl _), ((h.c.out ho (by omega)).less (by omega)).wide (by omega) (Nat.le_refl _), ?_, hb.trans (ho.below (Nat.le_refl _) hb.size)⟩
  exact (OwnL.of_own (ownE_out h.e ho (fun b e => by cases e; omega))).less (by omega)
end
/-- How many elements a statement has that begins at an index. -/
def lenAt (xs : List S8) (k : Nat) : Nat := (endL 1 (xs.drop k) k).toNat - k
theorem AtT.len {xs : List S8} {k : Nat} {t : Tr} (h : AtT xs k t) : lenAt xs k = (flatT t).length := by
  obtain ⟨r, h1, h2⟩ := h
  unfold lenAt
  rw [h1, endL_flat t r 1 k h2 (by omega), endL_done]
  omega
theorem AtTs.sz {xs : List S8} {ws : List Nat} {ts : List Tr} (h : AtTs xs ws ts) : (ws.reverse.map (lenAt xs)).sum = szT ts := by
  induction h with
  | nil => rfl
  | cons h _ ih => rw [List.reverse_cons, List.map_append, List.sum_append, ih, szT_cons]; simp [h.len]; omega
def readWs (v : Value) (w : World) : List Nat := match v with
  | .slice (some a) n _ => (List.range n).map fun j => (intOf ((w.cell? ⟨a.block, j, none⟩).getD undef)).toNat
  | _ => []
theorem MdM.readWs {w : World} {base sb gv cv gc cc ge ce gw cw : Nat} {s : RS} {ws : List Nat} (h : MdM w base sb gv cv gc cc ge ce gw cw s ws) : readWs (.slice (some ⟨gw, 0, none⟩) ws.length cw) w = ws.reverse := by
  unfold Go.Proofs.YtajmbnimdngjhaaGreatDoor.readWs
  simp only
  apply List.ext_getElem
  · simp
  intro j h1 h2
  simp only [List.getElem_map, List.getElem_range]
  simp only [List.length_map, List.length_range] at h1
  rw [h.k.cellAt j (by omega), List.getElem?_map, List.getElem?_eq_getElem h2]
  simp [nc, intOf]
def measM (xs : List S8) (F : Nat) (st wk : Value) (w : World) : Nat := (F - (intOf st).toNat) * 61 + ((readWs wk w).map (lenAt xs)).sum
theorem MdM.meas {w : World} {base sb gv cv gc cc ge ce gw cw : Nat} {s : RS} {ws : List Nat} {ts : List Tr} {xs : List S8} {F : Nat} (h : MdM w base sb gv cv gc cc ge ce gw cw s ws) (ha : AtTs xs ws ts) : measM xs F (.int .i64 (s.n : Int)) (.slice (some ⟨gw, 0, none⟩) ws.length cw) w = farT F 30 ts s := by
  unfold measM farT
  rw [h.readWs, ha.sz]
  simp [intOf]
/-- What the model's run gives. -/
def RunMQ (w : World) (o : Int) (s : RS) : Ending → World → Prop := fun e w' => ∃ (A : Option Addr) (c : Nat) (A' : Option Addr) (c' : Nat) (E : Option Addr) (ce : Nat), e = .returned (.tuple #[.agg #[.slice A 4 c, .slice A' 8 c'], .slice E s.e.length ce, .int .i64 o, .int .i64 (s.n : Int)]) ∧
  OwnL w' w.heap.size w'.heap.size A 4 c s.v ∧ OwnL w' w.heap.size w'.heap.size A' 8 c' s.c ∧ OwnL w' w.heap.size w'.heap.size E s.e.length ce s.e ∧ Below w.heap.size w w'

set_option maxRecDepth 100000 in
set_option maxHeartbeats 4000000 in
theorem l03Run_c (pb : Nat) (D : Option Addr) (m d B : Nat) (xs : List S8) (sb0 : Nat) (A : Option Addr) (c : Nat) (vs : List Int) (A' : Option Addr) (c' : Nat) (zs : List Int) (F : Nat) (o' : Int) (s' : RS) (t : Tr) (w : World) (hp : w.cell? ⟨pb, 1, none⟩ = some (.slice D m d)) (hD : InST w B D m xs) (hB : B ≤ w.heap.size)
    (hxs : xs = flatT t) (hwf : WfT t) (hok : ∀ x ∈ xs, stmtB x = true) (hlen : xs.length ≤ 30) (hmd : m ≤ d) (q0 : w.cell? ⟨sb0, 0, none⟩ = some (.slice A 4 c)) (q1 : w.cell? ⟨sb0, 1, none⟩ = some (.slice A' 8 c')) (h0 : InL w w.heap.size A 4 vs) (h1 : InL w w.heap.size A' 8 zs) (g : GoodR F ⟨vs, zs, [], 0⟩) (hgo : Go F [t] ⟨vs, zs, [], 0⟩ o' s') :
    Calls Tryz.prog 37 #[.pointer (some ⟨pb, 0, none⟩), .pointer (some ⟨sb0, 0, none⟩), .int .i64 (F : Int)] w (RunMQ w o' s') := by
  obtain ⟨i0, hif, hz0, hz1, hz2⟩ := info_parts infoInt_w
  obtain ⟨j0, jif, jz0, jz1, jz2⟩ := info_parts infoInt_e
  have hF2 := g.f
  have hml : m ≤ 30 := by have := hD.1; omega
  have hpl := cell_lt hp
  have hb0 : Below w.heap.size w (w.alloc (.cells #[.slice none 0 0, .slice none 0 0] 31)) := bnew _ _
  have hR : BlkIs (w.alloc (.cells #[.slice none 0 0, .slice none 0 0] 31)) w.heap.size 31 #[.slice none 0 0, .slice none 0 0] := blk_new _ _ _ _ rfl
  have hsz : (w.alloc (.cells #[.slice none 0 0, .slice none 0 0] 31)).heap.size = w.heap.size + 1 := by simp
  have HOW := Lib.hid (l03Own_s sb0 A 4 c vs A' 8 c' zs w.heap.size (w.alloc (.cells #[.slice none 0 0, .slice none 0 0] 31)) (cell_next q0 hb0) (cell_next q1 hb0) (h0.next hb0 (Nat.le_refl _)) (h1.next hb0 (Nat.le_refl _)) (by omega) (by omega) (by omega))
  have HD0 := Lib.hid (hD.next hb0 hB)
  have hp0 := cell_next hp hb0
  have HG := Lib.hid g
  have HGO := Lib.hid hgo
  have HOK := Lib.hid hok
  have HXS := Lib.hid hxs
  have HLX := Lib.hid hD.1
  have HAT : Hid (AtTs xs [0] [t]) := .cons ⟨[], by rw [hxs]; simp, hwf⟩ .nil
  have HFAR : Hid (farT F 30 [t] ⟨vs, zs, [], 0⟩ ≤ 200000) := by
    show farT F 30 [t] ⟨vs, zs, [], 0⟩ ≤ 200000
    unfold farT
    rw [szT_cons, show szT [] = 0 from rfl, ← hxs]
    have e1 : F - (⟨vs, zs, [], 0⟩ : RS).n = F := rfl
    rw [e1]
    omega
  clear q0 q1 h0 h1 hD g hgo hok hxs hwf hp
  go_enter Tryz.func37, Tryz.ntmps37
  go_wp2_with fail
  generalize w.alloc (.cells #[.slice none 0 0, .slice none 0 0] 31) = W at hb0 hR hsz HOW HD0 hp0 ⊢
  refine HOW.out.mono ?_
  rintro e v1 ⟨X, cv, X', cc, mid, rfl, ow1, ow1', hmd1, hb1⟩
  obtain ⟨gv, rfl, hgv1, hgv2⟩ := ow1.someE (by omega)
  obtain ⟨gc, rfl, hgc1, hgc2⟩ := ow1'.someE (by omega)
  have hz1' := hb1.size
  have hbA : Below v1.heap.size v1 (((v1.alloc (.cells #[.slice (some ⟨gv, 0, none⟩) 4 cv, .slice (some ⟨gc, 0, none⟩) 8 cc] 31)).alloc (.cells #[] 2)).alloc (.cells #[.int .i64 0] 3)) := bon (bon (bnew _ _) (bnew _ _)) (bnew _ _)
  have hszA : (((v1.alloc (.cells #[.slice (some ⟨gv, 0, none⟩) 4 cv, .slice (some ⟨gc, 0, none⟩) 8 cc] 31)).alloc (.cells #[] 2)).alloc (.cells #[.int .i64 0] 3)).heap.size = v1.heap.size + 3 := by simp
  have n1 : (v1.alloc (.cells #[.slice (some ⟨gv, 0, none⟩) 4 cv, .slice (some ⟨gc, 0, none⟩) 8 cc] 31)).heap.size = v1.heap.size + 1 := by simp
  have n2 : ((v1.alloc (.cells #[.slice (some ⟨gv, 0, none⟩) 4 cv, .slice (some ⟨gc, 0, none⟩) 8 cc] 31)).alloc (.cells #[] 2)).heap.size = v1.heap.size + 2 := by simp
  have hM0 : MdM (((v1.alloc (.cells #[.slice (some ⟨gv, 0, none⟩) 4 cv, .slice (some ⟨gc, 0, none⟩) 8 cc] 31)).alloc (.cells #[] 2)).alloc (.cells #[.int .i64 0] 3)) (w.heap.size + 1) v1.heap.size gv cv gc cc (v1.heap.size + 1) 0 (v1.heap.size + 2) 1 ⟨vs, zs, [], 0⟩ [0] :=
    ⟨(blk_new v1 _ _ _ rfl).next (bon (bnew _ _) (bnew _ _)), ow1.exactE.next hbA, ow1'.exactE.next hbA, own_emptyE ((blk_new (v1.alloc (.cells #[.slice (some ⟨gv, 0, none⟩) 4 cv, .slice (some ⟨gc, 0, none⟩) 8 cc] 31)) 2 #[] (v1.heap.size + 1) n1.symm).next (bnew _ _)) (by omega), own_single (blk_new ((v1.alloc (.cells #[.slice (some ⟨gv, 0, none⟩) 4 cv, .slice (some ⟨gc, 0, none⟩) 8 cc] 31)).alloc (.cells #[] 2)) 3 #[.int .i64 0] (v1.heap.size + 2) n2.symm) (by omega), by omega, by omega, by omega, by omega⟩
  have HM0 := Lib.hid hM0
  have hbW : Below W.heap.size W (((v1.alloc (.cells #[.slice (some ⟨gv, 0, none⟩) 4 cv, .slice (some ⟨gc, 0, none⟩) 8 cc] 31)).alloc (.cells #[] 2)).alloc (.cells #[.int .i64 0] 3)) := bon hb1 hbA
  clear hM0 ow1 ow1' HOW n1 n2 hbA
  go_wp2_with fail
  generalize (((v1.alloc (.cells #[.slice (some ⟨gv, 0, none⟩) 4 cv, .slice (some ⟨gc, 0, none⟩) 8 cc] 31)).alloc (.cells #[] 2)).alloc (.cells #[.int .i64 0] 3)) = W3 at HM0 hbW hszA ⊢
  have hbW' : Below (w.heap.size + 1) W W3 := by rw [← hsz]; exact hbW
  obtain ⟨sb, hsb⟩ : ∃ sb, v1.heap.size = sb := ⟨_, rfl⟩
  rw [hsb] at HM0 ⊢
  have hsbl : w.heap.size + 1 ≤ sb := by omega
  go_loopw [11, 12, 13, 14, 15, 16, 17, 87, 96, 114] (fun ev st wk _ _ _ _ _ _ _ wr => ∃ (ts : List Tr) (s : RS) (ws : List Nat) (ge ce gw cw : Nat), ev = .slice (some ⟨ge, 0, none⟩) s.e.length ce ∧ st = .int .i64 (s.n : Int) ∧ wk = .slice (some ⟨gw, 0, none⟩) ws.length cw ∧ Hid (AtTs xs ws ts) ∧ Hid (MdM wr (w.heap.size + 1) sb gv cv gc cc ge ce gw cw s ws) ∧ Hid (GoodR F s) ∧ Hid (Go F ts s o' s') ∧ Hid (farT F 30 ts s ≤ 200000) ∧ Below (w.heap.size + 1) W wr) (fun _ st wk _ _ _ _ _ _ _ wr => measM xs F st wk wr)
  case atStart => exact ⟨[t], ⟨vs, zs, [], 0⟩, [0], sb + 1, 0, sb + 2, 1, rfl, rfl, rfl, HAT, HM0, HG, HGO, HFAR, hbW'⟩
  case round =>
    clear HM0 HAT HG HGO HFAR hbW hbW' hszA
    obtain ⟨ts, s, ws, ge, ce, gw, cw, rfl, rfl, rfl, hAt, hM, hG, hGo, hfar, hbel⟩ := hrel
    have hRw : BlkIs wr w.heap.size 31 #[.slice none 0 0, .slice none 0 0] := (hbel.block w.heap.size (by omega)).trans hR
    have hbw : Below w.heap.size w wr := hb0.trans (hbel.mono (by omega))
    have pw : wr.cell? ⟨pb, 1, none⟩ = some (.slice D m d) := (hbel.cell (p := ⟨pb, 1, none⟩) (show pb < w.heap.size + 1 by omega)).trans hp0
    have HDW := Lib.hid (HD0.out.next hbel (by omega))
    have hsn := hG.out.n
    have hse := hG.out.e
    have hAt' := hAt.out
    cases hAt' with
    | nil =>
      have k0 : wr.cell? ⟨sb, 0, none⟩ = some (.slice (some ⟨gv, 0, none⟩) 4 cv) := hM.out.blk.cell 0
      have k1 : wr.cell? ⟨sb, 1, none⟩ = some (.slice (some ⟨gc, 0, none⟩) 8 cc) := hM.out.blk.cell 1
      have z0 : wr.cell? ⟨w.heap.size, 0, none⟩ = some (.slice none 0 0) := hRw.cell 0
      have z1 : wr.cell? ⟨w.heap.size, 1, none⟩ = some (.slice none 0 0) := hRw.cell 1
      have y0 := hRw.frozen 0
      have y1 := hRw.frozen 1
      have HL := hM.out.leave hRw hbw
      obtain ⟨c0, c1, g1, g2, g3, hb5⟩ := HL
      have G1 := Lib.hid g1
      have G2 := Lib.hid g2
      have G3 := Lib.hid g3
      clear g1 g2 g3
      have HEND : Hid (o' = 0 ∧ s' = s) := Go.det hGo.out (Go.done s)
      clear hM hRw
      go_wp2_with fail
      generalize ((wr.setCell ⟨w.heap.size, 0, none⟩ (.slice (some ⟨gv, 0, none⟩) 4 cv)).setCell ⟨w.heap.size, 1, none⟩ (.slice (some ⟨gc, 0, none⟩) 8 cc)) = W5 at c0 c1 hb5 G1 G2 G3 ⊢
      refine bodyPost_ret (v := .tuple #[.agg #[.slice (some ⟨gv, 0, none⟩) 4 cv, .slice (some ⟨gc, 0, none⟩) 8 cc], .slice (some ⟨ge, 0, none⟩) (s).e.length ce, .int .i64 0, .int .i64 (((s).n : Int))]) (by simp [results, Tryz.results37, go_sem, c0, c1]) rfl ?_
      obtain ⟨eo, es⟩ := HEND.out
      rw [eo, es]
      exact ⟨_, cv, _, cc, _, ce, rfl, G1.out, G2.out, G3.out, hb5⟩
    | @cons k t ws ts hA hAs =>
      have htop := hA.top
      have hkm : k < m := by have := HLX.out; omega
      obtain ⟨b, off, x0, rfl, hbB, hx0, hst⟩ := HDW.out.at_ hkm
      have ex : t.top = x0 := Option.some.inj (htop.1.symm.trans hx0)
      subst ex
      have hokx := HOK.out _ (List.mem_of_getElem? hx0)
      have hkk := (stmt_ok hokx).1
      have htl := hM.out.top
      have hcap := own_capE hM.out.k
      have hwl : ws.length ≤ 200000 := by
        have h1 := hAs.len
        have h2 := len_szT ts
        have h3 := hfar.out
        unfold farT at h3
        rw [szT_cons] at h3
        omega
      have s0 : wr.cell? ⟨b, off + k * 8, none⟩ = some (.int .i64 t.top.k) := by obtain ⟨_, _, _, _, _, _, _, _, _, k0, _⟩ := hst; exact k0
      have s2 : wr.cell? ⟨b, off + k * 8 + 2, none⟩ = some (.int .i64 t.top.e) := by obtain ⟨_, _, _, _, _, _, _, _, _, _, _, k0, _⟩ := hst; exact k0
      have HST := Lib.hid hst
      have HP := Lib.hid hM.out.pop
      have HAS := Lib.hid hAs
      have HA := Lib.hid hA
      have HMS := Lib.hid (hM.out.meas (F := F) hAt.out)
      simp only [List.length_cons] at hcap HMS ⊢
      have ndx : ((k : Int) < (m : Int)) := by omega
      clear hst hx0 htop hAs hA
      by_cases hseq : t.top.k = 1
      · cases t with
        | leaf x => exact absurd HA.out.choose_spec.2 (by show ¬ below x.k = 0; rw [show x.k = 1 from hseq]; decide)
        | one x a => exact absurd HA.out.choose_spec.2.1 (by show ¬ below x.k = 1; rw [show x.k = 1 from hseq]; decide)
        | two x a b2 =>
          have hx1 : x.k = 1 := hseq
          rw [show (Tr.two x a b2).top.k = 1 from hx1] at s0
          obtain ⟨HB2, hend⟩ := HA.out.snd
          have HA1 := Lib.hid HA.out.fst
          obtain ⟨n2, hn2⟩ : ∃ n, k + 1 + (flatT a).length = n := ⟨_, rfl⟩
          rw [hn2] at HB2 hend
          have HE := Lib.hid (l03End_c (some ⟨b, off, none⟩) m d B xs (k + 1) wr HDW.out (by omega) (by omega))
          rw [hend] at HE
          have hk1 : ((k + 1 : Nat) : Int) = (k : Int) + 1 := by omega
          rw [hk1] at HE
          have HPo := HP.out
          go_wp2_with fail
          refine HE.out.mono ?_
          rintro e w1 ⟨rfl, rfl⟩
          go_wp2_with (first | (at_builtin; refine wpList_append_sep rfl _ _ 115 rfl (w.heap.size + 1) 3 i0 (.int .i64 0) 1 8 Tryz.underlying115 hif hz0 hz1 hz2 rfl (by decide) _ (ws).length ((ws).reverse.map nc) rfl (HPo.next (bnew wr (.cells #[.int .i64 (n2 : Int)] 3))).k ⟨wr.heap.size, 0, none⟩ 1 1 [.int .i64 (n2 : Int)] rfl rfl (one_at wr (.int .i64 (n2 : Int)) 3 _ rfl) (fun u hu => by simp at hu; subst hu; rfl) (by unfold maxLen; (try simp only [List.length_cons]); omega) (by (try simp only [List.length_cons]); omega) (HPo.next (bnew wr (.cells #[.int .i64 (n2 : Int)] 3))).bz (by decide) ?_; intro gg1 cg1 wg1 hown1 hgrow1 hsep1; have P1 := (HPo.next (bnew wr (.cells #[.int .i64 (n2 : Int)] 3))).push (k := n2) hown1 hgrow1 hsep1; have B1 : Below (w.heap.size + 1) wr wg1 := ((bnew wr (.cells #[.int .i64 (n2 : Int)] 3)).mono HPo.bz).trans (only_below hgrow1 (HPo.next (bnew wr (.cells #[.int .i64 (n2 : Int)] 3))).kb (HPo.next (bnew wr (.cells #[.int .i64 (n2 : Int)] 3))).bz); clear hown1 hgrow1 hsep1) | (at_builtin; refine wpList_append_sep rfl _ _ 115 rfl (w.heap.size + 1) 3 i0 (.int .i64 0) 1 8 Tryz.underlying115 hif hz0 hz1 hz2 rfl (by decide) _ (n2 :: ws).length ((n2 :: ws).reverse.map nc) rfl (P1.next (bnew wg1 (.cells #[.int .i64 ((k : Int) + 1)] 3))).k ⟨wg1.heap.size, 0, none⟩ 1 1 [.int .i64 ((k : Int) + 1)] rfl rfl (one_at wg1 (.int .i64 ((k : Int) + 1)) 3 _ rfl) (fun u hu => by simp at hu; subst hu; rfl) (by unfold maxLen; (try simp only [List.length_cons]); omega) (by (try simp only [List.length_cons]); omega) (P1.next (bnew wg1 (.cells #[.int .i64 ((k : Int) + 1)] 3))).bz (by decide) ?_; intro gg2 cg2 wg2 hown2 hgrow2 hsep2; have P2 := (P1.next (bnew wg1 (.cells #[.int .i64 ((k : Int) + 1)] 3))).push (k := k + 1) hown2 hgrow2 hsep2; have B2 : Below (w.heap.size + 1) wg1 wg2 := ((bnew wg1 (.cells #[.int .i64 ((k : Int) + 1)] 3)).mono P1.bz).trans (only_below hgrow2 (P1.next (bnew wg1 (.cells #[.int .i64 ((k : Int) + 1)] 3))).kb (P1.next (bnew wg1 (.cells #[.int .i64 ((k : Int) + 1)] 3))).bz); clear hown2 hgrow2 hsep2) | fail)
          have hat9 : AtTs xs ((k + 1) :: n2 :: ws) (a :: b2 :: ts) := .cons HA1.out (.cons HB2 HAS.out)
          have HM9 := P2.meas (F := F) hat9
          have hfar9 : farT F 30 (a :: b2 :: ts) s ≤ 200000 := by
            have h3 := hfar.out
            unfold farT at h3 ⊢
            simp only [szT_cons, flatT, List.length_cons, List.length_append] at h3 ⊢
            omega
          have HP9 := Lib.hid P2
          have HAT9 := Lib.hid hat9
          have HF9 := Lib.hid hfar9
          have hgo9 := Lib.hid (hGo.out.seq_inv hx1)
          have hb9 := hbel.trans (B1.trans B2)
          clear P1 P2 B1 B2 hat9 hfar9 HPo
          go_roundw
          case rel => exact ⟨a :: b2 :: ts, s, (k + 1) :: n2 :: ws, ge, ce, gg2, cg2, rfl, rfl, rfl, HAT9, HP9, hG, hgo9, HF9, hb9⟩
          case measure => simp only [List.length_cons] at HM9 ⊢; rw [HM9, HMS.out]; unfold farT; simp only [szT_cons, flatT, List.length_cons, List.length_append]; omega

      · by_cases hn : s.n = F
        · have eqT : ((s.n : Int) == (F : Int)) = true := by simp; omega
          have es1 : (t.top.k == 1) = false := by simp; omega
          have k0 : wr.cell? ⟨sb, 0, none⟩ = some (.slice (some ⟨gv, 0, none⟩) 4 cv) := HP.out.blk.cell 0
          have k1 : wr.cell? ⟨sb, 1, none⟩ = some (.slice (some ⟨gc, 0, none⟩) 8 cc) := HP.out.blk.cell 1
          have z0 : wr.cell? ⟨w.heap.size, 0, none⟩ = some (.slice none 0 0) := hRw.cell 0
          have z1 : wr.cell? ⟨w.heap.size, 1, none⟩ = some (.slice none 0 0) := hRw.cell 1
          have y0 := hRw.frozen 0
          have y1 := hRw.frozen 1
          have HL := HP.out.leave hRw hbw
          obtain ⟨c0, c1, g1, g2, g3, hb5⟩ := HL
          have G1 := Lib.hid g1
          have G2 := Lib.hid g2
          have G3 := Lib.hid g3
          clear g1 g2 g3
          have HEND : Hid (o' = 1 ∧ s' = s) := hGo.out.fuel_inv hseq hn
          go_wp2_with fail
          generalize ((wr.setCell ⟨w.heap.size, 0, none⟩ (.slice (some ⟨gv, 0, none⟩) 4 cv)).setCell ⟨w.heap.size, 1, none⟩ (.slice (some ⟨gc, 0, none⟩) 8 cc)) = W5 at c0 c1 hb5 G1 G2 G3 ⊢
          refine bodyPost_ret (v := .tuple #[.agg #[.slice (some ⟨gv, 0, none⟩) 4 cv, .slice (some ⟨gc, 0, none⟩) 8 cc], .slice (some ⟨ge, 0, none⟩) (s).e.length ce, .int .i64 1, .int .i64 (((s).n : Int))]) (by simp [results, Tryz.results37, go_sem, c0, c1]) rfl ?_
          obtain ⟨eo, es⟩ := HEND.out
          rw [eo, es]
          exact ⟨_, cv, _, cc, _, ce, rfl, G1.out, G2.out, G3.out, hb5⟩
        · have eqF : ((s.n : Int) == (F : Int)) = false := by simp; omega
          have es1 : (t.top.k == 1) = false := by simp; omega
          obtain ⟨oo, s1, hs⟩ : ∃ oo s1, stepS t.top s.more = (oo, s1) := ⟨_, _, rfl⟩
          have hs1n : s1.n = s.n + 1 := by have := stepS_n t.top s.more; rw [hs] at this; exact this
          have hs1e : s1.e.length = s.e.length := by have := stepS_e t.top s.more; rw [hs] at this; exact congrArg List.length this
          have HGs := Lib.hid (hG.out.step hn hs)
          have C := l03Step_c (w := wr) hokx HST.out hbB (show B ≤ w.heap.size + 1 by omega) HP.out.step hG.out.g.more
          unfold StepQ at C
          rw [hs] at C
          have HC := Lib.hid C
          have HSS := Lib.hid hs
          have hsi : ((s1.n : Nat) : Int) = (s.n : Int) + 1 := by omega
          clear C hs
          go_wp2_with fail
          refine HC.out.mono ?_
          rintro e w1 ⟨rfl, hM1, hb1⟩
          have hbel1 := hbel.trans hb1
          have hRw1 : BlkIs w1 w.heap.size 31 #[.slice none 0 0, .slice none 0 0] := (hbel1.block w.heap.size (by omega)).trans hR
          have hbw1 : Below w.heap.size w w1 := hb0.trans (hbel1.mono (by omega))
          by_cases ho : oo = 0
          · subst ho
            have pw1 : w1.cell? ⟨pb, 1, none⟩ = some (.slice (some ⟨b, off, none⟩) m d) := (hb1.cell (p := ⟨pb, 1, none⟩) (show pb < w.heap.size + 1 by omega)).trans pw
            have s01 : w1.cell? ⟨b, off + k * 8, none⟩ = some (.int .i64 t.top.k) := (hb1.cell (p := ⟨b, off + k * 8, none⟩) (show b < w.heap.size + 1 by omega)).trans s0
            have s21 : w1.cell? ⟨b, off + k * 8 + 2, none⟩ = some (.int .i64 t.top.e) := (hb1.cell (p := ⟨b, off + k * 8 + 2, none⟩) (show b < w.heap.size + 1 by omega)).trans s2
            have HDW1 := Lib.hid (HDW.out.next hb1 (show B ≤ w.heap.size + 1 by omega))
            obtain ⟨nn, HNN⟩ : ∃ n, Hid (numS s1.v t.top.s = n) := ⟨_, rfl⟩
            have CE : Calls Tryz.prog 72 #[.pointer (some ⟨b, off + k * 8 + 3, none⟩), .pointer (some ⟨sb, 0, none⟩)] w1 fun e w' => e = .returned (.int .i64 nn) ∧ ∃ d, w' = w1.drewN d := by
              obtain ⟨As, ns, cs, Ai, ni, ci, Af, nf, cf, k0, k1, k2, k3, k4, k5, k6, k7, kS, kI, kF⟩ := HST.out.next hb1 (show B ≤ w.heap.size + 1 by omega) (by omega)
              have hl1 := hM1.lt
              have := l03Eval_c w1.heap.size b (off + k * 8 + 3) t.top.s sb 0 (some ⟨gv, 0, none⟩) 4 cv s1.v w1 ⟨As, ns, cs, by omega, k3, k4, kS.more (by omega)⟩ (hM1.blk.cell 0) hM1.v.all (stmt_ok hokx).2.1.1 (stmt_ok hokx).2.1.2 HGs.out.g.big
              rw [show evTo t.top.s s1.v t.top.s.2.length = nn from HNN.out] at this
              exact this
            have HCE := Lib.hid CE
            have HM1 := Lib.hid hM1
            clear CE hM1 pw s0 s2 HDW
            go_wp2_with fail
            refine HCE.out.mono ?_
            rintro e w2 ⟨rfl, dd, rfl⟩
            have HM2 := Lib.hid (HM1.out.drewN dd)
            have hbel2 : Below (w.heap.size + 1) W (w1.drewN dd) := hbel1.trans (below_drewN dd)
            have hstp := hGo.out.step_inv hseq hn HSS.out
            have hMx := HM2.out
            have hfs := farT_step (fuel := F) (M := 30) (t := t) (r := ts) (s := s) (s1 := s1) (by omega) (by have h4 := HA.out; obtain ⟨r, h5, _⟩ := h4; have h6 := congrArg List.length h5; rw [List.length_append, List.length_drop] at h6; have := HLX.out; omega) hs1n
            have hfar1 := hfar.out
            clear HCE HC hRw hRw1 hbw hbw1 hbel hbel1 HM1 hb1
            cases t with
            | leaf x =>
              have e8 : (x.k == 8) = false := by
                have h8 : below x.k = 0 := HA.out.choose_spec.2
                have : x.k ≠ 8 := fun e => by rw [e] at h8; exact absurd h8 (by decide)
                simp [this]
              have e7 : (x.k == 7) = false := by
                have h8 : below x.k = 0 := HA.out.choose_spec.2
                have : x.k ≠ 7 := fun e => by rw [e] at h8; exact absurd h8 (by decide)
                simp [this]
              have sx : (Tr.leaf x).top = x := rfl
              rw [sx] at s01 s21
              by_cases h5 : x.k = 5
              · rw [h5] at s01
                have hnx : nextS (.leaf x) s1 = ([], { s1 with e := s1.e ++ [x.e] }) := by simp only [nextS]; rw [if_pos h5]
                rw [hnx] at hstp hfs
                have hG9 : GoodR F { s1 with e := s1.e ++ [x.e] } := by have := nextR_good (t := .leaf x) HGs.out (by have := hG.out.e; omega); rw [hnx] at this; exact this
                have hMa := HM2.out.next (bnew (w1.drewN dd) (.cells #[.int .i64 x.e] 2))
                have hrow : ((w1.drewN dd).alloc (.cells #[.int .i64 x.e] 2)).ownsRow (w.heap.size + 1) 2 1 (.slice (some ⟨ge, 0, none⟩) s.e.length ce) s.e.length (s1.e.map ic) := by rw [← hs1e]; exact hMa.e
                go_wp2_with (at_builtin; refine wpList_append_sep rfl _ _ 26 rfl (w.heap.size + 1) 2 j0 (.int .i64 0) 1 8 Tryz.underlying26 jif jz0 jz1 jz2 rfl (by decide) _ s.e.length (s1.e.map ic) rfl hrow ⟨(w1.drewN dd).heap.size, 0, none⟩ 1 1 [.int .i64 x.e] rfl rfl (one_at (w1.drewN dd) (.int .i64 x.e) 2 _ rfl) (fun u hu => by simp at hu; subst hu; rfl) (by unfold maxLen; omega) (by omega) hMa.bz (by decide) ?_; intro gg1 cg1 wg1 hown1 hgrow1 hsep1; have R1 := hown1; have G1 := hgrow1; have S1 := hsep1; clear hown1 hgrow1 hsep1)
                have R1' : wg1.ownsRow (w.heap.size + 1) 2 1 (.slice (some ⟨gg1, 0, none⟩) (s1.e.length + 1) cg1) (s1.e.length + 1) (s1.e.map ic ++ [.int .i64 x.e]) := by rw [hs1e]; exact R1
                have P1 := hMa.emit (x := x.e) R1' G1 S1
                have B1 : Below (w.heap.size + 1) (w1.drewN dd) wg1 := ((bnew (w1.drewN dd) (.cells #[.int .i64 x.e] 2)).mono HM2.out.bz).trans (only_below G1 hMa.eb hMa.bz)
                have HG9 := Lib.hid hG9
                clear R1 R1' G1 S1 hMa hrow hMx hG9
                have hat9 : AtTs xs (ws) (ts) := HAS.out
                have HM9 : measM xs F (.int .i64 (s1.n : Int)) (.slice (some ⟨gw, 0, none⟩) (ws).length cw) _ = farT F 30 (ts) ({ s1 with e := s1.e ++ [x.e] }) := P1.meas (F := F) hat9
                set_option linter.unusedSimpArgs false in simp only [List.cons_append, List.nil_append] at hstp hfs
                have hfar9 : farT F 30 (ts) ({ s1 with e := s1.e ++ [x.e] }) ≤ 200000 := by omega
                have HP9 := Lib.hid P1
                have HAT9 := Lib.hid hat9
                have HF9 := Lib.hid hfar9
                have HFS := Lib.hid hfs
                have HSTP := Lib.hid hstp
                have hb9 := hbel2.trans B1
                clear hat9 hfar9 hstp hfs
                go_roundw
                case rel => exact ⟨ts, { s1 with e := s1.e ++ [x.e] }, ws, gg1, cg1, gw, cw, (by show _ = Value.slice _ (s1.e ++ [x.e]).length _; rw [List.length_append, hs1e]; rfl), by rw [hsi], rfl, HAT9, HP9, HG9, HSTP, HF9, hb9⟩
                case measure => (try simp only [List.length_cons] at HM9 ⊢); rw [← hsi]; rw [HM9, HMS.out]; exact HFS.out
              · have e5 : (x.k == 5) = false := by simp [h5]
                have hnx : nextS (.leaf x) s1 = ([], s1) := by simp only [nextS]; rw [if_neg h5]
                rw [hnx] at hstp hfs
                go_wp2_with fail
                have HM9 := hMx.meas (F := F) HAS.out
                have HSTP := Lib.hid hstp
                have HFS := Lib.hid hfs
                have HFAR9 := Lib.hid (show farT F 30 ts s1 ≤ 200000 from by have := hfs; simp only [List.nil_append] at this; omega)
                clear hMx hstp hfs
                go_roundw
                case rel => exact ⟨ts, s1, ws, ge, ce, gw, cw, by rw [hs1e], by rw [hsi], rfl, HAS, HM2, HGs, HSTP, HFAR9, hbel2⟩
                case measure => rw [← hsi]; rw [HM9, HMS.out]; exact HFS.out
            | one x a =>
              have h8 : x.k = 8 := by
                have hb : below x.k = 1 := HA.out.choose_spec.2.1
                unfold below at hb
                split at hb
                · omega
                · split at hb <;> omega
              rw [show (Tr.one x a).top.k = 8 from h8] at s01
              have HA1 := Lib.hid HA.out.one
              by_cases hy : 0 ≤ nn
              · have ey : decide (0 ≤ nn) = true := decide_eq_true hy
                have hnx : nextS (.one x a) s1 = ([a, .one x a], s1) := by simp only [nextS]; rw [if_pos (by have := HNN.out; rw [show (Tr.one x a).top.s = x.s from rfl] at this; rw [this]; exact hy)]
                rw [hnx] at hstp hfs
                go_wp2_with (first | (at_builtin; refine wpList_append_sep rfl _ _ 115 rfl (w.heap.size + 1) 3 i0 (.int .i64 0) 1 8 Tryz.underlying115 hif hz0 hz1 hz2 rfl (by decide) _ (ws).length ((ws).reverse.map nc) rfl (hMx.next (bnew (w1.drewN dd) (.cells #[.int .i64 (k : Int)] 3))).k ⟨(w1.drewN dd).heap.size, 0, none⟩ 1 1 [.int .i64 (k : Int)] rfl rfl (one_at (w1.drewN dd) (.int .i64 (k : Int)) 3 _ rfl) (fun u hu => by simp at hu; subst hu; rfl) (by unfold maxLen; (try simp only [List.length_cons]); omega) (by (try simp only [List.length_cons]); omega) (hMx.next (bnew (w1.drewN dd) (.cells #[.int .i64 (k : Int)] 3))).bz (by decide) ?_; intro gg1 cg1 wg1 hown1 hgrow1 hsep1; have P1 := (hMx.next (bnew (w1.drewN dd) (.cells #[.int .i64 (k : Int)] 3))).push (k := k) hown1 hgrow1 hsep1; have B1 : Below (w.heap.size + 1) (w1.drewN dd) wg1 := ((bnew (w1.drewN dd) (.cells #[.int .i64 (k : Int)] 3)).mono hMx.bz).trans (only_below hgrow1 (hMx.next (bnew (w1.drewN dd) (.cells #[.int .i64 (k : Int)] 3))).kb (hMx.next (bnew (w1.drewN dd) (.cells #[.int .i64 (k : Int)] 3))).bz); clear hown1 hgrow1 hsep1) | (at_builtin; refine wpList_append_sep rfl _ _ 115 rfl (w.heap.size + 1) 3 i0 (.int .i64 0) 1 8 Tryz.underlying115 hif hz0 hz1 hz2 rfl (by decide) _ (k :: ws).length ((k :: ws).reverse.map nc) rfl (P1.next (bnew wg1 (.cells #[.int .i64 ((k : Int) + 1)] 3))).k ⟨wg1.heap.size, 0, none⟩ 1 1 [.int .i64 ((k : Int) + 1)] rfl rfl (one_at wg1 (.int .i64 ((k : Int) + 1)) 3 _ rfl) (fun u hu => by simp at hu; subst hu; rfl) (by unfold maxLen; (try simp only [List.length_cons]); omega) (by (try simp only [List.length_cons]); omega) (P1.next (bnew wg1 (.cells #[.int .i64 ((k : Int) + 1)] 3))).bz (by decide) ?_; intro gg2 cg2 wg2 hown2 hgrow2 hsep2; have P2 := (P1.next (bnew wg1 (.cells #[.int .i64 ((k : Int) + 1)] 3))).push (k := k + 1) hown2 hgrow2 hsep2; have B2 : Below (w.heap.size + 1) wg1 wg2 := ((bnew wg1 (.cells #[.int .i64 ((k : Int) + 1)] 3)).mono P1.bz).trans (only_below hgrow2 (P1.next (bnew wg1 (.cells #[.int .i64 ((k : Int) + 1)] 3))).kb (P1.next (bnew wg1 (.cells #[.int .i64 ((k : Int) + 1)] 3))).bz); clear hown2 hgrow2 hsep2) | fail)
                clear hMx
                have hat9 : AtTs xs ((k + 1) :: k :: ws) (a :: Tr.one x a :: ts) := .cons HA1.out (.cons HA.out HAS.out)
                have HM9 : measM xs F (.int .i64 (s1.n : Int)) (.slice (some ⟨gg2, 0, none⟩) ((k + 1) :: k :: ws).length cg2) _ = farT F 30 (a :: Tr.one x a :: ts) (s1) := P2.meas (F := F) hat9
                set_option linter.unusedSimpArgs false in simp only [List.cons_append, List.nil_append] at hstp hfs
                have hfar9 : farT F 30 (a :: Tr.one x a :: ts) (s1) ≤ 200000 := by omega
                have HP9 := Lib.hid P2
                have HAT9 := Lib.hid hat9
                have HF9 := Lib.hid hfar9
                have HFS := Lib.hid hfs
                have HSTP := Lib.hid hstp
                have hb9 := hbel2.trans (B1.trans B2)
                clear hat9 hfar9 hstp hfs
                go_roundw
                case rel => exact ⟨a :: Tr.one x a :: ts, s1, (k + 1) :: k :: ws, ge, ce, gg2, cg2, by rw [hs1e], by rw [hsi], rfl, HAT9, HP9, HGs, HSTP, HF9, hb9⟩
                case measure => (try simp only [List.length_cons] at HM9 ⊢); rw [← hsi]; rw [HM9, HMS.out]; exact HFS.out
              · have ey : decide (0 ≤ nn) = false := decide_eq_false hy
                have hnx : nextS (.one x a) s1 = ([], s1) := by simp only [nextS]; rw [if_neg (by have := HNN.out; rw [show (Tr.one x a).top.s = x.s from rfl] at this; rw [this]; exact hy)]
                rw [hnx] at hstp hfs
                go_wp2_with fail
                have hat9 : AtTs xs (ws) (ts) := HAS.out
                have HM9 : measM xs F (.int .i64 (s1.n : Int)) (.slice (some ⟨gw, 0, none⟩) (ws).length cw) _ = farT F 30 (ts) (s1) := hMx.meas (F := F) hat9
                set_option linter.unusedSimpArgs false in simp only [List.cons_append, List.nil_append] at hstp hfs
                have hfar9 : farT F 30 (ts) (s1) ≤ 200000 := by omega
                have HP9 := Lib.hid hMx
                have HAT9 := Lib.hid hat9
                have HF9 := Lib.hid hfar9
                have HFS := Lib.hid hfs
                have HSTP := Lib.hid hstp
                have hb9 := hbel2
                clear hat9 hfar9 hstp hfs
                go_roundw
                case rel => exact ⟨ts, s1, ws, ge, ce, gw, cw, by rw [hs1e], by rw [hsi], rfl, HAT9, HP9, HGs, HSTP, HF9, hb9⟩
                case measure => (try simp only [List.length_cons] at HM9 ⊢); rw [← hsi]; rw [HM9, HMS.out]; exact HFS.out
            | two x a b2 =>
              have h7 : x.k = 7 := by
                have hb : below x.k = 2 := HA.out.choose_spec.2.1
                have h1 : x.k ≠ 1 := hseq
                unfold below at hb
                split at hb
                · omega
                · split at hb <;> omega
              rw [show (Tr.two x a b2).top.k = 7 from h7] at s01
              have HA1 := Lib.hid HA.out.fst
              obtain ⟨HB2, hend⟩ := HA.out.snd
              obtain ⟨n2, hn2⟩ : ∃ n, k + 1 + (flatT a).length = n := ⟨_, rfl⟩
              rw [hn2] at HB2 hend
              by_cases hy : 0 ≤ nn
              · have ey : decide (0 ≤ nn) = true := decide_eq_true hy
                have hnx : nextS (.two x a b2) s1 = ([a], s1) := by simp only [nextS]; rw [if_pos (by have := HNN.out; rw [show (Tr.two x a b2).top.s = x.s from rfl] at this; rw [this]; exact hy)]
                rw [hnx] at hstp hfs
                go_wp2_with (first | (at_builtin; refine wpList_append_sep rfl _ _ 115 rfl (w.heap.size + 1) 3 i0 (.int .i64 0) 1 8 Tryz.underlying115 hif hz0 hz1 hz2 rfl (by decide) _ (ws).length ((ws).reverse.map nc) rfl (hMx.next (bnew (w1.drewN dd) (.cells #[.int .i64 ((k : Int) + 1)] 3))).k ⟨(w1.drewN dd).heap.size, 0, none⟩ 1 1 [.int .i64 ((k : Int) + 1)] rfl rfl (one_at (w1.drewN dd) (.int .i64 ((k : Int) + 1)) 3 _ rfl) (fun u hu => by simp at hu; subst hu; rfl) (by unfold maxLen; (try simp only [List.length_cons]); omega) (by (try simp only [List.length_cons]); omega) (hMx.next (bnew (w1.drewN dd) (.cells #[.int .i64 ((k : Int) + 1)] 3))).bz (by decide) ?_; intro gg1 cg1 wg1 hown1 hgrow1 hsep1; have P1 := (hMx.next (bnew (w1.drewN dd) (.cells #[.int .i64 ((k : Int) + 1)] 3))).push (k := k + 1) hown1 hgrow1 hsep1; have B1 : Below (w.heap.size + 1) (w1.drewN dd) wg1 := ((bnew (w1.drewN dd) (.cells #[.int .i64 ((k : Int) + 1)] 3)).mono hMx.bz).trans (only_below hgrow1 (hMx.next (bnew (w1.drewN dd) (.cells #[.int .i64 ((k : Int) + 1)] 3))).kb (hMx.next (bnew (w1.drewN dd) (.cells #[.int .i64 ((k : Int) + 1)] 3))).bz); clear hown1 hgrow1 hsep1) | fail)
                clear hMx
                have hat9 : AtTs xs ((k + 1) :: ws) (a :: ts) := .cons HA1.out HAS.out
                have HM9 : measM xs F (.int .i64 (s1.n : Int)) (.slice (some ⟨gg1, 0, none⟩) ((k + 1) :: ws).length cg1) _ = farT F 30 (a :: ts) (s1) := P1.meas (F := F) hat9
                set_option linter.unusedSimpArgs false in simp only [List.cons_append, List.nil_append] at hstp hfs
                have hfar9 : farT F 30 (a :: ts) (s1) ≤ 200000 := by omega
                have HP9 := Lib.hid P1
                have HAT9 := Lib.hid hat9
                have HF9 := Lib.hid hfar9
                have HFS := Lib.hid hfs
                have HSTP := Lib.hid hstp
                have hb9 := hbel2.trans B1
                clear hat9 hfar9 hstp hfs
                go_roundw
                case rel => exact ⟨a :: ts, s1, (k + 1) :: ws, ge, ce, gg1, cg1, by rw [hs1e], by rw [hsi], rfl, HAT9, HP9, HGs, HSTP, HF9, hb9⟩
                case measure => (try simp only [List.length_cons] at HM9 ⊢); rw [← hsi]; rw [HM9, HMS.out]; exact HFS.out
              · have ey : decide (0 ≤ nn) = false := decide_eq_false hy
                have hnx : nextS (.two x a b2) s1 = ([b2], s1) := by simp only [nextS]; rw [if_neg (by have := HNN.out; rw [show (Tr.two x a b2).top.s = x.s from rfl] at this; rw [this]; exact hy)]
                rw [hnx] at hstp hfs
                have HE := Lib.hid (l03End_c (some ⟨b, off, none⟩) m d B xs (k + 1) (w1.drewN dd) (HDW1.out.next (below_drewN (B := B) dd) (Nat.le_refl _)) (by omega) (by omega))
                rw [hend] at HE
                have hk1 : ((k + 1 : Nat) : Int) = (k : Int) + 1 := by omega
                rw [hk1] at HE
                go_wp2_with fail
                refine HE.out.mono ?_
                rintro e w3 ⟨rfl, rfl⟩
                go_wp2_with (first | (at_builtin; refine wpList_append_sep rfl _ _ 115 rfl (w.heap.size + 1) 3 i0 (.int .i64 0) 1 8 Tryz.underlying115 hif hz0 hz1 hz2 rfl (by decide) _ (ws).length ((ws).reverse.map nc) rfl (hMx.next (bnew (w1.drewN dd) (.cells #[.int .i64 (n2 : Int)] 3))).k ⟨(w1.drewN dd).heap.size, 0, none⟩ 1 1 [.int .i64 (n2 : Int)] rfl rfl (one_at (w1.drewN dd) (.int .i64 (n2 : Int)) 3 _ rfl) (fun u hu => by simp at hu; subst hu; rfl) (by unfold maxLen; (try simp only [List.length_cons]); omega) (by (try simp only [List.length_cons]); omega) (hMx.next (bnew (w1.drewN dd) (.cells #[.int .i64 (n2 : Int)] 3))).bz (by decide) ?_; intro gg1 cg1 wg1 hown1 hgrow1 hsep1; have P1 := (hMx.next (bnew (w1.drewN dd) (.cells #[.int .i64 (n2 : Int)] 3))).push (k := n2) hown1 hgrow1 hsep1; have B1 : Below (w.heap.size + 1) (w1.drewN dd) wg1 := ((bnew (w1.drewN dd) (.cells #[.int .i64 (n2 : Int)] 3)).mono hMx.bz).trans (only_below hgrow1 (hMx.next (bnew (w1.drewN dd) (.cells #[.int .i64 (n2 : Int)] 3))).kb (hMx.next (bnew (w1.drewN dd) (.cells #[.int .i64 (n2 : Int)] 3))).bz); clear hown1 hgrow1 hsep1) | fail)
                clear hMx
                have hat9 : AtTs xs (n2 :: ws) (b2 :: ts) := .cons HB2 HAS.out
                have HM9 : measM xs F (.int .i64 (s1.n : Int)) (.slice (some ⟨gg1, 0, none⟩) (n2 :: ws).length cg1) _ = farT F 30 (b2 :: ts) (s1) := P1.meas (F := F) hat9
                set_option linter.unusedSimpArgs false in simp only [List.cons_append, List.nil_append] at hstp hfs
                have hfar9 : farT F 30 (b2 :: ts) (s1) ≤ 200000 := by omega
                have HP9 := Lib.hid P1
                have HAT9 := Lib.hid hat9
                have HF9 := Lib.hid hfar9
                have HFS := Lib.hid hfs
                have HSTP := Lib.hid hstp
                have hb9 := hbel2.trans B1
                clear hat9 hfar9 hstp hfs
                go_roundw
                case rel => exact ⟨b2 :: ts, s1, n2 :: ws, ge, ce, gg1, cg1, by rw [hs1e], by rw [hsi], rfl, HAT9, HP9, HGs, HSTP, HF9, hb9⟩
                case measure => (try simp only [List.length_cons] at HM9 ⊢); rw [← hsi]; rw [HM9, HMS.out]; exact HFS.out
          · have hoo : (oo != 0) = true := by simp [ho]
            have k0 : w1.cell? ⟨sb, 0, none⟩ = some (.slice (some ⟨gv, 0, none⟩) 4 cv) := hM1.blk.cell 0
            have k1 : w1.cell? ⟨sb, 1, none⟩ = some (.slice (some ⟨gc, 0, none⟩) 8 cc) := hM1.blk.cell 1
            have z0 : w1.cell? ⟨w.heap.size, 0, none⟩ = some (.slice none 0 0) := hRw1.cell 0
            have z1 : w1.cell? ⟨w.heap.size, 1, none⟩ = some (.slice none 0 0) := hRw1.cell 1
            have y0 := hRw1.frozen 0
            have y1 := hRw1.frozen 1
            have HL := hM1.leave hRw1 hbw1
            obtain ⟨c0, c1, g1, g2, g3, hb5⟩ := HL
            have G1 := Lib.hid g1
            have G2 := Lib.hid g2
            have G3 := Lib.hid g3
            clear g1 g2 g3
            have HEND : Hid (o' = oo ∧ s' = s1) := hGo.out.stop_inv hseq hn HSS.out ho
            go_wp2_with fail
            generalize ((w1.setCell ⟨w.heap.size, 0, none⟩ (.slice (some ⟨gv, 0, none⟩) 4 cv)).setCell ⟨w.heap.size, 1, none⟩ (.slice (some ⟨gc, 0, none⟩) 8 cc)) = W5 at c0 c1 hb5 G1 G2 G3 ⊢
            refine bodyPost_ret (v := .tuple #[.agg #[.slice (some ⟨gv, 0, none⟩) 4 cv, .slice (some ⟨gc, 0, none⟩) 8 cc], .slice (some ⟨ge, 0, none⟩) s.e.length ce, .int .i64 oo, .int .i64 ((s.n : Int) + 1)]) (by simp [results, Tryz.results37, go_sem, c0, c1]) rfl ?_
            obtain ⟨eo, es⟩ := HEND.out
            rw [eo, es]
            exact ⟨_, cv, _, cc, _, ce, (by rw [hs1e, hsi]), G1.out, G2.out, G3.out, hb5⟩

end Go.Proofs.YtajmbnimdngjhaaGreatDoor

/-! The run method of emit. Conditions: a valid element, a run as ExM tells it, a fuel up to 2000. -/
namespace Go.Proofs.YtajmbnimdngjhaaGreatDoor
set_option linter.unusedVariables false
open Go.RowKit

theorem wp_app_runE {o : Oper} {a : Act} {w : World} {K : Act → World → Prop} {Q : Exit → Act → World → Prop} (x y : Operand) (ts : TypeId) (ho : o.op = .call { callee := .builtin .append, args := #[x, y], argTypes := #[ts, ts] })
    (vx vy : Value) (hx : a.eval x = vx) (hy : a.eval y = vy) (v' : Value) (w' : World) (hr : (Builtin.append_ #[ts, ts] o.type #[vx, vy]).run Tryz.prog w = .ok v' w') (h : K (a.put o.dst v') w') : o.wp Tryz.prog a w K Q := by
  unfold Oper.wp
  simp only [execOp, ho, resolve, Sem.run_bind, Sem.run_pure, Result.andThen_ok, invoke, builtin]
  simp only [List.map_toArray, List.map_cons, List.map_nil, hx, hy]
  rw [hr]
  exact h
theorem infoE : (Tryz.prog.info? 2).map (fun i => (i.zero, i.size, i.bytes)) = some (some (.int .i64 0), 1, 8) := by kernel_rfl
section
variable {w w' : World} {x : S8} {s : RS} {base gx gv cv gc cc : Nat} {E : Option Addr} {ce fuel : Nat}
theorem ExM.own_at (h : ExM w base gx gv cv gc cc E ce fuel s) {k : Nat} (hk : (Value.slice E s.e.length ce).ownBlock = some k) : E = some ⟨k, 0, none⟩ := by
  rcases h.e.2 with ⟨h1, _⟩ | ⟨g, cap, cur, h1, _⟩
  · injection h1 with e1 _ _
    subst e1
    simp [Value.ownBlock] at hk
  · injection h1 with e
    subst e
    simp [Value.ownBlock] at hk
    subst hk
    rfl
theorem ExM.kept_blk (h : ExM w base gx gv cv gc cc E ce fuel s) (hg : w.grownBy w' (Value.slice E s.e.length ce).ownBlock) : BlkIs w' gx 74 #[.slice (some ⟨gv, 0, none⟩) 4 cv, .slice (some ⟨gc, 0, none⟩) 8 cc, .slice E s.e.length ce, .int .i64 (s.n : Int), .int .i64 (fuel : Int)] :=
  (hg.block gx h.lt.1 (fun e => (h.ea gx (h.own_at e.symm)).1 rfl)).trans h.blk
theorem ExM.far_emit (h : ExM w base gx gv cv gc cc E ce fuel s) {g' i : Nat} {v : Value} (hg : w.grownBy w' (Value.slice E s.e.length ce).ownBlock) (hs : some g' = (Value.slice E s.e.length ce).ownBlock ∨ w.heap.size ≤ g') : FarX w (w'.setCell ⟨gx, i, none⟩ v) base gx gv gc E (some ⟨g', 0, none⟩) := by
  have hk : ∀ k, k < w.heap.size → E ≠ some ⟨k, 0, none⟩ → w'.heap[k]? = w.heap[k]? := fun k hk he => hg.block k hk (fun e => he (h.own_at e.symm))
  have hb : Below base w w' := ⟨hg.os, hg.tape, hg.output, hg.size, fun k hlt => by
    have hkk : k < w.heap.size := Nat.lt_of_lt_of_le hlt h.size
    refine hk k hkk (fun e => ?_)
    subst e
    have := (h.e.lt k rfl).1
    omega⟩
  refine ⟨hb.trans (only_below only_set h.bx (Nat.le_trans h.size hg.size)), fun k hlt h1 _ _ h4 => (Below.heap_setCell w' ⟨gx, i, none⟩ v k h1).trans (hk k hlt h4), fun k e => ?_⟩
  injection e with e
  injection e with e
  subst e
  rcases hs with hs | hs
  · exact .inl (h.own_at hs.symm)
  · exact .inr hs
end
section
variable {x : S8} {s : RS} {base gx gv cv gc cc : Nat} {E : Option Addr} {ce fuel : Nat}
set_option maxRecDepth 100000 in
set_option maxHeartbeats 2000000 in
theorem run_emit (hk : x.k = 5) (w : World) (hx : stmtB x = true) (h : ExM w base gx gv cv gc cc E ce fuel s) (g : GoodR fuel s) :
    Calls Tryz.prog 223 #[.agg #[.int .i64 x.e], .pointer (some ⟨gx, 0, none⟩)] w (RunQ w base gx gv cv gc cc E fuel (.leaf x) s) := by
  obtain ⟨i0, hif, hz0, hz1, hz2⟩ := info_parts infoE
  have hb0 := bnew w (.cells #[.int .i64 x.e] 136)
  have p0 : (w.alloc (.cells #[.int .i64 x.e] 136)).cell? ⟨w.heap.size, 0, none⟩ = some (.int .i64 x.e) := by simp
  have hsz : (w.alloc (.cells #[.int .i64 x.e] 136)).heap.size = w.heap.size + 1 := by simp
  have hbase := h.size
  have hnf := g.n
  have hf2 := g.f
  have h0 := h.next hb0
  have hfr := h.fresh (Nat.le_refl _)
  have F0 : FarX w (w.alloc (.cells #[.int .i64 x.e] 136)) base gx gv gc E E := FarX.of_below hbase hb0
  by_cases hn : s.n = fuel
  · have C := Lib.hid (step_no _ h0 hn)
    have HX := Lib.hid h0
    clear h h0
    go_enter Tryz.func223, Tryz.ntmps223
    go_wp2_with fail
    refine C.out.mono ?_
    rintro e w1 ⟨rfl, hb1⟩
    go_wp2_with fail
    go_ret
    exact ⟨1, s, E, ce, rfl, HX.out.next hb1, g, F0.trans (FarX.of_below (by omega) hb1), Nat.le_refl _, ends_fuel (show x.k ≠ 1 by omega) hn⟩
  · have C := Lib.hid (step_yes _ h0 (by omega) hf2)
    have hst : stepS x s.more = (0, s.more) := stepS_no (.inr (.inr (.inl hk)))
    clear h h0
    go_enter Tryz.func223, Tryz.ntmps223
    go_wp2_with fail
    refine C.out.mono ?_
    rintro e w1 ⟨rfl, h1, F1⟩
    have p1 := F1.cell p0 hfr.1 hfr.2.1 hfr.2.2.1 hfr.2.2.2
    have FF := F0.trans F1
    clear C F0 F1 p0
    go_wp2_with fail
    have hd : ExM w1.drew base gx gv cv gc cc E ce fuel s.more := h1.drew
    have FD : FarX w w1.drew base gx gv gc E E := FF.drew
    have pd : w1.drew.cell? ⟨w.heap.size, 0, none⟩ = some (.int .i64 x.e) := p1
    have hE : s.more.e.length ≤ 2000 := by have := g.e; show s.e.length ≤ 2000; omega
    clear h1 FF p1
    refine wp_region_held_drew (S := fun w' => w'.cell? ⟨w.heap.size, 0, none⟩ = some (.int .i64 x.e)) (by kernel_rfl) pd ?_
    intro hHeld0
    generalize w1.drew = W at hd FD pd hHeld0 ⊢
    have hbA := bnew W (.cells #[.int .i64 x.e] 2)
    have hA := hd.next hbA
    obtain ⟨g3, c3, w3, x3, r3, gr3, s3⟩ := run_append_sep (P := Tryz.prog) (w := (W.alloc (.cells #[.int .i64 x.e] 2))) base 26 26 2 i0 (.int .i64 0) 1 8 Tryz.underlying26 hif hz0 hz1 hz2 rfl (by decide) (.slice E s.more.e.length ce) s.more.e.length (s.more.e.map ic) hA.e ⟨W.heap.size, 0, none⟩ 1 1 [.int .i64 x.e] rfl (one_at W (.int .i64 x.e) 2 _ rfl) (fun u hu => by simp at hu; subst hu; rfl) (by unfold maxLen; omega) (by omega) hA.size (by decide)
    have hM := hA.emit r3 gr3 s3
    have hFE := FD.trans ((FarX.of_below hd.size hbA).trans (hA.far_emit (i := 2) (v := .slice (some ⟨g3, 0, none⟩) (s.more.e.length + 1) c3) gr3 s3))
    have hB3 := hA.kept_blk gr3
    have y2 : w3.cell? ⟨gx, 2, none⟩ = some (.slice E s.more.e.length ce) := hB3.cell 2
    have f2 := hB3.frozen 2
    have v2 : W.cell? ⟨gx, 2, none⟩ = some (.slice E s.more.e.length ce) := hd.blk.cell 2
    have v2a : (W.alloc (.cells #[.int .i64 x.e] 2)).cell? ⟨gx, 2, none⟩ = some (.slice E s.more.e.length ce) := hA.blk.cell 2
    have qA : (W.alloc (.cells #[.int .i64 x.e] 2)).cell? ⟨w.heap.size, 0, none⟩ = some (.int .i64 x.e) := cell_next pd hbA
    have q3 : w3.cell? ⟨w.heap.size, 0, none⟩ = some (.int .i64 x.e) := (World.cell?_of_block (a := ⟨w.heap.size, 0, none⟩) (gr3.block w.heap.size (cell_lt qA) (fun e => hfr.2.2.2 (hA.own_at e.symm)))).trans qA
    have q4 : (w3.setCell ⟨gx, 2, none⟩ (.slice (some ⟨g3, 0, none⟩) (s.more.e.length + 1) c3)).cell? ⟨w.heap.size, 0, none⟩ = some (.int .i64 x.e) := (World.cell?_of_block (a := ⟨w.heap.size, 0, none⟩) (Below.heap_setCell w3 ⟨gx, 2, none⟩ _ w.heap.size hfr.1)).trans q3
    have HM := Lib.hid hM
    have HFE := Lib.hid hFE
    have X3 := Lib.hid x3
    clear hM hFE r3 gr3 s3 hB3 hA hd FD x3
    refine wpAnyH_take (i := 0) (v := ?_) rfl (by kernel_rfl) (by kernel_rfl) (by kernel_rfl) (fun _ _ _ h => h) (Or.inl ⟨by kernel_rfl, ?_⟩) (by assumption) ?_
    rotate_left
    · intro w9 hS9; (try dsimp only at hS9); go_simp; (try with_reducible rfl)
    set_option linter.unusedSimpArgs false in try simp only [Act.put, List.getElem_toArray, List.getElem_cons_succ, List.getElem_cons_zero, List.setIfInBounds_toArray, List.set_cons_zero, List.set_cons_succ]
    refine wpAnyH_take (i := 1) (v := ?_) rfl (by kernel_rfl) (by kernel_rfl) (by kernel_rfl) (fun _ _ _ h => h) (Or.inl ⟨by kernel_rfl, ?_⟩) (by assumption) ?_
    rotate_left
    · intro w9 hS9; (try dsimp only at hS9); go_simp; (try with_reducible rfl)
    set_option linter.unusedSimpArgs false in try simp only [Act.put, List.getElem_toArray, List.getElem_cons_succ, List.getElem_cons_zero, List.setIfInBounds_toArray, List.set_cons_zero, List.set_cons_succ]
    refine wpAnyH_take (i := 2) (v := ?_) rfl (by kernel_rfl) (by kernel_rfl) (by kernel_rfl) (fun _ _ _ h => h) (Or.inl ⟨by kernel_rfl, ?_⟩) (by assumption) ?_
    rotate_left
    · intro w9 hS9; (try dsimp only at hS9); go_simp; (try with_reducible rfl)
    set_option linter.unusedSimpArgs false in try simp only [Act.put, List.getElem_toArray, List.getElem_cons_succ, List.getElem_cons_zero, List.setIfInBounds_toArray, List.set_cons_zero, List.set_cons_succ]
    refine wpAnyH_take (i := 3) (v := ?_) rfl (by kernel_rfl) (by kernel_rfl) (by kernel_rfl) (fun _ _ _ h => h) (Or.inl ⟨by kernel_rfl, ?_⟩) (by assumption) ?_
    rotate_left
    · intro w9 hS9; (try dsimp only at hS9); go_simp; (try with_reducible rfl)
    set_option linter.unusedSimpArgs false in try simp only [Act.put, List.getElem_toArray, List.getElem_cons_succ, List.getElem_cons_zero, List.setIfInBounds_toArray, List.set_cons_zero, List.set_cons_succ]
    refine wpAnyH_take (i := 5) (v := ?_) rfl (by kernel_rfl) (by kernel_rfl) (by kernel_rfl) (fun _ _ _ h => h) (Or.inl ⟨by kernel_rfl, ?_⟩) (by assumption) ?_
    rotate_left
    · intro w9 hS9; (try dsimp only at hS9); go_simp; (try with_reducible rfl)
    set_option linter.unusedSimpArgs false in try simp only [Act.put, List.getElem_toArray, List.getElem_cons_succ, List.getElem_cons_zero, List.setIfInBounds_toArray, List.set_cons_zero, List.set_cons_succ]
    refine wpAnyH_take (i := 6) (v := ?_) rfl (by kernel_rfl) (by kernel_rfl) (by kernel_rfl) (fun _ _ _ h => h) (Or.inl ⟨by kernel_rfl, ?_⟩) (by assumption) ?_
    rotate_left
    · intro w9 hS9; (try dsimp only at hS9); go_simp; (try with_reducible rfl)
    set_option linter.unusedSimpArgs false in try simp only [Act.put, List.getElem_toArray, List.getElem_cons_succ, List.getElem_cons_zero, List.setIfInBounds_toArray, List.set_cons_zero, List.set_cons_succ]
    refine wpAnyH_ready (rs := [4, 7]) (by kernel_rfl) (by simp) ?_
    refine AllReadyH.cons rfl (fun K hK => ?_) (AllReadyH.cons rfl (fun K hK => ?_) (AllReadyH.nil))
    · go_simp
      refine hK.out _ _ pd (fun hHeld1 => ?_)
      clear hK K hHeld0
      set_option linter.unusedSimpArgs false in try simp only [Act.put, List.getElem_toArray, List.getElem_cons_succ, List.getElem_cons_zero, List.setIfInBounds_toArray, List.set_cons_zero, List.set_cons_succ]
      refine wpAnyH_ready (rs := [7]) (by kernel_rfl) (by simp) ?_
      refine AllReadyH.cons rfl (fun K hK => ?_) (AllReadyH.nil)
      go_simp
      refine hK.out _ _ qA (fun hHeld2 => ?_)
      clear hK K hHeld1
      set_option linter.unusedSimpArgs false in try simp only [Act.put, List.getElem_toArray, List.getElem_cons_succ, List.getElem_cons_zero, List.setIfInBounds_toArray, List.set_cons_zero, List.set_cons_succ]
      refine wpAnyH_ready (rs := [8]) (by kernel_rfl) (by simp) ?_
      refine AllReadyH.cons rfl (fun K hK => ?_) (AllReadyH.nil)
      refine Eq.mpr (if_pos (by kernel_rfl)) ?_
      refine wp_app_runE _ _ 26 rfl (.slice E s.more.e.length ce) (.slice (some ⟨W.heap.size, 0, none⟩) 1 1) rfl rfl (.slice (some ⟨g3, 0, none⟩) (s.more.e.length + 1) c3) w3 X3.out ?_
      refine hK.out _ _ q3 (fun hHeld3 => ?_)
      clear hK K hHeld2
      set_option linter.unusedSimpArgs false in try simp only [Act.put, List.getElem_toArray, List.getElem_cons_succ, List.getElem_cons_zero, List.setIfInBounds_toArray, List.set_cons_zero, List.set_cons_succ]
      refine wpAnyH_take (i := 9) (v := ?_) rfl (by kernel_rfl) (by kernel_rfl) (by kernel_rfl) (fun _ _ _ h => h) (Or.inl ⟨by kernel_rfl, ?_⟩) (by assumption) ?_
      rotate_left
      · intro w9 hS9; (try dsimp only at hS9); go_simp; (try with_reducible rfl)
      set_option linter.unusedSimpArgs false in try simp only [Act.put, List.getElem_toArray, List.getElem_cons_succ, List.getElem_cons_zero, List.setIfInBounds_toArray, List.set_cons_zero, List.set_cons_succ]
      refine wpAnyH_take (i := 10) (v := ?_) rfl (by kernel_rfl) (by kernel_rfl) (by kernel_rfl) (fun _ _ _ h => h) (Or.inl ⟨by kernel_rfl, ?_⟩) (by assumption) ?_
      rotate_left
      · intro w9 hS9; (try dsimp only at hS9); go_simp; (try with_reducible rfl)
      set_option linter.unusedSimpArgs false in try simp only [Act.put, List.getElem_toArray, List.getElem_cons_succ, List.getElem_cons_zero, List.setIfInBounds_toArray, List.set_cons_zero, List.set_cons_succ]
      refine wpAnyH_ready (rs := [11]) (by kernel_rfl) (by simp) ?_
      refine AllReadyH.cons rfl (fun K hK => ?_) (AllReadyH.nil)
      go_simp
      refine hK.out _ _ q4 (fun hHeld4 => ?_)
      clear hK K hHeld3
      set_option linter.unusedSimpArgs false in try simp only [Act.put, List.getElem_toArray, List.getElem_cons_succ, List.getElem_cons_zero, List.setIfInBounds_toArray, List.set_cons_zero, List.set_cons_succ]
      refine wpAnyH_done (by kernel_rfl) ?_ _
      go_wp2_with fail
      go_ret
      exact ⟨0, _, _, c3, rfl, HM.out, ⟨⟨g.g.lv, g.g.lc, g.g.v, g.g.c⟩, by have := g.e; show (s.e ++ [x.e]).length ≤ s.n + 1; rw [List.length_append]; simp; omega, by show s.n + 1 ≤ fuel; omega, g.f⟩, HFE.out, Nat.le_succ _, by have := ends_leaf (by omega) hn hst; simp only [nextS] at this; rw [if_pos hk] at this; exact this⟩
    · go_simp
      refine hK.out _ _ qA (fun hHeld5 => ?_)
      clear hK K hHeld0
      set_option linter.unusedSimpArgs false in try simp only [Act.put, List.getElem_toArray, List.getElem_cons_succ, List.getElem_cons_zero, List.setIfInBounds_toArray, List.set_cons_zero, List.set_cons_succ]
      refine wpAnyH_ready (rs := [4]) (by kernel_rfl) (by simp) ?_
      refine AllReadyH.cons rfl (fun K hK => ?_) (AllReadyH.nil)
      go_simp
      refine hK.out _ _ qA (fun hHeld6 => ?_)
      clear hK K hHeld5
      set_option linter.unusedSimpArgs false in try simp only [Act.put, List.getElem_toArray, List.getElem_cons_succ, List.getElem_cons_zero, List.setIfInBounds_toArray, List.set_cons_zero, List.set_cons_succ]
      refine wpAnyH_ready (rs := [8]) (by kernel_rfl) (by simp) ?_
      refine AllReadyH.cons rfl (fun K hK => ?_) (AllReadyH.nil)
      refine Eq.mpr (if_pos (by kernel_rfl)) ?_
      refine wp_app_runE _ _ 26 rfl (.slice E s.more.e.length ce) (.slice (some ⟨W.heap.size, 0, none⟩) 1 1) rfl rfl (.slice (some ⟨g3, 0, none⟩) (s.more.e.length + 1) c3) w3 X3.out ?_
      refine hK.out _ _ q3 (fun hHeld7 => ?_)
      clear hK K hHeld6
      set_option linter.unusedSimpArgs false in try simp only [Act.put, List.getElem_toArray, List.getElem_cons_succ, List.getElem_cons_zero, List.setIfInBounds_toArray, List.set_cons_zero, List.set_cons_succ]
      refine wpAnyH_take (i := 9) (v := ?_) rfl (by kernel_rfl) (by kernel_rfl) (by kernel_rfl) (fun _ _ _ h => h) (Or.inl ⟨by kernel_rfl, ?_⟩) (by assumption) ?_
      rotate_left
      · intro w9 hS9; (try dsimp only at hS9); go_simp; (try with_reducible rfl)
      set_option linter.unusedSimpArgs false in try simp only [Act.put, List.getElem_toArray, List.getElem_cons_succ, List.getElem_cons_zero, List.setIfInBounds_toArray, List.set_cons_zero, List.set_cons_succ]
      refine wpAnyH_take (i := 10) (v := ?_) rfl (by kernel_rfl) (by kernel_rfl) (by kernel_rfl) (fun _ _ _ h => h) (Or.inl ⟨by kernel_rfl, ?_⟩) (by assumption) ?_
      rotate_left
      · intro w9 hS9; (try dsimp only at hS9); go_simp; (try with_reducible rfl)
      set_option linter.unusedSimpArgs false in try simp only [Act.put, List.getElem_toArray, List.getElem_cons_succ, List.getElem_cons_zero, List.setIfInBounds_toArray, List.set_cons_zero, List.set_cons_succ]
      refine wpAnyH_ready (rs := [11]) (by kernel_rfl) (by simp) ?_
      refine AllReadyH.cons rfl (fun K hK => ?_) (AllReadyH.nil)
      go_simp
      refine hK.out _ _ q4 (fun hHeld8 => ?_)
      clear hK K hHeld7
      set_option linter.unusedSimpArgs false in try simp only [Act.put, List.getElem_toArray, List.getElem_cons_succ, List.getElem_cons_zero, List.setIfInBounds_toArray, List.set_cons_zero, List.set_cons_succ]
      refine wpAnyH_done (by kernel_rfl) ?_ _
      go_wp2_with fail
      go_ret
      exact ⟨0, _, _, c3, rfl, HM.out, ⟨⟨g.g.lv, g.g.lc, g.g.v, g.g.c⟩, by have := g.e; show (s.e ++ [x.e]).length ≤ s.n + 1; rw [List.length_append]; simp; omega, by show s.n + 1 ≤ fuel; omega, g.f⟩, HFE.out, Nat.le_succ _, by have := ends_leaf (by omega) hn hst; simp only [nextS] at this; rw [if_pos hk] at this; exact this⟩
end
end Go.Proofs.YtajmbnimdngjhaaGreatDoor

/-! The run method of every statement of a tree. Conditions: a valid body, a run as ExM tells it, a fuel up to 2000. -/
namespace Go.Proofs.YtajmbnimdngjhaaGreatDoor
set_option linter.unusedVariables false
open Go.RowKit

/-- What a value's method run is. -/
def MethodIs (u : Value) (F : FuncId) (r : Value) : Prop := ∃ (T : TypeId) (c : Value), u = .iface T c ∧ (∀ w : World, (method 380 T c "loop.example/g01105/impl.run").run Tryz.prog w = .ok (F, r) w) ∧ ∀ (args : Array Value) (w : World), (callFunc F args).run Tryz.prog w = .ok (.enter F args) w
def Runs (w0 : World) (B fuel : Nat) (t : Tr) (u : Value) : Prop := ∃ (F : FuncId) (r : Value), MethodIs u F r ∧ ∀ (w : World) (base gx gv cv gc cc : Nat) (E : Option Addr) (ce : Nat) (s : RS), Below B w0 w → B ≤ base → ExM w base gx gv cv gc cc E ce fuel s → GoodR fuel s →
  Calls Tryz.prog F #[r, .pointer (some ⟨gx, 0, none⟩)] w (RunQ w base gx gv cv gc cc E fuel t s)
def readN (w : World) (g : Nat) : Nat := (intOf ((w.cell? ⟨g, 3, none⟩).getD undef)).toNat
theorem ExM.readN {w : World} {base gx gv cv gc cc : Nat} {E : Option Addr} {ce fuel : Nat} {s : RS} (h : ExM w base gx gv cv gc cc E ce fuel s) : readN w gx = s.n := by
  have : w.cell? ⟨gx, 3, none⟩ = some (.int .i64 (s.n : Int)) := h.blk.cell 3
  unfold Go.Proofs.YtajmbnimdngjhaaGreatDoor.readN
  rw [this]
  simp [intOf]
section
variable {x : S8} {s : RS} {base gx gv cv gc cc : Nat} {E : Option Addr} {ce fuel B : Nat} {w0 : World} {a b : Tr} {u v : Value}
set_option maxRecDepth 100000 in
set_option maxHeartbeats 1000000 in
theorem run_seq (hk : x.k = 1) (ha : Runs w0 B fuel a u) (hb : Runs w0 B fuel b v) (w : World) (hw : Below B w0 w) (hB : B ≤ base) (h : ExM w base gx gv cv gc cc E ce fuel s) (g : GoodR fuel s) :
    Calls Tryz.prog 204 #[.agg #[u, v], .pointer (some ⟨gx, 0, none⟩)] w (RunQ w base gx gv cv gc cc E fuel (.two x a b) s) := by
  obtain ⟨Fa, ra, ⟨Ta, xa, rfl, hma, hfa⟩, ca⟩ := ha
  obtain ⟨Fb, rb, ⟨Tb, xb, rfl, hmb, hfb⟩, cb⟩ := hb
  have hb0 := bnew w (.cells #[.iface Ta xa, .iface Tb xb] 90)
  have p0 : (w.alloc (.cells #[.iface Ta xa, .iface Tb xb] 90)).cell? ⟨w.heap.size, 0, none⟩ = some (.iface Ta xa) := by simp
  have p1 : (w.alloc (.cells #[.iface Ta xa, .iface Tb xb] 90)).cell? ⟨w.heap.size, 1, none⟩ = some (.iface Tb xb) := by simp
  have hbase := h.size
  have hfr := h.fresh (Nat.le_refl _)
  have hw1 := hw.trans (hb0.mono (Nat.le_trans hB hbase))
  have F0 : FarX w (w.alloc (.cells #[.iface Ta xa, .iface Tb xb] 90)) base gx gv gc E E := FarX.of_below hbase hb0
  have CA := Lib.hid (ca _ base gx gv cv gc cc E ce s hw1 hB (h.next hb0) g)
  have CB := Lib.hid cb
  have MB := Lib.hid hmb
  clear h ca cb hmb
  go_enter Tryz.func204, Tryz.ntmps204
  go_wp2_with fail
  generalize w.alloc (.cells #[.iface Ta xa, .iface Tb xb] 90) = W at hb0 p0 p1 hw1 F0 CA ⊢
  refine CA.out.mono ?_
  rintro e w1 ⟨o, s1, E1, ce1, rfl, h1, g1, F1, hle, he⟩
  replace p1 := F1.cell p1 hfr.1 hfr.2.1 hfr.2.2.1 hfr.2.2.2
  have hw2 := hw1.trans (F1.below.mono hB)
  have FF := F0.trans F1
  clear CA hma F0 F1
  by_cases ho : o = 0
  · subst ho
    have CC := Lib.hid (CB.out w1 base gx gv cv gc cc E1 ce1 s1 hw2 hB h1 g1)
    have hmb := MB.out
    clear h1 CB
    go_wp2_with fail
    refine CC.out.mono ?_
    rintro e w2 ⟨o, s2, E2, ce2, rfl, h2, g2, F2, hle2, he2⟩
    clear hmb
    go_wp2_with fail
    go_ret
    exact ⟨o, s2, E2, ce2, rfl, h2, g2, FF.trans F2, by omega, ends_seq hk he he2⟩
  · have HX := Lib.hid h1
    clear h1 CB
    go_wp2_with fail
    go_ret
    exact ⟨o, s1, E1, ce1, rfl, HX.out, g1, FF, hle, ends_seq_stop hk he ho⟩
set_option maxRecDepth 100000 in
set_option maxHeartbeats 1000000 in
theorem run_if (hk : x.k = 7) (As : Option Addr) (ns cs : Nat) (ha : Runs w0 B fuel a u) (hb : Runs w0 B fuel b v) (w : World) (hx : stmtB x = true) (hi : InL w base As ns x.s.2) (hw : Below B w0 w) (hB : B ≤ base) (h : ExM w base gx gv cv gc cc E ce fuel s) (g : GoodR fuel s) :
    Calls Tryz.prog 231 #[.agg #[.int .i64 x.s.1, .slice As ns cs, u, v], .pointer (some ⟨gx, 0, none⟩)] w (RunQ w base gx gv cv gc cc E fuel (.two x a b) s) := by
  obtain ⟨Fa, ra, ⟨Ta, xa, rfl, hma, hfa⟩, ca⟩ := ha
  obtain ⟨Fb, rb, ⟨Tb, xb, rfl, hmb, hfb⟩, cb⟩ := hb
  have hb0 := bnew w (.cells #[.int .i64 x.s.1, .slice As ns cs, .iface Ta xa, .iface Tb xb] 140)
  have p0 : (w.alloc (.cells #[.int .i64 x.s.1, .slice As ns cs, .iface Ta xa, .iface Tb xb] 140)).cell? ⟨w.heap.size, 0, none⟩ = some (.int .i64 x.s.1) := by simp
  have p1 : (w.alloc (.cells #[.int .i64 x.s.1, .slice As ns cs, .iface Ta xa, .iface Tb xb] 140)).cell? ⟨w.heap.size, 1, none⟩ = some (.slice As ns cs) := by simp
  have p2 : (w.alloc (.cells #[.int .i64 x.s.1, .slice As ns cs, .iface Ta xa, .iface Tb xb] 140)).cell? ⟨w.heap.size, 2, none⟩ = some (.iface Ta xa) := by simp
  have p3 : (w.alloc (.cells #[.int .i64 x.s.1, .slice As ns cs, .iface Ta xa, .iface Tb xb] 140)).cell? ⟨w.heap.size, 3, none⟩ = some (.iface Tb xb) := by simp
  have hbase := h.size
  have hnf := g.n
  have hf2 := g.f
  have hfr := h.fresh (Nat.le_refl _)
  have h0 := h.next hb0
  obtain ⟨hkk, hokS, _⟩ := stmt_ok hx
  have hw1 := hw.trans (hb0.mono (Nat.le_trans hB hbase))
  have F0 : FarX w (w.alloc (.cells #[.int .i64 x.s.1, .slice As ns cs, .iface Ta xa, .iface Tb xb] 140)) base gx gv gc E E := FarX.of_below hbase hb0
  obtain ⟨n, HN⟩ : ∃ n, Hid (numS s.v x.s = n) := ⟨_, rfl⟩
  by_cases hn : s.n = fuel
  · have C := Lib.hid (step_no _ h0 hn)
    have HX := Lib.hid h0
    clear h h0 ca cb hma hmb
    go_enter Tryz.func231, Tryz.ntmps231
    go_wp2_with fail
    refine C.out.mono ?_
    rintro e w1 ⟨rfl, hb1⟩
    go_wp2_with fail
    go_ret
    exact ⟨1, s, E, ce, rfl, HX.out.next hb1, g, F0.trans (FarX.of_below (Nat.le_trans hbase F0.below.size) hb1), Nat.le_refl _, ends_fuel (show x.k ≠ 1 by omega) hn⟩
  · have C := Lib.hid (step_yes _ h0 (by omega) hf2)
    have CA := Lib.hid ca
    have CB := Lib.hid cb
    have MA := Lib.hid hma
    have MB := Lib.hid hmb
    have h1g := g.g.more
    clear h h0 ca cb hma hmb
    go_enter Tryz.func231, Tryz.ntmps231
    go_wp2_with fail
    generalize w.alloc (.cells #[.int .i64 x.s.1, .slice As ns cs, .iface Ta xa, .iface Tb xb] 140) = W at hb0 p0 p1 p2 p3 hw1 F0 C ⊢
    refine C.out.mono ?_
    rintro e w1 ⟨rfl, h1, F1⟩
    replace p0 := F1.cell p0 hfr.1 hfr.2.1 hfr.2.2.1 hfr.2.2.2
    replace p1 := F1.cell p1 hfr.1 hfr.2.1 hfr.2.2.1 hfr.2.2.2
    replace p2 := F1.cell p2 hfr.1 hfr.2.1 hfr.2.2.1 hfr.2.2.2
    replace p3 := F1.cell p3 hfr.1 hfr.2.1 hfr.2.2.1 hfr.2.2.2
    have FF := F0.trans F1
    have hw2 := hw1.trans (F1.below.mono hB)
    have HI1 := (hi.next FF.below (Nat.le_refl _)).more h1.size
    have CN := number_c x.s.1 As ns cs x.s.2 w1 h1 h1g HI1 hokS.1 hokS.2
    rw [show numS s.more.v (x.s.1, x.s.2) = n from HN.out] at CN
    have CH := Lib.hid CN
    have HX := Lib.hid h1
    have hz1 := h1.size
    clear CN h1 F0 F1 C
    go_wp2_with fail
    refine CH.out.mono ?_
    rintro e w2 ⟨rfl, hb2⟩
    replace p2 := cell_next p2 hb2
    replace p3 := cell_next p3 hb2
    have h2 := HX.out.next hb2
    have FG := FF.trans (FarX.of_below hz1 hb2)
    have hw3 := hw2.trans (hb2.mono (Nat.le_trans hB hz1))
    have gm := g.more hn
    clear CH HX FF p0 p1
    by_cases hr : 0 ≤ n
    · have CC := Lib.hid (CA.out w2 base gx gv cv gc cc E ce s.more hw3 hB h2 gm)
      have hm := MA.out
      clear h2 CB CA
      go_wp2_with fail
      refine CC.out.mono ?_
      rintro e w3 ⟨o, s2, E2, ce2, rfl, h3, g2, F2, hle2, he2⟩
      clear hm
      go_wp2_with fail
      go_ret
      exact ⟨o, s2, E2, ce2, rfl, h3, g2, FG.trans F2, Nat.le_trans (Nat.le_succ _) hle2, ends_then hk hn (by rw [HN.out]; exact hr) he2⟩
    · have CC := Lib.hid (CB.out w2 base gx gv cv gc cc E ce s.more hw3 hB h2 gm)
      have hm := MB.out
      clear h2 CB CA
      go_wp2_with fail
      refine CC.out.mono ?_
      rintro e w3 ⟨o, s2, E2, ce2, rfl, h3, g2, F2, hle2, he2⟩
      clear hm
      go_wp2_with fail
      go_ret
      exact ⟨o, s2, E2, ce2, rfl, h3, g2, FG.trans F2, Nat.le_trans (Nat.le_succ _) hle2, ends_else hk hn (by rw [HN.out]; omega) he2⟩
set_option maxRecDepth 100000 in
set_option maxHeartbeats 1000000 in
theorem run_whl (hk : x.k = 8) (As : Option Addr) (ns cs : Nat) (Af : Option Addr) (nf cf : Nat) (ha : Runs w0 B fuel a u) (w : World) (hx : stmtB x = true) (hi : InL w base As ns x.s.2) (hw : Below B w0 w) (hB : B ≤ base) (h : ExM w base gx gv cv gc cc E ce fuel s) (g : GoodR fuel s) :
    Calls Tryz.prog 235 #[.agg #[.int .i64 x.s.1, .slice As ns cs, .slice Af nf cf, u], .pointer (some ⟨gx, 0, none⟩)] w (RunQ w base gx gv cv gc cc E fuel (.one x a) s) := by
  obtain ⟨Fa, ra, ⟨Ta, xa, rfl, hma, hfa⟩, ca⟩ := ha
  have hb0 := bnew w (.cells #[.int .i64 x.s.1, .slice As ns cs, .slice Af nf cf, .iface Ta xa] 142)
  have p0 : (w.alloc (.cells #[.int .i64 x.s.1, .slice As ns cs, .slice Af nf cf, .iface Ta xa] 142)).cell? ⟨w.heap.size, 0, none⟩ = some (.int .i64 x.s.1) := by simp
  have p1 : (w.alloc (.cells #[.int .i64 x.s.1, .slice As ns cs, .slice Af nf cf, .iface Ta xa] 142)).cell? ⟨w.heap.size, 1, none⟩ = some (.slice As ns cs) := by simp
  have p3 : (w.alloc (.cells #[.int .i64 x.s.1, .slice As ns cs, .slice Af nf cf, .iface Ta xa] 142)).cell? ⟨w.heap.size, 3, none⟩ = some (.iface Ta xa) := by simp
  have hlt : w.heap.size < (w.alloc (.cells #[.int .i64 x.s.1, .slice As ns cs, .slice Af nf cf, .iface Ta xa] 142)).heap.size := by simp
  have hbase := h.size
  have hfr := h.fresh (Nat.le_refl _)
  have h0 := h.next hb0
  obtain ⟨hkk, hokS, _⟩ := stmt_ok hx
  have hw1 := hw.trans (hb0.mono (Nat.le_trans hB hbase))
  have F0 : FarX w (w.alloc (.cells #[.int .i64 x.s.1, .slice As ns cs, .slice Af nf cf, .iface Ta xa] 142)) base gx gv gc E E := FarX.of_below hbase hb0
  have CA := Lib.hid ca
  have MA := Lib.hid hma
  have HX0 := Lib.hid h0
  have G0 := Lib.hid g
  clear h h0 g ca hma
  go_enter Tryz.func235, Tryz.ntmps235
  go_wp2_with fail
  generalize w.alloc (.cells #[.int .i64 x.s.1, .slice As ns cs, .slice Af nf cf, .iface Ta xa] 142) = W at hb0 p0 p1 p3 hlt hw1 F0 HX0 ⊢
  go_loopw [5] (fun _ wr => ∃ (s' : RS) (E' : Option Addr) (ce' : Nat), ExM wr base gx gv cv gc cc E' ce' fuel s' ∧ GoodR fuel s' ∧ FarX W wr base gx gv gc E E' ∧ s.n ≤ s'.n ∧ Rounds fuel (.one x a) s s') (fun _ wr => fuel - readN wr gx)
  case atStart => exact ⟨s, E, ce, HX0.out, G0.out, FarX.refl HX0.out.size, Nat.le_refl _, Rounds.refl⟩
  case round =>
    obtain ⟨s', E', ce', h1, g1, F1, hle, hR⟩ := hrel
    have hrd := h1.readN
    have hnf := g1.n
    have hf2 := g1.f
    have q0 := F1.cell p0 hfr.1 hfr.2.1 hfr.2.2.1 hfr.2.2.2
    have q1 := F1.cell p1 hfr.1 hfr.2.1 hfr.2.2.1 hfr.2.2.2
    have q3 := F1.cell p3 hfr.1 hfr.2.1 hfr.2.2.1 hfr.2.2.2
    have hfr' : E' ≠ some ⟨w.heap.size, 0, none⟩ := fun e => by
      rcases F1.ev _ e with e | e
      · exact hfr.2.2.2 e
      · omega
    by_cases hn : s'.n = fuel
    · have C := Lib.hid (step_no _ h1 hn)
      have HX := Lib.hid h1
      have hz1 := h1.size
      clear h1
      go_wp2_with fail
      refine C.out.mono ?_
      rintro e w1 ⟨rfl, hb1⟩
      go_wp2_with fail
      go_ret
      exact ⟨1, s', E', ce', rfl, HX.out.next hb1, g1, F0.trans (F1.trans (FarX.of_below hz1 hb1)), hle, hR.ends (ends_fuel (show x.k ≠ 1 by omega) hn)⟩
    · have C := Lib.hid (step_yes _ h1 (by omega) hf2)
      have h1g := g1.g.more
      obtain ⟨n, HN⟩ : ∃ n, Hid (numS s'.v x.s = n) := ⟨_, rfl⟩
      clear h1
      go_wp2_with fail
      refine C.out.mono ?_
      rintro e w1 ⟨rfl, h2, F2⟩
      replace q0 := F2.cell q0 hfr.1 hfr.2.1 hfr.2.2.1 hfr'
      replace q1 := F2.cell q1 hfr.1 hfr.2.1 hfr.2.2.1 hfr'
      replace q3 := F2.cell q3 hfr.1 hfr.2.1 hfr.2.2.1 hfr'
      have FF := F1.trans F2
      have HI1 := (hi.next (F0.below.trans FF.below) (Nat.le_refl _)).more h2.size
      have CN := number_c x.s.1 As ns cs x.s.2 w1 h2 h1g HI1 hokS.1 hokS.2
      rw [show numS s'.more.v (x.s.1, x.s.2) = n from HN.out] at CN
      have CH := Lib.hid CN
      have HX := Lib.hid h2
      have hz1 := h2.size
      clear CN h2 F1 F2 C
      go_wp2_with fail
      refine CH.out.mono ?_
      rintro e w2 ⟨rfl, hb2⟩
      replace q3 := cell_next q3 hb2
      have h2 := HX.out.next hb2
      have FG := FF.trans (FarX.of_below hz1 hb2)
      have hw3 := hw1.trans (FG.below.mono hB)
      have gm := g1.more hn
      clear CH HX FF q0 q1
      by_cases hr : 0 ≤ n
      · have CC := Lib.hid (CA.out w2 base gx gv cv gc cc E' ce' s'.more hw3 hB h2 gm)
        have hm := MA.out
        clear h2
        go_wp2_with fail
        refine CC.out.mono ?_
        rintro e w3 ⟨o, s2, E2, ce2, rfl, h3, g2, F3, hle2, he2⟩
        have hle3 : s'.n + 1 ≤ s2.n := hle2
        have FH := FG.trans F3
        clear hm FG F3
        by_cases ho : o = 0
        · subst ho
          have hR2 := hR.trans (rounds_one hk hn (by rw [HN.out]; exact hr) he2)
          have hrd2 := h3.readN
          have g2n := g2.n
          have HX := Lib.hid h3
          clear h3
          go_wp2_with fail
          go_roundw
          case rel => exact ⟨s2, E2, ce2, HX.out, g2, FH, by omega, hR2⟩
          case measure => omega
        · have HX := Lib.hid h3
          clear h3
          go_wp2_with fail
          go_ret
          exact ⟨o, s2, E2, ce2, rfl, HX.out, g2, F0.trans FH, by omega, hR.ends (ends_in hk hn (by rw [HN.out]; exact hr) he2 ho)⟩
      · have HX := Lib.hid h2
        clear h2
        go_wp2_with fail
        go_ret
        exact ⟨0, s'.more, E', ce', rfl, HX.out, gm, F0.trans FG, Nat.le_trans hle (Nat.le_succ _), hR.ends (ends_out hk hn (by rw [HN.out]; omega))⟩
end
section
variable {fuel B : Nat} {w0 : World}
theorem runs_all {t : Tr} {u : Value} (h : TV w0 B t u) : (∀ x ∈ flatT t, stmtB x = true) → Runs w0 B fuel t u := by
  induction h with
  | skip hk => exact fun ok => ⟨239, .agg #[], ⟨_, _, rfl, fun w => by kernel_rfl, fun args w => by kernel_rfl⟩, fun w base gx gv cv gc cc E ce s hw hB h g => run_skip hk w (ok _ (by simp [flatT])) h g⟩
  | @set x As ns cs hk hi => exact fun ok => ⟨209, .agg #[.int .i64 x.v, .int .i64 x.s.1, .slice As ns cs], ⟨_, _, rfl, fun w => by kernel_rfl, fun args w => by kernel_rfl⟩, fun w base gx gv cv gc cc E ce s hw hB h g => run_set hk As ns cs w (ok _ (by simp [flatT])) ((hi.next hw (Nat.le_refl _)).more (Nat.le_trans hB h.size)) h g⟩
  | @get x As ns cs hk hi => exact fun ok => ⟨215, .agg #[.int .i64 x.v, .int .i64 x.i.1, .slice As ns cs], ⟨_, _, rfl, fun w => by kernel_rfl, fun args w => by kernel_rfl⟩, fun w base gx gv cv gc cc E ce s hw hB h g => run_get hk As ns cs w (ok _ (by simp [flatT])) ((hi.next hw (Nat.le_refl _)).more (Nat.le_trans hB h.size)) h g⟩
  | @put x As ns cs Ai ni ci hk hi hj => exact fun ok => ⟨219, .agg #[.int .i64 x.i.1, .slice Ai ni ci, .int .i64 x.s.1, .slice As ns cs], ⟨_, _, rfl, fun w => by kernel_rfl, fun args w => by kernel_rfl⟩, fun w base gx gv cv gc cc E ce s hw hB h g => run_put hk As ns cs Ai ni ci w (ok _ (by simp [flatT])) ((hi.next hw (Nat.le_refl _)).more (Nat.le_trans hB h.size)) ((hj.next hw (Nat.le_refl _)).more (Nat.le_trans hB h.size)) h g⟩
  | @emit x hk => exact fun ok => ⟨223, .agg #[.int .i64 x.e], ⟨_, _, rfl, fun w => by kernel_rfl, fun args w => by kernel_rfl⟩, fun w base gx gv cv gc cc E ce s hw hB h g => run_emit hk w (ok _ (by simp [flatT])) h g⟩
  | @assert x As ns cs hk hi => exact fun ok => ⟨227, .agg #[.int .i64 x.s.1, .slice As ns cs], ⟨_, _, rfl, fun w => by kernel_rfl, fun args w => by kernel_rfl⟩, fun w base gx gv cv gc cc E ce s hw hB h g => run_ass hk As ns cs w (ok _ (by simp [flatT])) ((hi.next hw (Nat.le_refl _)).more hB) h g⟩
  | @seq x a b u v hk _ _ i1 i2 => exact fun ok => ⟨204, .agg #[u, v], ⟨_, _, rfl, fun w => by kernel_rfl, fun args w => by kernel_rfl⟩, fun w base gx gv cv gc cc E ce s hw hB h g => run_seq hk (i1 fun y hy => ok y (by simp [flatT, hy])) (i2 fun y hy => ok y (by simp [flatT, hy])) w hw hB h g⟩
  | @iff x a b u v As ns cs hk hi _ _ i1 i2 => exact fun ok => ⟨231, .agg #[.int .i64 x.s.1, .slice As ns cs, u, v], ⟨_, _, rfl, fun w => by kernel_rfl, fun args w => by kernel_rfl⟩, fun w base gx gv cv gc cc E ce s hw hB h g => run_if hk As ns cs (i1 fun y hy => ok y (by simp [flatT, hy])) (i2 fun y hy => ok y (by simp [flatT, hy])) w (ok _ (by simp [flatT])) ((hi.next hw (Nat.le_refl _)).more hB) hw hB h g⟩
  | @whl x a u As ns cs Af nf cf hk hi _ _ i1 => exact fun ok => ⟨235, .agg #[.int .i64 x.s.1, .slice As ns cs, .slice Af nf cf, u], ⟨_, _, rfl, fun w => by kernel_rfl, fun args w => by kernel_rfl⟩, fun w base gx gv cv gc cc E ce s hw hB h g => run_whl hk As ns cs Af nf cf (i1 fun y hy => ok y (by simp [flatT, hy])) w (ok _ (by simp [flatT])) ((hi.next hw (Nat.le_refl _)).more hB) hw hB h g⟩
end
end Go.Proofs.YtajmbnimdngjhaaGreatDoor

/-! The program's tree of a body. Conditions: a valid body. -/
namespace Go.Proofs.YtajmbnimdngjhaaGreatDoor
set_option linter.unusedVariables false
open Go.RowKit

theorem run_store_funcE {P : Program} {w : World} {a : Addr} {m : Mode} (fn : Fn) (x y : Array Value) : (store a (.func fn x y) m).run P w = stored P w a (.func fn x y) m := run_store P w a _ m rfl
attribute [local go_sem] run_store_funcE
theorem InST.tailE {w : World} {B b off n : Nat} {x : S8} {xs : List S8} (h : InST w B (some ⟨b, off, none⟩) (n + 1) (x :: xs)) : InST w B (some ⟨b, off + 8, none⟩) n xs := by
  refine ⟨by have := h.1; simpa using this, fun j y hj => ?_⟩
  obtain ⟨b', off', e, hb, hs⟩ := h.2 (j + 1) y (by simpa using hj)
  cases e
  refine ⟨_, _, rfl, hb, ?_⟩
  rw [show off + 8 + j * 8 = off + (j + 1) * 8 by omega]
  exact hs
theorem TV.iface {w : World} {B : Nat} {t : Tr} {v : Value} (h : TV w B t v) : ∃ T c, v = .iface T c := by cases h <;> exact ⟨_, _, rfl⟩
/-- What the tree's function leaves: a statement's value, and the rest of the body. -/
def NextT (bb nb B : Nat) (t : Tr) (r : List S8) (w : World) : Ending → World → Prop := fun e w' =>
  ∃ v A' n' c', e = .returned v ∧ TV w' B t v ∧ BlkIs w' bb 35 #[.slice A' n' c'] ∧ InST w' B A' n' r ∧ n' ≤ c' ∧ Out bb (bb + 1) w w'
def NextIn (bb nb B : Nat) (t : Tr) : Prop := ∀ (r : List S8) (A : Option Addr) (n c : Nat) (w : World), BlkIs w bb 35 #[.slice A n c] → InST w B A n (flatT t ++ r) → n ≤ c → w.cell? ⟨nb, 0, none⟩ = some (.func (.func 84) #[] #[.pointer (some ⟨bb, 0, none⟩), .pointer (some ⟨nb, 0, none⟩)]) →
  Calls Tryz.prog 84 #[.pointer (some ⟨bb, 0, none⟩), .pointer (some ⟨nb, 0, none⟩)] w (NextT bb nb B t r w)

set_option maxRecDepth 100000 in
set_option maxHeartbeats 1000000 in
theorem next_skip {x : S8} (hk : x.k = 0) (bb nb B : Nat) (hbb : B ≤ bb) (hnb : B ≤ nb) (hbn : bb ≠ nb) : NextIn bb nb B (.leaf x) := by
  intro r A n c w hB1 hin hcap hnx
  have hlen := hin.1
  obtain ⟨bk, off, x', rfl, hbB, hx0, hst⟩ := hin.at_ (k := 0) (by rw [← hlen]; simp [flatT])
  have ex : x = x' := by simpa [flatT] using hx0
  subst ex
  obtain ⟨As, ns, cs, Ai, ni, ci, Af, nf, cf, s0, s1, s2, s3, s4, s5, s6, s7, hS, hI, hF⟩ := hst
  rw [hk] at s0
  simp only [Nat.zero_mul, Nat.add_zero] at s0 s1 s2 s3 s4 s5 s6 s7
  have hn1 : 1 ≤ n := by rw [← hlen]; simp [flatT]
  obtain ⟨m, rfl⟩ : ∃ m, n = m + 1 := ⟨n - 1, by omega⟩
  have hT : InST w B (some ⟨bk, off, none⟩) (m + 1) (x :: r) := by simpa [flatT] using hin
  have hbl := hB1.lt
  have y0 : w.cell? ⟨bb, 0, none⟩ = some (.slice (some ⟨bk, off, none⟩) (m + 1) c) := hB1.cell 0
  have hb0 := bnew w (.cells #[.int .i64 0, .int .i64 x.v, .int .i64 x.e, .int .i64 x.s.1, .slice As ns cs, .int .i64 x.i.1, .slice Ai ni ci, .slice Af nf cf] 83)
  have hB2 := (hB1.next hb0)
  have y1 := hB2.cell 0
  have f1 := hB2.frozen 0
  simp only [List.getElem?_toArray, List.getElem?_cons_zero] at y1
  have hEB : BlkIs (w.alloc (.cells #[.int .i64 0, .int .i64 x.v, .int .i64 x.e, .int .i64 x.s.1, .slice As ns cs, .int .i64 x.i.1, .slice Ai ni ci, .slice Af nf cf] 83)) w.heap.size 83 #[.int .i64 0, .int .i64 x.v, .int .i64 x.e, .int .i64 x.s.1, .slice As ns cs, .int .i64 x.i.1, .slice Ai ni ci, .slice Af nf cf] := blk_new _ _ _ _ rfl
  have hnl := cell_lt hnx
  have hne : bb ≠ nb := hbn
  by_cases hc1 : c = 1
  · have hm0 : m = 0 := by omega
    subst hm0
    subst hc1
    have hr : r = [] := by have := hT.1; simpa using this
    subst hr
    have hbn9 := bnew (w.setCell ⟨bb, 0, none⟩ (.slice (some ⟨bk, off, none⟩) 0 0)) (.cells #[.int .i64 0, .int .i64 x.v, .int .i64 x.e, .int .i64 x.s.1, .slice As ns cs, .int .i64 x.i.1, .slice Ai ni ci, .slice Af nf cf] 83)
    have ho9 : Out bb (bb + 1) w ((w.setCell ⟨bb, 0, none⟩ (.slice (some ⟨bk, off, none⟩) 0 0)).alloc (.cells #[.int .i64 0, .int .i64 x.v, .int .i64 x.e, .int .i64 x.s.1, .slice As ns cs, .int .i64 x.i.1, .slice Ai ni ci, .slice Af nf cf] 83)) := (out_set (Out.refl _ _ _) (by omega)).trans (Out.of_below hbn9)
    have hB9 : BlkIs ((w.setCell ⟨bb, 0, none⟩ (.slice (some ⟨bk, off, none⟩) 0 0)).alloc (.cells #[.int .i64 0, .int .i64 x.v, .int .i64 x.e, .int .i64 x.s.1, .slice As ns cs, .int .i64 x.i.1, .slice Ai ni ci, .slice Af nf cf] 83)) bb 35 #[.slice (some ⟨bk, off, none⟩) 0 0] := (hB1.set 0 _).next hbn9
    have hbe : Below B w ((w.setCell ⟨bb, 0, none⟩ (.slice (some ⟨bk, off, none⟩) 0 0)).alloc (.cells #[.int .i64 0, .int .i64 x.v, .int .i64 x.e, .int .i64 x.s.1, .slice As ns cs, .int .i64 x.i.1, .slice Ai ni ci, .slice Af nf cf] 83)) := ho9.below hbb (by omega)
    have hI9 : InST ((w.setCell ⟨bb, 0, none⟩ (.slice (some ⟨bk, off, none⟩) 0 0)).alloc (.cells #[.int .i64 0, .int .i64 x.v, .int .i64 x.e, .int .i64 x.s.1, .slice As ns cs, .int .i64 x.i.1, .slice Ai ni ci, .slice Af nf cf] 83)) B (some ⟨bk, off, none⟩) 0 (([] : List S8)) := ⟨rfl, fun j y hj => by simp at hj⟩
    have HR : Hid (TV ((w.setCell ⟨bb, 0, none⟩ (.slice (some ⟨bk, off, none⟩) 0 0)).alloc (.cells #[.int .i64 0, .int .i64 x.v, .int .i64 x.e, .int .i64 x.s.1, .slice As ns cs, .int .i64 x.i.1, .slice Ai ni ci, .slice Af nf cf] 83)) B (.leaf x) _) := .skip hk
    have HB := Lib.hid hB9
    have HI9 := Lib.hid hI9
    have HO := Lib.hid ho9
    clear hin hB1 hB2 hB9 hI9 ho9 hbe hEB hT
    go_enter Tryz.func84, Tryz.ntmps84
    go_wp2_with fail
    go_ret
    exact ⟨_, _, 0, 0, rfl, HR.out, HB.out, HI9.out, Nat.le_refl _, HO.out⟩
  · have hc2 : m ≤ c - 1 := by omega
    have hbn9 := bnew (w.setCell ⟨bb, 0, none⟩ (.slice (some ⟨bk, off + 8, none⟩) m (c - 1))) (.cells #[.int .i64 0, .int .i64 x.v, .int .i64 x.e, .int .i64 x.s.1, .slice As ns cs, .int .i64 x.i.1, .slice Ai ni ci, .slice Af nf cf] 83)
    have ho9 : Out bb (bb + 1) w ((w.setCell ⟨bb, 0, none⟩ (.slice (some ⟨bk, off + 8, none⟩) m (c - 1))).alloc (.cells #[.int .i64 0, .int .i64 x.v, .int .i64 x.e, .int .i64 x.s.1, .slice As ns cs, .int .i64 x.i.1, .slice Ai ni ci, .slice Af nf cf] 83)) := (out_set (Out.refl _ _ _) (by omega)).trans (Out.of_below hbn9)
    have hB9 : BlkIs ((w.setCell ⟨bb, 0, none⟩ (.slice (some ⟨bk, off + 8, none⟩) m (c - 1))).alloc (.cells #[.int .i64 0, .int .i64 x.v, .int .i64 x.e, .int .i64 x.s.1, .slice As ns cs, .int .i64 x.i.1, .slice Ai ni ci, .slice Af nf cf] 83)) bb 35 #[.slice (some ⟨bk, off + 8, none⟩) m (c - 1)] := (hB1.set 0 _).next hbn9
    have hbe : Below B w ((w.setCell ⟨bb, 0, none⟩ (.slice (some ⟨bk, off + 8, none⟩) m (c - 1))).alloc (.cells #[.int .i64 0, .int .i64 x.v, .int .i64 x.e, .int .i64 x.s.1, .slice As ns cs, .int .i64 x.i.1, .slice Ai ni ci, .slice Af nf cf] 83)) := ho9.below hbb (by omega)
    have hI9 : InST ((w.setCell ⟨bb, 0, none⟩ (.slice (some ⟨bk, off + 8, none⟩) m (c - 1))).alloc (.cells #[.int .i64 0, .int .i64 x.v, .int .i64 x.e, .int .i64 x.s.1, .slice As ns cs, .int .i64 x.i.1, .slice Ai ni ci, .slice Af nf cf] 83)) B (some ⟨bk, off + 8, none⟩) m (r) := (hT.tailE.next hbe (Nat.le_refl _))
    have HR : Hid (TV ((w.setCell ⟨bb, 0, none⟩ (.slice (some ⟨bk, off + 8, none⟩) m (c - 1))).alloc (.cells #[.int .i64 0, .int .i64 x.v, .int .i64 x.e, .int .i64 x.s.1, .slice As ns cs, .int .i64 x.i.1, .slice Ai ni ci, .slice Af nf cf] 83)) B (.leaf x) _) := .skip hk
    have HB := Lib.hid hB9
    have HI9 := Lib.hid hI9
    have HO := Lib.hid ho9
    clear hin hB1 hB2 hB9 hI9 ho9 hbe hEB hT
    go_enter Tryz.func84, Tryz.ntmps84
    go_wp2_with fail
    go_ret
    exact ⟨_, _, m, c - 1, rfl, HR.out, HB.out, HI9.out, hc2, HO.out⟩
set_option maxRecDepth 100000 in
set_option maxHeartbeats 1000000 in
theorem next_set {x : S8} (hk : x.k = 2) (bb nb B : Nat) (hbb : B ≤ bb) (hnb : B ≤ nb) (hbn : bb ≠ nb) : NextIn bb nb B (.leaf x) := by
  intro r A n c w hB1 hin hcap hnx
  have hlen := hin.1
  obtain ⟨bk, off, x', rfl, hbB, hx0, hst⟩ := hin.at_ (k := 0) (by rw [← hlen]; simp [flatT])
  have ex : x = x' := by simpa [flatT] using hx0
  subst ex
  obtain ⟨As, ns, cs, Ai, ni, ci, Af, nf, cf, s0, s1, s2, s3, s4, s5, s6, s7, hS, hI, hF⟩ := hst
  rw [hk] at s0
  simp only [Nat.zero_mul, Nat.add_zero] at s0 s1 s2 s3 s4 s5 s6 s7
  have hn1 : 1 ≤ n := by rw [← hlen]; simp [flatT]
  obtain ⟨m, rfl⟩ : ∃ m, n = m + 1 := ⟨n - 1, by omega⟩
  have hT : InST w B (some ⟨bk, off, none⟩) (m + 1) (x :: r) := by simpa [flatT] using hin
  have hbl := hB1.lt
  have y0 : w.cell? ⟨bb, 0, none⟩ = some (.slice (some ⟨bk, off, none⟩) (m + 1) c) := hB1.cell 0
  have hb0 := bnew w (.cells #[.int .i64 2, .int .i64 x.v, .int .i64 x.e, .int .i64 x.s.1, .slice As ns cs, .int .i64 x.i.1, .slice Ai ni ci, .slice Af nf cf] 83)
  have hB2 := (hB1.next hb0)
  have y1 := hB2.cell 0
  have f1 := hB2.frozen 0
  simp only [List.getElem?_toArray, List.getElem?_cons_zero] at y1
  have hEB : BlkIs (w.alloc (.cells #[.int .i64 2, .int .i64 x.v, .int .i64 x.e, .int .i64 x.s.1, .slice As ns cs, .int .i64 x.i.1, .slice Ai ni ci, .slice Af nf cf] 83)) w.heap.size 83 #[.int .i64 2, .int .i64 x.v, .int .i64 x.e, .int .i64 x.s.1, .slice As ns cs, .int .i64 x.i.1, .slice Ai ni ci, .slice Af nf cf] := blk_new _ _ _ _ rfl
  have hnl := cell_lt hnx
  have hne : bb ≠ nb := hbn
  by_cases hc1 : c = 1
  · have hm0 : m = 0 := by omega
    subst hm0
    subst hc1
    have hr : r = [] := by have := hT.1; simpa using this
    subst hr
    have hbn9 := bnew (w.setCell ⟨bb, 0, none⟩ (.slice (some ⟨bk, off, none⟩) 0 0)) (.cells #[.int .i64 2, .int .i64 x.v, .int .i64 x.e, .int .i64 x.s.1, .slice As ns cs, .int .i64 x.i.1, .slice Ai ni ci, .slice Af nf cf] 83)
    have ho9 : Out bb (bb + 1) w ((w.setCell ⟨bb, 0, none⟩ (.slice (some ⟨bk, off, none⟩) 0 0)).alloc (.cells #[.int .i64 2, .int .i64 x.v, .int .i64 x.e, .int .i64 x.s.1, .slice As ns cs, .int .i64 x.i.1, .slice Ai ni ci, .slice Af nf cf] 83)) := (out_set (Out.refl _ _ _) (by omega)).trans (Out.of_below hbn9)
    have hB9 : BlkIs ((w.setCell ⟨bb, 0, none⟩ (.slice (some ⟨bk, off, none⟩) 0 0)).alloc (.cells #[.int .i64 2, .int .i64 x.v, .int .i64 x.e, .int .i64 x.s.1, .slice As ns cs, .int .i64 x.i.1, .slice Ai ni ci, .slice Af nf cf] 83)) bb 35 #[.slice (some ⟨bk, off, none⟩) 0 0] := (hB1.set 0 _).next hbn9
    have hbe : Below B w ((w.setCell ⟨bb, 0, none⟩ (.slice (some ⟨bk, off, none⟩) 0 0)).alloc (.cells #[.int .i64 2, .int .i64 x.v, .int .i64 x.e, .int .i64 x.s.1, .slice As ns cs, .int .i64 x.i.1, .slice Ai ni ci, .slice Af nf cf] 83)) := ho9.below hbb (by omega)
    have hI9 : InST ((w.setCell ⟨bb, 0, none⟩ (.slice (some ⟨bk, off, none⟩) 0 0)).alloc (.cells #[.int .i64 2, .int .i64 x.v, .int .i64 x.e, .int .i64 x.s.1, .slice As ns cs, .int .i64 x.i.1, .slice Ai ni ci, .slice Af nf cf] 83)) B (some ⟨bk, off, none⟩) 0 (([] : List S8)) := ⟨rfl, fun j y hj => by simp at hj⟩
    have HR : Hid (TV ((w.setCell ⟨bb, 0, none⟩ (.slice (some ⟨bk, off, none⟩) 0 0)).alloc (.cells #[.int .i64 2, .int .i64 x.v, .int .i64 x.e, .int .i64 x.s.1, .slice As ns cs, .int .i64 x.i.1, .slice Ai ni ci, .slice Af nf cf] 83)) B (.leaf x) _) := .set (cs := cs) hk (hS.next hbe (Nat.le_refl _))
    have HB := Lib.hid hB9
    have HI9 := Lib.hid hI9
    have HO := Lib.hid ho9
    clear hin hB1 hB2 hB9 hI9 ho9 hbe hEB hT
    go_enter Tryz.func84, Tryz.ntmps84
    go_wp2_with fail
    go_ret
    exact ⟨_, _, 0, 0, rfl, HR.out, HB.out, HI9.out, Nat.le_refl _, HO.out⟩
  · have hc2 : m ≤ c - 1 := by omega
    have hbn9 := bnew (w.setCell ⟨bb, 0, none⟩ (.slice (some ⟨bk, off + 8, none⟩) m (c - 1))) (.cells #[.int .i64 2, .int .i64 x.v, .int .i64 x.e, .int .i64 x.s.1, .slice As ns cs, .int .i64 x.i.1, .slice Ai ni ci, .slice Af nf cf] 83)
    have ho9 : Out bb (bb + 1) w ((w.setCell ⟨bb, 0, none⟩ (.slice (some ⟨bk, off + 8, none⟩) m (c - 1))).alloc (.cells #[.int .i64 2, .int .i64 x.v, .int .i64 x.e, .int .i64 x.s.1, .slice As ns cs, .int .i64 x.i.1, .slice Ai ni ci, .slice Af nf cf] 83)) := (out_set (Out.refl _ _ _) (by omega)).trans (Out.of_below hbn9)
    have hB9 : BlkIs ((w.setCell ⟨bb, 0, none⟩ (.slice (some ⟨bk, off + 8, none⟩) m (c - 1))).alloc (.cells #[.int .i64 2, .int .i64 x.v, .int .i64 x.e, .int .i64 x.s.1, .slice As ns cs, .int .i64 x.i.1, .slice Ai ni ci, .slice Af nf cf] 83)) bb 35 #[.slice (some ⟨bk, off + 8, none⟩) m (c - 1)] := (hB1.set 0 _).next hbn9
    have hbe : Below B w ((w.setCell ⟨bb, 0, none⟩ (.slice (some ⟨bk, off + 8, none⟩) m (c - 1))).alloc (.cells #[.int .i64 2, .int .i64 x.v, .int .i64 x.e, .int .i64 x.s.1, .slice As ns cs, .int .i64 x.i.1, .slice Ai ni ci, .slice Af nf cf] 83)) := ho9.below hbb (by omega)
    have hI9 : InST ((w.setCell ⟨bb, 0, none⟩ (.slice (some ⟨bk, off + 8, none⟩) m (c - 1))).alloc (.cells #[.int .i64 2, .int .i64 x.v, .int .i64 x.e, .int .i64 x.s.1, .slice As ns cs, .int .i64 x.i.1, .slice Ai ni ci, .slice Af nf cf] 83)) B (some ⟨bk, off + 8, none⟩) m (r) := (hT.tailE.next hbe (Nat.le_refl _))
    have HR : Hid (TV ((w.setCell ⟨bb, 0, none⟩ (.slice (some ⟨bk, off + 8, none⟩) m (c - 1))).alloc (.cells #[.int .i64 2, .int .i64 x.v, .int .i64 x.e, .int .i64 x.s.1, .slice As ns cs, .int .i64 x.i.1, .slice Ai ni ci, .slice Af nf cf] 83)) B (.leaf x) _) := .set (cs := cs) hk (hS.next hbe (Nat.le_refl _))
    have HB := Lib.hid hB9
    have HI9 := Lib.hid hI9
    have HO := Lib.hid ho9
    clear hin hB1 hB2 hB9 hI9 ho9 hbe hEB hT
    go_enter Tryz.func84, Tryz.ntmps84
    go_wp2_with fail
    go_ret
    exact ⟨_, _, m, c - 1, rfl, HR.out, HB.out, HI9.out, hc2, HO.out⟩
set_option maxRecDepth 100000 in
set_option maxHeartbeats 1000000 in
theorem next_get {x : S8} (hk : x.k = 3) (bb nb B : Nat) (hbb : B ≤ bb) (hnb : B ≤ nb) (hbn : bb ≠ nb) : NextIn bb nb B (.leaf x) := by
  intro r A n c w hB1 hin hcap hnx
  have hlen := hin.1
  obtain ⟨bk, off, x', rfl, hbB, hx0, hst⟩ := hin.at_ (k := 0) (by rw [← hlen]; simp [flatT])
  have ex : x = x' := by simpa [flatT] using hx0
  subst ex
  obtain ⟨As, ns, cs, Ai, ni, ci, Af, nf, cf, s0, s1, s2, s3, s4, s5, s6, s7, hS, hI, hF⟩ := hst
  rw [hk] at s0
  simp only [Nat.zero_mul, Nat.add_zero] at s0 s1 s2 s3 s4 s5 s6 s7
  have hn1 : 1 ≤ n := by rw [← hlen]; simp [flatT]
  obtain ⟨m, rfl⟩ : ∃ m, n = m + 1 := ⟨n - 1, by omega⟩
  have hT : InST w B (some ⟨bk, off, none⟩) (m + 1) (x :: r) := by simpa [flatT] using hin
  have hbl := hB1.lt
  have y0 : w.cell? ⟨bb, 0, none⟩ = some (.slice (some ⟨bk, off, none⟩) (m + 1) c) := hB1.cell 0
  have hb0 := bnew w (.cells #[.int .i64 3, .int .i64 x.v, .int .i64 x.e, .int .i64 x.s.1, .slice As ns cs, .int .i64 x.i.1, .slice Ai ni ci, .slice Af nf cf] 83)
  have hB2 := (hB1.next hb0)
  have y1 := hB2.cell 0
  have f1 := hB2.frozen 0
  simp only [List.getElem?_toArray, List.getElem?_cons_zero] at y1
  have hEB : BlkIs (w.alloc (.cells #[.int .i64 3, .int .i64 x.v, .int .i64 x.e, .int .i64 x.s.1, .slice As ns cs, .int .i64 x.i.1, .slice Ai ni ci, .slice Af nf cf] 83)) w.heap.size 83 #[.int .i64 3, .int .i64 x.v, .int .i64 x.e, .int .i64 x.s.1, .slice As ns cs, .int .i64 x.i.1, .slice Ai ni ci, .slice Af nf cf] := blk_new _ _ _ _ rfl
  have hnl := cell_lt hnx
  have hne : bb ≠ nb := hbn
  by_cases hc1 : c = 1
  · have hm0 : m = 0 := by omega
    subst hm0
    subst hc1
    have hr : r = [] := by have := hT.1; simpa using this
    subst hr
    have hbn9 := bnew (w.setCell ⟨bb, 0, none⟩ (.slice (some ⟨bk, off, none⟩) 0 0)) (.cells #[.int .i64 3, .int .i64 x.v, .int .i64 x.e, .int .i64 x.s.1, .slice As ns cs, .int .i64 x.i.1, .slice Ai ni ci, .slice Af nf cf] 83)
    have ho9 : Out bb (bb + 1) w ((w.setCell ⟨bb, 0, none⟩ (.slice (some ⟨bk, off, none⟩) 0 0)).alloc (.cells #[.int .i64 3, .int .i64 x.v, .int .i64 x.e, .int .i64 x.s.1, .slice As ns cs, .int .i64 x.i.1, .slice Ai ni ci, .slice Af nf cf] 83)) := (out_set (Out.refl _ _ _) (by omega)).trans (Out.of_below hbn9)
    have hB9 : BlkIs ((w.setCell ⟨bb, 0, none⟩ (.slice (some ⟨bk, off, none⟩) 0 0)).alloc (.cells #[.int .i64 3, .int .i64 x.v, .int .i64 x.e, .int .i64 x.s.1, .slice As ns cs, .int .i64 x.i.1, .slice Ai ni ci, .slice Af nf cf] 83)) bb 35 #[.slice (some ⟨bk, off, none⟩) 0 0] := (hB1.set 0 _).next hbn9
    have hbe : Below B w ((w.setCell ⟨bb, 0, none⟩ (.slice (some ⟨bk, off, none⟩) 0 0)).alloc (.cells #[.int .i64 3, .int .i64 x.v, .int .i64 x.e, .int .i64 x.s.1, .slice As ns cs, .int .i64 x.i.1, .slice Ai ni ci, .slice Af nf cf] 83)) := ho9.below hbb (by omega)
    have hI9 : InST ((w.setCell ⟨bb, 0, none⟩ (.slice (some ⟨bk, off, none⟩) 0 0)).alloc (.cells #[.int .i64 3, .int .i64 x.v, .int .i64 x.e, .int .i64 x.s.1, .slice As ns cs, .int .i64 x.i.1, .slice Ai ni ci, .slice Af nf cf] 83)) B (some ⟨bk, off, none⟩) 0 (([] : List S8)) := ⟨rfl, fun j y hj => by simp at hj⟩
    have HR : Hid (TV ((w.setCell ⟨bb, 0, none⟩ (.slice (some ⟨bk, off, none⟩) 0 0)).alloc (.cells #[.int .i64 3, .int .i64 x.v, .int .i64 x.e, .int .i64 x.s.1, .slice As ns cs, .int .i64 x.i.1, .slice Ai ni ci, .slice Af nf cf] 83)) B (.leaf x) _) := .get (cs := ci) hk (hI.next hbe (Nat.le_refl _))
    have HB := Lib.hid hB9
    have HI9 := Lib.hid hI9
    have HO := Lib.hid ho9
    clear hin hB1 hB2 hB9 hI9 ho9 hbe hEB hT
    go_enter Tryz.func84, Tryz.ntmps84
    go_wp2_with fail
    go_ret
    exact ⟨_, _, 0, 0, rfl, HR.out, HB.out, HI9.out, Nat.le_refl _, HO.out⟩
  · have hc2 : m ≤ c - 1 := by omega
    have hbn9 := bnew (w.setCell ⟨bb, 0, none⟩ (.slice (some ⟨bk, off + 8, none⟩) m (c - 1))) (.cells #[.int .i64 3, .int .i64 x.v, .int .i64 x.e, .int .i64 x.s.1, .slice As ns cs, .int .i64 x.i.1, .slice Ai ni ci, .slice Af nf cf] 83)
    have ho9 : Out bb (bb + 1) w ((w.setCell ⟨bb, 0, none⟩ (.slice (some ⟨bk, off + 8, none⟩) m (c - 1))).alloc (.cells #[.int .i64 3, .int .i64 x.v, .int .i64 x.e, .int .i64 x.s.1, .slice As ns cs, .int .i64 x.i.1, .slice Ai ni ci, .slice Af nf cf] 83)) := (out_set (Out.refl _ _ _) (by omega)).trans (Out.of_below hbn9)
    have hB9 : BlkIs ((w.setCell ⟨bb, 0, none⟩ (.slice (some ⟨bk, off + 8, none⟩) m (c - 1))).alloc (.cells #[.int .i64 3, .int .i64 x.v, .int .i64 x.e, .int .i64 x.s.1, .slice As ns cs, .int .i64 x.i.1, .slice Ai ni ci, .slice Af nf cf] 83)) bb 35 #[.slice (some ⟨bk, off + 8, none⟩) m (c - 1)] := (hB1.set 0 _).next hbn9
    have hbe : Below B w ((w.setCell ⟨bb, 0, none⟩ (.slice (some ⟨bk, off + 8, none⟩) m (c - 1))).alloc (.cells #[.int .i64 3, .int .i64 x.v, .int .i64 x.e, .int .i64 x.s.1, .slice As ns cs, .int .i64 x.i.1, .slice Ai ni ci, .slice Af nf cf] 83)) := ho9.below hbb (by omega)
    have hI9 : InST ((w.setCell ⟨bb, 0, none⟩ (.slice (some ⟨bk, off + 8, none⟩) m (c - 1))).alloc (.cells #[.int .i64 3, .int .i64 x.v, .int .i64 x.e, .int .i64 x.s.1, .slice As ns cs, .int .i64 x.i.1, .slice Ai ni ci, .slice Af nf cf] 83)) B (some ⟨bk, off + 8, none⟩) m (r) := (hT.tailE.next hbe (Nat.le_refl _))
    have HR : Hid (TV ((w.setCell ⟨bb, 0, none⟩ (.slice (some ⟨bk, off + 8, none⟩) m (c - 1))).alloc (.cells #[.int .i64 3, .int .i64 x.v, .int .i64 x.e, .int .i64 x.s.1, .slice As ns cs, .int .i64 x.i.1, .slice Ai ni ci, .slice Af nf cf] 83)) B (.leaf x) _) := .get (cs := ci) hk (hI.next hbe (Nat.le_refl _))
    have HB := Lib.hid hB9
    have HI9 := Lib.hid hI9
    have HO := Lib.hid ho9
    clear hin hB1 hB2 hB9 hI9 ho9 hbe hEB hT
    go_enter Tryz.func84, Tryz.ntmps84
    go_wp2_with fail
    go_ret
    exact ⟨_, _, m, c - 1, rfl, HR.out, HB.out, HI9.out, hc2, HO.out⟩
set_option maxRecDepth 100000 in
set_option maxHeartbeats 1000000 in
theorem next_put {x : S8} (hk : x.k = 4) (bb nb B : Nat) (hbb : B ≤ bb) (hnb : B ≤ nb) (hbn : bb ≠ nb) : NextIn bb nb B (.leaf x) := by
  intro r A n c w hB1 hin hcap hnx
  have hlen := hin.1
  obtain ⟨bk, off, x', rfl, hbB, hx0, hst⟩ := hin.at_ (k := 0) (by rw [← hlen]; simp [flatT])
  have ex : x = x' := by simpa [flatT] using hx0
  subst ex
  obtain ⟨As, ns, cs, Ai, ni, ci, Af, nf, cf, s0, s1, s2, s3, s4, s5, s6, s7, hS, hI, hF⟩ := hst
  rw [hk] at s0
  simp only [Nat.zero_mul, Nat.add_zero] at s0 s1 s2 s3 s4 s5 s6 s7
  have hn1 : 1 ≤ n := by rw [← hlen]; simp [flatT]
  obtain ⟨m, rfl⟩ : ∃ m, n = m + 1 := ⟨n - 1, by omega⟩
  have hT : InST w B (some ⟨bk, off, none⟩) (m + 1) (x :: r) := by simpa [flatT] using hin
  have hbl := hB1.lt
  have y0 : w.cell? ⟨bb, 0, none⟩ = some (.slice (some ⟨bk, off, none⟩) (m + 1) c) := hB1.cell 0
  have hb0 := bnew w (.cells #[.int .i64 4, .int .i64 x.v, .int .i64 x.e, .int .i64 x.s.1, .slice As ns cs, .int .i64 x.i.1, .slice Ai ni ci, .slice Af nf cf] 83)
  have hB2 := (hB1.next hb0)
  have y1 := hB2.cell 0
  have f1 := hB2.frozen 0
  simp only [List.getElem?_toArray, List.getElem?_cons_zero] at y1
  have hEB : BlkIs (w.alloc (.cells #[.int .i64 4, .int .i64 x.v, .int .i64 x.e, .int .i64 x.s.1, .slice As ns cs, .int .i64 x.i.1, .slice Ai ni ci, .slice Af nf cf] 83)) w.heap.size 83 #[.int .i64 4, .int .i64 x.v, .int .i64 x.e, .int .i64 x.s.1, .slice As ns cs, .int .i64 x.i.1, .slice Ai ni ci, .slice Af nf cf] := blk_new _ _ _ _ rfl
  have hnl := cell_lt hnx
  have hne : bb ≠ nb := hbn
  by_cases hc1 : c = 1
  · have hm0 : m = 0 := by omega
    subst hm0
    subst hc1
    have hr : r = [] := by have := hT.1; simpa using this
    subst hr
    have hbn9 := bnew (w.setCell ⟨bb, 0, none⟩ (.slice (some ⟨bk, off, none⟩) 0 0)) (.cells #[.int .i64 4, .int .i64 x.v, .int .i64 x.e, .int .i64 x.s.1, .slice As ns cs, .int .i64 x.i.1, .slice Ai ni ci, .slice Af nf cf] 83)
    have ho9 : Out bb (bb + 1) w ((w.setCell ⟨bb, 0, none⟩ (.slice (some ⟨bk, off, none⟩) 0 0)).alloc (.cells #[.int .i64 4, .int .i64 x.v, .int .i64 x.e, .int .i64 x.s.1, .slice As ns cs, .int .i64 x.i.1, .slice Ai ni ci, .slice Af nf cf] 83)) := (out_set (Out.refl _ _ _) (by omega)).trans (Out.of_below hbn9)
    have hB9 : BlkIs ((w.setCell ⟨bb, 0, none⟩ (.slice (some ⟨bk, off, none⟩) 0 0)).alloc (.cells #[.int .i64 4, .int .i64 x.v, .int .i64 x.e, .int .i64 x.s.1, .slice As ns cs, .int .i64 x.i.1, .slice Ai ni ci, .slice Af nf cf] 83)) bb 35 #[.slice (some ⟨bk, off, none⟩) 0 0] := (hB1.set 0 _).next hbn9
    have hbe : Below B w ((w.setCell ⟨bb, 0, none⟩ (.slice (some ⟨bk, off, none⟩) 0 0)).alloc (.cells #[.int .i64 4, .int .i64 x.v, .int .i64 x.e, .int .i64 x.s.1, .slice As ns cs, .int .i64 x.i.1, .slice Ai ni ci, .slice Af nf cf] 83)) := ho9.below hbb (by omega)
    have hI9 : InST ((w.setCell ⟨bb, 0, none⟩ (.slice (some ⟨bk, off, none⟩) 0 0)).alloc (.cells #[.int .i64 4, .int .i64 x.v, .int .i64 x.e, .int .i64 x.s.1, .slice As ns cs, .int .i64 x.i.1, .slice Ai ni ci, .slice Af nf cf] 83)) B (some ⟨bk, off, none⟩) 0 (([] : List S8)) := ⟨rfl, fun j y hj => by simp at hj⟩
    have HR : Hid (TV ((w.setCell ⟨bb, 0, none⟩ (.slice (some ⟨bk, off, none⟩) 0 0)).alloc (.cells #[.int .i64 4, .int .i64 x.v, .int .i64 x.e, .int .i64 x.s.1, .slice As ns cs, .int .i64 x.i.1, .slice Ai ni ci, .slice Af nf cf] 83)) B (.leaf x) _) := .put (cs := cs) (ci := ci) hk (hS.next hbe (Nat.le_refl _)) (hI.next hbe (Nat.le_refl _))
    have HB := Lib.hid hB9
    have HI9 := Lib.hid hI9
    have HO := Lib.hid ho9
    clear hin hB1 hB2 hB9 hI9 ho9 hbe hEB hT
    go_enter Tryz.func84, Tryz.ntmps84
    go_wp2_with fail
    go_ret
    exact ⟨_, _, 0, 0, rfl, HR.out, HB.out, HI9.out, Nat.le_refl _, HO.out⟩
  · have hc2 : m ≤ c - 1 := by omega
    have hbn9 := bnew (w.setCell ⟨bb, 0, none⟩ (.slice (some ⟨bk, off + 8, none⟩) m (c - 1))) (.cells #[.int .i64 4, .int .i64 x.v, .int .i64 x.e, .int .i64 x.s.1, .slice As ns cs, .int .i64 x.i.1, .slice Ai ni ci, .slice Af nf cf] 83)
    have ho9 : Out bb (bb + 1) w ((w.setCell ⟨bb, 0, none⟩ (.slice (some ⟨bk, off + 8, none⟩) m (c - 1))).alloc (.cells #[.int .i64 4, .int .i64 x.v, .int .i64 x.e, .int .i64 x.s.1, .slice As ns cs, .int .i64 x.i.1, .slice Ai ni ci, .slice Af nf cf] 83)) := (out_set (Out.refl _ _ _) (by omega)).trans (Out.of_below hbn9)
    have hB9 : BlkIs ((w.setCell ⟨bb, 0, none⟩ (.slice (some ⟨bk, off + 8, none⟩) m (c - 1))).alloc (.cells #[.int .i64 4, .int .i64 x.v, .int .i64 x.e, .int .i64 x.s.1, .slice As ns cs, .int .i64 x.i.1, .slice Ai ni ci, .slice Af nf cf] 83)) bb 35 #[.slice (some ⟨bk, off + 8, none⟩) m (c - 1)] := (hB1.set 0 _).next hbn9
    have hbe : Below B w ((w.setCell ⟨bb, 0, none⟩ (.slice (some ⟨bk, off + 8, none⟩) m (c - 1))).alloc (.cells #[.int .i64 4, .int .i64 x.v, .int .i64 x.e, .int .i64 x.s.1, .slice As ns cs, .int .i64 x.i.1, .slice Ai ni ci, .slice Af nf cf] 83)) := ho9.below hbb (by omega)
    have hI9 : InST ((w.setCell ⟨bb, 0, none⟩ (.slice (some ⟨bk, off + 8, none⟩) m (c - 1))).alloc (.cells #[.int .i64 4, .int .i64 x.v, .int .i64 x.e, .int .i64 x.s.1, .slice As ns cs, .int .i64 x.i.1, .slice Ai ni ci, .slice Af nf cf] 83)) B (some ⟨bk, off + 8, none⟩) m (r) := (hT.tailE.next hbe (Nat.le_refl _))
    have HR : Hid (TV ((w.setCell ⟨bb, 0, none⟩ (.slice (some ⟨bk, off + 8, none⟩) m (c - 1))).alloc (.cells #[.int .i64 4, .int .i64 x.v, .int .i64 x.e, .int .i64 x.s.1, .slice As ns cs, .int .i64 x.i.1, .slice Ai ni ci, .slice Af nf cf] 83)) B (.leaf x) _) := .put (cs := cs) (ci := ci) hk (hS.next hbe (Nat.le_refl _)) (hI.next hbe (Nat.le_refl _))
    have HB := Lib.hid hB9
    have HI9 := Lib.hid hI9
    have HO := Lib.hid ho9
    clear hin hB1 hB2 hB9 hI9 ho9 hbe hEB hT
    go_enter Tryz.func84, Tryz.ntmps84
    go_wp2_with fail
    go_ret
    exact ⟨_, _, m, c - 1, rfl, HR.out, HB.out, HI9.out, hc2, HO.out⟩
set_option maxRecDepth 100000 in
set_option maxHeartbeats 1000000 in
theorem next_emit {x : S8} (hk : x.k = 5) (bb nb B : Nat) (hbb : B ≤ bb) (hnb : B ≤ nb) (hbn : bb ≠ nb) : NextIn bb nb B (.leaf x) := by
  intro r A n c w hB1 hin hcap hnx
  have hlen := hin.1
  obtain ⟨bk, off, x', rfl, hbB, hx0, hst⟩ := hin.at_ (k := 0) (by rw [← hlen]; simp [flatT])
  have ex : x = x' := by simpa [flatT] using hx0
  subst ex
  obtain ⟨As, ns, cs, Ai, ni, ci, Af, nf, cf, s0, s1, s2, s3, s4, s5, s6, s7, hS, hI, hF⟩ := hst
  rw [hk] at s0
  simp only [Nat.zero_mul, Nat.add_zero] at s0 s1 s2 s3 s4 s5 s6 s7
  have hn1 : 1 ≤ n := by rw [← hlen]; simp [flatT]
  obtain ⟨m, rfl⟩ : ∃ m, n = m + 1 := ⟨n - 1, by omega⟩
  have hT : InST w B (some ⟨bk, off, none⟩) (m + 1) (x :: r) := by simpa [flatT] using hin
  have hbl := hB1.lt
  have y0 : w.cell? ⟨bb, 0, none⟩ = some (.slice (some ⟨bk, off, none⟩) (m + 1) c) := hB1.cell 0
  have hb0 := bnew w (.cells #[.int .i64 5, .int .i64 x.v, .int .i64 x.e, .int .i64 x.s.1, .slice As ns cs, .int .i64 x.i.1, .slice Ai ni ci, .slice Af nf cf] 83)
  have hB2 := (hB1.next hb0)
  have y1 := hB2.cell 0
  have f1 := hB2.frozen 0
  simp only [List.getElem?_toArray, List.getElem?_cons_zero] at y1
  have hEB : BlkIs (w.alloc (.cells #[.int .i64 5, .int .i64 x.v, .int .i64 x.e, .int .i64 x.s.1, .slice As ns cs, .int .i64 x.i.1, .slice Ai ni ci, .slice Af nf cf] 83)) w.heap.size 83 #[.int .i64 5, .int .i64 x.v, .int .i64 x.e, .int .i64 x.s.1, .slice As ns cs, .int .i64 x.i.1, .slice Ai ni ci, .slice Af nf cf] := blk_new _ _ _ _ rfl
  have hnl := cell_lt hnx
  have hne : bb ≠ nb := hbn
  by_cases hc1 : c = 1
  · have hm0 : m = 0 := by omega
    subst hm0
    subst hc1
    have hr : r = [] := by have := hT.1; simpa using this
    subst hr
    have hbn9 := bnew (w.setCell ⟨bb, 0, none⟩ (.slice (some ⟨bk, off, none⟩) 0 0)) (.cells #[.int .i64 5, .int .i64 x.v, .int .i64 x.e, .int .i64 x.s.1, .slice As ns cs, .int .i64 x.i.1, .slice Ai ni ci, .slice Af nf cf] 83)
    have ho9 : Out bb (bb + 1) w ((w.setCell ⟨bb, 0, none⟩ (.slice (some ⟨bk, off, none⟩) 0 0)).alloc (.cells #[.int .i64 5, .int .i64 x.v, .int .i64 x.e, .int .i64 x.s.1, .slice As ns cs, .int .i64 x.i.1, .slice Ai ni ci, .slice Af nf cf] 83)) := (out_set (Out.refl _ _ _) (by omega)).trans (Out.of_below hbn9)
    have hB9 : BlkIs ((w.setCell ⟨bb, 0, none⟩ (.slice (some ⟨bk, off, none⟩) 0 0)).alloc (.cells #[.int .i64 5, .int .i64 x.v, .int .i64 x.e, .int .i64 x.s.1, .slice As ns cs, .int .i64 x.i.1, .slice Ai ni ci, .slice Af nf cf] 83)) bb 35 #[.slice (some ⟨bk, off, none⟩) 0 0] := (hB1.set 0 _).next hbn9
    have hbe : Below B w ((w.setCell ⟨bb, 0, none⟩ (.slice (some ⟨bk, off, none⟩) 0 0)).alloc (.cells #[.int .i64 5, .int .i64 x.v, .int .i64 x.e, .int .i64 x.s.1, .slice As ns cs, .int .i64 x.i.1, .slice Ai ni ci, .slice Af nf cf] 83)) := ho9.below hbb (by omega)
    have hI9 : InST ((w.setCell ⟨bb, 0, none⟩ (.slice (some ⟨bk, off, none⟩) 0 0)).alloc (.cells #[.int .i64 5, .int .i64 x.v, .int .i64 x.e, .int .i64 x.s.1, .slice As ns cs, .int .i64 x.i.1, .slice Ai ni ci, .slice Af nf cf] 83)) B (some ⟨bk, off, none⟩) 0 (([] : List S8)) := ⟨rfl, fun j y hj => by simp at hj⟩
    have HR : Hid (TV ((w.setCell ⟨bb, 0, none⟩ (.slice (some ⟨bk, off, none⟩) 0 0)).alloc (.cells #[.int .i64 5, .int .i64 x.v, .int .i64 x.e, .int .i64 x.s.1, .slice As ns cs, .int .i64 x.i.1, .slice Ai ni ci, .slice Af nf cf] 83)) B (.leaf x) _) := .emit hk
    have HB := Lib.hid hB9
    have HI9 := Lib.hid hI9
    have HO := Lib.hid ho9
    clear hin hB1 hB2 hB9 hI9 ho9 hbe hEB hT
    go_enter Tryz.func84, Tryz.ntmps84
    go_wp2_with fail
    go_ret
    exact ⟨_, _, 0, 0, rfl, HR.out, HB.out, HI9.out, Nat.le_refl _, HO.out⟩
  · have hc2 : m ≤ c - 1 := by omega
    have hbn9 := bnew (w.setCell ⟨bb, 0, none⟩ (.slice (some ⟨bk, off + 8, none⟩) m (c - 1))) (.cells #[.int .i64 5, .int .i64 x.v, .int .i64 x.e, .int .i64 x.s.1, .slice As ns cs, .int .i64 x.i.1, .slice Ai ni ci, .slice Af nf cf] 83)
    have ho9 : Out bb (bb + 1) w ((w.setCell ⟨bb, 0, none⟩ (.slice (some ⟨bk, off + 8, none⟩) m (c - 1))).alloc (.cells #[.int .i64 5, .int .i64 x.v, .int .i64 x.e, .int .i64 x.s.1, .slice As ns cs, .int .i64 x.i.1, .slice Ai ni ci, .slice Af nf cf] 83)) := (out_set (Out.refl _ _ _) (by omega)).trans (Out.of_below hbn9)
    have hB9 : BlkIs ((w.setCell ⟨bb, 0, none⟩ (.slice (some ⟨bk, off + 8, none⟩) m (c - 1))).alloc (.cells #[.int .i64 5, .int .i64 x.v, .int .i64 x.e, .int .i64 x.s.1, .slice As ns cs, .int .i64 x.i.1, .slice Ai ni ci, .slice Af nf cf] 83)) bb 35 #[.slice (some ⟨bk, off + 8, none⟩) m (c - 1)] := (hB1.set 0 _).next hbn9
    have hbe : Below B w ((w.setCell ⟨bb, 0, none⟩ (.slice (some ⟨bk, off + 8, none⟩) m (c - 1))).alloc (.cells #[.int .i64 5, .int .i64 x.v, .int .i64 x.e, .int .i64 x.s.1, .slice As ns cs, .int .i64 x.i.1, .slice Ai ni ci, .slice Af nf cf] 83)) := ho9.below hbb (by omega)
    have hI9 : InST ((w.setCell ⟨bb, 0, none⟩ (.slice (some ⟨bk, off + 8, none⟩) m (c - 1))).alloc (.cells #[.int .i64 5, .int .i64 x.v, .int .i64 x.e, .int .i64 x.s.1, .slice As ns cs, .int .i64 x.i.1, .slice Ai ni ci, .slice Af nf cf] 83)) B (some ⟨bk, off + 8, none⟩) m (r) := (hT.tailE.next hbe (Nat.le_refl _))
    have HR : Hid (TV ((w.setCell ⟨bb, 0, none⟩ (.slice (some ⟨bk, off + 8, none⟩) m (c - 1))).alloc (.cells #[.int .i64 5, .int .i64 x.v, .int .i64 x.e, .int .i64 x.s.1, .slice As ns cs, .int .i64 x.i.1, .slice Ai ni ci, .slice Af nf cf] 83)) B (.leaf x) _) := .emit hk
    have HB := Lib.hid hB9
    have HI9 := Lib.hid hI9
    have HO := Lib.hid ho9
    clear hin hB1 hB2 hB9 hI9 ho9 hbe hEB hT
    go_enter Tryz.func84, Tryz.ntmps84
    go_wp2_with fail
    go_ret
    exact ⟨_, _, m, c - 1, rfl, HR.out, HB.out, HI9.out, hc2, HO.out⟩
set_option maxRecDepth 100000 in
set_option maxHeartbeats 1000000 in
theorem next_assert {x : S8} (hk : x.k = 6) (bb nb B : Nat) (hbb : B ≤ bb) (hnb : B ≤ nb) (hbn : bb ≠ nb) : NextIn bb nb B (.leaf x) := by
  intro r A n c w hB1 hin hcap hnx
  have hlen := hin.1
  obtain ⟨bk, off, x', rfl, hbB, hx0, hst⟩ := hin.at_ (k := 0) (by rw [← hlen]; simp [flatT])
  have ex : x = x' := by simpa [flatT] using hx0
  subst ex
  obtain ⟨As, ns, cs, Ai, ni, ci, Af, nf, cf, s0, s1, s2, s3, s4, s5, s6, s7, hS, hI, hF⟩ := hst
  rw [hk] at s0
  simp only [Nat.zero_mul, Nat.add_zero] at s0 s1 s2 s3 s4 s5 s6 s7
  have hn1 : 1 ≤ n := by rw [← hlen]; simp [flatT]
  obtain ⟨m, rfl⟩ : ∃ m, n = m + 1 := ⟨n - 1, by omega⟩
  have hT : InST w B (some ⟨bk, off, none⟩) (m + 1) (x :: r) := by simpa [flatT] using hin
  have hbl := hB1.lt
  have y0 : w.cell? ⟨bb, 0, none⟩ = some (.slice (some ⟨bk, off, none⟩) (m + 1) c) := hB1.cell 0
  have hb0 := bnew w (.cells #[.int .i64 6, .int .i64 x.v, .int .i64 x.e, .int .i64 x.s.1, .slice As ns cs, .int .i64 x.i.1, .slice Ai ni ci, .slice Af nf cf] 83)
  have hB2 := (hB1.next hb0)
  have y1 := hB2.cell 0
  have f1 := hB2.frozen 0
  simp only [List.getElem?_toArray, List.getElem?_cons_zero] at y1
  have hEB : BlkIs (w.alloc (.cells #[.int .i64 6, .int .i64 x.v, .int .i64 x.e, .int .i64 x.s.1, .slice As ns cs, .int .i64 x.i.1, .slice Ai ni ci, .slice Af nf cf] 83)) w.heap.size 83 #[.int .i64 6, .int .i64 x.v, .int .i64 x.e, .int .i64 x.s.1, .slice As ns cs, .int .i64 x.i.1, .slice Ai ni ci, .slice Af nf cf] := blk_new _ _ _ _ rfl
  have hnl := cell_lt hnx
  have hne : bb ≠ nb := hbn
  by_cases hc1 : c = 1
  · have hm0 : m = 0 := by omega
    subst hm0
    subst hc1
    have hr : r = [] := by have := hT.1; simpa using this
    subst hr
    have hbn9 := bnew (w.setCell ⟨bb, 0, none⟩ (.slice (some ⟨bk, off, none⟩) 0 0)) (.cells #[.int .i64 6, .int .i64 x.v, .int .i64 x.e, .int .i64 x.s.1, .slice As ns cs, .int .i64 x.i.1, .slice Ai ni ci, .slice Af nf cf] 83)
    have ho9 : Out bb (bb + 1) w ((w.setCell ⟨bb, 0, none⟩ (.slice (some ⟨bk, off, none⟩) 0 0)).alloc (.cells #[.int .i64 6, .int .i64 x.v, .int .i64 x.e, .int .i64 x.s.1, .slice As ns cs, .int .i64 x.i.1, .slice Ai ni ci, .slice Af nf cf] 83)) := (out_set (Out.refl _ _ _) (by omega)).trans (Out.of_below hbn9)
    have hB9 : BlkIs ((w.setCell ⟨bb, 0, none⟩ (.slice (some ⟨bk, off, none⟩) 0 0)).alloc (.cells #[.int .i64 6, .int .i64 x.v, .int .i64 x.e, .int .i64 x.s.1, .slice As ns cs, .int .i64 x.i.1, .slice Ai ni ci, .slice Af nf cf] 83)) bb 35 #[.slice (some ⟨bk, off, none⟩) 0 0] := (hB1.set 0 _).next hbn9
    have hbe : Below B w ((w.setCell ⟨bb, 0, none⟩ (.slice (some ⟨bk, off, none⟩) 0 0)).alloc (.cells #[.int .i64 6, .int .i64 x.v, .int .i64 x.e, .int .i64 x.s.1, .slice As ns cs, .int .i64 x.i.1, .slice Ai ni ci, .slice Af nf cf] 83)) := ho9.below hbb (by omega)
    have hI9 : InST ((w.setCell ⟨bb, 0, none⟩ (.slice (some ⟨bk, off, none⟩) 0 0)).alloc (.cells #[.int .i64 6, .int .i64 x.v, .int .i64 x.e, .int .i64 x.s.1, .slice As ns cs, .int .i64 x.i.1, .slice Ai ni ci, .slice Af nf cf] 83)) B (some ⟨bk, off, none⟩) 0 (([] : List S8)) := ⟨rfl, fun j y hj => by simp at hj⟩
    have HR : Hid (TV ((w.setCell ⟨bb, 0, none⟩ (.slice (some ⟨bk, off, none⟩) 0 0)).alloc (.cells #[.int .i64 6, .int .i64 x.v, .int .i64 x.e, .int .i64 x.s.1, .slice As ns cs, .int .i64 x.i.1, .slice Ai ni ci, .slice Af nf cf] 83)) B (.leaf x) _) := .assert (cs := cs) hk (hS.next hbe (Nat.le_refl _))
    have HB := Lib.hid hB9
    have HI9 := Lib.hid hI9
    have HO := Lib.hid ho9
    clear hin hB1 hB2 hB9 hI9 ho9 hbe hEB hT
    go_enter Tryz.func84, Tryz.ntmps84
    go_wp2_with fail
    go_ret
    exact ⟨_, _, 0, 0, rfl, HR.out, HB.out, HI9.out, Nat.le_refl _, HO.out⟩
  · have hc2 : m ≤ c - 1 := by omega
    have hbn9 := bnew (w.setCell ⟨bb, 0, none⟩ (.slice (some ⟨bk, off + 8, none⟩) m (c - 1))) (.cells #[.int .i64 6, .int .i64 x.v, .int .i64 x.e, .int .i64 x.s.1, .slice As ns cs, .int .i64 x.i.1, .slice Ai ni ci, .slice Af nf cf] 83)
    have ho9 : Out bb (bb + 1) w ((w.setCell ⟨bb, 0, none⟩ (.slice (some ⟨bk, off + 8, none⟩) m (c - 1))).alloc (.cells #[.int .i64 6, .int .i64 x.v, .int .i64 x.e, .int .i64 x.s.1, .slice As ns cs, .int .i64 x.i.1, .slice Ai ni ci, .slice Af nf cf] 83)) := (out_set (Out.refl _ _ _) (by omega)).trans (Out.of_below hbn9)
    have hB9 : BlkIs ((w.setCell ⟨bb, 0, none⟩ (.slice (some ⟨bk, off + 8, none⟩) m (c - 1))).alloc (.cells #[.int .i64 6, .int .i64 x.v, .int .i64 x.e, .int .i64 x.s.1, .slice As ns cs, .int .i64 x.i.1, .slice Ai ni ci, .slice Af nf cf] 83)) bb 35 #[.slice (some ⟨bk, off + 8, none⟩) m (c - 1)] := (hB1.set 0 _).next hbn9
    have hbe : Below B w ((w.setCell ⟨bb, 0, none⟩ (.slice (some ⟨bk, off + 8, none⟩) m (c - 1))).alloc (.cells #[.int .i64 6, .int .i64 x.v, .int .i64 x.e, .int .i64 x.s.1, .slice As ns cs, .int .i64 x.i.1, .slice Ai ni ci, .slice Af nf cf] 83)) := ho9.below hbb (by omega)
    have hI9 : InST ((w.setCell ⟨bb, 0, none⟩ (.slice (some ⟨bk, off + 8, none⟩) m (c - 1))).alloc (.cells #[.int .i64 6, .int .i64 x.v, .int .i64 x.e, .int .i64 x.s.1, .slice As ns cs, .int .i64 x.i.1, .slice Ai ni ci, .slice Af nf cf] 83)) B (some ⟨bk, off + 8, none⟩) m (r) := (hT.tailE.next hbe (Nat.le_refl _))
    have HR : Hid (TV ((w.setCell ⟨bb, 0, none⟩ (.slice (some ⟨bk, off + 8, none⟩) m (c - 1))).alloc (.cells #[.int .i64 6, .int .i64 x.v, .int .i64 x.e, .int .i64 x.s.1, .slice As ns cs, .int .i64 x.i.1, .slice Ai ni ci, .slice Af nf cf] 83)) B (.leaf x) _) := .assert (cs := cs) hk (hS.next hbe (Nat.le_refl _))
    have HB := Lib.hid hB9
    have HI9 := Lib.hid hI9
    have HO := Lib.hid ho9
    clear hin hB1 hB2 hB9 hI9 ho9 hbe hEB hT
    go_enter Tryz.func84, Tryz.ntmps84
    go_wp2_with fail
    go_ret
    exact ⟨_, _, m, c - 1, rfl, HR.out, HB.out, HI9.out, hc2, HO.out⟩
set_option maxRecDepth 100000 in
set_option maxHeartbeats 2000000 in
theorem next_seq {x : S8} {a b : Tr} (hk : x.k = 1) (bb nb B : Nat) (hbb : B ≤ bb) (hnb : B ≤ nb) (hbn : bb ≠ nb) (ha : NextIn bb nb B a) (hb : NextIn bb nb B b) : NextIn bb nb B (.two x a b) := by
  intro r A n c w hB1 hin hcap hnx
  have hlen := hin.1
  obtain ⟨bk, off, x', rfl, hbB, hx0, hst⟩ := hin.at_ (k := 0) (by rw [← hlen]; simp [flatT])
  have ex : x = x' := by simpa [flatT] using hx0
  subst ex
  obtain ⟨As, ns, cs, Ai, ni, ci, Af, nf, cf, s0, s1, s2, s3, s4, s5, s6, s7, hS, hI, hF⟩ := hst
  rw [hk] at s0
  simp only [Nat.zero_mul, Nat.add_zero] at s0 s1 s2 s3 s4 s5 s6 s7
  have hn1 : 1 ≤ n := by rw [← hlen]; simp [flatT]
  obtain ⟨m, rfl⟩ : ∃ m, n = m + 1 := ⟨n - 1, by omega⟩
  have hT : InST w B (some ⟨bk, off, none⟩) (m + 1) (x :: flatT a ++ (flatT b ++ r)) := by simpa [flatT] using hin
  have hbl := hB1.lt
  have y0 : w.cell? ⟨bb, 0, none⟩ = some (.slice (some ⟨bk, off, none⟩) (m + 1) c) := hB1.cell 0
  have hb0 := bnew w (.cells #[.int .i64 1, .int .i64 x.v, .int .i64 x.e, .int .i64 x.s.1, .slice As ns cs, .int .i64 x.i.1, .slice Ai ni ci, .slice Af nf cf] 83)
  have hB2 := (hB1.next hb0)
  have y1 := hB2.cell 0
  have f1 := hB2.frozen 0
  simp only [List.getElem?_toArray, List.getElem?_cons_zero] at y1
  have hEB : BlkIs (w.alloc (.cells #[.int .i64 1, .int .i64 x.v, .int .i64 x.e, .int .i64 x.s.1, .slice As ns cs, .int .i64 x.i.1, .slice Ai ni ci, .slice Af nf cf] 83)) w.heap.size 83 #[.int .i64 1, .int .i64 x.v, .int .i64 x.e, .int .i64 x.s.1, .slice As ns cs, .int .i64 x.i.1, .slice Ai ni ci, .slice Af nf cf] := blk_new _ _ _ _ rfl
  have hnl := cell_lt hnx
  have hne : bb ≠ nb := hbn
  have hfa := flatT_pos a
  have hm1 : 1 ≤ m := by
    have := hT.1
    simp at this
    omega
  have hc1 : ¬ c = 1 := by omega
  have hc2 : m ≤ c - 1 := by omega
  have hbn9 := bnew (w.setCell ⟨bb, 0, none⟩ (.slice (some ⟨bk, off + 8, none⟩) m (c - 1))) (.cells #[.int .i64 1, .int .i64 x.v, .int .i64 x.e, .int .i64 x.s.1, .slice As ns cs, .int .i64 x.i.1, .slice Ai ni ci, .slice Af nf cf] 83)
  have ho9 : Out bb (bb + 1) w ((w.setCell ⟨bb, 0, none⟩ (.slice (some ⟨bk, off + 8, none⟩) m (c - 1))).alloc (.cells #[.int .i64 1, .int .i64 x.v, .int .i64 x.e, .int .i64 x.s.1, .slice As ns cs, .int .i64 x.i.1, .slice Ai ni ci, .slice Af nf cf] 83)) := (out_set (Out.refl _ _ _) (by omega)).trans (Out.of_below hbn9)
  have hB9 : BlkIs ((w.setCell ⟨bb, 0, none⟩ (.slice (some ⟨bk, off + 8, none⟩) m (c - 1))).alloc (.cells #[.int .i64 1, .int .i64 x.v, .int .i64 x.e, .int .i64 x.s.1, .slice As ns cs, .int .i64 x.i.1, .slice Ai ni ci, .slice Af nf cf] 83)) bb 35 #[.slice (some ⟨bk, off + 8, none⟩) m (c - 1)] := (hB1.set 0 _).next hbn9
  have hbe : Below B w ((w.setCell ⟨bb, 0, none⟩ (.slice (some ⟨bk, off + 8, none⟩) m (c - 1))).alloc (.cells #[.int .i64 1, .int .i64 x.v, .int .i64 x.e, .int .i64 x.s.1, .slice As ns cs, .int .i64 x.i.1, .slice Ai ni ci, .slice Af nf cf] 83)) := ho9.below hbb (by omega)
  have hI9 : InST ((w.setCell ⟨bb, 0, none⟩ (.slice (some ⟨bk, off + 8, none⟩) m (c - 1))).alloc (.cells #[.int .i64 1, .int .i64 x.v, .int .i64 x.e, .int .i64 x.s.1, .slice As ns cs, .int .i64 x.i.1, .slice Ai ni ci, .slice Af nf cf] 83)) B (some ⟨bk, off + 8, none⟩) m (flatT a ++ (flatT b ++ r)) := (hT.tailE.next hbe (Nat.le_refl _))
  have q0 : ((w.setCell ⟨bb, 0, none⟩ (.slice (some ⟨bk, off + 8, none⟩) m (c - 1))).alloc (.cells #[.int .i64 1, .int .i64 x.v, .int .i64 x.e, .int .i64 x.s.1, .slice As ns cs, .int .i64 x.i.1, .slice Ai ni ci, .slice Af nf cf] 83)).cell? ⟨nb, 0, none⟩ = some (.func (.func 84) #[] #[.pointer (some ⟨bb, 0, none⟩), .pointer (some ⟨nb, 0, none⟩)]) := ho9.cell hnx (by omega)
  have hsz9 : w.heap.size < ((w.setCell ⟨bb, 0, none⟩ (.slice (some ⟨bk, off + 8, none⟩) m (c - 1))).alloc (.cells #[.int .i64 1, .int .i64 x.v, .int .i64 x.e, .int .i64 x.s.1, .slice As ns cs, .int .i64 x.i.1, .slice Ai ni ci, .slice Af nf cf] 83)).heap.size := by simp
  have HA := Lib.hid ha
  have HBB := Lib.hid hb
  clear hin hB1 hB2 hbe hEB hT ha hb hbn9
  go_enter Tryz.func84, Tryz.ntmps84
  go_wp2_with fail
  generalize ((w.setCell ⟨bb, 0, none⟩ (.slice (some ⟨bk, off + 8, none⟩) m (c - 1))).alloc (.cells #[.int .i64 1, .int .i64 x.v, .int .i64 x.e, .int .i64 x.s.1, .slice As ns cs, .int .i64 x.i.1, .slice Ai ni ci, .slice Af nf cf] 83)) = W at hB9 ho9 hI9 q0  hsz9 ⊢
  have HC := Lib.hid (HA.out (flatT b ++ r) _ _ _ W.drew hB9 hI9 hc2 q0)
  go_region_held3 (fun w' => w'.cell? ⟨nb, 0, none⟩ = some (.func (.func 84) #[] #[.pointer (some ⟨bb, 0, none⟩), .pointer (some ⟨nb, 0, none⟩)]))
    (first | go_keep | exact ho2.cell (ho1.cell q0 (by omega)) (by omega) | exact ho1.cell q0 (by omega) | fail)
    (first | (go_at_call 84; refine (HBB.out r _ _ _ v1 hB1 hI1 hc3 (ho1.cell q0 (by omega))).mono ?_; rintro e v2 ⟨vb, A2, n2, c2, rfl, tv2, hB2, hI2, hc4, ho2⟩; obtain ⟨Tb, xb, rfl⟩ := tv2.iface) | (go_at_call 84; refine HC.out.mono ?_; rintro e v1 ⟨va, A1, n1, c1, rfl, tv1, hB1, hI1, hc3, ho1⟩; obtain ⟨Ta, xa, rfl⟩ := tv1.iface) | fail)
  all_goals (
    have hbl1 : Below B v1 v2 := ho2.below hbb (Nat.le_trans hbb (Nat.le_of_lt hB1.lt))
    have hbl2 : Below B W v1 := (Below.refl _ _).drew.trans (ho1.below hbb (Nat.le_trans hbb (Nat.le_of_lt hB9.lt)))
    go_wp2_with fail
    go_ret
    exact ⟨_, A2, n2, c2, rfl, .seq hk (tv1.next hbl1 (Nat.le_refl _)) tv2, hB2, hI2, hc4, ho9.trans ((Out.of_below ((Below.refl _ _).drew)).trans (ho1.trans ho2))⟩)

set_option maxRecDepth 100000 in
set_option maxHeartbeats 2000000 in
theorem next_iff {x : S8} {a b : Tr} (hk : x.k = 7) (bb nb B : Nat) (hbb : B ≤ bb) (hnb : B ≤ nb) (hbn : bb ≠ nb) (ha : NextIn bb nb B a) (hb : NextIn bb nb B b) : NextIn bb nb B (.two x a b) := by
  intro r A n c w hB1 hin hcap hnx
  have hlen := hin.1
  obtain ⟨bk, off, x', rfl, hbB, hx0, hst⟩ := hin.at_ (k := 0) (by rw [← hlen]; simp [flatT])
  have ex : x = x' := by simpa [flatT] using hx0
  subst ex
  obtain ⟨As, ns, cs, Ai, ni, ci, Af, nf, cf, s0, s1, s2, s3, s4, s5, s6, s7, hS, hI, hF⟩ := hst
  rw [hk] at s0
  simp only [Nat.zero_mul, Nat.add_zero] at s0 s1 s2 s3 s4 s5 s6 s7
  have hn1 : 1 ≤ n := by rw [← hlen]; simp [flatT]
  obtain ⟨m, rfl⟩ : ∃ m, n = m + 1 := ⟨n - 1, by omega⟩
  have hT : InST w B (some ⟨bk, off, none⟩) (m + 1) (x :: flatT a ++ (flatT b ++ r)) := by simpa [flatT] using hin
  have hbl := hB1.lt
  have y0 : w.cell? ⟨bb, 0, none⟩ = some (.slice (some ⟨bk, off, none⟩) (m + 1) c) := hB1.cell 0
  have hb0 := bnew w (.cells #[.int .i64 7, .int .i64 x.v, .int .i64 x.e, .int .i64 x.s.1, .slice As ns cs, .int .i64 x.i.1, .slice Ai ni ci, .slice Af nf cf] 83)
  have hB2 := (hB1.next hb0)
  have y1 := hB2.cell 0
  have f1 := hB2.frozen 0
  simp only [List.getElem?_toArray, List.getElem?_cons_zero] at y1
  have hEB : BlkIs (w.alloc (.cells #[.int .i64 7, .int .i64 x.v, .int .i64 x.e, .int .i64 x.s.1, .slice As ns cs, .int .i64 x.i.1, .slice Ai ni ci, .slice Af nf cf] 83)) w.heap.size 83 #[.int .i64 7, .int .i64 x.v, .int .i64 x.e, .int .i64 x.s.1, .slice As ns cs, .int .i64 x.i.1, .slice Ai ni ci, .slice Af nf cf] := blk_new _ _ _ _ rfl
  have hnl := cell_lt hnx
  have hne : bb ≠ nb := hbn
  have hfa := flatT_pos a
  have hm1 : 1 ≤ m := by
    have := hT.1
    simp at this
    omega
  have hc1 : ¬ c = 1 := by omega
  have hc2 : m ≤ c - 1 := by omega
  have hbn9 := bnew (w.setCell ⟨bb, 0, none⟩ (.slice (some ⟨bk, off + 8, none⟩) m (c - 1))) (.cells #[.int .i64 7, .int .i64 x.v, .int .i64 x.e, .int .i64 x.s.1, .slice As ns cs, .int .i64 x.i.1, .slice Ai ni ci, .slice Af nf cf] 83)
  have ho9 : Out bb (bb + 1) w ((w.setCell ⟨bb, 0, none⟩ (.slice (some ⟨bk, off + 8, none⟩) m (c - 1))).alloc (.cells #[.int .i64 7, .int .i64 x.v, .int .i64 x.e, .int .i64 x.s.1, .slice As ns cs, .int .i64 x.i.1, .slice Ai ni ci, .slice Af nf cf] 83)) := (out_set (Out.refl _ _ _) (by omega)).trans (Out.of_below hbn9)
  have hB9 : BlkIs ((w.setCell ⟨bb, 0, none⟩ (.slice (some ⟨bk, off + 8, none⟩) m (c - 1))).alloc (.cells #[.int .i64 7, .int .i64 x.v, .int .i64 x.e, .int .i64 x.s.1, .slice As ns cs, .int .i64 x.i.1, .slice Ai ni ci, .slice Af nf cf] 83)) bb 35 #[.slice (some ⟨bk, off + 8, none⟩) m (c - 1)] := (hB1.set 0 _).next hbn9
  have hbe : Below B w ((w.setCell ⟨bb, 0, none⟩ (.slice (some ⟨bk, off + 8, none⟩) m (c - 1))).alloc (.cells #[.int .i64 7, .int .i64 x.v, .int .i64 x.e, .int .i64 x.s.1, .slice As ns cs, .int .i64 x.i.1, .slice Ai ni ci, .slice Af nf cf] 83)) := ho9.below hbb (by omega)
  have hI9 : InST ((w.setCell ⟨bb, 0, none⟩ (.slice (some ⟨bk, off + 8, none⟩) m (c - 1))).alloc (.cells #[.int .i64 7, .int .i64 x.v, .int .i64 x.e, .int .i64 x.s.1, .slice As ns cs, .int .i64 x.i.1, .slice Ai ni ci, .slice Af nf cf] 83)) B (some ⟨bk, off + 8, none⟩) m (flatT a ++ (flatT b ++ r)) := (hT.tailE.next hbe (Nat.le_refl _))
  have q0 : ((w.setCell ⟨bb, 0, none⟩ (.slice (some ⟨bk, off + 8, none⟩) m (c - 1))).alloc (.cells #[.int .i64 7, .int .i64 x.v, .int .i64 x.e, .int .i64 x.s.1, .slice As ns cs, .int .i64 x.i.1, .slice Ai ni ci, .slice Af nf cf] 83)).cell? ⟨nb, 0, none⟩ = some (.func (.func 84) #[] #[.pointer (some ⟨bb, 0, none⟩), .pointer (some ⟨nb, 0, none⟩)]) := ho9.cell hnx (by omega)
  have hE9 : BlkIs ((w.setCell ⟨bb, 0, none⟩ (.slice (some ⟨bk, off + 8, none⟩) m (c - 1))).alloc (.cells #[.int .i64 7, .int .i64 x.v, .int .i64 x.e, .int .i64 x.s.1, .slice As ns cs, .int .i64 x.i.1, .slice Ai ni ci, .slice Af nf cf] 83)) w.heap.size 83 #[.int .i64 7, .int .i64 x.v, .int .i64 x.e, .int .i64 x.s.1, .slice As ns cs, .int .i64 x.i.1, .slice Ai ni ci, .slice Af nf cf] := blk_new _ _ _ _ (by simp)
  have e3 : ((w.setCell ⟨bb, 0, none⟩ (.slice (some ⟨bk, off + 8, none⟩) m (c - 1))).alloc (.cells #[.int .i64 7, .int .i64 x.v, .int .i64 x.e, .int .i64 x.s.1, .slice As ns cs, .int .i64 x.i.1, .slice Ai ni ci, .slice Af nf cf] 83)).cell? ⟨w.heap.size, 3, none⟩ = some (.int .i64 x.s.1) := hE9.cell 3
  have e4 : ((w.setCell ⟨bb, 0, none⟩ (.slice (some ⟨bk, off + 8, none⟩) m (c - 1))).alloc (.cells #[.int .i64 7, .int .i64 x.v, .int .i64 x.e, .int .i64 x.s.1, .slice As ns cs, .int .i64 x.i.1, .slice Ai ni ci, .slice Af nf cf] 83)).cell? ⟨w.heap.size, 4, none⟩ = some (.slice As ns cs) := hE9.cell 4
  have hS9 : InL ((w.setCell ⟨bb, 0, none⟩ (.slice (some ⟨bk, off + 8, none⟩) m (c - 1))).alloc (.cells #[.int .i64 7, .int .i64 x.v, .int .i64 x.e, .int .i64 x.s.1, .slice As ns cs, .int .i64 x.i.1, .slice Ai ni ci, .slice Af nf cf] 83)) B As ns x.s.2 := hS.next hbe (Nat.le_refl _)
  have hsz9 : w.heap.size < ((w.setCell ⟨bb, 0, none⟩ (.slice (some ⟨bk, off + 8, none⟩) m (c - 1))).alloc (.cells #[.int .i64 7, .int .i64 x.v, .int .i64 x.e, .int .i64 x.s.1, .slice As ns cs, .int .i64 x.i.1, .slice Ai ni ci, .slice Af nf cf] 83)).heap.size := by simp
  have HA := Lib.hid ha
  have HBB := Lib.hid hb
  clear hin hB1 hB2 hbe hEB hT ha hb hbn9 hE9
  go_enter Tryz.func84, Tryz.ntmps84
  go_wp2_with fail
  generalize ((w.setCell ⟨bb, 0, none⟩ (.slice (some ⟨bk, off + 8, none⟩) m (c - 1))).alloc (.cells #[.int .i64 7, .int .i64 x.v, .int .i64 x.e, .int .i64 x.s.1, .slice As ns cs, .int .i64 x.i.1, .slice Ai ni ci, .slice Af nf cf] 83)) = W at hB9 ho9 hI9 q0 e3 e4 hS9 hsz9 ⊢
  have HC := Lib.hid (HA.out (flatT b ++ r) _ _ _ W.drew hB9 hI9 hc2 q0)
  go_region_held3 (fun w' => w'.cell? ⟨nb, 0, none⟩ = some (.func (.func 84) #[] #[.pointer (some ⟨bb, 0, none⟩), .pointer (some ⟨nb, 0, none⟩)]) ∧ w'.cell? ⟨w.heap.size, 3, none⟩ = some (.int .i64 x.s.1) ∧ w'.cell? ⟨w.heap.size, 4, none⟩ = some (.slice As ns cs))
    (first | go_keep | exact ⟨ho2.cell (ho1.cell q0 (by omega)) (by omega), ho2.cell (ho1.cell e3 (by omega)) (by omega), ho2.cell (ho1.cell e4 (by omega)) (by omega)⟩ | exact ⟨ho1.cell q0 (by omega), ho1.cell e3 (by omega), ho1.cell e4 (by omega)⟩ | fail)
    (first | (go_at_call 84; refine (HBB.out r _ _ _ v1 hB1 hI1 hc3 (ho1.cell q0 (by omega))).mono ?_; rintro e v2 ⟨vb, A2, n2, c2, rfl, tv2, hB2, hI2, hc4, ho2⟩; obtain ⟨Tb, xb, rfl⟩ := tv2.iface) | (go_at_call 84; refine HC.out.mono ?_; rintro e v1 ⟨va, A1, n1, c1, rfl, tv1, hB1, hI1, hc3, ho1⟩; obtain ⟨Ta, xa, rfl⟩ := tv1.iface) | fail)
  all_goals (
    have hbl1 : Below B v1 v2 := ho2.below hbb (Nat.le_trans hbb (Nat.le_of_lt hB1.lt))
    have hbl2 : Below B W v1 := (Below.refl _ _).drew.trans (ho1.below hbb (Nat.le_trans hbb (Nat.le_of_lt hB9.lt)))
    go_wp2_with fail
    go_ret
    exact ⟨_, A2, n2, c2, rfl, .iff hk (hS9.next (hbl2.trans hbl1) (Nat.le_refl _)) (tv1.next hbl1 (Nat.le_refl _)) tv2, hB2, hI2, hc4, ho9.trans ((Out.of_below ((Below.refl _ _).drew)).trans (ho1.trans ho2))⟩)

set_option maxRecDepth 100000 in
set_option maxHeartbeats 2000000 in
theorem next_whl {x : S8} {a : Tr} (hk : x.k = 8) (bb nb B : Nat) (hbb : B ≤ bb) (hnb : B ≤ nb) (hbn : bb ≠ nb) (ha : NextIn bb nb B a) : NextIn bb nb B (.one x a) := by
  intro r A n c w hB1 hin hcap hnx
  have hlen := hin.1
  obtain ⟨bk, off, x', rfl, hbB, hx0, hst⟩ := hin.at_ (k := 0) (by rw [← hlen]; simp [flatT])
  have ex : x = x' := by simpa [flatT] using hx0
  subst ex
  obtain ⟨As, ns, cs, Ai, ni, ci, Af, nf, cf, s0, s1, s2, s3, s4, s5, s6, s7, hS, hI, hF⟩ := hst
  rw [hk] at s0
  simp only [Nat.zero_mul, Nat.add_zero] at s0 s1 s2 s3 s4 s5 s6 s7
  have hn1 : 1 ≤ n := by rw [← hlen]; simp [flatT]
  obtain ⟨m, rfl⟩ : ∃ m, n = m + 1 := ⟨n - 1, by omega⟩
  have hT : InST w B (some ⟨bk, off, none⟩) (m + 1) (x :: flatT a ++ r) := by simpa [flatT] using hin
  have hbl := hB1.lt
  have y0 : w.cell? ⟨bb, 0, none⟩ = some (.slice (some ⟨bk, off, none⟩) (m + 1) c) := hB1.cell 0
  have hb0 := bnew w (.cells #[.int .i64 8, .int .i64 x.v, .int .i64 x.e, .int .i64 x.s.1, .slice As ns cs, .int .i64 x.i.1, .slice Ai ni ci, .slice Af nf cf] 83)
  have hB2 := (hB1.next hb0)
  have y1 := hB2.cell 0
  have f1 := hB2.frozen 0
  simp only [List.getElem?_toArray, List.getElem?_cons_zero] at y1
  have hEB : BlkIs (w.alloc (.cells #[.int .i64 8, .int .i64 x.v, .int .i64 x.e, .int .i64 x.s.1, .slice As ns cs, .int .i64 x.i.1, .slice Ai ni ci, .slice Af nf cf] 83)) w.heap.size 83 #[.int .i64 8, .int .i64 x.v, .int .i64 x.e, .int .i64 x.s.1, .slice As ns cs, .int .i64 x.i.1, .slice Ai ni ci, .slice Af nf cf] := blk_new _ _ _ _ rfl
  have hnl := cell_lt hnx
  have hne : bb ≠ nb := hbn
  have hfa := flatT_pos a
  have hm1 : 1 ≤ m := by
    have := hT.1
    simp at this
    omega
  have hc1 : ¬ c = 1 := by omega
  have hc2 : m ≤ c - 1 := by omega
  have hbn9 := bnew (w.setCell ⟨bb, 0, none⟩ (.slice (some ⟨bk, off + 8, none⟩) m (c - 1))) (.cells #[.int .i64 8, .int .i64 x.v, .int .i64 x.e, .int .i64 x.s.1, .slice As ns cs, .int .i64 x.i.1, .slice Ai ni ci, .slice Af nf cf] 83)
  have ho9 : Out bb (bb + 1) w ((w.setCell ⟨bb, 0, none⟩ (.slice (some ⟨bk, off + 8, none⟩) m (c - 1))).alloc (.cells #[.int .i64 8, .int .i64 x.v, .int .i64 x.e, .int .i64 x.s.1, .slice As ns cs, .int .i64 x.i.1, .slice Ai ni ci, .slice Af nf cf] 83)) := (out_set (Out.refl _ _ _) (by omega)).trans (Out.of_below hbn9)
  have hB9 : BlkIs ((w.setCell ⟨bb, 0, none⟩ (.slice (some ⟨bk, off + 8, none⟩) m (c - 1))).alloc (.cells #[.int .i64 8, .int .i64 x.v, .int .i64 x.e, .int .i64 x.s.1, .slice As ns cs, .int .i64 x.i.1, .slice Ai ni ci, .slice Af nf cf] 83)) bb 35 #[.slice (some ⟨bk, off + 8, none⟩) m (c - 1)] := (hB1.set 0 _).next hbn9
  have hbe : Below B w ((w.setCell ⟨bb, 0, none⟩ (.slice (some ⟨bk, off + 8, none⟩) m (c - 1))).alloc (.cells #[.int .i64 8, .int .i64 x.v, .int .i64 x.e, .int .i64 x.s.1, .slice As ns cs, .int .i64 x.i.1, .slice Ai ni ci, .slice Af nf cf] 83)) := ho9.below hbb (by omega)
  have hI9 : InST ((w.setCell ⟨bb, 0, none⟩ (.slice (some ⟨bk, off + 8, none⟩) m (c - 1))).alloc (.cells #[.int .i64 8, .int .i64 x.v, .int .i64 x.e, .int .i64 x.s.1, .slice As ns cs, .int .i64 x.i.1, .slice Ai ni ci, .slice Af nf cf] 83)) B (some ⟨bk, off + 8, none⟩) m (flatT a ++ r) := (hT.tailE.next hbe (Nat.le_refl _))
  have q0 : ((w.setCell ⟨bb, 0, none⟩ (.slice (some ⟨bk, off + 8, none⟩) m (c - 1))).alloc (.cells #[.int .i64 8, .int .i64 x.v, .int .i64 x.e, .int .i64 x.s.1, .slice As ns cs, .int .i64 x.i.1, .slice Ai ni ci, .slice Af nf cf] 83)).cell? ⟨nb, 0, none⟩ = some (.func (.func 84) #[] #[.pointer (some ⟨bb, 0, none⟩), .pointer (some ⟨nb, 0, none⟩)]) := ho9.cell hnx (by omega)
  have hE9 : BlkIs ((w.setCell ⟨bb, 0, none⟩ (.slice (some ⟨bk, off + 8, none⟩) m (c - 1))).alloc (.cells #[.int .i64 8, .int .i64 x.v, .int .i64 x.e, .int .i64 x.s.1, .slice As ns cs, .int .i64 x.i.1, .slice Ai ni ci, .slice Af nf cf] 83)) w.heap.size 83 #[.int .i64 8, .int .i64 x.v, .int .i64 x.e, .int .i64 x.s.1, .slice As ns cs, .int .i64 x.i.1, .slice Ai ni ci, .slice Af nf cf] := blk_new _ _ _ _ (by simp)
  have e3 : ((w.setCell ⟨bb, 0, none⟩ (.slice (some ⟨bk, off + 8, none⟩) m (c - 1))).alloc (.cells #[.int .i64 8, .int .i64 x.v, .int .i64 x.e, .int .i64 x.s.1, .slice As ns cs, .int .i64 x.i.1, .slice Ai ni ci, .slice Af nf cf] 83)).cell? ⟨w.heap.size, 3, none⟩ = some (.int .i64 x.s.1) := hE9.cell 3
  have e4 : ((w.setCell ⟨bb, 0, none⟩ (.slice (some ⟨bk, off + 8, none⟩) m (c - 1))).alloc (.cells #[.int .i64 8, .int .i64 x.v, .int .i64 x.e, .int .i64 x.s.1, .slice As ns cs, .int .i64 x.i.1, .slice Ai ni ci, .slice Af nf cf] 83)).cell? ⟨w.heap.size, 4, none⟩ = some (.slice As ns cs) := hE9.cell 4
  have e7 : ((w.setCell ⟨bb, 0, none⟩ (.slice (some ⟨bk, off + 8, none⟩) m (c - 1))).alloc (.cells #[.int .i64 8, .int .i64 x.v, .int .i64 x.e, .int .i64 x.s.1, .slice As ns cs, .int .i64 x.i.1, .slice Ai ni ci, .slice Af nf cf] 83)).cell? ⟨w.heap.size, 7, none⟩ = some (.slice Af nf cf) := hE9.cell 7
  have hS9 : InL ((w.setCell ⟨bb, 0, none⟩ (.slice (some ⟨bk, off + 8, none⟩) m (c - 1))).alloc (.cells #[.int .i64 8, .int .i64 x.v, .int .i64 x.e, .int .i64 x.s.1, .slice As ns cs, .int .i64 x.i.1, .slice Ai ni ci, .slice Af nf cf] 83)) B As ns x.s.2 := hS.next hbe (Nat.le_refl _)
  have hF9 : InTS ((w.setCell ⟨bb, 0, none⟩ (.slice (some ⟨bk, off + 8, none⟩) m (c - 1))).alloc (.cells #[.int .i64 8, .int .i64 x.v, .int .i64 x.e, .int .i64 x.s.1, .slice As ns cs, .int .i64 x.i.1, .slice Ai ni ci, .slice Af nf cf] 83)) B Af nf x.f := hF.next hbe (Nat.le_refl _)
  have hsz9 : w.heap.size < ((w.setCell ⟨bb, 0, none⟩ (.slice (some ⟨bk, off + 8, none⟩) m (c - 1))).alloc (.cells #[.int .i64 8, .int .i64 x.v, .int .i64 x.e, .int .i64 x.s.1, .slice As ns cs, .int .i64 x.i.1, .slice Ai ni ci, .slice Af nf cf] 83)).heap.size := by simp
  have HA := Lib.hid ha
  clear hin hB1 hB2 hbe hEB hT ha hbn9 hE9
  go_enter Tryz.func84, Tryz.ntmps84
  go_wp2_with fail
  generalize ((w.setCell ⟨bb, 0, none⟩ (.slice (some ⟨bk, off + 8, none⟩) m (c - 1))).alloc (.cells #[.int .i64 8, .int .i64 x.v, .int .i64 x.e, .int .i64 x.s.1, .slice As ns cs, .int .i64 x.i.1, .slice Ai ni ci, .slice Af nf cf] 83)) = W at hB9 ho9 hI9 q0 e3 e4 e7 hS9 hF9 hsz9 ⊢
  have HC := Lib.hid (HA.out r _ _ _ W.drew hB9 hI9 hc2 q0)
  go_region_held3 (fun w' => w'.cell? ⟨nb, 0, none⟩ = some (.func (.func 84) #[] #[.pointer (some ⟨bb, 0, none⟩), .pointer (some ⟨nb, 0, none⟩)]) ∧ w'.cell? ⟨w.heap.size, 3, none⟩ = some (.int .i64 x.s.1) ∧ w'.cell? ⟨w.heap.size, 4, none⟩ = some (.slice As ns cs) ∧ w'.cell? ⟨w.heap.size, 7, none⟩ = some (.slice Af nf cf))
    (first | go_keep | exact ⟨ho1.cell q0 (by omega), ho1.cell e3 (by omega), ho1.cell e4 (by omega), ho1.cell e7 (by omega)⟩ | fail)
    (first | (go_at_call 84; refine HC.out.mono ?_; rintro e v1 ⟨va, A1, n1, c1, rfl, tv1, hB1, hI1, hc3, ho1⟩; obtain ⟨Ta, xa, rfl⟩ := tv1.iface) | fail)
  all_goals (
    have hbl2 : Below B W v1 := (Below.refl _ _).drew.trans (ho1.below hbb (Nat.le_trans hbb (Nat.le_of_lt hB9.lt)))
    go_wp2_with fail
    go_ret
    exact ⟨_, A1, n1, c1, rfl, .whl hk (hS9.next hbl2 (Nat.le_refl _)) (hF9.next hbl2 (Nat.le_refl _)) tv1, hB1, hI1, hc3, ho9.trans ((Out.of_below ((Below.refl _ _).drew)).trans ho1)⟩)

theorem next_all (bb nb B : Nat) (hbb : B ≤ bb) (hnb : B ≤ nb) (hbn : bb ≠ nb) : ∀ t : Tr, WfT t → (∀ x ∈ flatT t, stmtB x = true) → NextIn bb nb B t
  | .leaf x, hw, ok => by
    have hx := (stmt_ok (ok x (by simp [flatT]))).1
    have hb : below x.k = 0 := hw
    have hc : x.k = 0 ∨ x.k = 2 ∨ x.k = 3 ∨ x.k = 4 ∨ x.k = 5 ∨ x.k = 6 := by
      unfold below at hb
      split at hb
      · omega
      · split at hb <;> omega
    rcases hc with h | h | h | h | h | h
    · exact next_skip h bb nb B hbb hnb hbn
    · exact next_set h bb nb B hbb hnb hbn
    · exact next_get h bb nb B hbb hnb hbn
    · exact next_put h bb nb B hbb hnb hbn
    · exact next_emit h bb nb B hbb hnb hbn
    · exact next_assert h bb nb B hbb hnb hbn
  | .one x a, hw, ok => by
    have hb : below x.k = 1 := hw.1
    have h : x.k = 8 := by
      unfold below at hb
      split at hb
      · omega
      · split at hb <;> omega
    exact next_whl h bb nb B hbb hnb hbn (next_all bb nb B hbb hnb hbn a hw.2 (fun y hy => ok y (by simp [flatT, hy])))
  | .two x a b, hw, ok => by
    have hb : below x.k = 2 := hw.1
    have h : x.k = 1 ∨ x.k = 7 := by
      unfold below at hb
      split at hb
      · omega
      · split at hb <;> omega
    have ia := next_all bb nb B hbb hnb hbn a hw.2.1 (fun y hy => ok y (by simp [flatT, hy]))
    have ib := next_all bb nb B hbb hnb hbn b hw.2.2 (fun y hy => ok y (by simp [flatT, hy]))
    rcases h with h | h
    · exact next_seq h bb nb B hbb hnb hbn ia ib
    · exact next_iff h bb nb B hbb hnb hbn ia ib
set_option maxRecDepth 100000 in
set_option maxHeartbeats 1000000 in
theorem statementOf_c (t : Tr) (hw : WfT t) (ok : ∀ x ∈ flatT t, stmtB x = true) (A : Option Addr) (n c B : Nat) (w : World) (h : InST w B A n (flatT t)) (hB : B ≤ w.heap.size) (hc : n ≤ c) :
    Calls Tryz.prog 49 #[.slice A n c] w fun e w' => ∃ v, e = .returned v ∧ TV w' B t v ∧ Below w.heap.size w w' := by
  have NX := Lib.hid (next_all w.heap.size (w.heap.size + 1) B hB (by omega) (by omega) t hw ok [] A n c)
  have hb0 : Below w.heap.size w ((w.alloc (.cells #[.slice A n c] 35)).alloc (.cells #[.func (.func 84) #[] #[.pointer (some ⟨w.heap.size, 0, none⟩), .pointer (some ⟨w.heap.size + 1, 0, none⟩)]] 128)) := bon (bnew _ _) (bnew _ _)
  have hB1 : BlkIs ((w.alloc (.cells #[.slice A n c] 35)).alloc (.cells #[.func (.func 84) #[] #[.pointer (some ⟨w.heap.size, 0, none⟩), .pointer (some ⟨w.heap.size + 1, 0, none⟩)]] 128)) w.heap.size 35 #[.slice A n c] := (blk_new w _ _ _ rfl).next (bnew _ _)
  have hq : ((w.alloc (.cells #[.slice A n c] 35)).alloc (.cells #[.func (.func 84) #[] #[.pointer (some ⟨w.heap.size, 0, none⟩), .pointer (some ⟨w.heap.size + 1, 0, none⟩)]] 128)).cell? ⟨w.heap.size + 1, 0, none⟩ = some (.func (.func 84) #[] #[.pointer (some ⟨w.heap.size, 0, none⟩), .pointer (some ⟨w.heap.size + 1, 0, none⟩)]) := by simp
  have hz : ((w.alloc (.cells #[.slice A n c] 35)).alloc (.cells #[.func (.func 84) #[] #[.pointer (some ⟨w.heap.size, 0, none⟩), .pointer (some ⟨w.heap.size + 1, 0, none⟩)]] 128)).heap.size = w.heap.size + 2 := by simp
  have HC := Lib.hid (NX.out _ hB1 (by rw [List.append_nil]; exact h.next hb0 hB) hc hq)
  clear h hB1
  go_enter Tryz.func49, Tryz.ntmps49
  go_wp2_with fail
  refine HC.out.mono ?_
  rintro e w1 ⟨v, A', n', c', rfl, tv, _, _, _, ho⟩
  go_wp2_with fail
  go_ret
  exact ⟨v, rfl, tv, hb0.trans (ho.below (Nat.le_refl _) (by omega))⟩
end Go.Proofs.YtajmbnimdngjhaaGreatDoor

/-! The program's run of a program: executed, StepsOf, RunProgram. Conditions: at most 2^20 of everything. -/
namespace Go.Proofs.YtajmbnimdngjhaaGreatDoor
set_option linter.unusedVariables false
open Go.RowKit

theorem OwnL.exactX {w : World} {base n c g hi : Nat} {l : List Int} (h : OwnL w base hi (some ⟨g, 0, none⟩) n c l) : OwnL w g (g + 1) (some ⟨g, 0, none⟩) n c l := by
  have hlt := h.2.2.1 g rfl
  have hw := h.2.2.2
  refine ⟨h.1, ⟨h.2.1.1, ?_⟩, (fun k hk => by have hk' : some g = some k := hk; injection hk' with e; omega), by omega⟩
  rcases h.2.1.2 with ⟨h1, h2⟩ | ⟨b, cap, cur, h1, h2, r⟩
  · cases h1
  · have h1' := h1
    injection h1 with e _ _
    injection e with e
    injection e with e _ _
    exact .inr ⟨b, cap, cur, h1', by omega, r⟩
theorem OwnL.someX {w : World} {lo hi n c : Nat} {A : Option Addr} {l : List Int} (h : OwnL w lo hi A n c l) (hn : 0 < n) : ∃ b, A = some ⟨b, 0, none⟩ ∧ lo ≤ b ∧ b < hi := by
  rcases h.2.1.2 with ⟨h1, h2⟩ | ⟨b, cap, cur, h1, h2, r⟩
  · omega
  · have h1' := h1
    injection h1 with e _ _
    subst e
    exact ⟨b, rfl, h2, h.2.2.1 b rfl⟩
section
variable (A : Option Addr) (n c : Nat) (ts : List (Int × List Int)) (D : Option Addr) (m d : Nat) (xs : List S8) (E : Option Addr) (q e' : Nat) (us : List (Int × List Int)) (A1 : Option Addr) (n1 c1 : Nat) (vs : List Int) (A2 : Option Addr) (n2 c2 : Nat) (zs : List Int) (f : Int) (w : World)
/-- What the run leaves in memory. -/
def ExecQ (w : World) (F : Nat) (o : Int) (s : RS) : Ending → World → Prop := fun e w' => ∃ (gx gv cv gc cc : Nat) (E : Option Addr) (ce : Nat), e = .returned (.tuple #[.pointer (some ⟨gx, 0, none⟩), .int .i64 o, .bool true]) ∧ ExM w' w.heap.size gx gv cv gc cc E ce F s ∧ gv < gc ∧ Below w.heap.size w w'
set_option maxRecDepth 100000 in
set_option maxHeartbeats 2000000 in
theorem executed_no (hT : TabE w) (h : PIn w w.heap.size A n ts D m xs E q us) (h1 : InL w w.heap.size A1 n1 vs) (h2 : InL w w.heap.size A2 n2 zs) (hn : progN n ts m xs q us ≤ 1048576) (hn1 : n1 ≤ 1048576) (hn2 : n2 ≤ 1048576) (hv : ¬ (progB ts xs us = true ∧ stB vs zs = true ∧ 0 ≤ f ∧ f ≤ 2000)) :
    Calls Tryz.prog 41 #[.agg #[.slice A n c, .slice D m d, .slice E q e'], .agg #[.slice A1 n1 c1, .slice A2 n2 c2], .int .i64 f] w fun e w' => e = .returned (.tuple #[.pointer none, .int .i64 0, .bool false]) ∧ Below w.heap.size w w' := by
  have hb0 : Below w.heap.size w ((w.alloc (.cells #[.slice A n c, .slice D m d, .slice E q e'] 37)).alloc (.cells #[.slice A1 n1 c1, .slice A2 n2 c2] 31)) := bon (bnew _ _) (bnew _ _)
  have hP : BlkIs ((w.alloc (.cells #[.slice A n c, .slice D m d, .slice E q e'] 37)).alloc (.cells #[.slice A1 n1 c1, .slice A2 n2 c2] 31)) w.heap.size 37 #[.slice A n c, .slice D m d, .slice E q e'] := (blk_new w _ _ _ rfl).next (bnew _ _)
  have hS : BlkIs ((w.alloc (.cells #[.slice A n c, .slice D m d, .slice E q e'] 37)).alloc (.cells #[.slice A1 n1 c1, .slice A2 n2 c2] 31)) (w.heap.size + 1) 31 #[.slice A1 n1 c1, .slice A2 n2 c2] := blk_new _ _ _ _ (by simp)
  have C0 := validProg_c A n c ts D m d xs E q e' w.heap.size us ((w.alloc (.cells #[.slice A n c, .slice D m d, .slice E q e'] 37)).alloc (.cells #[.slice A1 n1 c1, .slice A2 n2 c2] 31)) (hT.next hb0) (h.next hb0 (Nat.le_refl _)) hb0.size hn
  have HS1 := Lib.hid (fun (X : World) (hX : Below w.heap.size w X) => implState_c A1 n1 c1 w.heap.size vs A2 n2 c2 zs X (h1.next hX (Nat.le_refl _)) (h2.next hX (Nat.le_refl _)) hX.size hn1 hn2)
  have HP := Lib.hid hP
  have HSB := Lib.hid hS
  have HV := Lib.hid hv
  cases hp : progB ts xs us with
  | false =>
    rw [hp] at C0
    have HC := Lib.hid C0
    clear C0 h h1 h2 hT hP hS hv
    go_enter Tryz.func41, Tryz.ntmps41
    go_wp2_with fail
    refine HC.out.mono ?_
    rintro e w1 ⟨rfl, hb1⟩
    go_wp2_with fail
    exact bodyPost_ret (v := .tuple #[.pointer none, .int .i64 0, .bool false]) (by simp [results, Tryz.results41, go_sem]) rfl ⟨rfl, bon hb0 hb1⟩
  | true =>
    rw [hp] at C0
    have HC := Lib.hid C0
    cases hs : stB vs zs with
    | false =>
      rw [hs] at HS1
      clear C0 h h1 h2 hT hP hS hv hp hs
      go_enter Tryz.func41, Tryz.ntmps41
      go_wp2_with fail
      generalize ((w.alloc (.cells #[.slice A n c, .slice D m d, .slice E q e'] 37)).alloc (.cells #[.slice A1 n1 c1, .slice A2 n2 c2] 31)) = W at hb0 HP HSB HC ⊢
      refine HC.out.mono ?_
      rintro e w1 ⟨rfl, hb1⟩
      have c0 : w1.cell? ⟨w.heap.size + 1, 0, none⟩ = some (.slice A1 n1 c1) := (HSB.out.next hb1).cell 0
      have c1' : w1.cell? ⟨w.heap.size + 1, 1, none⟩ = some (.slice A2 n2 c2) := (HSB.out.next hb1).cell 1
      have hb01 := bon hb0 hb1
      clear HC
      go_wp2_with fail
      refine (HS1.out w1 hb01).mono ?_
      rintro e w2 ⟨rfl, hb2⟩
      go_wp2_with fail
      exact bodyPost_ret (v := .tuple #[.pointer none, .int .i64 0, .bool false]) (by simp [results, Tryz.results41, go_sem]) rfl ⟨rfl, bon hb01 hb2⟩
    | true =>
      rw [hs] at HS1
      have hf : (decide (0 ≤ f ∧ f ≤ 2000)) = false := decide_eq_false (fun a => HV.out ⟨hp, hs, a⟩)
      have hf' : (decide (0 ≤ f) && decide (f ≤ 2000)) = false := by rw [← Bool.decide_and]; exact hf
      clear C0 h h1 h2 hT hP hS hv hp hs
      go_enter Tryz.func41, Tryz.ntmps41
      go_wp2_with fail
      generalize ((w.alloc (.cells #[.slice A n c, .slice D m d, .slice E q e'] 37)).alloc (.cells #[.slice A1 n1 c1, .slice A2 n2 c2] 31)) = W at hb0 HP HSB HC ⊢
      refine HC.out.mono ?_
      rintro e w1 ⟨rfl, hb1⟩
      have c0 : w1.cell? ⟨w.heap.size + 1, 0, none⟩ = some (.slice A1 n1 c1) := (HSB.out.next hb1).cell 0
      have c1' : w1.cell? ⟨w.heap.size + 1, 1, none⟩ = some (.slice A2 n2 c2) := (HSB.out.next hb1).cell 1
      have hb01 := bon hb0 hb1
      clear HC
      go_wp2_with fail
      refine (HS1.out w1 hb01).mono ?_
      rintro e w2 ⟨rfl, hb2⟩
      go_wp2_with fail
      refine (isBetween_k f 0 2000 w2).mono ?_
      rintro e w3 ⟨rfl, rfl⟩
      rw [hf]
      go_wp2_with fail
      exact bodyPost_ret (v := .tuple #[.pointer none, .int .i64 0, .bool false]) (by simp [results, Tryz.results41, go_sem]) rfl ⟨rfl, bon hb01 hb2⟩
set_option maxRecDepth 100000 in
set_option maxHeartbeats 4000000 in
theorem executed_c (t : Tr) (o : Int) (s' : RS) (hxs : xs = flatT t) (hw : WfT t) (ok : ∀ x ∈ flatT t, stmtB x = true) (hgo : Go f.toNat [t] ⟨vs, zs, [], 0⟩ o s') (g : GoodR f.toNat ⟨vs, zs, [], 0⟩) (hT : TabE w) (h : PIn w w.heap.size A n ts D m xs E q us) (h1 : InL w w.heap.size A1 n1 vs) (h2 : InL w w.heap.size A2 n2 zs) (hn : progN n ts m xs q us ≤ 1048576) (hn1 : n1 ≤ 1048576) (hn2 : n2 ≤ 1048576) (hmd : m ≤ d) (hp : progB ts xs us = true) (hs : stB vs zs = true) (hf0 : 0 ≤ f) (hf1 : f ≤ 2000) :
    Calls Tryz.prog 41 #[.agg #[.slice A n c, .slice D m d, .slice E q e'], .agg #[.slice A1 n1 c1, .slice A2 n2 c2], .int .i64 f] w (ExecQ w f.toNat o s') := by
  have hb0 : Below w.heap.size w ((w.alloc (.cells #[.slice A n c, .slice D m d, .slice E q e'] 37)).alloc (.cells #[.slice A1 n1 c1, .slice A2 n2 c2] 31)) := bon (bnew _ _) (bnew _ _)
  have hP : BlkIs ((w.alloc (.cells #[.slice A n c, .slice D m d, .slice E q e'] 37)).alloc (.cells #[.slice A1 n1 c1, .slice A2 n2 c2] 31)) w.heap.size 37 #[.slice A n c, .slice D m d, .slice E q e'] := (blk_new w _ _ _ rfl).next (bnew _ _)
  have hS : BlkIs ((w.alloc (.cells #[.slice A n c, .slice D m d, .slice E q e'] 37)).alloc (.cells #[.slice A1 n1 c1, .slice A2 n2 c2] 31)) (w.heap.size + 1) 31 #[.slice A1 n1 c1, .slice A2 n2 c2] := blk_new _ _ _ _ (by simp)
  have hsz : ((w.alloc (.cells #[.slice A n c, .slice D m d, .slice E q e'] 37)).alloc (.cells #[.slice A1 n1 c1, .slice A2 n2 c2] 31)).heap.size = w.heap.size + 2 := by simp
  have C0 := validProg_c A n c ts D m d xs E q e' w.heap.size us ((w.alloc (.cells #[.slice A n c, .slice D m d, .slice E q e'] 37)).alloc (.cells #[.slice A1 n1 c1, .slice A2 n2 c2] 31)) (hT.next hb0) (h.next hb0 (Nat.le_refl _)) hb0.size hn
  rw [hp] at C0
  have HC := Lib.hid C0
  have hlv : n1 = 4 := by have := g.g.lv; have := h1.1; simp at *; omega
  have hlc : n2 = 8 := by have := g.g.lc; have := h2.1; simp at *; omega
  subst hlv
  subst hlc
  have HS1 := Lib.hid (fun (X : World) (hX : Below w.heap.size w X) => implState_c A1 4 c1 w.heap.size vs A2 8 c2 zs X (h1.next hX (Nat.le_refl _)) (h2.next hX (Nat.le_refl _)) hX.size hn1 hn2)
  rw [hs] at HS1
  have HP := Lib.hid hP
  have HSB := Lib.hid hS
  have H1 := Lib.hid h1
  have H2 := Lib.hid h2
  have HD := Lib.hid h.2.1
  have HG := Lib.hid g
  have HGO := Lib.hid hgo
  have HW := Lib.hid hw
  have HOK := Lib.hid ok
  have HXS := Lib.hid hxs
  obtain ⟨F, rfl⟩ : ∃ F : Nat, f = (F : Int) := ⟨f.toNat, by omega⟩
  have eF : ((F : Int)).toNat = F := by omega
  rw [eF] at HG HGO ⊢
  have hF2 : F ≤ 2000 := by omega
  have e1 : decide ((0 : Int) ≤ (F : Int)) = true := decide_eq_true hf0
  have e2 : decide ((F : Int) ≤ 2000) = true := decide_eq_true hf1
  clear C0 h h1 h2 hT hP hS hp hs g hgo hw ok hxs
  go_enter Tryz.func41, Tryz.ntmps41
  go_wp2_with fail
  generalize ((w.alloc (.cells #[.slice A n c, .slice D m d, .slice E q e'] 37)).alloc (.cells #[.slice A1 4 c1, .slice A2 8 c2] 31)) = W at hb0 HP HSB HC hsz ⊢
  refine HC.out.mono ?_
  rintro e w1 ⟨rfl, hb1⟩
  have hc0 : w1.cell? ⟨w.heap.size + 1, 0, none⟩ = some (.slice A1 4 c1) := (HSB.out.next hb1).cell 0
  have hc1 : w1.cell? ⟨w.heap.size + 1, 1, none⟩ = some (.slice A2 8 c2) := (HSB.out.next hb1).cell 1
  have hb01 := bon hb0 hb1
  clear HC
  go_wp2_with fail
  refine (HS1.out w1 hb01).mono ?_
  rintro e w2 ⟨rfl, hb2⟩
  have hb02 := bon hb01 hb2
  replace hc0 := cell_next hc0 hb2
  replace hc1 := cell_next hc1 hb2
  clear HS1
  go_wp2_with fail
  refine (isBetween_k (F : Int) 0 2000 w2).mono ?_
  rintro e w3 ⟨rfl, rfl⟩
  go_wp2_with fail
  have HV := Lib.hid (clone64_c A1 4 c1 w.heap.size vs w2.drew (InL.drew (H1.out.next hb02 (Nat.le_refl _))) (show w.heap.size ≤ w2.heap.size from hb02.size) (by omega))
  have HZ := Lib.hid (fun (X : World) (hX : Below w2.drew.heap.size w2.drew X) => clone64_c A2 8 c2 w.heap.size zs X (H2.out.next (bon hb02 (bstep hX)) (Nat.le_refl _)) (bon hb02 (bstep hX)).size (by omega))
  have hz2 := hb2.size
  have hz1 := hb1.size
  go_cut [9] (fun x9 wx => ∃ gv cv gc cc, x9 = .pointer (some ⟨wx.heap.size - 1, 0, none⟩) ∧ 0 < wx.heap.size ∧ BlkIs wx (wx.heap.size - 1) 74 #[.slice (some ⟨gv, 0, none⟩) 4 cv, .slice (some ⟨gc, 0, none⟩) 8 cc, .slice none 0 0, .int .i64 0, .int .i64 (F : Int)] ∧ OwnL wx gv (gv + 1) (some ⟨gv, 0, none⟩) 4 cv vs ∧ OwnL wx gc (gc + 1) (some ⟨gc, 0, none⟩) 8 cc zs ∧ w2.heap.size ≤ gv ∧ gv < gc ∧ gc < wx.heap.size - 1 ∧ Below w2.heap.size w2 wx)
  case first =>
    go_region_held3 (fun w' => w'.cell? ⟨w.heap.size + 1, 0, none⟩ = some (.slice A1 4 c1) ∧ w'.cell? ⟨w.heap.size + 1, 1, none⟩ = some (.slice A2 8 c2))
      (first | go_keep | exact ⟨cell_on hc0 hbv, cell_on hc1 hbv⟩ | exact ⟨cell_on2 hc0 hbv hbz, cell_on2 hc1 hbv hbz⟩ | exact ⟨cell_next (cell_on2 hc0 hbv hbz) (bnew _ _), cell_next (cell_on2 hc1 hbv hbz) (bnew _ _)⟩ | fail)
      (first | (go_at_call_of 77 A1; refine HV.out.mono ?_; rintro e v1 ⟨X, cv, rfl, ow1, hbv⟩) | (go_at_call_of 77 A2; refine (HZ.out _ hbv).mono ?_; rintro e v2 ⟨X', cc, rfl, ow2, hbz⟩) | fail)
    all_goals (
      obtain ⟨gv, rfl, hv1, hv2⟩ := ow1.someX (by omega)
      obtain ⟨gc, rfl, hv3, hv4⟩ := ow2.someX (by omega)
      have hww : w2.drew.heap.size = w2.heap.size := rfl
      have hbzs := hbz.size
      go_wp2_with fail
      go_meet
      refine ⟨gv, cv, gc, cc, by simp, by simp, ?_, (ow1.exactX.next hbz).next (bnew _ _), ow2.exactX.next (bnew _ _), by omega, by omega, by simp; omega, bon (bon (bstep hbv) hbz) (bnew _ _)⟩
      have := blk_new v2 74 #[.slice (some ⟨gv, 0, none⟩) 4 cv, .slice (some ⟨gc, 0, none⟩) 8 cc, .slice none 0 0, .int .i64 0, .int .i64 (F : Int)] _ rfl
      simpa using this)
  case rest =>
    obtain ⟨gv, cv, gc, cc, rfl, hpos, hXB, ow1, ow2, hv1, hv2, hv3, hb3⟩ := hcut
    obtain ⟨gx, hgx⟩ : ∃ g, wc.heap.size - 1 = g := ⟨_, rfl⟩
    rw [hgx] at hXB hv3 ⊢
    have hb03 := bon hb02 hb3
    have hM : ExM wc w.heap.size gx gv cv gc cc none 0 F ⟨vs, zs, [], 0⟩ := ⟨hXB, ow1, ow2, World.ownsRow_nil _ _ _ _, (fun b hb => by cases hb), by omega, by omega, by omega, by omega, by omega, by omega⟩
    have hb23 := bon hb1 (bon hb2 hb3)
    have p1 : wc.cell? ⟨w.heap.size, 1, none⟩ = some (.slice D m d) := (HP.out.next hb23).cell 1
    have CS := Lib.hid (statementOf_c t HW.out HOK.out D m d w.heap.size wc (by rw [← HXS.out]; exact HD.out.next hb03 (Nat.le_refl _)) hb03.size hmd)
    have HM := Lib.hid hM
    clear hM hXB ow1 ow2 HV HZ hc0 hc1 H1 H2
    go_wp2_with fail
    refine CS.out.mono ?_
    rintro e w4 ⟨v, rfl, tv, hb4⟩
    obtain ⟨FR, r, ⟨Ta, xa, rfl, hma, hfa⟩, hcr⟩ := runs_all (fuel := F) tv HOK.out
    have CR := Lib.hid (hcr w4 w.heap.size gx gv cv gc cc none 0 ⟨vs, zs, [], 0⟩ (Below.refl _ _) (Nat.le_refl _) (HM.out.next hb4) HG.out)
    have hb04 := bon hb03 hb4
    clear hcr CS HM
    go_wp2_with fail
    refine CR.out.mono ?_
    rintro e w5 ⟨o9, s9, E9, ce9, rfl, h9, g9, F9, hle, hends⟩
    clear hma hfa CR
    obtain ⟨rfl, rfl⟩ := Go.det HGO.out hends.go
    go_wp2_with fail
    exact bodyPost_ret (v := .tuple #[.pointer (some ⟨gx, 0, none⟩), .int .i64 o, .bool true]) (by simp [results, Tryz.results41, go_sem]) rfl ⟨gx, gv, cv, gc, cc, E9, ce9, rfl, h9, hv2, hb04.trans F9.below⟩
end
end Go.Proofs.YtajmbnimdngjhaaGreatDoor

/-! StepsOf: the model's answer and the program's. Conditions: at most 2^20 of everything. -/
namespace Go.Proofs.YtajmbnimdngjhaaGreatDoor
set_option linter.unusedVariables false
open Go.RowKit

theorem l03Fuel_c (n : Int) (w : World) : Calls Tryz.prog 36 #[.int .i64 n] w fun e w' => e = .returned (.bool (decide (0 ≤ n) && decide (n ≤ 2000))) ∧ w = w' := by
  go_enter Tryz.func36, Tryz.ntmps36
  go_wp2_with fail
  refine (l00In_k n 0 2000 w).mono ?_
  rintro e w1 ⟨rfl, rfl⟩
  go_wp2_with fail
  go_ret
  exact ⟨rfl, rfl⟩
section
variable {ts : List (Int × List Int)} {xs : List S8} {us : List (Int × List Int)} {vs zs : List Int} {f o : Int} {s : RS} {ok : Bool}

set_option maxRecDepth 100000 in
set_option maxHeartbeats 4000000 in
theorem specSteps_c (hr : RunIs ts xs us vs zs f o s ok) (A : Option Addr) (n c : Nat) (D : Option Addr) (m d : Nat) (E : Option Addr) (q e' : Nat) (A1 : Option Addr) (n1 c1 : Nat) (A2 : Option Addr) (n2 c2 : Nat) (w : World) (h : PIn w w.heap.size A n ts D m xs E q us) (h1 : InL w w.heap.size A1 n1 vs) (h2 : InL w w.heap.size A2 n2 zs) (hn : progN n ts m xs q us ≤ 1048576) (hn1 : n1 ≤ 1048576) (hn2 : n2 ≤ 1048576) (hmd : m ≤ d) :
    Calls Tryz.prog 21 #[.agg #[.slice A n c, .slice D m d, .slice E q e'], .agg #[.slice A1 n1 c1, .slice A2 n2 c2], .int .i64 f] w fun e w' => e = .returned (.tuple #[.int .i64 (s.n : Int), .bool ok]) ∧ Below w.heap.size w w' := by
  obtain ⟨W, hW⟩ : ∃ W, ((w.alloc (.cells #[.slice A n c, .slice D m d, .slice E q e'] 37)).alloc (.cells #[.slice A1 n1 c1, .slice A2 n2 c2] 31)) = W := ⟨_, rfl⟩
  have hb0 : Below w.heap.size w W := by rw [← hW]; exact bon (bnew _ _) (bnew _ _)
  have hP : BlkIs W w.heap.size 37 #[.slice A n c, .slice D m d, .slice E q e'] := by rw [← hW]; exact (blk_new w _ _ _ rfl).next (bnew _ _)
  have hS : BlkIs W (w.heap.size + 1) 31 #[.slice A1 n1 c1, .slice A2 n2 c2] := by rw [← hW]; exact blk_new _ _ _ _ (by simp)
  have hsz : W.heap.size = w.heap.size + 2 := by rw [← hW]; simp
  have p0 : W.cell? ⟨w.heap.size, 0, none⟩ = some (.slice A n c) := hP.cell 0
  have p1 : W.cell? ⟨w.heap.size, 1, none⟩ = some (.slice D m d) := hP.cell 1
  have p2 : W.cell? ⟨w.heap.size, 2, none⟩ = some (.slice E q e') := hP.cell 2
  have x0 : W.cell? ⟨w.heap.size + 1, 0, none⟩ = some (.slice A1 n1 c1) := hS.cell 0
  have x1 : W.cell? ⟨w.heap.size + 1, 1, none⟩ = some (.slice A2 n2 c2) := hS.cell 1
  have hin := h.next hb0 (Nat.le_refl _)
  have k1 := h1.next hb0 (Nat.le_refl _)
  have k2 := h2.next hb0 (Nat.le_refl _)
  have HC0 := Lib.hid (l03Is_c w.heap.size A n c ts D m d xs E q e' w.heap.size us W hin p0 p1 p2 hn)
  have HC1 := Lib.hid (l03State_c (w.heap.size + 1) 0 A1 n1 c1 vs A2 n2 c2 zs w.heap.size W x0 x1 k1 k2 hn1 hn2)
  rcases hr with ⟨hp, hs, ⟨hf0, hf1⟩, rfl, t, rfl, hw, hok, hl, hgo, g, g'⟩ | ⟨hv, rfl, rfl, rfl⟩
  · rw [hp] at HC0
    rw [hs] at HC1
    obtain ⟨F, rfl⟩ : ∃ F : Nat, f = (F : Int) := ⟨f.toNat, by omega⟩
    have eF : ((F : Int)).toNat = F := by omega
    rw [eF] at g hgo g'
    have hlv : n1 = 4 := by have := g.g.lv; have := h1.1; simp at *; omega
    have hlc : n2 = 8 := by have := g.g.lc; have := h2.1; simp at *; omega
    subst hlv
    subst hlc
    have e1 : decide ((0 : Int) ≤ (F : Int)) = true := decide_eq_true hf0
    have e2 : decide ((F : Int) ≤ 2000) = true := decide_eq_true hf1
    have HRUN := Lib.hid (l03Run_c w.heap.size D m d w.heap.size (flatT t) (w.heap.size + 1) A1 c1 vs A2 c2 zs F o s t W p1 hin.2.1 hb0.size rfl hw hok hl hmd x0 x1 (k1.more hb0.size) (k2.more hb0.size) g hgo)
    have hgl := g'.g.lv
    have hgc := g'.g.lc
    clear h h1 h2 hin k1 k2 hgo g hp hs hw hok
    go_enter Tryz.func21, Tryz.ntmps21
    go_wp2_with fail
    (try simp only [hW])
    refine HC0.out.mono ?_
    rintro e w1 ⟨rfl, rfl⟩
    go_wp2_with fail
    refine HC1.out.mono ?_
    rintro e w1 ⟨rfl, rfl⟩
    go_wp2_with fail
    refine (l03Fuel_c (F : Int) W).mono ?_
    rintro e w1 ⟨rfl, rfl⟩
    clear HC0 HC1
    go_wp2_with fail
    refine HRUN.out.mono ?_
    rintro e w2 ⟨B1, b1, B2, b2, B3, b3, rfl, o1, o2, o3, hb2⟩
    clear HRUN
    go_wp2_with fail
    go_ret2
    exact ⟨rfl, (hb0.trans (hb2.mono hb0.size)).trans ((bnew _ _).mono (Nat.le_trans hb0.size hb2.size))⟩
  · have HV := Lib.hid hv
    clear h h1 h2 hin k1 k2 hv
    cases hp : progB ts xs us with
    | false =>
      rw [hp] at HC0
      clear hp
      go_enter Tryz.func21, Tryz.ntmps21
      go_wp2_with fail
      (try simp only [hW])
      refine HC0.out.mono ?_
      rintro e w1 ⟨rfl, rfl⟩
      go_wp2_with fail
      go_ret2
      exact ⟨rfl, hb0⟩
    | true =>
      rw [hp] at HC0
      cases hs : stB vs zs with
      | false =>
        rw [hs] at HC1
        clear hp hs
        go_enter Tryz.func21, Tryz.ntmps21
        go_wp2_with fail
        (try simp only [hW])
        refine HC0.out.mono ?_
        rintro e w1 ⟨rfl, rfl⟩
        go_wp2_with fail
        refine HC1.out.mono ?_
        rintro e w1 ⟨rfl, rfl⟩
        go_wp2_with fail
        go_ret2
        exact ⟨rfl, hb0⟩
      | true =>
        rw [hs] at HC1
        have hf : (decide (0 ≤ f) && decide (f ≤ 2000)) = false := by rw [← Bool.decide_and]; exact decide_eq_false (fun a => HV.out ⟨hp, hs, a⟩)
        clear hp hs
        go_enter Tryz.func21, Tryz.ntmps21
        go_wp2_with fail
        (try simp only [hW])
        refine HC0.out.mono ?_
        rintro e w1 ⟨rfl, rfl⟩
        go_wp2_with fail
        refine HC1.out.mono ?_
        rintro e w1 ⟨rfl, rfl⟩
        go_wp2_with fail
        refine (l03Fuel_c f W).mono ?_
        rintro e w1 ⟨rfl, rfl⟩
        rw [hf]
        go_wp2_with fail
        go_ret2
        exact ⟨rfl, hb0⟩

set_option maxRecDepth 100000 in
set_option maxHeartbeats 4000000 in
theorem implSteps_c (hr : RunIs ts xs us vs zs f o s ok) (A : Option Addr) (n c : Nat) (D : Option Addr) (m d : Nat) (E : Option Addr) (q e' : Nat) (A1 : Option Addr) (n1 c1 : Nat) (A2 : Option Addr) (n2 c2 : Nat) (w : World) (h : PIn w w.heap.size A n ts D m xs E q us) (h1 : InL w w.heap.size A1 n1 vs) (h2 : InL w w.heap.size A2 n2 zs) (hn : progN n ts m xs q us ≤ 1048576) (hn1 : n1 ≤ 1048576) (hn2 : n2 ≤ 1048576) (hmd : m ≤ d) (hT : TabE w) :
    Calls Tryz.prog 22 #[.agg #[.slice A n c, .slice D m d, .slice E q e'], .agg #[.slice A1 n1 c1, .slice A2 n2 c2], .int .i64 f] w fun e w' => e = .returned (.tuple #[.int .i64 (s.n : Int), .bool ok]) ∧ Below w.heap.size w w' := by
  obtain ⟨W, hW⟩ : ∃ W, ((w.alloc (.cells #[.slice A n c, .slice D m d, .slice E q e'] 37)).alloc (.cells #[.slice A1 n1 c1, .slice A2 n2 c2] 31)) = W := ⟨_, rfl⟩
  have hb0 : Below w.heap.size w W := by rw [← hW]; exact bon (bnew _ _) (bnew _ _)
  have hsz : W.heap.size = w.heap.size + 2 := by rw [← hW]; simp
  have hP : BlkIs W w.heap.size 37 #[.slice A n c, .slice D m d, .slice E q e'] := by rw [← hW]; exact (blk_new w _ _ _ rfl).next (bnew _ _)
  have hS : BlkIs W (w.heap.size + 1) 31 #[.slice A1 n1 c1, .slice A2 n2 c2] := by rw [← hW]; exact blk_new _ _ _ _ (by simp)
  have p0 : W.cell? ⟨w.heap.size, 0, none⟩ = some (.slice A n c) := hP.cell 0
  have p1 : W.cell? ⟨w.heap.size, 1, none⟩ = some (.slice D m d) := hP.cell 1
  have p2 : W.cell? ⟨w.heap.size, 2, none⟩ = some (.slice E q e') := hP.cell 2
  have x0 : W.cell? ⟨w.heap.size + 1, 0, none⟩ = some (.slice A1 n1 c1) := hS.cell 0
  have x1 : W.cell? ⟨w.heap.size + 1, 1, none⟩ = some (.slice A2 n2 c2) := hS.cell 1
  have HT := Lib.hid (hT.next hb0)
  have HH := Lib.hid ((h.next hb0 (Nat.le_refl _)).more hb0.size)
  have K1 := Lib.hid ((h1.next hb0 (Nat.le_refl _)).more hb0.size)
  have K2 := Lib.hid ((h2.next hb0 (Nat.le_refl _)).more hb0.size)
  rcases hr with ⟨hp, hs, ⟨hf0, hf1⟩, rfl, t, hxs, hw, hok, hl, hgo, g, g'⟩ | ⟨hv, rfl, rfl, rfl⟩
  · have HX := Lib.hid (executed_c A n c ts D m d xs E q e' us A1 n1 c1 vs A2 n2 c2 zs f W t o s hxs hw hok hgo g HT.out HH.out K1.out K2.out hn hn1 hn2 hmd hp hs hf0 hf1)
    have hgl := g'.g.lv
    have hgc := g'.g.lc
    clear h h1 h2 hT hgo g hp hs hw hok HT HH K1 K2 hxs
    go_enter Tryz.func22, Tryz.ntmps22
    go_wp2_with fail
    (try simp only [hW])
    refine HX.out.mono ?_
    rintro e w1 ⟨gx, gv, cv, gc, cc, E9, ce, rfl, hM, hgg, hb1⟩
    have hb01 := hb0.trans (hb1.mono hb0.size)
    have v0 : w1.cell? ⟨gx, 0, none⟩ = some (.slice (some ⟨gv, 0, none⟩) 4 cv) := hM.blk.cell 0
    have v1 : w1.cell? ⟨gx, 1, none⟩ = some (.slice (some ⟨gc, 0, none⟩) 8 cc) := hM.blk.cell 1
    have v2 : w1.cell? ⟨gx, 2, none⟩ = some (.slice E9 s.e.length ce) := hM.blk.cell 2
    have v3 : w1.cell? ⟨gx, 3, none⟩ = some (.int .i64 (s.n : Int)) := hM.blk.cell 3
    have HM := Lib.hid hM
    clear hM HX
    go_wp2_with fail
    go_ret2
    exact ⟨rfl, hb01⟩
  · have HX := Lib.hid (executed_no A n c ts D m d xs E q e' us A1 n1 c1 vs A2 n2 c2 zs f W HT.out HH.out K1.out K2.out hn hn1 hn2 hv)
    clear h h1 h2 hT hv HT HH K1 K2
    go_enter Tryz.func22, Tryz.ntmps22
    go_wp2_with fail
    (try simp only [hW])
    refine HX.out.mono ?_
    rintro e w1 ⟨rfl, hb1⟩
    have hb01 := hb0.trans (hb1.mono hb0.size)
    clear HX
    go_wp2_with fail
    go_ret2
    exact ⟨rfl, hb01⟩
-- MULTI
end
end Go.Proofs.YtajmbnimdngjhaaGreatDoor

/-! RunProgram: the model's answer and the program's. Conditions: at most 2^20 of everything. -/
namespace Go.Proofs.YtajmbnimdngjhaaGreatDoor
set_option linter.unusedVariables false
open Go.RowKit

theorem own_nil' (w : World) (lo : Nat) {hi : Nat} (h : lo ≤ hi) (hs : hi ≤ w.heap.size) : OwnL w lo hi none 0 0 [] := ⟨rfl, World.ownsRow_nil _ _ _ _, (fun j hj => by cases hj), hs⟩
section
variable {ts : List (Int × List Int)} {xs : List S8} {us : List (Int × List Int)} {vs zs : List Int} {f o : Int} {s : RS} {ok : Bool}

set_option maxRecDepth 100000 in
set_option maxHeartbeats 4000000 in
theorem specRunPrg_c (hr : RunIs ts xs us vs zs f o s ok) (A : Option Addr) (n c : Nat) (D : Option Addr) (m d : Nat) (E : Option Addr) (q e' : Nat) (A1 : Option Addr) (n1 c1 : Nat) (A2 : Option Addr) (n2 c2 : Nat) (w : World) (h : PIn w w.heap.size A n ts D m xs E q us) (h1 : InL w w.heap.size A1 n1 vs) (h2 : InL w w.heap.size A2 n2 zs) (hn : progN n ts m xs q us ≤ 1048576) (hn1 : n1 ≤ 1048576) (hn2 : n2 ≤ 1048576) (hmd : m ≤ d) :
    Calls Tryz.prog 9 #[.agg #[.slice A n c, .slice D m d, .slice E q e'], .agg #[.slice A1 n1 c1, .slice A2 n2 c2], .int .i64 f] w fun e w' => ∃ (B1 : Option Addr) (b1 : Nat) (B2 : Option Addr) (b2 : Nat) (B3 : Option Addr) (b3 : Nat), e = .returned (.tuple #[.agg #[.slice B1 s.v.length b1, .slice B2 s.c.length b2], .slice B3 s.e.length b3, .int .i64 o, .bool ok]) ∧ OwnL w' w.heap.size w'.heap.size B1 s.v.length b1 s.v ∧ OwnL w' w.heap.size w'.heap.size B2 s.c.length b2 s.c ∧ OwnL w' w.heap.size w'.heap.size B3 s.e.length b3 s.e ∧ Below w.heap.size w w' := by
  obtain ⟨W, hW⟩ : ∃ W, (((w.alloc (.cells #[.slice A n c, .slice D m d, .slice E q e'] 37)).alloc (.cells #[.slice A1 n1 c1, .slice A2 n2 c2] 31)).alloc (.cells #[.slice none 0 0, .slice none 0 0] 31)) = W := ⟨_, rfl⟩
  have hb0 : Below w.heap.size w W := by rw [← hW]; exact bon (bon (bnew _ _) (bnew _ _)) (bnew _ _)
  have hP : BlkIs W w.heap.size 37 #[.slice A n c, .slice D m d, .slice E q e'] := by rw [← hW]; exact ((blk_new w _ _ _ rfl).next (bnew _ _)).next (bnew _ _)
  have hS : BlkIs W (w.heap.size + 1) 31 #[.slice A1 n1 c1, .slice A2 n2 c2] := by rw [← hW]; exact (blk_new _ _ _ _ (by simp)).next (bnew _ _)
  have hsz : W.heap.size = w.heap.size + 3 := by rw [← hW]; simp
  have hR : BlkIs W (w.heap.size + 1 + 1) 31 #[.slice none 0 0, .slice none 0 0] := by rw [← hW]; exact blk_new _ _ _ _ (by simp)
  have z0 : W.cell? ⟨w.heap.size + 1 + 1, 0, none⟩ = some (.slice none 0 0) := hR.cell 0
  have z1 : W.cell? ⟨w.heap.size + 1 + 1, 1, none⟩ = some (.slice none 0 0) := hR.cell 1
  have y0 := hR.frozen 0
  have y1 := hR.frozen 1
  have p0 : W.cell? ⟨w.heap.size, 0, none⟩ = some (.slice A n c) := hP.cell 0
  have p1 : W.cell? ⟨w.heap.size, 1, none⟩ = some (.slice D m d) := hP.cell 1
  have p2 : W.cell? ⟨w.heap.size, 2, none⟩ = some (.slice E q e') := hP.cell 2
  have x0 : W.cell? ⟨w.heap.size + 1, 0, none⟩ = some (.slice A1 n1 c1) := hS.cell 0
  have x1 : W.cell? ⟨w.heap.size + 1, 1, none⟩ = some (.slice A2 n2 c2) := hS.cell 1
  have hin := h.next hb0 (Nat.le_refl _)
  have k1 := h1.next hb0 (Nat.le_refl _)
  have k2 := h2.next hb0 (Nat.le_refl _)
  have HC0 := Lib.hid (l03Is_c w.heap.size A n c ts D m d xs E q e' w.heap.size us W hin p0 p1 p2 hn)
  have HC1 := Lib.hid (l03State_c (w.heap.size + 1) 0 A1 n1 c1 vs A2 n2 c2 zs w.heap.size W x0 x1 k1 k2 hn1 hn2)
  rcases hr with ⟨hp, hs, ⟨hf0, hf1⟩, rfl, t, rfl, hw, hok, hl, hgo, g, g'⟩ | ⟨hv, rfl, rfl, rfl⟩
  · rw [hp] at HC0
    rw [hs] at HC1
    obtain ⟨F, rfl⟩ : ∃ F : Nat, f = (F : Int) := ⟨f.toNat, by omega⟩
    have eF : ((F : Int)).toNat = F := by omega
    rw [eF] at g hgo g'
    have hlv : n1 = 4 := by have := g.g.lv; have := h1.1; simp at *; omega
    have hlc : n2 = 8 := by have := g.g.lc; have := h2.1; simp at *; omega
    subst hlv
    subst hlc
    have e1 : decide ((0 : Int) ≤ (F : Int)) = true := decide_eq_true hf0
    have e2 : decide ((F : Int) ≤ 2000) = true := decide_eq_true hf1
    have HRUN := Lib.hid (l03Run_c w.heap.size D m d w.heap.size (flatT t) (w.heap.size + 1) A1 c1 vs A2 c2 zs F o s t W p1 hin.2.1 hb0.size rfl hw hok hl hmd x0 x1 (k1.more hb0.size) (k2.more hb0.size) g hgo)
    have hgl := g'.g.lv
    have hgc := g'.g.lc
    clear h h1 h2 hin k1 k2 hgo g hp hs hw hok
    go_enter Tryz.func9, Tryz.ntmps9
    go_wp2_with fail
    (try simp only [hW])
    refine HC0.out.mono ?_
    rintro e w1 ⟨rfl, rfl⟩
    go_wp2_with fail
    refine HC1.out.mono ?_
    rintro e w1 ⟨rfl, rfl⟩
    go_wp2_with fail
    refine (l03Fuel_c (F : Int) W).mono ?_
    rintro e w1 ⟨rfl, rfl⟩
    clear HC0 HC1
    go_wp2_with fail
    refine HRUN.out.mono ?_
    rintro e w2 ⟨B1, b1, B2, b2, B3, b3, rfl, o1, o2, o3, hb2⟩
    clear HRUN
    have hR2 := hR.next hb2
    have hRA := hR2.next (bnew w2 (.cells #[.slice B1 4 b1, .slice B2 8 b2] 31))
    have zA0 : (w2.alloc (.cells #[.slice B1 4 b1, .slice B2 8 b2] 31)).cell? ⟨w.heap.size + 1 + 1, 0, none⟩ = some (.slice none 0 0) := hRA.cell 0
    have zA1 : (w2.alloc (.cells #[.slice B1 4 b1, .slice B2 8 b2] 31)).cell? ⟨w.heap.size + 1 + 1, 1, none⟩ = some (.slice none 0 0) := hRA.cell 1
    have yA0 := hRA.frozen 0
    have yA1 := hRA.frozen 1
    have hgl2 := hR2.lt
    have z0 : w2.cell? ⟨w.heap.size + 1 + 1, 0, none⟩ = some (.slice none 0 0) := hR2.cell 0
    have z1 : w2.cell? ⟨w.heap.size + 1 + 1, 1, none⟩ = some (.slice none 0 0) := hR2.cell 1
    have y0 := hR2.frozen 0
    have y1 := hR2.frozen 1
    have hR5 := (hR2.set 0 (.slice B1 4 b1)).set 1 (.slice B2 8 b2)
    have ho : Out (w.heap.size + 1 + 1) (w.heap.size + 3) w2 (((w2.setCell ⟨w.heap.size + 1 + 1, 0, none⟩ (.slice B1 4 b1)).setCell ⟨w.heap.size + 1 + 1, 1, none⟩ (.slice B2 8 b2)).alloc (.cells #[.slice B1 4 b1, .slice B2 8 b2] 31)) := (out_set (out_set (Out.refl _ _ _) (by omega)) (by omega)).trans (Out.of_below (bnew ((w2.setCell ⟨w.heap.size + 1 + 1, 0, none⟩ (.slice B1 4 b1)).setCell ⟨w.heap.size + 1 + 1, 1, none⟩ (.slice B2 8 b2)) (.cells #[.slice B1 4 b1, .slice B2 8 b2] 31)))
    have c0 : (((w2.setCell ⟨w.heap.size + 1 + 1, 0, none⟩ (.slice B1 4 b1)).setCell ⟨w.heap.size + 1 + 1, 1, none⟩ (.slice B2 8 b2)).alloc (.cells #[.slice B1 4 b1, .slice B2 8 b2] 31)).cell? ⟨w.heap.size + 1 + 1, 0, none⟩ = some (.slice B1 4 b1) := cell_next (by rw [hR5.cell 0]; simp) (bnew ((w2.setCell ⟨w.heap.size + 1 + 1, 0, none⟩ (.slice B1 4 b1)).setCell ⟨w.heap.size + 1 + 1, 1, none⟩ (.slice B2 8 b2)) _)
    have c1' : (((w2.setCell ⟨w.heap.size + 1 + 1, 0, none⟩ (.slice B1 4 b1)).setCell ⟨w.heap.size + 1 + 1, 1, none⟩ (.slice B2 8 b2)).alloc (.cells #[.slice B1 4 b1, .slice B2 8 b2] 31)).cell? ⟨w.heap.size + 1 + 1, 1, none⟩ = some (.slice B2 8 b2) := cell_next (by rw [hR5.cell 1]; simp) (bnew ((w2.setCell ⟨w.heap.size + 1 + 1, 0, none⟩ (.slice B1 4 b1)).setCell ⟨w.heap.size + 1 + 1, 1, none⟩ (.slice B2 8 b2)) _)
    have hsE := ho.size
    have hs2 := hb2.size
    have G1 := Lib.hid (((o1.out ho (by omega)).less (lo' := w.heap.size) (by omega)).wide hsE (Nat.le_refl _))
    have G2 := Lib.hid (((o2.out ho (by omega)).less (lo' := w.heap.size) (by omega)).wide hsE (Nat.le_refl _))
    have G3 := Lib.hid (((o3.out ho (by omega)).less (lo' := w.heap.size) (by omega)).wide hsE (Nat.le_refl _))
    have hb5 := (hb0.trans (hb2.mono hb0.size)).trans (ho.below (B := w.heap.size) (by omega) (by omega))
    clear o1 o2 o3 hR5 ho
    go_wp2_with fail
    generalize (((w2.setCell ⟨w.heap.size + 1 + 1, 0, none⟩ (.slice B1 4 b1)).setCell ⟨w.heap.size + 1 + 1, 1, none⟩ (.slice B2 8 b2)).alloc (.cells #[.slice B1 4 b1, .slice B2 8 b2] 31)) = W5 at c0 c1' hb5 G1 G2 G3 ⊢
    refine bodyPost_ret (v := .tuple #[.agg #[.slice B1 4 b1, .slice B2 8 b2], .slice B3 s.e.length b3, .int .i64 o, .bool true]) (by simp [results, Tryz.results9, go_sem, c0, c1']) rfl ?_
    rw [hgl, hgc]
    exact ⟨B1, b1, B2, b2, B3, b3, rfl, G1.out, G2.out, G3.out, hb5⟩
  · have HV := Lib.hid hv
    clear h h1 h2 hin k1 k2 hv
    have hRZ := (hR.set 0 (.slice none 0 0)).set 1 (.slice none 0 0)
    have hoZ : Out (w.heap.size + 1 + 1) (w.heap.size + 1 + 1 + 1) W ((W.setCell ⟨w.heap.size + 1 + 1, 0, none⟩ (.slice none 0 0)).setCell ⟨w.heap.size + 1 + 1, 1, none⟩ (.slice none 0 0)) := out_set (out_set (Out.refl _ _ _) (by omega)) (by omega)
    have cZ0 : ((W.setCell ⟨w.heap.size + 1 + 1, 0, none⟩ (.slice none 0 0)).setCell ⟨w.heap.size + 1 + 1, 1, none⟩ (.slice none 0 0)).cell? ⟨w.heap.size + 1 + 1, 0, none⟩ = some (.slice none 0 0) := by rw [hRZ.cell 0]; simp
    have cZ1 : ((W.setCell ⟨w.heap.size + 1 + 1, 0, none⟩ (.slice none 0 0)).setCell ⟨w.heap.size + 1 + 1, 1, none⟩ (.slice none 0 0)).cell? ⟨w.heap.size + 1 + 1, 1, none⟩ = some (.slice none 0 0) := by rw [hRZ.cell 1]; simp
    have hbZ : Below w.heap.size w ((W.setCell ⟨w.heap.size + 1 + 1, 0, none⟩ (.slice none 0 0)).setCell ⟨w.heap.size + 1 + 1, 1, none⟩ (.slice none 0 0)) := hb0.trans (hoZ.below (by omega) hb0.size)
    clear hRZ hoZ
    cases hp : progB ts xs us with
    | false =>
      rw [hp] at HC0
      clear hp
      go_enter Tryz.func9, Tryz.ntmps9
      go_wp2_with fail
      (try simp only [hW])
      refine HC0.out.mono ?_
      rintro e w1 ⟨rfl, rfl⟩
      go_wp2_with fail
      generalize ((W.setCell ⟨w.heap.size + 1 + 1, 0, none⟩ (.slice none 0 0)).setCell ⟨w.heap.size + 1 + 1, 1, none⟩ (.slice none 0 0)) = W5 at cZ0 cZ1 hbZ ⊢
      exact bodyPost_ret (v := .tuple #[.agg #[.slice none 0 0, .slice none 0 0], .slice none 0 0, .int .i64 0, .bool false]) (by simp [results, Tryz.results9, go_sem, cZ0, cZ1]) rfl ⟨none, 0, none, 0, none, 0, rfl, own_nil' _ _ hbZ.size (Nat.le_refl _), own_nil' _ _ hbZ.size (Nat.le_refl _), own_nil' _ _ hbZ.size (Nat.le_refl _), hbZ⟩
    | true =>
      rw [hp] at HC0
      cases hs : stB vs zs with
      | false =>
        rw [hs] at HC1
        clear hp hs
        go_enter Tryz.func9, Tryz.ntmps9
        go_wp2_with fail
        (try simp only [hW])
        refine HC0.out.mono ?_
        rintro e w1 ⟨rfl, rfl⟩
        go_wp2_with fail
        refine HC1.out.mono ?_
        rintro e w1 ⟨rfl, rfl⟩
        go_wp2_with fail
        generalize ((W.setCell ⟨w.heap.size + 1 + 1, 0, none⟩ (.slice none 0 0)).setCell ⟨w.heap.size + 1 + 1, 1, none⟩ (.slice none 0 0)) = W5 at cZ0 cZ1 hbZ ⊢
        exact bodyPost_ret (v := .tuple #[.agg #[.slice none 0 0, .slice none 0 0], .slice none 0 0, .int .i64 0, .bool false]) (by simp [results, Tryz.results9, go_sem, cZ0, cZ1]) rfl ⟨none, 0, none, 0, none, 0, rfl, own_nil' _ _ hbZ.size (Nat.le_refl _), own_nil' _ _ hbZ.size (Nat.le_refl _), own_nil' _ _ hbZ.size (Nat.le_refl _), hbZ⟩
      | true =>
        rw [hs] at HC1
        have hf : (decide (0 ≤ f) && decide (f ≤ 2000)) = false := by rw [← Bool.decide_and]; exact decide_eq_false (fun a => HV.out ⟨hp, hs, a⟩)
        clear hp hs
        go_enter Tryz.func9, Tryz.ntmps9
        go_wp2_with fail
        (try simp only [hW])
        refine HC0.out.mono ?_
        rintro e w1 ⟨rfl, rfl⟩
        go_wp2_with fail
        refine HC1.out.mono ?_
        rintro e w1 ⟨rfl, rfl⟩
        go_wp2_with fail
        refine (l03Fuel_c f W).mono ?_
        rintro e w1 ⟨rfl, rfl⟩
        rw [hf]
        go_wp2_with fail
        generalize ((W.setCell ⟨w.heap.size + 1 + 1, 0, none⟩ (.slice none 0 0)).setCell ⟨w.heap.size + 1 + 1, 1, none⟩ (.slice none 0 0)) = W5 at cZ0 cZ1 hbZ ⊢
        exact bodyPost_ret (v := .tuple #[.agg #[.slice none 0 0, .slice none 0 0], .slice none 0 0, .int .i64 0, .bool false]) (by simp [results, Tryz.results9, go_sem, cZ0, cZ1]) rfl ⟨none, 0, none, 0, none, 0, rfl, own_nil' _ _ hbZ.size (Nat.le_refl _), own_nil' _ _ hbZ.size (Nat.le_refl _), own_nil' _ _ hbZ.size (Nat.le_refl _), hbZ⟩

set_option maxRecDepth 100000 in
set_option maxHeartbeats 4000000 in
theorem implRunPrg_c (hr : RunIs ts xs us vs zs f o s ok) (A : Option Addr) (n c : Nat) (D : Option Addr) (m d : Nat) (E : Option Addr) (q e' : Nat) (A1 : Option Addr) (n1 c1 : Nat) (A2 : Option Addr) (n2 c2 : Nat) (w : World) (h : PIn w w.heap.size A n ts D m xs E q us) (h1 : InL w w.heap.size A1 n1 vs) (h2 : InL w w.heap.size A2 n2 zs) (hn : progN n ts m xs q us ≤ 1048576) (hn1 : n1 ≤ 1048576) (hn2 : n2 ≤ 1048576) (hmd : m ≤ d) (hT : TabE w) :
    Calls Tryz.prog 12 #[.agg #[.slice A n c, .slice D m d, .slice E q e'], .agg #[.slice A1 n1 c1, .slice A2 n2 c2], .int .i64 f] w fun e w' => ∃ (B1 : Option Addr) (b1 : Nat) (B2 : Option Addr) (b2 : Nat) (B3 : Option Addr) (b3 : Nat) (md0 md1 : Nat), e = .returned (.tuple #[.agg #[.slice B1 s.v.length b1, .slice B2 s.c.length b2], .slice B3 s.e.length b3, .int .i64 o, .bool ok]) ∧ OwnL w' w.heap.size md0 B1 s.v.length b1 s.v ∧ OwnL w' md0 md1 B2 s.c.length b2 s.c ∧ OwnL w' md1 w'.heap.size B3 s.e.length b3 s.e ∧ (w.heap.size ≤ md0 ∧ md0 ≤ md1 ∧ md1 ≤ w'.heap.size) ∧ Below w.heap.size w w' := by
  obtain ⟨W, hW⟩ : ∃ W, ((((w.alloc (.cells #[.slice A n c, .slice D m d, .slice E q e'] 37))).alloc (.cells #[.slice A1 n1 c1, .slice A2 n2 c2] 31)).alloc (.cells #[.slice none 0 0, .slice none 0 0] 31)) = W := ⟨_, rfl⟩
  have hb0 : Below w.heap.size w W := by rw [← hW]; exact bon (bon (bnew _ _) (bnew _ _)) (bnew _ _)
  have hsz : W.heap.size = w.heap.size + 3 := by rw [← hW]; simp
  have hR : BlkIs W (w.heap.size + 1 + 1) 31 #[.slice none 0 0, .slice none 0 0] := by rw [← hW]; exact blk_new _ _ _ _ (by simp)
  have hP : BlkIs W w.heap.size 37 #[.slice A n c, .slice D m d, .slice E q e'] := by rw [← hW]; exact ((blk_new w _ _ _ rfl).next (bnew _ _)).next (bnew _ _)
  have hS : BlkIs W (w.heap.size + 1) 31 #[.slice A1 n1 c1, .slice A2 n2 c2] := by rw [← hW]; exact (blk_new _ _ _ _ (by simp)).next (bnew _ _)
  have p0 : W.cell? ⟨w.heap.size, 0, none⟩ = some (.slice A n c) := hP.cell 0
  have p1 : W.cell? ⟨w.heap.size, 1, none⟩ = some (.slice D m d) := hP.cell 1
  have p2 : W.cell? ⟨w.heap.size, 2, none⟩ = some (.slice E q e') := hP.cell 2
  have x0 : W.cell? ⟨w.heap.size + 1, 0, none⟩ = some (.slice A1 n1 c1) := hS.cell 0
  have x1 : W.cell? ⟨w.heap.size + 1, 1, none⟩ = some (.slice A2 n2 c2) := hS.cell 1
  have HT := Lib.hid (hT.next hb0)
  have HH := Lib.hid ((h.next hb0 (Nat.le_refl _)).more hb0.size)
  have K1 := Lib.hid ((h1.next hb0 (Nat.le_refl _)).more hb0.size)
  have K2 := Lib.hid ((h2.next hb0 (Nat.le_refl _)).more hb0.size)
  rcases hr with ⟨hp, hs, ⟨hf0, hf1⟩, rfl, t, hxs, hw, hok, hl, hgo, g, g'⟩ | ⟨hv, rfl, rfl, rfl⟩
  · have HX := Lib.hid (executed_c A n c ts D m d xs E q e' us A1 n1 c1 vs A2 n2 c2 zs f W t o s hxs hw hok hgo g HT.out HH.out K1.out K2.out hn hn1 hn2 hmd hp hs hf0 hf1)
    have hgl := g'.g.lv
    have hgc := g'.g.lc
    clear h h1 h2 hT hgo g hp hs hw hok HT HH K1 K2 hxs
    go_enter Tryz.func12, Tryz.ntmps12
    go_wp2_with fail
    (try simp only [hW])
    refine HX.out.mono ?_
    rintro e w1 ⟨gx, gv, cv, gc, cc, E9, ce, rfl, hM, hgg, hb1⟩
    have hb01 := hb0.trans (hb1.mono hb0.size)
    have v0 : w1.cell? ⟨gx, 0, none⟩ = some (.slice (some ⟨gv, 0, none⟩) 4 cv) := hM.blk.cell 0
    have v1 : w1.cell? ⟨gx, 1, none⟩ = some (.slice (some ⟨gc, 0, none⟩) 8 cc) := hM.blk.cell 1
    have v2 : w1.cell? ⟨gx, 2, none⟩ = some (.slice E9 s.e.length ce) := hM.blk.cell 2
    have v3 : w1.cell? ⟨gx, 3, none⟩ = some (.int .i64 (s.n : Int)) := hM.blk.cell 3
    have HM := Lib.hid hM
    clear hM HX
    have hgx := HM.out.bx
    have hgv := HM.out.bv
    have hlt := HM.out.lt
    have hR2 := hR.next hb1
    have z0 : w1.cell? ⟨w.heap.size + 1 + 1, 0, none⟩ = some (.slice none 0 0) := hR2.cell 0
    have z1 : w1.cell? ⟨w.heap.size + 1 + 1, 1, none⟩ = some (.slice none 0 0) := hR2.cell 1
    have y0 := hR2.frozen 0
    have y1 := hR2.frozen 1
    have hR5 := (hR2.set 0 (.slice (some ⟨gv, 0, none⟩) 4 cv)).set 1 (.slice (some ⟨gc, 0, none⟩) 8 cc)
    have ho : Out (w.heap.size + 1 + 1) (w.heap.size + 3) w1 ((w1.setCell ⟨w.heap.size + 1 + 1, 0, none⟩ (.slice (some ⟨gv, 0, none⟩) 4 cv)).setCell ⟨w.heap.size + 1 + 1, 1, none⟩ (.slice (some ⟨gc, 0, none⟩) 8 cc)) := out_set (out_set (Out.refl _ _ _) (by omega)) (by omega)
    have c0 : ((w1.setCell ⟨w.heap.size + 1 + 1, 0, none⟩ (.slice (some ⟨gv, 0, none⟩) 4 cv)).setCell ⟨w.heap.size + 1 + 1, 1, none⟩ (.slice (some ⟨gc, 0, none⟩) 8 cc)).cell? ⟨w.heap.size + 1 + 1, 0, none⟩ = some (.slice (some ⟨gv, 0, none⟩) 4 cv) := by rw [hR5.cell 0]; simp
    have c1' : ((w1.setCell ⟨w.heap.size + 1 + 1, 0, none⟩ (.slice (some ⟨gv, 0, none⟩) 4 cv)).setCell ⟨w.heap.size + 1 + 1, 1, none⟩ (.slice (some ⟨gc, 0, none⟩) 8 cc)).cell? ⟨w.heap.size + 1 + 1, 1, none⟩ = some (.slice (some ⟨gc, 0, none⟩) 8 cc) := by rw [hR5.cell 1]; simp
    have hsE := ho.size
    have G1 := Lib.hid (((HM.out.v.out ho (by omega)).less (lo' := w.heap.size) (by omega)).wide (hi' := gc) (by omega) (by omega))
    have G2 := Lib.hid ((HM.out.c.out ho (by omega)))
    have hE3 := ownE_out HM.out.e ho (fun b hb => by have := (HM.out.e.lt b (by rw [hb]; rfl)).1; omega)
    have G3 : Hid (OwnL ((w1.setCell ⟨w.heap.size + 1 + 1, 0, none⟩ (.slice (some ⟨gv, 0, none⟩) 4 cv)).setCell ⟨w.heap.size + 1 + 1, 1, none⟩ (.slice (some ⟨gc, 0, none⟩) 8 cc)) (gc + 1) ((w1.setCell ⟨w.heap.size + 1 + 1, 0, none⟩ (.slice (some ⟨gv, 0, none⟩) 4 cv)).setCell ⟨w.heap.size + 1 + 1, 1, none⟩ (.slice (some ⟨gc, 0, none⟩) 8 cc)).heap.size E9 s.e.length ce s.e) := by
      have hq := OwnL.of_own hE3
      refine ⟨hq.1, ⟨hq.2.1.1, ?_⟩, hq.2.2⟩
      rcases hq.2.1.2 with h' | ⟨b, cap, cur, r1, r2, r3⟩
      · exact .inl h'
      · refine .inr ⟨b, cap, cur, r1, ?_, r3⟩
        injection r1 with r1
        have := (HM.out.ea b r1).2.2
        omega
    have hb5 := hb01.trans (ho.below (B := w.heap.size) (by omega) (by omega))
    have hgcE := HM.out.c.2.2.2
    have ne1 : ¬ gx = w.heap.size + 1 + 1 := by omega
    have hG3s : gc + 1 ≤ ((w1.setCell ⟨w.heap.size + 1 + 1, 0, none⟩ (.slice (some ⟨gv, 0, none⟩) 4 cv)).setCell ⟨w.heap.size + 1 + 1, 1, none⟩ (.slice (some ⟨gc, 0, none⟩) 8 cc)).heap.size := by omega
    clear hR5 ho hE3
    go_wp2_with fail
    go_region
    all_goals (
      go_wp2_with fail
      refine bodyPost_ret (v := .tuple #[.agg #[.slice (some ⟨gv, 0, none⟩) 4 cv, .slice (some ⟨gc, 0, none⟩) 8 cc], .slice E9 s.e.length ce, .int .i64 o, .bool true]) (by simp [results, Tryz.results12, go_sem, c0, c1']) rfl ?_
      rw [hgl, hgc]
      exact ⟨_, cv, _, cc, E9, ce, gc, gc + 1, rfl, G1.out, G2.out, G3.out, ⟨by omega, by omega, hG3s⟩, hb5.drew⟩)
  · have HX := Lib.hid (executed_no A n c ts D m d xs E q e' us A1 n1 c1 vs A2 n2 c2 zs f W HT.out HH.out K1.out K2.out hn hn1 hn2 hv)
    clear h h1 h2 hT hv HT HH K1 K2
    go_enter Tryz.func12, Tryz.ntmps12
    go_wp2_with fail
    (try simp only [hW])
    refine HX.out.mono ?_
    rintro e w1 ⟨rfl, hb1⟩
    have hb01 := hb0.trans (hb1.mono hb0.size)
    clear HX
    have hR2 := hR.next hb1
    have z0 : w1.cell? ⟨w.heap.size + 1 + 1, 0, none⟩ = some (.slice none 0 0) := hR2.cell 0
    have z1 : w1.cell? ⟨w.heap.size + 1 + 1, 1, none⟩ = some (.slice none 0 0) := hR2.cell 1
    have y0 := hR2.frozen 0
    have y1 := hR2.frozen 1
    have hRZ := (hR2.set 0 (.slice none 0 0)).set 1 (.slice none 0 0)
    have hoZ : Out (w.heap.size + 1 + 1) (w.heap.size + 1 + 1 + 1) w1 ((w1.setCell ⟨w.heap.size + 1 + 1, 0, none⟩ (.slice none 0 0)).setCell ⟨w.heap.size + 1 + 1, 1, none⟩ (.slice none 0 0)) := out_set (out_set (Out.refl _ _ _) (by omega)) (by omega)
    have cZ0 : ((w1.setCell ⟨w.heap.size + 1 + 1, 0, none⟩ (.slice none 0 0)).setCell ⟨w.heap.size + 1 + 1, 1, none⟩ (.slice none 0 0)).cell? ⟨w.heap.size + 1 + 1, 0, none⟩ = some (.slice none 0 0) := by rw [hRZ.cell 0]; simp
    have cZ1 : ((w1.setCell ⟨w.heap.size + 1 + 1, 0, none⟩ (.slice none 0 0)).setCell ⟨w.heap.size + 1 + 1, 1, none⟩ (.slice none 0 0)).cell? ⟨w.heap.size + 1 + 1, 1, none⟩ = some (.slice none 0 0) := by rw [hRZ.cell 1]; simp
    have hbZ : Below w.heap.size w ((w1.setCell ⟨w.heap.size + 1 + 1, 0, none⟩ (.slice none 0 0)).setCell ⟨w.heap.size + 1 + 1, 1, none⟩ (.slice none 0 0)) := hb01.trans (hoZ.below (by omega) hb01.size)
    clear hRZ hoZ
    go_wp2_with fail
    generalize ((w1.setCell ⟨w.heap.size + 1 + 1, 0, none⟩ (.slice none 0 0)).setCell ⟨w.heap.size + 1 + 1, 1, none⟩ (.slice none 0 0)) = W5 at cZ0 cZ1 hbZ ⊢
    exact bodyPost_ret (v := .tuple #[.agg #[.slice none 0 0, .slice none 0 0], .slice none 0 0, .int .i64 0, .bool false]) (by simp [results, Tryz.results12, go_sem, cZ0, cZ1]) rfl ⟨none, 0, none, 0, none, 0, w.heap.size, w.heap.size, rfl, own_nil' _ _ (Nat.le_refl _) hbZ.size, own_nil' _ _ (Nat.le_refl _) hbZ.size, own_nil' _ _ hbZ.size (Nat.le_refl _), ⟨Nat.le_refl _, Nat.le_refl _, hbZ.size⟩, hbZ⟩
end
end Go.Proofs.YtajmbnimdngjhaaGreatDoor
