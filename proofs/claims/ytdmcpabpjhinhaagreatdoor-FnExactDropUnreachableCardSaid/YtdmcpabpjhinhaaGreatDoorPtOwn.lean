/-
  Annotated code of its own: the model's l08Own. Conditions: at most 1000 elements, 100000 numbers each.
-/
import Derived.Test.YtdmcpabpjhinhaaGreatDoorPtRow
import Derived.Test.YtdmcpabpjhinhaaGreatDoorAnn
import Derived.Deep.RegionHeld3
import Derived.Test.YtdmcpabpjhinhaaGreatDoorBoxA
namespace Go.Proofs.YtdmcpabpjhinhaaGreatDoor
set_option linter.unusedVariables false
open Go.RowKit

theorem ownAllTs_c (A : Option Addr) (n c B : Nat) (ts : List (Int × List Int)) (w : World) (h : InTS w B A n ts) (hB : B ≤ w.heap.size) (hn : n ≤ 1000) (he : ∀ t ∈ ts, t.2.length ≤ 100000) :
    Calls Tryz.prog 75 #[.slice A n c] w fun e w' => ∃ A' c', e = .returned (.slice A' n c') ∧ TsL w' A' n ts ∧ Below w.heap.size w w' := by
  refine (l02OwnAll_c A n c B ts w h hB hn he).mono ?_
  rintro e w1 ⟨v, rfl, hf, hb⟩
  obtain ⟨A', c', rfl, ht⟩ := TsL.of_row hf
  exact ⟨A', c', rfl, ht, hb⟩

/-- The builtin append in a region that draws, by its run. -/
theorem wp_app_run {o : Oper} {a : Act} {w : World} {K : Act → World → Prop} {Q : Exit → Act → World → Prop} (x y : Operand) (ts : TypeId) (ho : o.op = .call { callee := .builtin .append, args := #[x, y], argTypes := #[ts, ts] })
    (vx vy : Value) (hx : a.eval x = vx) (hy : a.eval y = vy) (v' : Value) (w' : World) (hr : (Builtin.append_ #[ts, ts] o.type #[vx, vy]).run Tryz.prog w = .ok v' w') (h : K (a.put o.dst v') w') : o.wp Tryz.prog a w K Q := by
  unfold Oper.wp
  simp only [execOp, ho, resolve, Sem.run_bind, Sem.run_pure, Result.andThen_ok, invoke, builtin]
  simp only [List.map_toArray, List.map_cons, List.map_nil, hx, hy]
  rw [hr]
  exact h
theorem TsL.set4 {w : World} {A : Option Addr} {n g : Nat} {ts : List (Int × List Int)} {cs : Array Value} (h : TsL w A n ts) (hb : BlkIs w g 32 cs) (o : Nat) (v : Value) : TsL (w.setCell ⟨g, o, none⟩ v) A n ts :=
  h.kept (r := some g) only_set (fun k cs' e => by
    injection e with e
    subst e
    have hb' : w.heap[g]? = some (.cells cs 32 (0, 0)) := hb
    rw [hb']
    constructor <;> (intro hk; injection hk with hk; injection hk with _ h2 _; revert h2; decide))
theorem row_set4 {w : World} {base n g : Nat} {v : Value} {xs : List Value} {cs : Array Value} (h : w.ownsRow base 65 2 v n xs) (hb : BlkIs w g 32 cs) (o : Nat) (u : Value) : (w.setCell ⟨g, o, none⟩ u).ownsRow base 65 2 v n xs := by
  refine ⟨h.1, ?_⟩
  rcases h.2 with h' | ⟨g', cap, cur, k1, k2, k3, k4⟩
  · exact .inl h'
  · refine .inr ⟨g', cap, cur, k1, k2, ?_, k4⟩
    have hne : g' ≠ g := by
      intro e
      subst e
      have hb' : w.heap[g']? = some (.cells cs 32 (0, 0)) := hb
      rw [hb'] at k3
      injection k3 with k3
      injection k3 with _ h2 _
      revert h2
      decide
    rw [Below.heap_setCell w ⟨g, o, none⟩ u g' hne]
    exact k3

theorem own_noI {w : World} {base n : Nat} {v : Value} {xs : List Value} (h : w.ownsRow base 65 2 v n xs) : ∀ k cs, v.ownBlock = some k → w.heap[k]? ≠ some (.cells cs 2 (0, 0)) ∧ w.heap[k]? ≠ some (.cells cs 88 (0, 0)) := by
  intro k cs e
  rcases h.2 with ⟨rfl, _⟩ | ⟨g, cap, cur, rfl, _, h3, _⟩
  · cases e
  · have e' : some g = some k := e
    obtain rfl := Option.some.inj e'
    rw [h3]
    constructor <;> (intro hk; injection hk with hk; injection hk with _ h2 _; revert h2; decide)
theorem box_app {w w' : World} {base n g : Nat} {v : Value} {xs : List Value} {cs : Array Value} (hb : BlkIs w g 32 cs) (h : w.ownsRow base 65 2 v n xs) (hg : w.grownBy w' v.ownBlock) : BlkIs w' g 32 cs := by
  refine (hg.block g hb.lt (fun e => ?_)).trans hb
  rcases h.2 with ⟨rfl, _⟩ | ⟨g', cap, cur, rfl, _, h3, _⟩
  · cases e
  · have e' : some g = some g' := e
    obtain rfl := Option.some.inj e'
    have hb' : w.heap[g]? = some (.cells cs 32 (0, 0)) := hb
    rw [hb'] at h3
    injection h3 with h3
    injection h3 with _ h2 _
    revert h2
    decide
theorem app_csG {w : World} {B base n c : Nat} {v : Value} {A : Option Addr} {xs : List (Int × Int)} (hr : w.ownsRow base 65 2 v 0 []) (h : InC w B A n xs) (hbw : base ≤ w.heap.size) (hn : n ≤ 1048576) :
    ∃ A' c' w', (Builtin.append_ #[29, 29] 29 #[v, .slice A n c]).run Tryz.prog w = .ok (.slice A' n c') w' ∧ w'.ownsRow base 65 2 (.slice A' n c') n (flatC xs) ∧ w.grownBy w' v.ownBlock := by
  obtain ⟨i0, hi, hz0, hz1, hz2⟩ := info_parts infoInstr
  obtain ⟨v', w', h1, h2, h3⟩ : ∃ v' w', (Builtin.append_ #[29, 29] 29 #[v, .slice A n c]).run Tryz.prog w = .ok v' w' ∧ w'.ownsRow base 65 2 v' n (flatC xs) ∧ w.grownBy w' v.ownBlock := by
    rcases A with _ | ad
    · have hn0 : n = 0 := by
        rcases Nat.eq_zero_or_pos n with h0 | h0
        · exact h0
        · obtain ⟨_, _, _, e, _⟩ := h.at_ (k := 0) h0
          cases e
      subst hn0
      have hxs : xs = [] := List.eq_nil_of_length_eq_zero h.1
      subst hxs
      exact ⟨v, w, nil_any w base _ _ 65 i0 2 Tryz.underlying29 hi v 0 _ hr c, hr, grown_of (Below.refl _ _)⟩
    · obtain ⟨v', w', e1, e2, e3, _⟩ := run_append_own w base 29 29 65 i0 (.agg #[.int .i64 0, .int .i64 0]) 2 16 Tryz.underlying29 hi hz0 hz1 hz2 rfl (by decide) v 0 _ hr ad n c (flatC xs) (by rw [flatC_len, h.1]) (flatC_news h) (flatC_one xs) (by unfold maxLen; omega) (by omega) hbw
      rw [Nat.zero_add, List.nil_append] at e2
      exact ⟨v', w', e1, e2, e3⟩
  obtain ⟨A', c', rfl, _⟩ := own_sliceC h2 h.1
  exact ⟨A', c', w', h1, h2, h3⟩

set_option maxRecDepth 100000 in
set_option maxHeartbeats 4000000 in
theorem l08Own_c (b : Nat) (A0 : Option Addr) (n0 c0 : Nat) (t0 : List (Int × List Int)) (A1 : Option Addr) (n1 c1 : Nat) (t1 : List (Int × List Int)) (A2 : Option Addr) (n2 c2 : Nat) (t2 : List (Int × Int)) (A3 : Option Addr) (n3 c3 : Nat) (t3 : List P2) (B : Nat) (w : World)
    (hP : BlkIs w b 32 #[.slice A0 n0 c0, .slice A1 n1 c1, .slice A2 n2 c2, .slice A3 n3 c3]) (h0 : InTS w B A0 n0 t0) (h1 : InTS w B A1 n1 t1) (h2 : InC w B A2 n2 t2) (h3 : InP2 w B A3 n3 t3) (hB : B ≤ w.heap.size)
    (hn0 : n0 ≤ 1000) (he0 : ∀ t ∈ t0, t.2.length ≤ 100000) (hn1 : n1 ≤ 1000) (he1 : ∀ t ∈ t1, t.2.length ≤ 100000) (hn2 : n2 ≤ 1000) (hn3 : n3 ≤ 1000) (he3 : ∀ x ∈ t3, x.s.length ≤ 1000 ∧ ∀ t ∈ x.s, t.2.length ≤ 100000) :
    Calls Tryz.prog 46 #[.pointer (some ⟨b, 0, none⟩)] w fun e w' => ∃ B0 d0 B1 d1 B2 d2 B3 d3, e = .returned (.agg #[.slice B0 n0 d0, .slice B1 n1 d1, .slice B2 n2 d2, .slice B3 n3 d3]) ∧ TsL w' B0 n0 t0 ∧ TsL w' B1 n1 t1 ∧ w'.ownsRow w.heap.size 65 2 (.slice B2 n2 d2) n2 (flatC t2) ∧ PRow w' w.heap.size (.slice B3 n3 d3) n3 t3 ∧ Below w.heap.size w w' := by
  have hb0 := bnew w (.cells #[.slice none 0 0, .slice none 0 0, .slice none 0 0, .slice none 0 0] 32)
  have hR : BlkIs (w.alloc (.cells #[.slice none 0 0, .slice none 0 0, .slice none 0 0, .slice none 0 0] 32)) w.heap.size 32 #[.slice none 0 0, .slice none 0 0, .slice none 0 0, .slice none 0 0] := blk_new _ _ _ _ rfl
  have hsz : (w.alloc (.cells #[.slice none 0 0, .slice none 0 0, .slice none 0 0, .slice none 0 0] 32)).heap.size = w.heap.size + 1 := by simp
  replace hP := hP.next hb0
  have H0 := Lib.hid (h0.next hb0 hB)
  have H1 := Lib.hid (h1.next hb0 hB)
  have H2 := Lib.hid (h2.next hb0 hB)
  have H3 := Lib.hid (h3.next hb0 hB)
  clear h0 h1 h2 h3
  go_enter Tryz.func46, Tryz.ntmps46
  go_wp2_with fail
  generalize w.alloc (.cells #[.slice none 0 0, .slice none 0 0, .slice none 0 0, .slice none 0 0] 32) = W at hb0 hP hR hsz H0 H1 H2 H3 ⊢
  have hs0 := hb0.size
  have p0 := hP.cell 0
  have p1 := hP.cell 1
  have p2 := hP.cell 2
  have p3 := hP.cell 3
  simp at p0 p1 p2 p3
  have HT0 : Hid (∀ x', Below W.drew.heap.size W.drew x' → Calls Tryz.prog 75 #[.slice A0 n0 c0] x' fun e w' => ∃ A' c', e = .returned (.slice A' n0 c') ∧ TsL w' A' n0 t0 ∧ Below x'.heap.size x' w') := fun x' hx => ownAllTs_c A0 n0 c0 B t0 x' (H0.out.next (bstep hx) (by show B ≤ W.heap.size; omega)) (Nat.le_trans (by show B ≤ W.heap.size; omega) hx.size) hn0 he0
  have HT1 : Hid (∀ x', Below W.drew.heap.size W.drew x' → Calls Tryz.prog 75 #[.slice A1 n1 c1] x' fun e w' => ∃ A' c', e = .returned (.slice A' n1 c') ∧ TsL w' A' n1 t1 ∧ Below x'.heap.size x' w') := fun x' hx => ownAllTs_c A1 n1 c1 B t1 x' (H1.out.next (bstep hx) (by show B ≤ W.heap.size; omega)) (Nat.le_trans (by show B ≤ W.heap.size; omega) hx.size) hn1 he1
  clear he0 he1 hP
  have HSZ := Lib.hid hsz
  clear hsz
  go_cut [3] (fun s3 wx => ∃ g B0 d0 B1 d1 B2 d2, s3 = .pointer (some ⟨g, 0, none⟩) ∧ W.heap.size ≤ g ∧ BlkIs wx g 32 #[.slice B0 n0 d0, .slice B1 n1 d1, .slice B2 n2 d2, .slice none 0 0] ∧ TsL wx B0 n0 t0 ∧ TsL wx B1 n1 t1 ∧ wx.ownsRow W.heap.size 65 2 (.slice B2 n2 d2) n2 (flatC t2) ∧ Below W.heap.size W wx)
  case first =>
    have hD0 : Below W.drew.heap.size W.drew W.drew := Below.refl _ _
    have qq0 : W.drew.cell? ⟨b, 0, none⟩ = some (.slice A0 n0 c0) := p0
    have qq1 : W.drew.cell? ⟨b, 1, none⟩ = some (.slice A1 n1 c1) := p1
    have qq2 : W.drew.cell? ⟨b, 2, none⟩ = some (.slice A2 n2 c2) := p2
    refine wp_region_held_drew (S := fun w' => w'.cell? ⟨b, 0, none⟩ = some (.slice A0 n0 c0) ∧ w'.cell? ⟨b, 1, none⟩ = some (.slice A1 n1 c1) ∧ w'.cell? ⟨b, 2, none⟩ = some (.slice A2 n2 c2)) (by kernel_rfl) ⟨qq0, qq1, qq2⟩ ?_
    intro hHeld0
    refine wpAnyH_take (i := 0) (v := ?_) rfl (by kernel_rfl) (by kernel_rfl) (by kernel_rfl) (fun _ _ _ h => h) (Or.inl ⟨by kernel_rfl, ?_⟩) (by assumption) ?_
    rotate_left
    · intro w9 hS9; (try dsimp only at hS9); go_simp; (try with_reducible rfl)
    set_option linter.unusedSimpArgs false in try simp only [Act.put, List.getElem_toArray, List.getElem_cons_succ, List.getElem_cons_zero, List.setIfInBounds_toArray, List.set_cons_zero, List.set_cons_succ]
    refine wpAnyH_take (i := 1) (v := ?_) rfl (by kernel_rfl) (by kernel_rfl) (by kernel_rfl) (fun _ _ _ h => h) (Or.inl ⟨by kernel_rfl, ?_⟩) (by assumption) ?_
    rotate_left
    · intro w9 hS9; (try dsimp only at hS9); go_simp; (try with_reducible rfl)
    set_option linter.unusedSimpArgs false in try simp only [Act.put, List.getElem_toArray, List.getElem_cons_succ, List.getElem_cons_zero, List.setIfInBounds_toArray, List.set_cons_zero, List.set_cons_succ]
    refine wpAnyH_take (i := 2) (v := ?_) rfl (by kernel_rfl) (by kernel_rfl) (by kernel_rfl) (fun _ _ _ h => h) (Or.inl ⟨by kernel_rfl, ?_⟩) (by assumption) ?_
    rotate_left
    · intro w9 hS9; (try dsimp only at hS9); go_simp; (try with_reducible rfl)
    set_option linter.unusedSimpArgs false in try simp only [Act.put, List.getElem_toArray, List.getElem_cons_succ, List.getElem_cons_zero, List.setIfInBounds_toArray, List.set_cons_zero, List.set_cons_succ]
    refine wpAnyH_take (i := 3) (v := ?_) rfl (by kernel_rfl) (by kernel_rfl) (by kernel_rfl) (fun _ _ _ h => h) (Or.inl ⟨by kernel_rfl, ?_⟩) (by assumption) ?_
    rotate_left
    · intro w9 hS9; (try dsimp only at hS9); go_simp; (try with_reducible rfl)
    set_option linter.unusedSimpArgs false in try simp only [Act.put, List.getElem_toArray, List.getElem_cons_succ, List.getElem_cons_zero, List.setIfInBounds_toArray, List.set_cons_zero, List.set_cons_succ]
    refine wpAnyH_take (i := 5) (v := ?_) rfl (by kernel_rfl) (by kernel_rfl) (by kernel_rfl) (fun _ _ _ h => h) (Or.inl ⟨by kernel_rfl, ?_⟩) (by assumption) ?_
    rotate_left
    · intro w9 hS9; (try dsimp only at hS9); go_simp; (try with_reducible rfl)
    set_option linter.unusedSimpArgs false in try simp only [Act.put, List.getElem_toArray, List.getElem_cons_succ, List.getElem_cons_zero, List.setIfInBounds_toArray, List.set_cons_zero, List.set_cons_succ]
    refine wpAnyH_take (i := 6) (v := ?_) rfl (by kernel_rfl) (by kernel_rfl) (by kernel_rfl) (fun _ _ _ h => h) (Or.inl ⟨by kernel_rfl, ?_⟩) (by assumption) ?_
    rotate_left
    · intro w9 hS9; (try dsimp only at hS9); go_simp; (try with_reducible rfl)
    set_option linter.unusedSimpArgs false in try simp only [Act.put, List.getElem_toArray, List.getElem_cons_succ, List.getElem_cons_zero, List.setIfInBounds_toArray, List.set_cons_zero, List.set_cons_succ]
    refine wpAnyH_take (i := 7) (v := ?_) rfl (by kernel_rfl) (by kernel_rfl) (by kernel_rfl) (fun _ _ _ h => h) (Or.inl ⟨by kernel_rfl, ?_⟩) (by assumption) ?_
    rotate_left
    · intro w9 hS9; (try dsimp only at hS9); go_simp; (try with_reducible rfl)
    set_option linter.unusedSimpArgs false in try simp only [Act.put, List.getElem_toArray, List.getElem_cons_succ, List.getElem_cons_zero, List.setIfInBounds_toArray, List.set_cons_zero, List.set_cons_succ]
    refine wpAnyH_take (i := 8) (v := ?_) rfl (by kernel_rfl) (by kernel_rfl) (by kernel_rfl) (fun _ _ _ h => h) (Or.inl ⟨by kernel_rfl, ?_⟩) (by assumption) ?_
    rotate_left
    · intro w9 hS9; (try dsimp only at hS9); go_simp; (try with_reducible rfl)
    set_option linter.unusedSimpArgs false in try simp only [Act.put, List.getElem_toArray, List.getElem_cons_succ, List.getElem_cons_zero, List.setIfInBounds_toArray, List.set_cons_zero, List.set_cons_succ]
    refine wpAnyH_take (i := 11) (v := ?_) rfl (by kernel_rfl) (by kernel_rfl) (by kernel_rfl) (fun _ _ _ h => h) (Or.inl ⟨by kernel_rfl, ?_⟩) (by assumption) ?_
    rotate_left
    · intro w9 hS9; (try dsimp only at hS9); go_simp; (try with_reducible rfl)
    set_option linter.unusedSimpArgs false in try simp only [Act.put, List.getElem_toArray, List.getElem_cons_succ, List.getElem_cons_zero, List.setIfInBounds_toArray, List.set_cons_zero, List.set_cons_succ]
    refine wpAnyH_take (i := 12) (v := ?_) rfl (by kernel_rfl) (by kernel_rfl) (by kernel_rfl) (fun _ _ _ h => h) (Or.inl ⟨by kernel_rfl, ?_⟩) (by assumption) ?_
    rotate_left
    · intro w9 hS9; (try dsimp only at hS9); go_simp; (try with_reducible rfl)
    set_option linter.unusedSimpArgs false in try simp only [Act.put, List.getElem_toArray, List.getElem_cons_succ, List.getElem_cons_zero, List.setIfInBounds_toArray, List.set_cons_zero, List.set_cons_succ]
    refine wpAnyH_take (i := 13) (v := ?_) rfl (by kernel_rfl) (by kernel_rfl) (by kernel_rfl) (fun _ _ _ h => h) (Or.inl ⟨by kernel_rfl, ?_⟩) (by assumption) ?_
    rotate_left
    · intro w9 hS9; (try dsimp only at hS9); go_simp; (try with_reducible rfl)
    set_option linter.unusedSimpArgs false in try simp only [Act.put, List.getElem_toArray, List.getElem_cons_succ, List.getElem_cons_zero, List.setIfInBounds_toArray, List.set_cons_zero, List.set_cons_succ]
    refine wpAnyH_take (i := 14) (v := ?_) rfl (by kernel_rfl) (by kernel_rfl) (by kernel_rfl) (fun _ _ _ h => h) (Or.inl ⟨by kernel_rfl, ?_⟩) (by assumption) ?_
    rotate_left
    · intro w9 hS9; (try dsimp only at hS9); go_simp; (try with_reducible rfl)
    set_option linter.unusedSimpArgs false in try simp only [Act.put, List.getElem_toArray, List.getElem_cons_succ, List.getElem_cons_zero, List.setIfInBounds_toArray, List.set_cons_zero, List.set_cons_succ]
    refine wpAnyH_ready (rs := [4, 10, 17]) (by kernel_rfl) (by simp) ?_
    refine AllReadyH.cons rfl (fun K hK => ?_) (AllReadyH.cons rfl (fun K hK => ?_) (AllReadyH.cons rfl (fun K hK => ?_) (AllReadyH.nil)))
    · go_simp
      go_wp2_with (go_at_call 75; refine (HT0.out _ (hD0)).mono ?_; rintro e v1 ⟨B0, d0, rfl, t3, hb2⟩)
      have q4 := cell_next qq0 hb2
      have q5 := cell_next qq1 hb2
      have q6 := cell_next qq2 hb2
      have bl7 := bon (hD0) hb2
      refine hK.out _ _ ⟨q4, q5, q6⟩ (fun hHeld8 => ?_)
      clear hK K hHeld0
      set_option linter.unusedSimpArgs false in try simp only [Act.put, List.getElem_toArray, List.getElem_cons_succ, List.getElem_cons_zero, List.setIfInBounds_toArray, List.set_cons_zero, List.set_cons_succ]
      refine wpAnyH_ready (rs := [9, 10, 17]) (by kernel_rfl) (by simp) ?_
      refine AllReadyH.cons rfl (fun K hK => ?_) (AllReadyH.cons rfl (fun K hK => ?_) (AllReadyH.cons rfl (fun K hK => ?_) (AllReadyH.nil)))
      · go_simp
        go_wp2_with (go_at_call 75; refine (HT1.out _ (bl7)).mono ?_; rintro e v9 ⟨B1, d1, rfl, t11, hb10⟩)
        have k12 := t3.next hb10
        have q13 := cell_next q4 hb10
        have q14 := cell_next q5 hb10
        have q15 := cell_next q6 hb10
        have bl16 := bon (bl7) hb10
        refine hK.out _ _ ⟨q13, q14, q15⟩ (fun hHeld17 => ?_)
        clear hK K hHeld8
        set_option linter.unusedSimpArgs false in try simp only [Act.put, List.getElem_toArray, List.getElem_cons_succ, List.getElem_cons_zero, List.setIfInBounds_toArray, List.set_cons_zero, List.set_cons_succ]
        refine wpAnyH_ready (rs := [10, 17]) (by kernel_rfl) (by simp) ?_
        refine AllReadyH.cons rfl (fun K hK => ?_) (AllReadyH.cons rfl (fun K hK => ?_) (AllReadyH.nil))
        · go_simp
          have bl18 : Below W.drew.heap.size W.drew (v9.alloc (.cells #[] 65)) := bon (bl16) (bnew v9 (.cells #[] 65))
          have k19 := k12.next (bnew v9 (.cells #[] 65))
          have k20 := t11.next (bnew v9 (.cells #[] 65))
          have q21 : (v9.alloc (.cells #[] 65)).cell? ⟨b, 0, none⟩ = some (.slice A0 n0 c0) := cell_next (w1 := (v9.alloc (.cells #[] 65))) (show v9.cell? _ = _ from q13) (bnew v9 (.cells #[] 65))
          have q22 : (v9.alloc (.cells #[] 65)).cell? ⟨b, 1, none⟩ = some (.slice A1 n1 c1) := cell_next (w1 := (v9.alloc (.cells #[] 65))) (show v9.cell? _ = _ from q14) (bnew v9 (.cells #[] 65))
          have q23 : (v9.alloc (.cells #[] 65)).cell? ⟨b, 2, none⟩ = some (.slice A2 n2 c2) := cell_next (w1 := (v9.alloc (.cells #[] 65))) (show v9.cell? _ = _ from q15) (bnew v9 (.cells #[] 65))
          have k24 : (v9.alloc (.cells #[] 65)).ownsRow (v9.heap.size) 65 2 (.slice (some ⟨v9.heap.size, 0, none⟩) 0 0) 0 [] := own_empty2 v9 65
          have g25 : W.heap.size ≤ (v9.heap.size) := (bstep (bl16)).size
          refine hK.out _ _ ⟨q21, q22, q23⟩ (fun hHeld26 => ?_)
          clear hK K hHeld17
          set_option linter.unusedSimpArgs false in try simp only [Act.put, List.getElem_toArray, List.getElem_cons_succ, List.getElem_cons_zero, List.setIfInBounds_toArray, List.set_cons_zero, List.set_cons_succ]
          refine wpAnyH_ready (rs := [15, 17]) (by kernel_rfl) (by simp) ?_
          refine AllReadyH.cons rfl (fun K hK => ?_) (AllReadyH.cons rfl (fun K hK => ?_) (AllReadyH.nil))
          · refine Eq.mpr (if_pos (by kernel_rfl)) ?_
            obtain ⟨RA33, rc34, v27, e28, r29, gr35⟩ := app_csG (A := A2) (c := c2) k24 (H2.out.next (bstep (bl18)) (by omega)) (Nat.le_of_lt (k24.lt _ rfl).2) (by omega)
            have bl36 : Below W.drew.heap.size W.drew v27 := (bl18).grown gr35 (bl18).size (fun j hj => Nat.le_trans g25 (k24.lt j hj).1)
            have k37 := k19.kept gr35 (own_noI k24)
            have k38 := k20.kept gr35 (own_noI k24)
            have q40 := cell_on p0 bl36
            have q41 := cell_on p1 bl36
            have q42 := cell_on p2 bl36
            refine wp_app_run _ _ 29 rfl (.slice (some ⟨v9.heap.size, 0, none⟩) 0 0) (.slice A2 n2 c2) rfl rfl (.slice RA33 n2 rc34) v27 e28 ?_
            clear e28
            refine hK.out _ _ ⟨q40, q41, q42⟩ (fun hHeld43 => ?_)
            clear hK K hHeld26
            set_option linter.unusedSimpArgs false in try simp only [Act.put, List.getElem_toArray, List.getElem_cons_succ, List.getElem_cons_zero, List.setIfInBounds_toArray, List.set_cons_zero, List.set_cons_succ]
            refine wpAnyH_take (i := 16) (v := ?_) rfl (by kernel_rfl) (by kernel_rfl) (by kernel_rfl) (fun _ _ _ h => h) (Or.inl ⟨by kernel_rfl, ?_⟩) (by assumption) ?_
            rotate_left
            · intro w9 hS9; (try dsimp only at hS9); go_simp; (try with_reducible rfl)
            set_option linter.unusedSimpArgs false in try simp only [Act.put, List.getElem_toArray, List.getElem_cons_succ, List.getElem_cons_zero, List.setIfInBounds_toArray, List.set_cons_zero, List.set_cons_succ]
            refine wpAnyH_ready (rs := [17]) (by kernel_rfl) (by simp) ?_
            refine AllReadyH.cons rfl (fun K hK => ?_) (AllReadyH.nil)
            go_simp
            have bl44 : Below W.drew.heap.size W.drew (v27.alloc (.cells #[.slice none 0 0, .slice none 0 0, .slice none 0 0, .slice none 0 0] 32)) := bon (bl36) (bnew v27 (.cells #[.slice none 0 0, .slice none 0 0, .slice none 0 0, .slice none 0 0] 32))
            have k45 := k37.next (bnew v27 (.cells #[.slice none 0 0, .slice none 0 0, .slice none 0 0, .slice none 0 0] 32))
            have k46 := k38.next (bnew v27 (.cells #[.slice none 0 0, .slice none 0 0, .slice none 0 0, .slice none 0 0] 32))
            have k47 : (v27.alloc (.cells #[.slice none 0 0, .slice none 0 0, .slice none 0 0, .slice none 0 0] 32)).ownsRow (v9.heap.size) 65 2 (.slice RA33 n2 rc34) n2 (flatC t2) := own_below (w := v27) (w' := (v27.alloc (.cells #[.slice none 0 0, .slice none 0 0, .slice none 0 0, .slice none 0 0] 32))) r29 (bnew v27 (.cells #[.slice none 0 0, .slice none 0 0, .slice none 0 0, .slice none 0 0] 32))
            have q48 : (v27.alloc (.cells #[.slice none 0 0, .slice none 0 0, .slice none 0 0, .slice none 0 0] 32)).cell? ⟨b, 0, none⟩ = some (.slice A0 n0 c0) := cell_next (w1 := (v27.alloc (.cells #[.slice none 0 0, .slice none 0 0, .slice none 0 0, .slice none 0 0] 32))) (show v27.cell? _ = _ from q40) (bnew v27 (.cells #[.slice none 0 0, .slice none 0 0, .slice none 0 0, .slice none 0 0] 32))
            have q49 : (v27.alloc (.cells #[.slice none 0 0, .slice none 0 0, .slice none 0 0, .slice none 0 0] 32)).cell? ⟨b, 1, none⟩ = some (.slice A1 n1 c1) := cell_next (w1 := (v27.alloc (.cells #[.slice none 0 0, .slice none 0 0, .slice none 0 0, .slice none 0 0] 32))) (show v27.cell? _ = _ from q41) (bnew v27 (.cells #[.slice none 0 0, .slice none 0 0, .slice none 0 0, .slice none 0 0] 32))
            have q50 : (v27.alloc (.cells #[.slice none 0 0, .slice none 0 0, .slice none 0 0, .slice none 0 0] 32)).cell? ⟨b, 2, none⟩ = some (.slice A2 n2 c2) := cell_next (w1 := (v27.alloc (.cells #[.slice none 0 0, .slice none 0 0, .slice none 0 0, .slice none 0 0] 32))) (show v27.cell? _ = _ from q42) (bnew v27 (.cells #[.slice none 0 0, .slice none 0 0, .slice none 0 0, .slice none 0 0] 32))
            have k51 : BlkIs (v27.alloc (.cells #[.slice none 0 0, .slice none 0 0, .slice none 0 0, .slice none 0 0] 32)) (v27.heap.size) 32 #[.slice none 0 0, .slice none 0 0, .slice none 0 0, .slice none 0 0] := (show BlkIs (v27.alloc (.cells #[.slice none 0 0, .slice none 0 0, .slice none 0 0, .slice none 0 0] 32)) _ _ _ from blk_new _ _ _ _ (by simp))
            have g52 : W.heap.size ≤ (v27.heap.size) := (bstep (bl36)).size
            generalize (v27.alloc (.cells #[.slice none 0 0, .slice none 0 0, .slice none 0 0, .slice none 0 0] 32)) = V53 at bl44 k45 k46 k47 k51 q48 q49 q50 ⊢
            refine hK.out _ _ ⟨q48, q49, q50⟩ (fun hHeld54 => ?_)
            clear hK K hHeld43
            set_option linter.unusedSimpArgs false in try simp only [Act.put, List.getElem_toArray, List.getElem_cons_succ, List.getElem_cons_zero, List.setIfInBounds_toArray, List.set_cons_zero, List.set_cons_succ]
            have z0 := k51.cell 0
            have f0 := k51.frozen 0
            have z1 := k51.cell 1
            have f1 := k51.frozen 1
            have z2 := k51.cell 2
            have f2 := k51.frozen 2
            have z3 := k51.cell 3
            have f3 := k51.frozen 3
            simp at z0 z1 z2 z3
            have bx55 := k51.set 0 (.slice B0 n0 d0)
            have k56 := k45.set4 k51 0 (.slice B0 n0 d0)
            have k57 := k46.set4 k51 0 (.slice B0 n0 d0)
            have k58 := row_set4 k47 k51 0 (.slice B0 n0 d0)
            have bl59 := Below.setCell (p := ⟨(v27.heap.size), 0, none⟩) (bl44) g52 (.slice B0 n0 d0)
            have bx60 := bx55.set 1 (.slice B1 n1 d1)
            have k61 := k56.set4 bx55 1 (.slice B1 n1 d1)
            have k62 := k57.set4 bx55 1 (.slice B1 n1 d1)
            have k63 := row_set4 k58 bx55 1 (.slice B1 n1 d1)
            have bl64 := Below.setCell (p := ⟨(v27.heap.size), 1, none⟩) (bl59) g52 (.slice B1 n1 d1)
            have bx65 := bx60.set 2 ((.slice RA33 n2 rc34))
            have k66 := k61.set4 bx60 2 ((.slice RA33 n2 rc34))
            have k67 := k62.set4 bx60 2 ((.slice RA33 n2 rc34))
            have k68 := row_set4 k63 bx60 2 ((.slice RA33 n2 rc34))
            have bl69 := Below.setCell (p := ⟨(v27.heap.size), 2, none⟩) (bl64) g52 ((.slice RA33 n2 rc34))
            have bx70 := bx65.set 3 (.slice none 0 0)
            have k71 := k66.set4 bx65 3 (.slice none 0 0)
            have k72 := k67.set4 bx65 3 (.slice none 0 0)
            have k73 := row_set4 k68 bx65 3 (.slice none 0 0)
            have bl74 := Below.setCell (p := ⟨(v27.heap.size), 3, none⟩) (bl69) g52 (.slice none 0 0)
            simp at bx70
            have q75 := cell_on p0 bl74
            have q76 := cell_on p1 bl74
            have q77 := cell_on p2 bl74
            refine wpAnyH_ready (rs := [18]) (by kernel_rfl) (by simp) ?_
            refine AllReadyH.cons rfl (fun K hK => ?_) AllReadyH.nil
            go_simp
            refine hK.out _ _ ⟨q75, q76, q77⟩ (fun hHeld78 => ?_)
            clear hK K hHeld54
            set_option linter.unusedSimpArgs false in try simp only [Act.put, List.getElem_toArray, List.getElem_cons_succ, List.getElem_cons_zero, List.setIfInBounds_toArray, List.set_cons_zero, List.set_cons_succ]
            refine wpAnyH_done (by kernel_rfl) ?_ _
            go_wp2_with fail
            go_meet
            exact ⟨_, _, _, _, _, _, _, rfl, g52, bx70, k71, k72, own_less k73 g25, bstep bl74⟩
          · go_simp
            have bl79 : Below W.drew.heap.size W.drew ((v9.alloc (.cells #[] 65)).alloc (.cells #[.slice none 0 0, .slice none 0 0, .slice none 0 0, .slice none 0 0] 32)) := bon (bl18) (bnew (v9.alloc (.cells #[] 65)) (.cells #[.slice none 0 0, .slice none 0 0, .slice none 0 0, .slice none 0 0] 32))
            have k80 := k19.next (bnew (v9.alloc (.cells #[] 65)) (.cells #[.slice none 0 0, .slice none 0 0, .slice none 0 0, .slice none 0 0] 32))
            have k81 := k20.next (bnew (v9.alloc (.cells #[] 65)) (.cells #[.slice none 0 0, .slice none 0 0, .slice none 0 0, .slice none 0 0] 32))
            have k82 : ((v9.alloc (.cells #[] 65)).alloc (.cells #[.slice none 0 0, .slice none 0 0, .slice none 0 0, .slice none 0 0] 32)).ownsRow (v9.heap.size) 65 2 (.slice (some ⟨v9.heap.size, 0, none⟩) 0 0) 0 [] := own_below (w := (v9.alloc (.cells #[] 65))) (w' := ((v9.alloc (.cells #[] 65)).alloc (.cells #[.slice none 0 0, .slice none 0 0, .slice none 0 0, .slice none 0 0] 32))) k24 (bnew (v9.alloc (.cells #[] 65)) (.cells #[.slice none 0 0, .slice none 0 0, .slice none 0 0, .slice none 0 0] 32))
            have q83 : ((v9.alloc (.cells #[] 65)).alloc (.cells #[.slice none 0 0, .slice none 0 0, .slice none 0 0, .slice none 0 0] 32)).cell? ⟨b, 0, none⟩ = some (.slice A0 n0 c0) := cell_next (w1 := ((v9.alloc (.cells #[] 65)).alloc (.cells #[.slice none 0 0, .slice none 0 0, .slice none 0 0, .slice none 0 0] 32))) (show (v9.alloc (.cells #[] 65)).cell? _ = _ from q21) (bnew (v9.alloc (.cells #[] 65)) (.cells #[.slice none 0 0, .slice none 0 0, .slice none 0 0, .slice none 0 0] 32))
            have q84 : ((v9.alloc (.cells #[] 65)).alloc (.cells #[.slice none 0 0, .slice none 0 0, .slice none 0 0, .slice none 0 0] 32)).cell? ⟨b, 1, none⟩ = some (.slice A1 n1 c1) := cell_next (w1 := ((v9.alloc (.cells #[] 65)).alloc (.cells #[.slice none 0 0, .slice none 0 0, .slice none 0 0, .slice none 0 0] 32))) (show (v9.alloc (.cells #[] 65)).cell? _ = _ from q22) (bnew (v9.alloc (.cells #[] 65)) (.cells #[.slice none 0 0, .slice none 0 0, .slice none 0 0, .slice none 0 0] 32))
            have q85 : ((v9.alloc (.cells #[] 65)).alloc (.cells #[.slice none 0 0, .slice none 0 0, .slice none 0 0, .slice none 0 0] 32)).cell? ⟨b, 2, none⟩ = some (.slice A2 n2 c2) := cell_next (w1 := ((v9.alloc (.cells #[] 65)).alloc (.cells #[.slice none 0 0, .slice none 0 0, .slice none 0 0, .slice none 0 0] 32))) (show (v9.alloc (.cells #[] 65)).cell? _ = _ from q23) (bnew (v9.alloc (.cells #[] 65)) (.cells #[.slice none 0 0, .slice none 0 0, .slice none 0 0, .slice none 0 0] 32))
            have k86 : BlkIs ((v9.alloc (.cells #[] 65)).alloc (.cells #[.slice none 0 0, .slice none 0 0, .slice none 0 0, .slice none 0 0] 32)) (v9.heap.size + 1) 32 #[.slice none 0 0, .slice none 0 0, .slice none 0 0, .slice none 0 0] := (show BlkIs ((v9.alloc (.cells #[] 65)).alloc (.cells #[.slice none 0 0, .slice none 0 0, .slice none 0 0, .slice none 0 0] 32)) _ _ _ from blk_new _ _ _ _ (by simp))
            have g87 : W.heap.size ≤ (v9.heap.size + 1) := by have := (bstep (bl18)).size; simp at this; omega
            refine hK.out _ _ ⟨q83, q84, q85⟩ (fun hHeld88 => ?_)
            clear hK K hHeld26
            set_option linter.unusedSimpArgs false in try simp only [Act.put, List.getElem_toArray, List.getElem_cons_succ, List.getElem_cons_zero, List.setIfInBounds_toArray, List.set_cons_zero, List.set_cons_succ]
            refine wpAnyH_ready (rs := [15]) (by kernel_rfl) (by simp) ?_
            refine AllReadyH.cons rfl (fun K hK => ?_) (AllReadyH.nil)
            refine Eq.mpr (if_pos (by kernel_rfl)) ?_
            obtain ⟨RA95, rc96, v89, e90, r91, gr97⟩ := app_csG (A := A2) (c := c2) k82 (H2.out.next (bstep (bl79)) (by omega)) (Nat.le_of_lt (k82.lt _ rfl).2) (by omega)
            have bl98 : Below W.drew.heap.size W.drew v89 := (bl79).grown gr97 (bl79).size (fun j hj => Nat.le_trans g25 (k82.lt j hj).1)
            have k99 := k80.kept gr97 (own_noI k82)
            have k100 := k81.kept gr97 (own_noI k82)
            have k102 := box_app k86 k82 gr97
            have q103 := cell_on p0 bl98
            have q104 := cell_on p1 bl98
            have q105 := cell_on p2 bl98
            refine wp_app_run _ _ 29 rfl (.slice (some ⟨v9.heap.size, 0, none⟩) 0 0) (.slice A2 n2 c2) rfl rfl (.slice RA95 n2 rc96) v89 e90 ?_
            clear e90
            refine hK.out _ _ ⟨q103, q104, q105⟩ (fun hHeld106 => ?_)
            clear hK K hHeld88
            set_option linter.unusedSimpArgs false in try simp only [Act.put, List.getElem_toArray, List.getElem_cons_succ, List.getElem_cons_zero, List.setIfInBounds_toArray, List.set_cons_zero, List.set_cons_succ]
            refine wpAnyH_take (i := 16) (v := ?_) rfl (by kernel_rfl) (by kernel_rfl) (by kernel_rfl) (fun _ _ _ h => h) (Or.inl ⟨by kernel_rfl, ?_⟩) (by assumption) ?_
            rotate_left
            · intro w9 hS9; (try dsimp only at hS9); go_simp; (try with_reducible rfl)
            set_option linter.unusedSimpArgs false in try simp only [Act.put, List.getElem_toArray, List.getElem_cons_succ, List.getElem_cons_zero, List.setIfInBounds_toArray, List.set_cons_zero, List.set_cons_succ]
            have z0 := k102.cell 0
            have f0 := k102.frozen 0
            have z1 := k102.cell 1
            have f1 := k102.frozen 1
            have z2 := k102.cell 2
            have f2 := k102.frozen 2
            have z3 := k102.cell 3
            have f3 := k102.frozen 3
            simp at z0 z1 z2 z3
            have bx107 := k102.set 0 (.slice B0 n0 d0)
            have k108 := k99.set4 k102 0 (.slice B0 n0 d0)
            have k109 := k100.set4 k102 0 (.slice B0 n0 d0)
            have k110 := row_set4 r91 k102 0 (.slice B0 n0 d0)
            have bl111 := Below.setCell (p := ⟨(v9.heap.size + 1), 0, none⟩) (bl98) g87 (.slice B0 n0 d0)
            have bx112 := bx107.set 1 (.slice B1 n1 d1)
            have k113 := k108.set4 bx107 1 (.slice B1 n1 d1)
            have k114 := k109.set4 bx107 1 (.slice B1 n1 d1)
            have k115 := row_set4 k110 bx107 1 (.slice B1 n1 d1)
            have bl116 := Below.setCell (p := ⟨(v9.heap.size + 1), 1, none⟩) (bl111) g87 (.slice B1 n1 d1)
            have bx117 := bx112.set 2 ((.slice RA95 n2 rc96))
            have k118 := k113.set4 bx112 2 ((.slice RA95 n2 rc96))
            have k119 := k114.set4 bx112 2 ((.slice RA95 n2 rc96))
            have k120 := row_set4 k115 bx112 2 ((.slice RA95 n2 rc96))
            have bl121 := Below.setCell (p := ⟨(v9.heap.size + 1), 2, none⟩) (bl116) g87 ((.slice RA95 n2 rc96))
            have bx122 := bx117.set 3 (.slice none 0 0)
            have k123 := k118.set4 bx117 3 (.slice none 0 0)
            have k124 := k119.set4 bx117 3 (.slice none 0 0)
            have k125 := row_set4 k120 bx117 3 (.slice none 0 0)
            have bl126 := Below.setCell (p := ⟨(v9.heap.size + 1), 3, none⟩) (bl121) g87 (.slice none 0 0)
            simp at bx122
            have q127 := cell_on p0 bl126
            have q128 := cell_on p1 bl126
            have q129 := cell_on p2 bl126
            refine wpAnyH_ready (rs := [18]) (by kernel_rfl) (by simp) ?_
            refine AllReadyH.cons rfl (fun K hK => ?_) AllReadyH.nil
            go_simp
            refine hK.out _ _ ⟨q127, q128, q129⟩ (fun hHeld130 => ?_)
            clear hK K hHeld106
            set_option linter.unusedSimpArgs false in try simp only [Act.put, List.getElem_toArray, List.getElem_cons_succ, List.getElem_cons_zero, List.setIfInBounds_toArray, List.set_cons_zero, List.set_cons_succ]
            refine wpAnyH_done (by kernel_rfl) ?_ _
            go_wp2_with fail
            go_meet
            exact ⟨_, _, _, _, _, _, _, rfl, g87, bx122, k123, k124, own_less k125 g25, bstep bl126⟩
        · go_simp
          have bl131 : Below W.drew.heap.size W.drew (v9.alloc (.cells #[.slice none 0 0, .slice none 0 0, .slice none 0 0, .slice none 0 0] 32)) := bon (bl16) (bnew v9 (.cells #[.slice none 0 0, .slice none 0 0, .slice none 0 0, .slice none 0 0] 32))
          have k132 := k12.next (bnew v9 (.cells #[.slice none 0 0, .slice none 0 0, .slice none 0 0, .slice none 0 0] 32))
          have k133 := t11.next (bnew v9 (.cells #[.slice none 0 0, .slice none 0 0, .slice none 0 0, .slice none 0 0] 32))
          have q134 : (v9.alloc (.cells #[.slice none 0 0, .slice none 0 0, .slice none 0 0, .slice none 0 0] 32)).cell? ⟨b, 0, none⟩ = some (.slice A0 n0 c0) := cell_next (w1 := (v9.alloc (.cells #[.slice none 0 0, .slice none 0 0, .slice none 0 0, .slice none 0 0] 32))) (show v9.cell? _ = _ from q13) (bnew v9 (.cells #[.slice none 0 0, .slice none 0 0, .slice none 0 0, .slice none 0 0] 32))
          have q135 : (v9.alloc (.cells #[.slice none 0 0, .slice none 0 0, .slice none 0 0, .slice none 0 0] 32)).cell? ⟨b, 1, none⟩ = some (.slice A1 n1 c1) := cell_next (w1 := (v9.alloc (.cells #[.slice none 0 0, .slice none 0 0, .slice none 0 0, .slice none 0 0] 32))) (show v9.cell? _ = _ from q14) (bnew v9 (.cells #[.slice none 0 0, .slice none 0 0, .slice none 0 0, .slice none 0 0] 32))
          have q136 : (v9.alloc (.cells #[.slice none 0 0, .slice none 0 0, .slice none 0 0, .slice none 0 0] 32)).cell? ⟨b, 2, none⟩ = some (.slice A2 n2 c2) := cell_next (w1 := (v9.alloc (.cells #[.slice none 0 0, .slice none 0 0, .slice none 0 0, .slice none 0 0] 32))) (show v9.cell? _ = _ from q15) (bnew v9 (.cells #[.slice none 0 0, .slice none 0 0, .slice none 0 0, .slice none 0 0] 32))
          have k137 : BlkIs (v9.alloc (.cells #[.slice none 0 0, .slice none 0 0, .slice none 0 0, .slice none 0 0] 32)) (v9.heap.size) 32 #[.slice none 0 0, .slice none 0 0, .slice none 0 0, .slice none 0 0] := (show BlkIs (v9.alloc (.cells #[.slice none 0 0, .slice none 0 0, .slice none 0 0, .slice none 0 0] 32)) _ _ _ from blk_new _ _ _ _ (by simp))
          have g138 : W.heap.size ≤ (v9.heap.size) := (bstep (bl16)).size
          refine hK.out _ _ ⟨q134, q135, q136⟩ (fun hHeld139 => ?_)
          clear hK K hHeld17
          set_option linter.unusedSimpArgs false in try simp only [Act.put, List.getElem_toArray, List.getElem_cons_succ, List.getElem_cons_zero, List.setIfInBounds_toArray, List.set_cons_zero, List.set_cons_succ]
          refine wpAnyH_ready (rs := [10]) (by kernel_rfl) (by simp) ?_
          refine AllReadyH.cons rfl (fun K hK => ?_) (AllReadyH.nil)
          go_simp
          have bl140 : Below W.drew.heap.size W.drew ((v9.alloc (.cells #[.slice none 0 0, .slice none 0 0, .slice none 0 0, .slice none 0 0] 32)).alloc (.cells #[] 65)) := bon (bl131) (bnew (v9.alloc (.cells #[.slice none 0 0, .slice none 0 0, .slice none 0 0, .slice none 0 0] 32)) (.cells #[] 65))
          have k141 := k132.next (bnew (v9.alloc (.cells #[.slice none 0 0, .slice none 0 0, .slice none 0 0, .slice none 0 0] 32)) (.cells #[] 65))
          have k142 := k133.next (bnew (v9.alloc (.cells #[.slice none 0 0, .slice none 0 0, .slice none 0 0, .slice none 0 0] 32)) (.cells #[] 65))
          have k143 : BlkIs ((v9.alloc (.cells #[.slice none 0 0, .slice none 0 0, .slice none 0 0, .slice none 0 0] 32)).alloc (.cells #[] 65)) (v9.heap.size) 32 #[.slice none 0 0, .slice none 0 0, .slice none 0 0, .slice none 0 0] := BlkIs.next (w := (v9.alloc (.cells #[.slice none 0 0, .slice none 0 0, .slice none 0 0, .slice none 0 0] 32))) (w' := ((v9.alloc (.cells #[.slice none 0 0, .slice none 0 0, .slice none 0 0, .slice none 0 0] 32)).alloc (.cells #[] 65))) k137 (bnew (v9.alloc (.cells #[.slice none 0 0, .slice none 0 0, .slice none 0 0, .slice none 0 0] 32)) (.cells #[] 65))
          have q144 : ((v9.alloc (.cells #[.slice none 0 0, .slice none 0 0, .slice none 0 0, .slice none 0 0] 32)).alloc (.cells #[] 65)).cell? ⟨b, 0, none⟩ = some (.slice A0 n0 c0) := cell_next (w1 := ((v9.alloc (.cells #[.slice none 0 0, .slice none 0 0, .slice none 0 0, .slice none 0 0] 32)).alloc (.cells #[] 65))) (show (v9.alloc (.cells #[.slice none 0 0, .slice none 0 0, .slice none 0 0, .slice none 0 0] 32)).cell? _ = _ from q134) (bnew (v9.alloc (.cells #[.slice none 0 0, .slice none 0 0, .slice none 0 0, .slice none 0 0] 32)) (.cells #[] 65))
          have q145 : ((v9.alloc (.cells #[.slice none 0 0, .slice none 0 0, .slice none 0 0, .slice none 0 0] 32)).alloc (.cells #[] 65)).cell? ⟨b, 1, none⟩ = some (.slice A1 n1 c1) := cell_next (w1 := ((v9.alloc (.cells #[.slice none 0 0, .slice none 0 0, .slice none 0 0, .slice none 0 0] 32)).alloc (.cells #[] 65))) (show (v9.alloc (.cells #[.slice none 0 0, .slice none 0 0, .slice none 0 0, .slice none 0 0] 32)).cell? _ = _ from q135) (bnew (v9.alloc (.cells #[.slice none 0 0, .slice none 0 0, .slice none 0 0, .slice none 0 0] 32)) (.cells #[] 65))
          have q146 : ((v9.alloc (.cells #[.slice none 0 0, .slice none 0 0, .slice none 0 0, .slice none 0 0] 32)).alloc (.cells #[] 65)).cell? ⟨b, 2, none⟩ = some (.slice A2 n2 c2) := cell_next (w1 := ((v9.alloc (.cells #[.slice none 0 0, .slice none 0 0, .slice none 0 0, .slice none 0 0] 32)).alloc (.cells #[] 65))) (show (v9.alloc (.cells #[.slice none 0 0, .slice none 0 0, .slice none 0 0, .slice none 0 0] 32)).cell? _ = _ from q136) (bnew (v9.alloc (.cells #[.slice none 0 0, .slice none 0 0, .slice none 0 0, .slice none 0 0] 32)) (.cells #[] 65))
          have k147 : ((v9.alloc (.cells #[.slice none 0 0, .slice none 0 0, .slice none 0 0, .slice none 0 0] 32)).alloc (.cells #[] 65)).ownsRow (v9.heap.size + 1) 65 2 (.slice (some ⟨v9.heap.size + 1, 0, none⟩) 0 0) 0 [] := by have h := own_empty2 (v9.alloc (.cells #[.slice none 0 0, .slice none 0 0, .slice none 0 0, .slice none 0 0] 32)) 65; rw [show (v9.alloc (.cells #[.slice none 0 0, .slice none 0 0, .slice none 0 0, .slice none 0 0] 32)).heap.size = v9.heap.size + 1 from by simp] at h; exact h
          have g148 : W.heap.size ≤ (v9.heap.size + 1) := by have := (bstep (bl131)).size; simp at this; omega
          refine hK.out _ _ ⟨q144, q145, q146⟩ (fun hHeld149 => ?_)
          clear hK K hHeld139
          set_option linter.unusedSimpArgs false in try simp only [Act.put, List.getElem_toArray, List.getElem_cons_succ, List.getElem_cons_zero, List.setIfInBounds_toArray, List.set_cons_zero, List.set_cons_succ]
          refine wpAnyH_ready (rs := [15]) (by kernel_rfl) (by simp) ?_
          refine AllReadyH.cons rfl (fun K hK => ?_) (AllReadyH.nil)
          refine Eq.mpr (if_pos (by kernel_rfl)) ?_
          obtain ⟨RA156, rc157, v150, e151, r152, gr158⟩ := app_csG (A := A2) (c := c2) k147 (H2.out.next (bstep (bl140)) (by omega)) (Nat.le_of_lt (k147.lt _ rfl).2) (by omega)
          have bl159 : Below W.drew.heap.size W.drew v150 := (bl140).grown gr158 (bl140).size (fun j hj => Nat.le_trans g148 (k147.lt j hj).1)
          have k160 := k141.kept gr158 (own_noI k147)
          have k161 := k142.kept gr158 (own_noI k147)
          have k162 := box_app k143 k147 gr158
          have q164 := cell_on p0 bl159
          have q165 := cell_on p1 bl159
          have q166 := cell_on p2 bl159
          refine wp_app_run _ _ 29 rfl (.slice (some ⟨v9.heap.size + 1, 0, none⟩) 0 0) (.slice A2 n2 c2) rfl rfl (.slice RA156 n2 rc157) v150 e151 ?_
          clear e151
          refine hK.out _ _ ⟨q164, q165, q166⟩ (fun hHeld167 => ?_)
          clear hK K hHeld149
          set_option linter.unusedSimpArgs false in try simp only [Act.put, List.getElem_toArray, List.getElem_cons_succ, List.getElem_cons_zero, List.setIfInBounds_toArray, List.set_cons_zero, List.set_cons_succ]
          refine wpAnyH_take (i := 16) (v := ?_) rfl (by kernel_rfl) (by kernel_rfl) (by kernel_rfl) (fun _ _ _ h => h) (Or.inl ⟨by kernel_rfl, ?_⟩) (by assumption) ?_
          rotate_left
          · intro w9 hS9; (try dsimp only at hS9); go_simp; (try with_reducible rfl)
          set_option linter.unusedSimpArgs false in try simp only [Act.put, List.getElem_toArray, List.getElem_cons_succ, List.getElem_cons_zero, List.setIfInBounds_toArray, List.set_cons_zero, List.set_cons_succ]
          have z0 := k162.cell 0
          have f0 := k162.frozen 0
          have z1 := k162.cell 1
          have f1 := k162.frozen 1
          have z2 := k162.cell 2
          have f2 := k162.frozen 2
          have z3 := k162.cell 3
          have f3 := k162.frozen 3
          simp at z0 z1 z2 z3
          have bx168 := k162.set 0 (.slice B0 n0 d0)
          have k169 := k160.set4 k162 0 (.slice B0 n0 d0)
          have k170 := k161.set4 k162 0 (.slice B0 n0 d0)
          have k171 := row_set4 r152 k162 0 (.slice B0 n0 d0)
          have bl172 := Below.setCell (p := ⟨(v9.heap.size), 0, none⟩) (bl159) g138 (.slice B0 n0 d0)
          have bx173 := bx168.set 1 (.slice B1 n1 d1)
          have k174 := k169.set4 bx168 1 (.slice B1 n1 d1)
          have k175 := k170.set4 bx168 1 (.slice B1 n1 d1)
          have k176 := row_set4 k171 bx168 1 (.slice B1 n1 d1)
          have bl177 := Below.setCell (p := ⟨(v9.heap.size), 1, none⟩) (bl172) g138 (.slice B1 n1 d1)
          have bx178 := bx173.set 2 ((.slice RA156 n2 rc157))
          have k179 := k174.set4 bx173 2 ((.slice RA156 n2 rc157))
          have k180 := k175.set4 bx173 2 ((.slice RA156 n2 rc157))
          have k181 := row_set4 k176 bx173 2 ((.slice RA156 n2 rc157))
          have bl182 := Below.setCell (p := ⟨(v9.heap.size), 2, none⟩) (bl177) g138 ((.slice RA156 n2 rc157))
          have bx183 := bx178.set 3 (.slice none 0 0)
          have k184 := k179.set4 bx178 3 (.slice none 0 0)
          have k185 := k180.set4 bx178 3 (.slice none 0 0)
          have k186 := row_set4 k181 bx178 3 (.slice none 0 0)
          have bl187 := Below.setCell (p := ⟨(v9.heap.size), 3, none⟩) (bl182) g138 (.slice none 0 0)
          simp at bx183
          have q188 := cell_on p0 bl187
          have q189 := cell_on p1 bl187
          have q190 := cell_on p2 bl187
          refine wpAnyH_ready (rs := [18]) (by kernel_rfl) (by simp) ?_
          refine AllReadyH.cons rfl (fun K hK => ?_) AllReadyH.nil
          go_simp
          refine hK.out _ _ ⟨q188, q189, q190⟩ (fun hHeld191 => ?_)
          clear hK K hHeld167
          set_option linter.unusedSimpArgs false in try simp only [Act.put, List.getElem_toArray, List.getElem_cons_succ, List.getElem_cons_zero, List.setIfInBounds_toArray, List.set_cons_zero, List.set_cons_succ]
          refine wpAnyH_done (by kernel_rfl) ?_ _
          go_wp2_with fail
          go_meet
          exact ⟨_, _, _, _, _, _, _, rfl, g138, bx183, k184, k185, own_less k186 g148, bstep bl187⟩
      · go_simp
        have bl192 : Below W.drew.heap.size W.drew (v1.alloc (.cells #[] 65)) := bon (bl7) (bnew v1 (.cells #[] 65))
        have k193 := t3.next (bnew v1 (.cells #[] 65))
        have q194 : (v1.alloc (.cells #[] 65)).cell? ⟨b, 0, none⟩ = some (.slice A0 n0 c0) := cell_next (w1 := (v1.alloc (.cells #[] 65))) (show v1.cell? _ = _ from q4) (bnew v1 (.cells #[] 65))
        have q195 : (v1.alloc (.cells #[] 65)).cell? ⟨b, 1, none⟩ = some (.slice A1 n1 c1) := cell_next (w1 := (v1.alloc (.cells #[] 65))) (show v1.cell? _ = _ from q5) (bnew v1 (.cells #[] 65))
        have q196 : (v1.alloc (.cells #[] 65)).cell? ⟨b, 2, none⟩ = some (.slice A2 n2 c2) := cell_next (w1 := (v1.alloc (.cells #[] 65))) (show v1.cell? _ = _ from q6) (bnew v1 (.cells #[] 65))
        have k197 : (v1.alloc (.cells #[] 65)).ownsRow (v1.heap.size) 65 2 (.slice (some ⟨v1.heap.size, 0, none⟩) 0 0) 0 [] := own_empty2 v1 65
        have g198 : W.heap.size ≤ (v1.heap.size) := (bstep (bl7)).size
        refine hK.out _ _ ⟨q194, q195, q196⟩ (fun hHeld199 => ?_)
        clear hK K hHeld8
        set_option linter.unusedSimpArgs false in try simp only [Act.put, List.getElem_toArray, List.getElem_cons_succ, List.getElem_cons_zero, List.setIfInBounds_toArray, List.set_cons_zero, List.set_cons_succ]
        refine wpAnyH_ready (rs := [9, 17]) (by kernel_rfl) (by simp) ?_
        refine AllReadyH.cons rfl (fun K hK => ?_) (AllReadyH.cons rfl (fun K hK => ?_) (AllReadyH.nil))
        · go_simp
          go_wp2_with (go_at_call 75; refine (HT1.out _ (bl192)).mono ?_; rintro e v200 ⟨B1, d1, rfl, t202, hb201⟩)
          have k203 := k193.next hb201
          have k204 := own_below k197 hb201
          have q205 := cell_next q194 hb201
          have q206 := cell_next q195 hb201
          have q207 := cell_next q196 hb201
          have bl208 := bon (bl192) hb201
          refine hK.out _ _ ⟨q205, q206, q207⟩ (fun hHeld209 => ?_)
          clear hK K hHeld199
          set_option linter.unusedSimpArgs false in try simp only [Act.put, List.getElem_toArray, List.getElem_cons_succ, List.getElem_cons_zero, List.setIfInBounds_toArray, List.set_cons_zero, List.set_cons_succ]
          refine wpAnyH_ready (rs := [15, 17]) (by kernel_rfl) (by simp) ?_
          refine AllReadyH.cons rfl (fun K hK => ?_) (AllReadyH.cons rfl (fun K hK => ?_) (AllReadyH.nil))
          · refine Eq.mpr (if_pos (by kernel_rfl)) ?_
            obtain ⟨RA216, rc217, v210, e211, r212, gr218⟩ := app_csG (A := A2) (c := c2) k204 (H2.out.next (bstep (bl208)) (by omega)) (Nat.le_of_lt (k204.lt _ rfl).2) (by omega)
            have bl219 : Below W.drew.heap.size W.drew v210 := (bl208).grown gr218 (bl208).size (fun j hj => Nat.le_trans g198 (k204.lt j hj).1)
            have k220 := k203.kept gr218 (own_noI k204)
            have k222 := t202.kept gr218 (own_noI k204)
            have q223 := cell_on p0 bl219
            have q224 := cell_on p1 bl219
            have q225 := cell_on p2 bl219
            refine wp_app_run _ _ 29 rfl (.slice (some ⟨v1.heap.size, 0, none⟩) 0 0) (.slice A2 n2 c2) rfl rfl (.slice RA216 n2 rc217) v210 e211 ?_
            clear e211
            refine hK.out _ _ ⟨q223, q224, q225⟩ (fun hHeld226 => ?_)
            clear hK K hHeld209
            set_option linter.unusedSimpArgs false in try simp only [Act.put, List.getElem_toArray, List.getElem_cons_succ, List.getElem_cons_zero, List.setIfInBounds_toArray, List.set_cons_zero, List.set_cons_succ]
            refine wpAnyH_take (i := 16) (v := ?_) rfl (by kernel_rfl) (by kernel_rfl) (by kernel_rfl) (fun _ _ _ h => h) (Or.inl ⟨by kernel_rfl, ?_⟩) (by assumption) ?_
            rotate_left
            · intro w9 hS9; (try dsimp only at hS9); go_simp; (try with_reducible rfl)
            set_option linter.unusedSimpArgs false in try simp only [Act.put, List.getElem_toArray, List.getElem_cons_succ, List.getElem_cons_zero, List.setIfInBounds_toArray, List.set_cons_zero, List.set_cons_succ]
            refine wpAnyH_ready (rs := [17]) (by kernel_rfl) (by simp) ?_
            refine AllReadyH.cons rfl (fun K hK => ?_) (AllReadyH.nil)
            go_simp
            have bl227 : Below W.drew.heap.size W.drew (v210.alloc (.cells #[.slice none 0 0, .slice none 0 0, .slice none 0 0, .slice none 0 0] 32)) := bon (bl219) (bnew v210 (.cells #[.slice none 0 0, .slice none 0 0, .slice none 0 0, .slice none 0 0] 32))
            have k228 := k220.next (bnew v210 (.cells #[.slice none 0 0, .slice none 0 0, .slice none 0 0, .slice none 0 0] 32))
            have k229 := k222.next (bnew v210 (.cells #[.slice none 0 0, .slice none 0 0, .slice none 0 0, .slice none 0 0] 32))
            have k230 : (v210.alloc (.cells #[.slice none 0 0, .slice none 0 0, .slice none 0 0, .slice none 0 0] 32)).ownsRow (v1.heap.size) 65 2 (.slice RA216 n2 rc217) n2 (flatC t2) := own_below (w := v210) (w' := (v210.alloc (.cells #[.slice none 0 0, .slice none 0 0, .slice none 0 0, .slice none 0 0] 32))) r212 (bnew v210 (.cells #[.slice none 0 0, .slice none 0 0, .slice none 0 0, .slice none 0 0] 32))
            have q231 : (v210.alloc (.cells #[.slice none 0 0, .slice none 0 0, .slice none 0 0, .slice none 0 0] 32)).cell? ⟨b, 0, none⟩ = some (.slice A0 n0 c0) := cell_next (w1 := (v210.alloc (.cells #[.slice none 0 0, .slice none 0 0, .slice none 0 0, .slice none 0 0] 32))) (show v210.cell? _ = _ from q223) (bnew v210 (.cells #[.slice none 0 0, .slice none 0 0, .slice none 0 0, .slice none 0 0] 32))
            have q232 : (v210.alloc (.cells #[.slice none 0 0, .slice none 0 0, .slice none 0 0, .slice none 0 0] 32)).cell? ⟨b, 1, none⟩ = some (.slice A1 n1 c1) := cell_next (w1 := (v210.alloc (.cells #[.slice none 0 0, .slice none 0 0, .slice none 0 0, .slice none 0 0] 32))) (show v210.cell? _ = _ from q224) (bnew v210 (.cells #[.slice none 0 0, .slice none 0 0, .slice none 0 0, .slice none 0 0] 32))
            have q233 : (v210.alloc (.cells #[.slice none 0 0, .slice none 0 0, .slice none 0 0, .slice none 0 0] 32)).cell? ⟨b, 2, none⟩ = some (.slice A2 n2 c2) := cell_next (w1 := (v210.alloc (.cells #[.slice none 0 0, .slice none 0 0, .slice none 0 0, .slice none 0 0] 32))) (show v210.cell? _ = _ from q225) (bnew v210 (.cells #[.slice none 0 0, .slice none 0 0, .slice none 0 0, .slice none 0 0] 32))
            have k234 : BlkIs (v210.alloc (.cells #[.slice none 0 0, .slice none 0 0, .slice none 0 0, .slice none 0 0] 32)) (v210.heap.size) 32 #[.slice none 0 0, .slice none 0 0, .slice none 0 0, .slice none 0 0] := (show BlkIs (v210.alloc (.cells #[.slice none 0 0, .slice none 0 0, .slice none 0 0, .slice none 0 0] 32)) _ _ _ from blk_new _ _ _ _ (by simp))
            have g235 : W.heap.size ≤ (v210.heap.size) := (bstep (bl219)).size
            generalize (v210.alloc (.cells #[.slice none 0 0, .slice none 0 0, .slice none 0 0, .slice none 0 0] 32)) = V236 at bl227 k228 k229 k230 k234 q231 q232 q233 ⊢
            refine hK.out _ _ ⟨q231, q232, q233⟩ (fun hHeld237 => ?_)
            clear hK K hHeld226
            set_option linter.unusedSimpArgs false in try simp only [Act.put, List.getElem_toArray, List.getElem_cons_succ, List.getElem_cons_zero, List.setIfInBounds_toArray, List.set_cons_zero, List.set_cons_succ]
            have z0 := k234.cell 0
            have f0 := k234.frozen 0
            have z1 := k234.cell 1
            have f1 := k234.frozen 1
            have z2 := k234.cell 2
            have f2 := k234.frozen 2
            have z3 := k234.cell 3
            have f3 := k234.frozen 3
            simp at z0 z1 z2 z3
            have bx238 := k234.set 0 (.slice B0 n0 d0)
            have k239 := k228.set4 k234 0 (.slice B0 n0 d0)
            have k240 := k229.set4 k234 0 (.slice B0 n0 d0)
            have k241 := row_set4 k230 k234 0 (.slice B0 n0 d0)
            have bl242 := Below.setCell (p := ⟨(v210.heap.size), 0, none⟩) (bl227) g235 (.slice B0 n0 d0)
            have bx243 := bx238.set 1 (.slice B1 n1 d1)
            have k244 := k239.set4 bx238 1 (.slice B1 n1 d1)
            have k245 := k240.set4 bx238 1 (.slice B1 n1 d1)
            have k246 := row_set4 k241 bx238 1 (.slice B1 n1 d1)
            have bl247 := Below.setCell (p := ⟨(v210.heap.size), 1, none⟩) (bl242) g235 (.slice B1 n1 d1)
            have bx248 := bx243.set 2 ((.slice RA216 n2 rc217))
            have k249 := k244.set4 bx243 2 ((.slice RA216 n2 rc217))
            have k250 := k245.set4 bx243 2 ((.slice RA216 n2 rc217))
            have k251 := row_set4 k246 bx243 2 ((.slice RA216 n2 rc217))
            have bl252 := Below.setCell (p := ⟨(v210.heap.size), 2, none⟩) (bl247) g235 ((.slice RA216 n2 rc217))
            have bx253 := bx248.set 3 (.slice none 0 0)
            have k254 := k249.set4 bx248 3 (.slice none 0 0)
            have k255 := k250.set4 bx248 3 (.slice none 0 0)
            have k256 := row_set4 k251 bx248 3 (.slice none 0 0)
            have bl257 := Below.setCell (p := ⟨(v210.heap.size), 3, none⟩) (bl252) g235 (.slice none 0 0)
            simp at bx253
            have q258 := cell_on p0 bl257
            have q259 := cell_on p1 bl257
            have q260 := cell_on p2 bl257
            refine wpAnyH_ready (rs := [18]) (by kernel_rfl) (by simp) ?_
            refine AllReadyH.cons rfl (fun K hK => ?_) AllReadyH.nil
            go_simp
            refine hK.out _ _ ⟨q258, q259, q260⟩ (fun hHeld261 => ?_)
            clear hK K hHeld237
            set_option linter.unusedSimpArgs false in try simp only [Act.put, List.getElem_toArray, List.getElem_cons_succ, List.getElem_cons_zero, List.setIfInBounds_toArray, List.set_cons_zero, List.set_cons_succ]
            refine wpAnyH_done (by kernel_rfl) ?_ _
            go_wp2_with fail
            go_meet
            exact ⟨_, _, _, _, _, _, _, rfl, g235, bx253, k254, k255, own_less k256 g198, bstep bl257⟩
          · go_simp
            have bl262 : Below W.drew.heap.size W.drew (v200.alloc (.cells #[.slice none 0 0, .slice none 0 0, .slice none 0 0, .slice none 0 0] 32)) := bon (bl208) (bnew v200 (.cells #[.slice none 0 0, .slice none 0 0, .slice none 0 0, .slice none 0 0] 32))
            have k263 := k203.next (bnew v200 (.cells #[.slice none 0 0, .slice none 0 0, .slice none 0 0, .slice none 0 0] 32))
            have k264 : (v200.alloc (.cells #[.slice none 0 0, .slice none 0 0, .slice none 0 0, .slice none 0 0] 32)).ownsRow (v1.heap.size) 65 2 (.slice (some ⟨v1.heap.size, 0, none⟩) 0 0) 0 [] := own_below (w := v200) (w' := (v200.alloc (.cells #[.slice none 0 0, .slice none 0 0, .slice none 0 0, .slice none 0 0] 32))) k204 (bnew v200 (.cells #[.slice none 0 0, .slice none 0 0, .slice none 0 0, .slice none 0 0] 32))
            have k265 := t202.next (bnew v200 (.cells #[.slice none 0 0, .slice none 0 0, .slice none 0 0, .slice none 0 0] 32))
            have q266 : (v200.alloc (.cells #[.slice none 0 0, .slice none 0 0, .slice none 0 0, .slice none 0 0] 32)).cell? ⟨b, 0, none⟩ = some (.slice A0 n0 c0) := cell_next (w1 := (v200.alloc (.cells #[.slice none 0 0, .slice none 0 0, .slice none 0 0, .slice none 0 0] 32))) (show v200.cell? _ = _ from q205) (bnew v200 (.cells #[.slice none 0 0, .slice none 0 0, .slice none 0 0, .slice none 0 0] 32))
            have q267 : (v200.alloc (.cells #[.slice none 0 0, .slice none 0 0, .slice none 0 0, .slice none 0 0] 32)).cell? ⟨b, 1, none⟩ = some (.slice A1 n1 c1) := cell_next (w1 := (v200.alloc (.cells #[.slice none 0 0, .slice none 0 0, .slice none 0 0, .slice none 0 0] 32))) (show v200.cell? _ = _ from q206) (bnew v200 (.cells #[.slice none 0 0, .slice none 0 0, .slice none 0 0, .slice none 0 0] 32))
            have q268 : (v200.alloc (.cells #[.slice none 0 0, .slice none 0 0, .slice none 0 0, .slice none 0 0] 32)).cell? ⟨b, 2, none⟩ = some (.slice A2 n2 c2) := cell_next (w1 := (v200.alloc (.cells #[.slice none 0 0, .slice none 0 0, .slice none 0 0, .slice none 0 0] 32))) (show v200.cell? _ = _ from q207) (bnew v200 (.cells #[.slice none 0 0, .slice none 0 0, .slice none 0 0, .slice none 0 0] 32))
            have k269 : BlkIs (v200.alloc (.cells #[.slice none 0 0, .slice none 0 0, .slice none 0 0, .slice none 0 0] 32)) (v200.heap.size) 32 #[.slice none 0 0, .slice none 0 0, .slice none 0 0, .slice none 0 0] := (show BlkIs (v200.alloc (.cells #[.slice none 0 0, .slice none 0 0, .slice none 0 0, .slice none 0 0] 32)) _ _ _ from blk_new _ _ _ _ (by simp))
            have g270 : W.heap.size ≤ (v200.heap.size) := (bstep (bl208)).size
            refine hK.out _ _ ⟨q266, q267, q268⟩ (fun hHeld271 => ?_)
            clear hK K hHeld209
            set_option linter.unusedSimpArgs false in try simp only [Act.put, List.getElem_toArray, List.getElem_cons_succ, List.getElem_cons_zero, List.setIfInBounds_toArray, List.set_cons_zero, List.set_cons_succ]
            refine wpAnyH_ready (rs := [15]) (by kernel_rfl) (by simp) ?_
            refine AllReadyH.cons rfl (fun K hK => ?_) (AllReadyH.nil)
            refine Eq.mpr (if_pos (by kernel_rfl)) ?_
            obtain ⟨RA278, rc279, v272, e273, r274, gr280⟩ := app_csG (A := A2) (c := c2) k264 (H2.out.next (bstep (bl262)) (by omega)) (Nat.le_of_lt (k264.lt _ rfl).2) (by omega)
            have bl281 : Below W.drew.heap.size W.drew v272 := (bl262).grown gr280 (bl262).size (fun j hj => Nat.le_trans g198 (k264.lt j hj).1)
            have k282 := k263.kept gr280 (own_noI k264)
            have k284 := k265.kept gr280 (own_noI k264)
            have k285 := box_app k269 k264 gr280
            have q286 := cell_on p0 bl281
            have q287 := cell_on p1 bl281
            have q288 := cell_on p2 bl281
            refine wp_app_run _ _ 29 rfl (.slice (some ⟨v1.heap.size, 0, none⟩) 0 0) (.slice A2 n2 c2) rfl rfl (.slice RA278 n2 rc279) v272 e273 ?_
            clear e273
            refine hK.out _ _ ⟨q286, q287, q288⟩ (fun hHeld289 => ?_)
            clear hK K hHeld271
            set_option linter.unusedSimpArgs false in try simp only [Act.put, List.getElem_toArray, List.getElem_cons_succ, List.getElem_cons_zero, List.setIfInBounds_toArray, List.set_cons_zero, List.set_cons_succ]
            refine wpAnyH_take (i := 16) (v := ?_) rfl (by kernel_rfl) (by kernel_rfl) (by kernel_rfl) (fun _ _ _ h => h) (Or.inl ⟨by kernel_rfl, ?_⟩) (by assumption) ?_
            rotate_left
            · intro w9 hS9; (try dsimp only at hS9); go_simp; (try with_reducible rfl)
            set_option linter.unusedSimpArgs false in try simp only [Act.put, List.getElem_toArray, List.getElem_cons_succ, List.getElem_cons_zero, List.setIfInBounds_toArray, List.set_cons_zero, List.set_cons_succ]
            have z0 := k285.cell 0
            have f0 := k285.frozen 0
            have z1 := k285.cell 1
            have f1 := k285.frozen 1
            have z2 := k285.cell 2
            have f2 := k285.frozen 2
            have z3 := k285.cell 3
            have f3 := k285.frozen 3
            simp at z0 z1 z2 z3
            have bx290 := k285.set 0 (.slice B0 n0 d0)
            have k291 := k282.set4 k285 0 (.slice B0 n0 d0)
            have k292 := k284.set4 k285 0 (.slice B0 n0 d0)
            have k293 := row_set4 r274 k285 0 (.slice B0 n0 d0)
            have bl294 := Below.setCell (p := ⟨(v200.heap.size), 0, none⟩) (bl281) g270 (.slice B0 n0 d0)
            have bx295 := bx290.set 1 (.slice B1 n1 d1)
            have k296 := k291.set4 bx290 1 (.slice B1 n1 d1)
            have k297 := k292.set4 bx290 1 (.slice B1 n1 d1)
            have k298 := row_set4 k293 bx290 1 (.slice B1 n1 d1)
            have bl299 := Below.setCell (p := ⟨(v200.heap.size), 1, none⟩) (bl294) g270 (.slice B1 n1 d1)
            have bx300 := bx295.set 2 ((.slice RA278 n2 rc279))
            have k301 := k296.set4 bx295 2 ((.slice RA278 n2 rc279))
            have k302 := k297.set4 bx295 2 ((.slice RA278 n2 rc279))
            have k303 := row_set4 k298 bx295 2 ((.slice RA278 n2 rc279))
            have bl304 := Below.setCell (p := ⟨(v200.heap.size), 2, none⟩) (bl299) g270 ((.slice RA278 n2 rc279))
            have bx305 := bx300.set 3 (.slice none 0 0)
            have k306 := k301.set4 bx300 3 (.slice none 0 0)
            have k307 := k302.set4 bx300 3 (.slice none 0 0)
            have k308 := row_set4 k303 bx300 3 (.slice none 0 0)
            have bl309 := Below.setCell (p := ⟨(v200.heap.size), 3, none⟩) (bl304) g270 (.slice none 0 0)
            simp at bx305
            have q310 := cell_on p0 bl309
            have q311 := cell_on p1 bl309
            have q312 := cell_on p2 bl309
            refine wpAnyH_ready (rs := [18]) (by kernel_rfl) (by simp) ?_
            refine AllReadyH.cons rfl (fun K hK => ?_) AllReadyH.nil
            go_simp
            refine hK.out _ _ ⟨q310, q311, q312⟩ (fun hHeld313 => ?_)
            clear hK K hHeld289
            set_option linter.unusedSimpArgs false in try simp only [Act.put, List.getElem_toArray, List.getElem_cons_succ, List.getElem_cons_zero, List.setIfInBounds_toArray, List.set_cons_zero, List.set_cons_succ]
            refine wpAnyH_done (by kernel_rfl) ?_ _
            go_wp2_with fail
            go_meet
            exact ⟨_, _, _, _, _, _, _, rfl, g270, bx305, k306, k307, own_less k308 g198, bstep bl309⟩
        · go_simp
          have bl314 : Below W.drew.heap.size W.drew ((v1.alloc (.cells #[] 65)).alloc (.cells #[.slice none 0 0, .slice none 0 0, .slice none 0 0, .slice none 0 0] 32)) := bon (bl192) (bnew (v1.alloc (.cells #[] 65)) (.cells #[.slice none 0 0, .slice none 0 0, .slice none 0 0, .slice none 0 0] 32))
          have k315 := k193.next (bnew (v1.alloc (.cells #[] 65)) (.cells #[.slice none 0 0, .slice none 0 0, .slice none 0 0, .slice none 0 0] 32))
          have k316 : ((v1.alloc (.cells #[] 65)).alloc (.cells #[.slice none 0 0, .slice none 0 0, .slice none 0 0, .slice none 0 0] 32)).ownsRow (v1.heap.size) 65 2 (.slice (some ⟨v1.heap.size, 0, none⟩) 0 0) 0 [] := own_below (w := (v1.alloc (.cells #[] 65))) (w' := ((v1.alloc (.cells #[] 65)).alloc (.cells #[.slice none 0 0, .slice none 0 0, .slice none 0 0, .slice none 0 0] 32))) k197 (bnew (v1.alloc (.cells #[] 65)) (.cells #[.slice none 0 0, .slice none 0 0, .slice none 0 0, .slice none 0 0] 32))
          have q317 : ((v1.alloc (.cells #[] 65)).alloc (.cells #[.slice none 0 0, .slice none 0 0, .slice none 0 0, .slice none 0 0] 32)).cell? ⟨b, 0, none⟩ = some (.slice A0 n0 c0) := cell_next (w1 := ((v1.alloc (.cells #[] 65)).alloc (.cells #[.slice none 0 0, .slice none 0 0, .slice none 0 0, .slice none 0 0] 32))) (show (v1.alloc (.cells #[] 65)).cell? _ = _ from q194) (bnew (v1.alloc (.cells #[] 65)) (.cells #[.slice none 0 0, .slice none 0 0, .slice none 0 0, .slice none 0 0] 32))
          have q318 : ((v1.alloc (.cells #[] 65)).alloc (.cells #[.slice none 0 0, .slice none 0 0, .slice none 0 0, .slice none 0 0] 32)).cell? ⟨b, 1, none⟩ = some (.slice A1 n1 c1) := cell_next (w1 := ((v1.alloc (.cells #[] 65)).alloc (.cells #[.slice none 0 0, .slice none 0 0, .slice none 0 0, .slice none 0 0] 32))) (show (v1.alloc (.cells #[] 65)).cell? _ = _ from q195) (bnew (v1.alloc (.cells #[] 65)) (.cells #[.slice none 0 0, .slice none 0 0, .slice none 0 0, .slice none 0 0] 32))
          have q319 : ((v1.alloc (.cells #[] 65)).alloc (.cells #[.slice none 0 0, .slice none 0 0, .slice none 0 0, .slice none 0 0] 32)).cell? ⟨b, 2, none⟩ = some (.slice A2 n2 c2) := cell_next (w1 := ((v1.alloc (.cells #[] 65)).alloc (.cells #[.slice none 0 0, .slice none 0 0, .slice none 0 0, .slice none 0 0] 32))) (show (v1.alloc (.cells #[] 65)).cell? _ = _ from q196) (bnew (v1.alloc (.cells #[] 65)) (.cells #[.slice none 0 0, .slice none 0 0, .slice none 0 0, .slice none 0 0] 32))
          have k320 : BlkIs ((v1.alloc (.cells #[] 65)).alloc (.cells #[.slice none 0 0, .slice none 0 0, .slice none 0 0, .slice none 0 0] 32)) (v1.heap.size + 1) 32 #[.slice none 0 0, .slice none 0 0, .slice none 0 0, .slice none 0 0] := (show BlkIs ((v1.alloc (.cells #[] 65)).alloc (.cells #[.slice none 0 0, .slice none 0 0, .slice none 0 0, .slice none 0 0] 32)) _ _ _ from blk_new _ _ _ _ (by simp))
          have g321 : W.heap.size ≤ (v1.heap.size + 1) := by have := (bstep (bl192)).size; simp at this; omega
          refine hK.out _ _ ⟨q317, q318, q319⟩ (fun hHeld322 => ?_)
          clear hK K hHeld199
          set_option linter.unusedSimpArgs false in try simp only [Act.put, List.getElem_toArray, List.getElem_cons_succ, List.getElem_cons_zero, List.setIfInBounds_toArray, List.set_cons_zero, List.set_cons_succ]
          refine wpAnyH_ready (rs := [9]) (by kernel_rfl) (by simp) ?_
          refine AllReadyH.cons rfl (fun K hK => ?_) (AllReadyH.nil)
          go_simp
          go_wp2_with (go_at_call 75; refine (HT1.out _ (bl314)).mono ?_; rintro e v323 ⟨B1, d1, rfl, t325, hb324⟩)
          have k326 := k315.next hb324
          have k327 := own_below k316 hb324
          have k328 := k320.next hb324
          have q329 := cell_next q317 hb324
          have q330 := cell_next q318 hb324
          have q331 := cell_next q319 hb324
          have bl332 := bon (bl314) hb324
          refine hK.out _ _ ⟨q329, q330, q331⟩ (fun hHeld333 => ?_)
          clear hK K hHeld322
          set_option linter.unusedSimpArgs false in try simp only [Act.put, List.getElem_toArray, List.getElem_cons_succ, List.getElem_cons_zero, List.setIfInBounds_toArray, List.set_cons_zero, List.set_cons_succ]
          refine wpAnyH_ready (rs := [15]) (by kernel_rfl) (by simp) ?_
          refine AllReadyH.cons rfl (fun K hK => ?_) (AllReadyH.nil)
          refine Eq.mpr (if_pos (by kernel_rfl)) ?_
          obtain ⟨RA340, rc341, v334, e335, r336, gr342⟩ := app_csG (A := A2) (c := c2) k327 (H2.out.next (bstep (bl332)) (by omega)) (Nat.le_of_lt (k327.lt _ rfl).2) (by omega)
          have bl343 : Below W.drew.heap.size W.drew v334 := (bl332).grown gr342 (bl332).size (fun j hj => Nat.le_trans g198 (k327.lt j hj).1)
          have k344 := k326.kept gr342 (own_noI k327)
          have k346 := box_app k328 k327 gr342
          have k347 := t325.kept gr342 (own_noI k327)
          have q348 := cell_on p0 bl343
          have q349 := cell_on p1 bl343
          have q350 := cell_on p2 bl343
          refine wp_app_run _ _ 29 rfl (.slice (some ⟨v1.heap.size, 0, none⟩) 0 0) (.slice A2 n2 c2) rfl rfl (.slice RA340 n2 rc341) v334 e335 ?_
          clear e335
          refine hK.out _ _ ⟨q348, q349, q350⟩ (fun hHeld351 => ?_)
          clear hK K hHeld333
          set_option linter.unusedSimpArgs false in try simp only [Act.put, List.getElem_toArray, List.getElem_cons_succ, List.getElem_cons_zero, List.setIfInBounds_toArray, List.set_cons_zero, List.set_cons_succ]
          refine wpAnyH_take (i := 16) (v := ?_) rfl (by kernel_rfl) (by kernel_rfl) (by kernel_rfl) (fun _ _ _ h => h) (Or.inl ⟨by kernel_rfl, ?_⟩) (by assumption) ?_
          rotate_left
          · intro w9 hS9; (try dsimp only at hS9); go_simp; (try with_reducible rfl)
          set_option linter.unusedSimpArgs false in try simp only [Act.put, List.getElem_toArray, List.getElem_cons_succ, List.getElem_cons_zero, List.setIfInBounds_toArray, List.set_cons_zero, List.set_cons_succ]
          have z0 := k346.cell 0
          have f0 := k346.frozen 0
          have z1 := k346.cell 1
          have f1 := k346.frozen 1
          have z2 := k346.cell 2
          have f2 := k346.frozen 2
          have z3 := k346.cell 3
          have f3 := k346.frozen 3
          simp at z0 z1 z2 z3
          have bx352 := k346.set 0 (.slice B0 n0 d0)
          have k353 := k344.set4 k346 0 (.slice B0 n0 d0)
          have k354 := k347.set4 k346 0 (.slice B0 n0 d0)
          have k355 := row_set4 r336 k346 0 (.slice B0 n0 d0)
          have bl356 := Below.setCell (p := ⟨(v1.heap.size + 1), 0, none⟩) (bl343) g321 (.slice B0 n0 d0)
          have bx357 := bx352.set 1 (.slice B1 n1 d1)
          have k358 := k353.set4 bx352 1 (.slice B1 n1 d1)
          have k359 := k354.set4 bx352 1 (.slice B1 n1 d1)
          have k360 := row_set4 k355 bx352 1 (.slice B1 n1 d1)
          have bl361 := Below.setCell (p := ⟨(v1.heap.size + 1), 1, none⟩) (bl356) g321 (.slice B1 n1 d1)
          have bx362 := bx357.set 2 ((.slice RA340 n2 rc341))
          have k363 := k358.set4 bx357 2 ((.slice RA340 n2 rc341))
          have k364 := k359.set4 bx357 2 ((.slice RA340 n2 rc341))
          have k365 := row_set4 k360 bx357 2 ((.slice RA340 n2 rc341))
          have bl366 := Below.setCell (p := ⟨(v1.heap.size + 1), 2, none⟩) (bl361) g321 ((.slice RA340 n2 rc341))
          have bx367 := bx362.set 3 (.slice none 0 0)
          have k368 := k363.set4 bx362 3 (.slice none 0 0)
          have k369 := k364.set4 bx362 3 (.slice none 0 0)
          have k370 := row_set4 k365 bx362 3 (.slice none 0 0)
          have bl371 := Below.setCell (p := ⟨(v1.heap.size + 1), 3, none⟩) (bl366) g321 (.slice none 0 0)
          simp at bx367
          have q372 := cell_on p0 bl371
          have q373 := cell_on p1 bl371
          have q374 := cell_on p2 bl371
          refine wpAnyH_ready (rs := [18]) (by kernel_rfl) (by simp) ?_
          refine AllReadyH.cons rfl (fun K hK => ?_) AllReadyH.nil
          go_simp
          refine hK.out _ _ ⟨q372, q373, q374⟩ (fun hHeld375 => ?_)
          clear hK K hHeld351
          set_option linter.unusedSimpArgs false in try simp only [Act.put, List.getElem_toArray, List.getElem_cons_succ, List.getElem_cons_zero, List.setIfInBounds_toArray, List.set_cons_zero, List.set_cons_succ]
          refine wpAnyH_done (by kernel_rfl) ?_ _
          go_wp2_with fail
          go_meet
          exact ⟨_, _, _, _, _, _, _, rfl, g321, bx367, k368, k369, own_less k370 g198, bstep bl371⟩
      · go_simp
        have bl376 : Below W.drew.heap.size W.drew (v1.alloc (.cells #[.slice none 0 0, .slice none 0 0, .slice none 0 0, .slice none 0 0] 32)) := bon (bl7) (bnew v1 (.cells #[.slice none 0 0, .slice none 0 0, .slice none 0 0, .slice none 0 0] 32))
        have k377 := t3.next (bnew v1 (.cells #[.slice none 0 0, .slice none 0 0, .slice none 0 0, .slice none 0 0] 32))
        have q378 : (v1.alloc (.cells #[.slice none 0 0, .slice none 0 0, .slice none 0 0, .slice none 0 0] 32)).cell? ⟨b, 0, none⟩ = some (.slice A0 n0 c0) := cell_next (w1 := (v1.alloc (.cells #[.slice none 0 0, .slice none 0 0, .slice none 0 0, .slice none 0 0] 32))) (show v1.cell? _ = _ from q4) (bnew v1 (.cells #[.slice none 0 0, .slice none 0 0, .slice none 0 0, .slice none 0 0] 32))
        have q379 : (v1.alloc (.cells #[.slice none 0 0, .slice none 0 0, .slice none 0 0, .slice none 0 0] 32)).cell? ⟨b, 1, none⟩ = some (.slice A1 n1 c1) := cell_next (w1 := (v1.alloc (.cells #[.slice none 0 0, .slice none 0 0, .slice none 0 0, .slice none 0 0] 32))) (show v1.cell? _ = _ from q5) (bnew v1 (.cells #[.slice none 0 0, .slice none 0 0, .slice none 0 0, .slice none 0 0] 32))
        have q380 : (v1.alloc (.cells #[.slice none 0 0, .slice none 0 0, .slice none 0 0, .slice none 0 0] 32)).cell? ⟨b, 2, none⟩ = some (.slice A2 n2 c2) := cell_next (w1 := (v1.alloc (.cells #[.slice none 0 0, .slice none 0 0, .slice none 0 0, .slice none 0 0] 32))) (show v1.cell? _ = _ from q6) (bnew v1 (.cells #[.slice none 0 0, .slice none 0 0, .slice none 0 0, .slice none 0 0] 32))
        have k381 : BlkIs (v1.alloc (.cells #[.slice none 0 0, .slice none 0 0, .slice none 0 0, .slice none 0 0] 32)) (v1.heap.size) 32 #[.slice none 0 0, .slice none 0 0, .slice none 0 0, .slice none 0 0] := (show BlkIs (v1.alloc (.cells #[.slice none 0 0, .slice none 0 0, .slice none 0 0, .slice none 0 0] 32)) _ _ _ from blk_new _ _ _ _ (by simp))
        have g382 : W.heap.size ≤ (v1.heap.size) := (bstep (bl7)).size
        refine hK.out _ _ ⟨q378, q379, q380⟩ (fun hHeld383 => ?_)
        clear hK K hHeld8
        set_option linter.unusedSimpArgs false in try simp only [Act.put, List.getElem_toArray, List.getElem_cons_succ, List.getElem_cons_zero, List.setIfInBounds_toArray, List.set_cons_zero, List.set_cons_succ]
        refine wpAnyH_ready (rs := [9, 10]) (by kernel_rfl) (by simp) ?_
        refine AllReadyH.cons rfl (fun K hK => ?_) (AllReadyH.cons rfl (fun K hK => ?_) (AllReadyH.nil))
        · go_simp
          go_wp2_with (go_at_call 75; refine (HT1.out _ (bl376)).mono ?_; rintro e v384 ⟨B1, d1, rfl, t386, hb385⟩)
          have k387 := k377.next hb385
          have k388 := k381.next hb385
          have q389 := cell_next q378 hb385
          have q390 := cell_next q379 hb385
          have q391 := cell_next q380 hb385
          have bl392 := bon (bl376) hb385
          refine hK.out _ _ ⟨q389, q390, q391⟩ (fun hHeld393 => ?_)
          clear hK K hHeld383
          set_option linter.unusedSimpArgs false in try simp only [Act.put, List.getElem_toArray, List.getElem_cons_succ, List.getElem_cons_zero, List.setIfInBounds_toArray, List.set_cons_zero, List.set_cons_succ]
          refine wpAnyH_ready (rs := [10]) (by kernel_rfl) (by simp) ?_
          refine AllReadyH.cons rfl (fun K hK => ?_) (AllReadyH.nil)
          go_simp
          have bl394 : Below W.drew.heap.size W.drew (v384.alloc (.cells #[] 65)) := bon (bl392) (bnew v384 (.cells #[] 65))
          have k395 := k387.next (bnew v384 (.cells #[] 65))
          have k396 : BlkIs (v384.alloc (.cells #[] 65)) (v1.heap.size) 32 #[.slice none 0 0, .slice none 0 0, .slice none 0 0, .slice none 0 0] := BlkIs.next (w := v384) (w' := (v384.alloc (.cells #[] 65))) k388 (bnew v384 (.cells #[] 65))
          have k397 := t386.next (bnew v384 (.cells #[] 65))
          have q398 : (v384.alloc (.cells #[] 65)).cell? ⟨b, 0, none⟩ = some (.slice A0 n0 c0) := cell_next (w1 := (v384.alloc (.cells #[] 65))) (show v384.cell? _ = _ from q389) (bnew v384 (.cells #[] 65))
          have q399 : (v384.alloc (.cells #[] 65)).cell? ⟨b, 1, none⟩ = some (.slice A1 n1 c1) := cell_next (w1 := (v384.alloc (.cells #[] 65))) (show v384.cell? _ = _ from q390) (bnew v384 (.cells #[] 65))
          have q400 : (v384.alloc (.cells #[] 65)).cell? ⟨b, 2, none⟩ = some (.slice A2 n2 c2) := cell_next (w1 := (v384.alloc (.cells #[] 65))) (show v384.cell? _ = _ from q391) (bnew v384 (.cells #[] 65))
          have k401 : (v384.alloc (.cells #[] 65)).ownsRow (v384.heap.size) 65 2 (.slice (some ⟨v384.heap.size, 0, none⟩) 0 0) 0 [] := own_empty2 v384 65
          have g402 : W.heap.size ≤ (v384.heap.size) := (bstep (bl392)).size
          refine hK.out _ _ ⟨q398, q399, q400⟩ (fun hHeld403 => ?_)
          clear hK K hHeld393
          set_option linter.unusedSimpArgs false in try simp only [Act.put, List.getElem_toArray, List.getElem_cons_succ, List.getElem_cons_zero, List.setIfInBounds_toArray, List.set_cons_zero, List.set_cons_succ]
          refine wpAnyH_ready (rs := [15]) (by kernel_rfl) (by simp) ?_
          refine AllReadyH.cons rfl (fun K hK => ?_) (AllReadyH.nil)
          refine Eq.mpr (if_pos (by kernel_rfl)) ?_
          obtain ⟨RA410, rc411, v404, e405, r406, gr412⟩ := app_csG (A := A2) (c := c2) k401 (H2.out.next (bstep (bl394)) (by omega)) (Nat.le_of_lt (k401.lt _ rfl).2) (by omega)
          have bl413 : Below W.drew.heap.size W.drew v404 := (bl394).grown gr412 (bl394).size (fun j hj => Nat.le_trans g402 (k401.lt j hj).1)
          have k414 := k395.kept gr412 (own_noI k401)
          have k415 := box_app k396 k401 gr412
          have k416 := k397.kept gr412 (own_noI k401)
          have q418 := cell_on p0 bl413
          have q419 := cell_on p1 bl413
          have q420 := cell_on p2 bl413
          refine wp_app_run _ _ 29 rfl (.slice (some ⟨v384.heap.size, 0, none⟩) 0 0) (.slice A2 n2 c2) rfl rfl (.slice RA410 n2 rc411) v404 e405 ?_
          clear e405
          refine hK.out _ _ ⟨q418, q419, q420⟩ (fun hHeld421 => ?_)
          clear hK K hHeld403
          set_option linter.unusedSimpArgs false in try simp only [Act.put, List.getElem_toArray, List.getElem_cons_succ, List.getElem_cons_zero, List.setIfInBounds_toArray, List.set_cons_zero, List.set_cons_succ]
          refine wpAnyH_take (i := 16) (v := ?_) rfl (by kernel_rfl) (by kernel_rfl) (by kernel_rfl) (fun _ _ _ h => h) (Or.inl ⟨by kernel_rfl, ?_⟩) (by assumption) ?_
          rotate_left
          · intro w9 hS9; (try dsimp only at hS9); go_simp; (try with_reducible rfl)
          set_option linter.unusedSimpArgs false in try simp only [Act.put, List.getElem_toArray, List.getElem_cons_succ, List.getElem_cons_zero, List.setIfInBounds_toArray, List.set_cons_zero, List.set_cons_succ]
          have z0 := k415.cell 0
          have f0 := k415.frozen 0
          have z1 := k415.cell 1
          have f1 := k415.frozen 1
          have z2 := k415.cell 2
          have f2 := k415.frozen 2
          have z3 := k415.cell 3
          have f3 := k415.frozen 3
          simp at z0 z1 z2 z3
          have bx422 := k415.set 0 (.slice B0 n0 d0)
          have k423 := k414.set4 k415 0 (.slice B0 n0 d0)
          have k424 := k416.set4 k415 0 (.slice B0 n0 d0)
          have k425 := row_set4 r406 k415 0 (.slice B0 n0 d0)
          have bl426 := Below.setCell (p := ⟨(v1.heap.size), 0, none⟩) (bl413) g382 (.slice B0 n0 d0)
          have bx427 := bx422.set 1 (.slice B1 n1 d1)
          have k428 := k423.set4 bx422 1 (.slice B1 n1 d1)
          have k429 := k424.set4 bx422 1 (.slice B1 n1 d1)
          have k430 := row_set4 k425 bx422 1 (.slice B1 n1 d1)
          have bl431 := Below.setCell (p := ⟨(v1.heap.size), 1, none⟩) (bl426) g382 (.slice B1 n1 d1)
          have bx432 := bx427.set 2 ((.slice RA410 n2 rc411))
          have k433 := k428.set4 bx427 2 ((.slice RA410 n2 rc411))
          have k434 := k429.set4 bx427 2 ((.slice RA410 n2 rc411))
          have k435 := row_set4 k430 bx427 2 ((.slice RA410 n2 rc411))
          have bl436 := Below.setCell (p := ⟨(v1.heap.size), 2, none⟩) (bl431) g382 ((.slice RA410 n2 rc411))
          have bx437 := bx432.set 3 (.slice none 0 0)
          have k438 := k433.set4 bx432 3 (.slice none 0 0)
          have k439 := k434.set4 bx432 3 (.slice none 0 0)
          have k440 := row_set4 k435 bx432 3 (.slice none 0 0)
          have bl441 := Below.setCell (p := ⟨(v1.heap.size), 3, none⟩) (bl436) g382 (.slice none 0 0)
          simp at bx437
          have q442 := cell_on p0 bl441
          have q443 := cell_on p1 bl441
          have q444 := cell_on p2 bl441
          refine wpAnyH_ready (rs := [18]) (by kernel_rfl) (by simp) ?_
          refine AllReadyH.cons rfl (fun K hK => ?_) AllReadyH.nil
          go_simp
          refine hK.out _ _ ⟨q442, q443, q444⟩ (fun hHeld445 => ?_)
          clear hK K hHeld421
          set_option linter.unusedSimpArgs false in try simp only [Act.put, List.getElem_toArray, List.getElem_cons_succ, List.getElem_cons_zero, List.setIfInBounds_toArray, List.set_cons_zero, List.set_cons_succ]
          refine wpAnyH_done (by kernel_rfl) ?_ _
          go_wp2_with fail
          go_meet
          exact ⟨_, _, _, _, _, _, _, rfl, g382, bx437, k438, k439, own_less k440 g402, bstep bl441⟩
        · go_simp
          have bl446 : Below W.drew.heap.size W.drew ((v1.alloc (.cells #[.slice none 0 0, .slice none 0 0, .slice none 0 0, .slice none 0 0] 32)).alloc (.cells #[] 65)) := bon (bl376) (bnew (v1.alloc (.cells #[.slice none 0 0, .slice none 0 0, .slice none 0 0, .slice none 0 0] 32)) (.cells #[] 65))
          have k447 := k377.next (bnew (v1.alloc (.cells #[.slice none 0 0, .slice none 0 0, .slice none 0 0, .slice none 0 0] 32)) (.cells #[] 65))
          have k448 : BlkIs ((v1.alloc (.cells #[.slice none 0 0, .slice none 0 0, .slice none 0 0, .slice none 0 0] 32)).alloc (.cells #[] 65)) (v1.heap.size) 32 #[.slice none 0 0, .slice none 0 0, .slice none 0 0, .slice none 0 0] := BlkIs.next (w := (v1.alloc (.cells #[.slice none 0 0, .slice none 0 0, .slice none 0 0, .slice none 0 0] 32))) (w' := ((v1.alloc (.cells #[.slice none 0 0, .slice none 0 0, .slice none 0 0, .slice none 0 0] 32)).alloc (.cells #[] 65))) k381 (bnew (v1.alloc (.cells #[.slice none 0 0, .slice none 0 0, .slice none 0 0, .slice none 0 0] 32)) (.cells #[] 65))
          have q449 : ((v1.alloc (.cells #[.slice none 0 0, .slice none 0 0, .slice none 0 0, .slice none 0 0] 32)).alloc (.cells #[] 65)).cell? ⟨b, 0, none⟩ = some (.slice A0 n0 c0) := cell_next (w1 := ((v1.alloc (.cells #[.slice none 0 0, .slice none 0 0, .slice none 0 0, .slice none 0 0] 32)).alloc (.cells #[] 65))) (show (v1.alloc (.cells #[.slice none 0 0, .slice none 0 0, .slice none 0 0, .slice none 0 0] 32)).cell? _ = _ from q378) (bnew (v1.alloc (.cells #[.slice none 0 0, .slice none 0 0, .slice none 0 0, .slice none 0 0] 32)) (.cells #[] 65))
          have q450 : ((v1.alloc (.cells #[.slice none 0 0, .slice none 0 0, .slice none 0 0, .slice none 0 0] 32)).alloc (.cells #[] 65)).cell? ⟨b, 1, none⟩ = some (.slice A1 n1 c1) := cell_next (w1 := ((v1.alloc (.cells #[.slice none 0 0, .slice none 0 0, .slice none 0 0, .slice none 0 0] 32)).alloc (.cells #[] 65))) (show (v1.alloc (.cells #[.slice none 0 0, .slice none 0 0, .slice none 0 0, .slice none 0 0] 32)).cell? _ = _ from q379) (bnew (v1.alloc (.cells #[.slice none 0 0, .slice none 0 0, .slice none 0 0, .slice none 0 0] 32)) (.cells #[] 65))
          have q451 : ((v1.alloc (.cells #[.slice none 0 0, .slice none 0 0, .slice none 0 0, .slice none 0 0] 32)).alloc (.cells #[] 65)).cell? ⟨b, 2, none⟩ = some (.slice A2 n2 c2) := cell_next (w1 := ((v1.alloc (.cells #[.slice none 0 0, .slice none 0 0, .slice none 0 0, .slice none 0 0] 32)).alloc (.cells #[] 65))) (show (v1.alloc (.cells #[.slice none 0 0, .slice none 0 0, .slice none 0 0, .slice none 0 0] 32)).cell? _ = _ from q380) (bnew (v1.alloc (.cells #[.slice none 0 0, .slice none 0 0, .slice none 0 0, .slice none 0 0] 32)) (.cells #[] 65))
          have k452 : ((v1.alloc (.cells #[.slice none 0 0, .slice none 0 0, .slice none 0 0, .slice none 0 0] 32)).alloc (.cells #[] 65)).ownsRow (v1.heap.size + 1) 65 2 (.slice (some ⟨v1.heap.size + 1, 0, none⟩) 0 0) 0 [] := by have h := own_empty2 (v1.alloc (.cells #[.slice none 0 0, .slice none 0 0, .slice none 0 0, .slice none 0 0] 32)) 65; rw [show (v1.alloc (.cells #[.slice none 0 0, .slice none 0 0, .slice none 0 0, .slice none 0 0] 32)).heap.size = v1.heap.size + 1 from by simp] at h; exact h
          have g453 : W.heap.size ≤ (v1.heap.size + 1) := by have := (bstep (bl376)).size; simp at this; omega
          refine hK.out _ _ ⟨q449, q450, q451⟩ (fun hHeld454 => ?_)
          clear hK K hHeld383
          set_option linter.unusedSimpArgs false in try simp only [Act.put, List.getElem_toArray, List.getElem_cons_succ, List.getElem_cons_zero, List.setIfInBounds_toArray, List.set_cons_zero, List.set_cons_succ]
          refine wpAnyH_ready (rs := [9]) (by kernel_rfl) (by simp) ?_
          refine AllReadyH.cons rfl (fun K hK => ?_) (AllReadyH.nil)
          go_simp
          go_wp2_with (go_at_call 75; refine (HT1.out _ (bl446)).mono ?_; rintro e v455 ⟨B1, d1, rfl, t457, hb456⟩)
          have k458 := k447.next hb456
          have k459 := k448.next hb456
          have k460 := own_below k452 hb456
          have q461 := cell_next q449 hb456
          have q462 := cell_next q450 hb456
          have q463 := cell_next q451 hb456
          have bl464 := bon (bl446) hb456
          refine hK.out _ _ ⟨q461, q462, q463⟩ (fun hHeld465 => ?_)
          clear hK K hHeld454
          set_option linter.unusedSimpArgs false in try simp only [Act.put, List.getElem_toArray, List.getElem_cons_succ, List.getElem_cons_zero, List.setIfInBounds_toArray, List.set_cons_zero, List.set_cons_succ]
          refine wpAnyH_ready (rs := [15]) (by kernel_rfl) (by simp) ?_
          refine AllReadyH.cons rfl (fun K hK => ?_) (AllReadyH.nil)
          refine Eq.mpr (if_pos (by kernel_rfl)) ?_
          obtain ⟨RA472, rc473, v466, e467, r468, gr474⟩ := app_csG (A := A2) (c := c2) k460 (H2.out.next (bstep (bl464)) (by omega)) (Nat.le_of_lt (k460.lt _ rfl).2) (by omega)
          have bl475 : Below W.drew.heap.size W.drew v466 := (bl464).grown gr474 (bl464).size (fun j hj => Nat.le_trans g453 (k460.lt j hj).1)
          have k476 := k458.kept gr474 (own_noI k460)
          have k477 := box_app k459 k460 gr474
          have k479 := t457.kept gr474 (own_noI k460)
          have q480 := cell_on p0 bl475
          have q481 := cell_on p1 bl475
          have q482 := cell_on p2 bl475
          refine wp_app_run _ _ 29 rfl (.slice (some ⟨v1.heap.size + 1, 0, none⟩) 0 0) (.slice A2 n2 c2) rfl rfl (.slice RA472 n2 rc473) v466 e467 ?_
          clear e467
          refine hK.out _ _ ⟨q480, q481, q482⟩ (fun hHeld483 => ?_)
          clear hK K hHeld465
          set_option linter.unusedSimpArgs false in try simp only [Act.put, List.getElem_toArray, List.getElem_cons_succ, List.getElem_cons_zero, List.setIfInBounds_toArray, List.set_cons_zero, List.set_cons_succ]
          refine wpAnyH_take (i := 16) (v := ?_) rfl (by kernel_rfl) (by kernel_rfl) (by kernel_rfl) (fun _ _ _ h => h) (Or.inl ⟨by kernel_rfl, ?_⟩) (by assumption) ?_
          rotate_left
          · intro w9 hS9; (try dsimp only at hS9); go_simp; (try with_reducible rfl)
          set_option linter.unusedSimpArgs false in try simp only [Act.put, List.getElem_toArray, List.getElem_cons_succ, List.getElem_cons_zero, List.setIfInBounds_toArray, List.set_cons_zero, List.set_cons_succ]
          have z0 := k477.cell 0
          have f0 := k477.frozen 0
          have z1 := k477.cell 1
          have f1 := k477.frozen 1
          have z2 := k477.cell 2
          have f2 := k477.frozen 2
          have z3 := k477.cell 3
          have f3 := k477.frozen 3
          simp at z0 z1 z2 z3
          have bx484 := k477.set 0 (.slice B0 n0 d0)
          have k485 := k476.set4 k477 0 (.slice B0 n0 d0)
          have k486 := k479.set4 k477 0 (.slice B0 n0 d0)
          have k487 := row_set4 r468 k477 0 (.slice B0 n0 d0)
          have bl488 := Below.setCell (p := ⟨(v1.heap.size), 0, none⟩) (bl475) g382 (.slice B0 n0 d0)
          have bx489 := bx484.set 1 (.slice B1 n1 d1)
          have k490 := k485.set4 bx484 1 (.slice B1 n1 d1)
          have k491 := k486.set4 bx484 1 (.slice B1 n1 d1)
          have k492 := row_set4 k487 bx484 1 (.slice B1 n1 d1)
          have bl493 := Below.setCell (p := ⟨(v1.heap.size), 1, none⟩) (bl488) g382 (.slice B1 n1 d1)
          have bx494 := bx489.set 2 ((.slice RA472 n2 rc473))
          have k495 := k490.set4 bx489 2 ((.slice RA472 n2 rc473))
          have k496 := k491.set4 bx489 2 ((.slice RA472 n2 rc473))
          have k497 := row_set4 k492 bx489 2 ((.slice RA472 n2 rc473))
          have bl498 := Below.setCell (p := ⟨(v1.heap.size), 2, none⟩) (bl493) g382 ((.slice RA472 n2 rc473))
          have bx499 := bx494.set 3 (.slice none 0 0)
          have k500 := k495.set4 bx494 3 (.slice none 0 0)
          have k501 := k496.set4 bx494 3 (.slice none 0 0)
          have k502 := row_set4 k497 bx494 3 (.slice none 0 0)
          have bl503 := Below.setCell (p := ⟨(v1.heap.size), 3, none⟩) (bl498) g382 (.slice none 0 0)
          simp at bx499
          have q504 := cell_on p0 bl503
          have q505 := cell_on p1 bl503
          have q506 := cell_on p2 bl503
          refine wpAnyH_ready (rs := [18]) (by kernel_rfl) (by simp) ?_
          refine AllReadyH.cons rfl (fun K hK => ?_) AllReadyH.nil
          go_simp
          refine hK.out _ _ ⟨q504, q505, q506⟩ (fun hHeld507 => ?_)
          clear hK K hHeld483
          set_option linter.unusedSimpArgs false in try simp only [Act.put, List.getElem_toArray, List.getElem_cons_succ, List.getElem_cons_zero, List.setIfInBounds_toArray, List.set_cons_zero, List.set_cons_succ]
          refine wpAnyH_done (by kernel_rfl) ?_ _
          go_wp2_with fail
          go_meet
          exact ⟨_, _, _, _, _, _, _, rfl, g382, bx499, k500, k501, own_less k502 g453, bstep bl503⟩
    · go_simp
      have bl508 : Below W.drew.heap.size W.drew (W.alloc (.cells #[] 65)).drew := bel_ad W _
      have q509 : (W.alloc (.cells #[] 65)).drew.cell? ⟨b, 0, none⟩ = some (.slice A0 n0 c0) := cell_next (w1 := (W.alloc (.cells #[] 65))) (show W.cell? _ = _ from qq0) (bnew W (.cells #[] 65))
      have q510 : (W.alloc (.cells #[] 65)).drew.cell? ⟨b, 1, none⟩ = some (.slice A1 n1 c1) := cell_next (w1 := (W.alloc (.cells #[] 65))) (show W.cell? _ = _ from qq1) (bnew W (.cells #[] 65))
      have q511 : (W.alloc (.cells #[] 65)).drew.cell? ⟨b, 2, none⟩ = some (.slice A2 n2 c2) := cell_next (w1 := (W.alloc (.cells #[] 65))) (show W.cell? _ = _ from qq2) (bnew W (.cells #[] 65))
      have k512 : (W.alloc (.cells #[] 65)).drew.ownsRow (W.heap.size) 65 2 (.slice (some ⟨W.heap.size, 0, none⟩) 0 0) 0 [] := own_empty2 W 65
      have g513 : W.heap.size ≤ (W.heap.size) := (bstep (hD0)).size
      refine hK.out _ _ ⟨q509, q510, q511⟩ (fun hHeld514 => ?_)
      clear hK K hHeld0
      set_option linter.unusedSimpArgs false in try simp only [Act.put, List.getElem_toArray, List.getElem_cons_succ, List.getElem_cons_zero, List.setIfInBounds_toArray, List.set_cons_zero, List.set_cons_succ]
      refine wpAnyH_ready (rs := [4, 17]) (by kernel_rfl) (by simp) ?_
      refine AllReadyH.cons rfl (fun K hK => ?_) (AllReadyH.cons rfl (fun K hK => ?_) (AllReadyH.nil))
      · go_simp
        go_wp2_with (go_at_call 75; refine (HT0.out _ (bl508)).mono ?_; rintro e v515 ⟨B0, d0, rfl, t517, hb516⟩)
        have k518 := own_below k512 hb516
        have q519 := cell_next q509 hb516
        have q520 := cell_next q510 hb516
        have q521 := cell_next q511 hb516
        have bl522 := bon (bl508) hb516
        refine hK.out _ _ ⟨q519, q520, q521⟩ (fun hHeld523 => ?_)
        clear hK K hHeld514
        set_option linter.unusedSimpArgs false in try simp only [Act.put, List.getElem_toArray, List.getElem_cons_succ, List.getElem_cons_zero, List.setIfInBounds_toArray, List.set_cons_zero, List.set_cons_succ]
        refine wpAnyH_ready (rs := [9, 17]) (by kernel_rfl) (by simp) ?_
        refine AllReadyH.cons rfl (fun K hK => ?_) (AllReadyH.cons rfl (fun K hK => ?_) (AllReadyH.nil))
        · go_simp
          go_wp2_with (go_at_call 75; refine (HT1.out _ (bl522)).mono ?_; rintro e v524 ⟨B1, d1, rfl, t526, hb525⟩)
          have k527 := own_below k518 hb525
          have k528 := t517.next hb525
          have q529 := cell_next q519 hb525
          have q530 := cell_next q520 hb525
          have q531 := cell_next q521 hb525
          have bl532 := bon (bl522) hb525
          refine hK.out _ _ ⟨q529, q530, q531⟩ (fun hHeld533 => ?_)
          clear hK K hHeld523
          set_option linter.unusedSimpArgs false in try simp only [Act.put, List.getElem_toArray, List.getElem_cons_succ, List.getElem_cons_zero, List.setIfInBounds_toArray, List.set_cons_zero, List.set_cons_succ]
          refine wpAnyH_ready (rs := [15, 17]) (by kernel_rfl) (by simp) ?_
          refine AllReadyH.cons rfl (fun K hK => ?_) (AllReadyH.cons rfl (fun K hK => ?_) (AllReadyH.nil))
          · refine Eq.mpr (if_pos (by kernel_rfl)) ?_
            obtain ⟨RA540, rc541, v534, e535, r536, gr542⟩ := app_csG (A := A2) (c := c2) k527 (H2.out.next (bstep (bl532)) (by omega)) (Nat.le_of_lt (k527.lt _ rfl).2) (by omega)
            have bl543 : Below W.drew.heap.size W.drew v534 := (bl532).grown gr542 (bl532).size (fun j hj => Nat.le_trans g513 (k527.lt j hj).1)
            have k545 := k528.kept gr542 (own_noI k527)
            have k546 := t526.kept gr542 (own_noI k527)
            have q547 := cell_on p0 bl543
            have q548 := cell_on p1 bl543
            have q549 := cell_on p2 bl543
            refine wp_app_run _ _ 29 rfl (.slice (some ⟨W.heap.size, 0, none⟩) 0 0) (.slice A2 n2 c2) rfl rfl (.slice RA540 n2 rc541) v534 e535 ?_
            clear e535
            refine hK.out _ _ ⟨q547, q548, q549⟩ (fun hHeld550 => ?_)
            clear hK K hHeld533
            set_option linter.unusedSimpArgs false in try simp only [Act.put, List.getElem_toArray, List.getElem_cons_succ, List.getElem_cons_zero, List.setIfInBounds_toArray, List.set_cons_zero, List.set_cons_succ]
            refine wpAnyH_take (i := 16) (v := ?_) rfl (by kernel_rfl) (by kernel_rfl) (by kernel_rfl) (fun _ _ _ h => h) (Or.inl ⟨by kernel_rfl, ?_⟩) (by assumption) ?_
            rotate_left
            · intro w9 hS9; (try dsimp only at hS9); go_simp; (try with_reducible rfl)
            set_option linter.unusedSimpArgs false in try simp only [Act.put, List.getElem_toArray, List.getElem_cons_succ, List.getElem_cons_zero, List.setIfInBounds_toArray, List.set_cons_zero, List.set_cons_succ]
            refine wpAnyH_ready (rs := [17]) (by kernel_rfl) (by simp) ?_
            refine AllReadyH.cons rfl (fun K hK => ?_) (AllReadyH.nil)
            go_simp
            have bl551 : Below W.drew.heap.size W.drew (v534.alloc (.cells #[.slice none 0 0, .slice none 0 0, .slice none 0 0, .slice none 0 0] 32)) := bon (bl543) (bnew v534 (.cells #[.slice none 0 0, .slice none 0 0, .slice none 0 0, .slice none 0 0] 32))
            have k552 := k545.next (bnew v534 (.cells #[.slice none 0 0, .slice none 0 0, .slice none 0 0, .slice none 0 0] 32))
            have k553 := k546.next (bnew v534 (.cells #[.slice none 0 0, .slice none 0 0, .slice none 0 0, .slice none 0 0] 32))
            have k554 : (v534.alloc (.cells #[.slice none 0 0, .slice none 0 0, .slice none 0 0, .slice none 0 0] 32)).ownsRow (W.heap.size) 65 2 (.slice RA540 n2 rc541) n2 (flatC t2) := own_below (w := v534) (w' := (v534.alloc (.cells #[.slice none 0 0, .slice none 0 0, .slice none 0 0, .slice none 0 0] 32))) r536 (bnew v534 (.cells #[.slice none 0 0, .slice none 0 0, .slice none 0 0, .slice none 0 0] 32))
            have q555 : (v534.alloc (.cells #[.slice none 0 0, .slice none 0 0, .slice none 0 0, .slice none 0 0] 32)).cell? ⟨b, 0, none⟩ = some (.slice A0 n0 c0) := cell_next (w1 := (v534.alloc (.cells #[.slice none 0 0, .slice none 0 0, .slice none 0 0, .slice none 0 0] 32))) (show v534.cell? _ = _ from q547) (bnew v534 (.cells #[.slice none 0 0, .slice none 0 0, .slice none 0 0, .slice none 0 0] 32))
            have q556 : (v534.alloc (.cells #[.slice none 0 0, .slice none 0 0, .slice none 0 0, .slice none 0 0] 32)).cell? ⟨b, 1, none⟩ = some (.slice A1 n1 c1) := cell_next (w1 := (v534.alloc (.cells #[.slice none 0 0, .slice none 0 0, .slice none 0 0, .slice none 0 0] 32))) (show v534.cell? _ = _ from q548) (bnew v534 (.cells #[.slice none 0 0, .slice none 0 0, .slice none 0 0, .slice none 0 0] 32))
            have q557 : (v534.alloc (.cells #[.slice none 0 0, .slice none 0 0, .slice none 0 0, .slice none 0 0] 32)).cell? ⟨b, 2, none⟩ = some (.slice A2 n2 c2) := cell_next (w1 := (v534.alloc (.cells #[.slice none 0 0, .slice none 0 0, .slice none 0 0, .slice none 0 0] 32))) (show v534.cell? _ = _ from q549) (bnew v534 (.cells #[.slice none 0 0, .slice none 0 0, .slice none 0 0, .slice none 0 0] 32))
            have k558 : BlkIs (v534.alloc (.cells #[.slice none 0 0, .slice none 0 0, .slice none 0 0, .slice none 0 0] 32)) (v534.heap.size) 32 #[.slice none 0 0, .slice none 0 0, .slice none 0 0, .slice none 0 0] := (show BlkIs (v534.alloc (.cells #[.slice none 0 0, .slice none 0 0, .slice none 0 0, .slice none 0 0] 32)) _ _ _ from blk_new _ _ _ _ (by simp))
            have g559 : W.heap.size ≤ (v534.heap.size) := (bstep (bl543)).size
            generalize (v534.alloc (.cells #[.slice none 0 0, .slice none 0 0, .slice none 0 0, .slice none 0 0] 32)) = V560 at bl551 k552 k553 k554 k558 q555 q556 q557 ⊢
            refine hK.out _ _ ⟨q555, q556, q557⟩ (fun hHeld561 => ?_)
            clear hK K hHeld550
            set_option linter.unusedSimpArgs false in try simp only [Act.put, List.getElem_toArray, List.getElem_cons_succ, List.getElem_cons_zero, List.setIfInBounds_toArray, List.set_cons_zero, List.set_cons_succ]
            have z0 := k558.cell 0
            have f0 := k558.frozen 0
            have z1 := k558.cell 1
            have f1 := k558.frozen 1
            have z2 := k558.cell 2
            have f2 := k558.frozen 2
            have z3 := k558.cell 3
            have f3 := k558.frozen 3
            simp at z0 z1 z2 z3
            have bx562 := k558.set 0 (.slice B0 n0 d0)
            have k563 := k552.set4 k558 0 (.slice B0 n0 d0)
            have k564 := k553.set4 k558 0 (.slice B0 n0 d0)
            have k565 := row_set4 k554 k558 0 (.slice B0 n0 d0)
            have bl566 := Below.setCell (p := ⟨(v534.heap.size), 0, none⟩) (bl551) g559 (.slice B0 n0 d0)
            have bx567 := bx562.set 1 (.slice B1 n1 d1)
            have k568 := k563.set4 bx562 1 (.slice B1 n1 d1)
            have k569 := k564.set4 bx562 1 (.slice B1 n1 d1)
            have k570 := row_set4 k565 bx562 1 (.slice B1 n1 d1)
            have bl571 := Below.setCell (p := ⟨(v534.heap.size), 1, none⟩) (bl566) g559 (.slice B1 n1 d1)
            have bx572 := bx567.set 2 ((.slice RA540 n2 rc541))
            have k573 := k568.set4 bx567 2 ((.slice RA540 n2 rc541))
            have k574 := k569.set4 bx567 2 ((.slice RA540 n2 rc541))
            have k575 := row_set4 k570 bx567 2 ((.slice RA540 n2 rc541))
            have bl576 := Below.setCell (p := ⟨(v534.heap.size), 2, none⟩) (bl571) g559 ((.slice RA540 n2 rc541))
            have bx577 := bx572.set 3 (.slice none 0 0)
            have k578 := k573.set4 bx572 3 (.slice none 0 0)
            have k579 := k574.set4 bx572 3 (.slice none 0 0)
            have k580 := row_set4 k575 bx572 3 (.slice none 0 0)
            have bl581 := Below.setCell (p := ⟨(v534.heap.size), 3, none⟩) (bl576) g559 (.slice none 0 0)
            simp at bx577
            have q582 := cell_on p0 bl581
            have q583 := cell_on p1 bl581
            have q584 := cell_on p2 bl581
            refine wpAnyH_ready (rs := [18]) (by kernel_rfl) (by simp) ?_
            refine AllReadyH.cons rfl (fun K hK => ?_) AllReadyH.nil
            go_simp
            refine hK.out _ _ ⟨q582, q583, q584⟩ (fun hHeld585 => ?_)
            clear hK K hHeld561
            set_option linter.unusedSimpArgs false in try simp only [Act.put, List.getElem_toArray, List.getElem_cons_succ, List.getElem_cons_zero, List.setIfInBounds_toArray, List.set_cons_zero, List.set_cons_succ]
            refine wpAnyH_done (by kernel_rfl) ?_ _
            go_wp2_with fail
            go_meet
            exact ⟨_, _, _, _, _, _, _, rfl, g559, bx577, k578, k579, own_less k580 g513, bstep bl581⟩
          · go_simp
            have bl586 : Below W.drew.heap.size W.drew (v524.alloc (.cells #[.slice none 0 0, .slice none 0 0, .slice none 0 0, .slice none 0 0] 32)) := bon (bl532) (bnew v524 (.cells #[.slice none 0 0, .slice none 0 0, .slice none 0 0, .slice none 0 0] 32))
            have k587 : (v524.alloc (.cells #[.slice none 0 0, .slice none 0 0, .slice none 0 0, .slice none 0 0] 32)).ownsRow (W.heap.size) 65 2 (.slice (some ⟨W.heap.size, 0, none⟩) 0 0) 0 [] := own_below (w := v524) (w' := (v524.alloc (.cells #[.slice none 0 0, .slice none 0 0, .slice none 0 0, .slice none 0 0] 32))) k527 (bnew v524 (.cells #[.slice none 0 0, .slice none 0 0, .slice none 0 0, .slice none 0 0] 32))
            have k588 := k528.next (bnew v524 (.cells #[.slice none 0 0, .slice none 0 0, .slice none 0 0, .slice none 0 0] 32))
            have k589 := t526.next (bnew v524 (.cells #[.slice none 0 0, .slice none 0 0, .slice none 0 0, .slice none 0 0] 32))
            have q590 : (v524.alloc (.cells #[.slice none 0 0, .slice none 0 0, .slice none 0 0, .slice none 0 0] 32)).cell? ⟨b, 0, none⟩ = some (.slice A0 n0 c0) := cell_next (w1 := (v524.alloc (.cells #[.slice none 0 0, .slice none 0 0, .slice none 0 0, .slice none 0 0] 32))) (show v524.cell? _ = _ from q529) (bnew v524 (.cells #[.slice none 0 0, .slice none 0 0, .slice none 0 0, .slice none 0 0] 32))
            have q591 : (v524.alloc (.cells #[.slice none 0 0, .slice none 0 0, .slice none 0 0, .slice none 0 0] 32)).cell? ⟨b, 1, none⟩ = some (.slice A1 n1 c1) := cell_next (w1 := (v524.alloc (.cells #[.slice none 0 0, .slice none 0 0, .slice none 0 0, .slice none 0 0] 32))) (show v524.cell? _ = _ from q530) (bnew v524 (.cells #[.slice none 0 0, .slice none 0 0, .slice none 0 0, .slice none 0 0] 32))
            have q592 : (v524.alloc (.cells #[.slice none 0 0, .slice none 0 0, .slice none 0 0, .slice none 0 0] 32)).cell? ⟨b, 2, none⟩ = some (.slice A2 n2 c2) := cell_next (w1 := (v524.alloc (.cells #[.slice none 0 0, .slice none 0 0, .slice none 0 0, .slice none 0 0] 32))) (show v524.cell? _ = _ from q531) (bnew v524 (.cells #[.slice none 0 0, .slice none 0 0, .slice none 0 0, .slice none 0 0] 32))
            have k593 : BlkIs (v524.alloc (.cells #[.slice none 0 0, .slice none 0 0, .slice none 0 0, .slice none 0 0] 32)) (v524.heap.size) 32 #[.slice none 0 0, .slice none 0 0, .slice none 0 0, .slice none 0 0] := (show BlkIs (v524.alloc (.cells #[.slice none 0 0, .slice none 0 0, .slice none 0 0, .slice none 0 0] 32)) _ _ _ from blk_new _ _ _ _ (by simp))
            have g594 : W.heap.size ≤ (v524.heap.size) := (bstep (bl532)).size
            refine hK.out _ _ ⟨q590, q591, q592⟩ (fun hHeld595 => ?_)
            clear hK K hHeld533
            set_option linter.unusedSimpArgs false in try simp only [Act.put, List.getElem_toArray, List.getElem_cons_succ, List.getElem_cons_zero, List.setIfInBounds_toArray, List.set_cons_zero, List.set_cons_succ]
            refine wpAnyH_ready (rs := [15]) (by kernel_rfl) (by simp) ?_
            refine AllReadyH.cons rfl (fun K hK => ?_) (AllReadyH.nil)
            refine Eq.mpr (if_pos (by kernel_rfl)) ?_
            obtain ⟨RA602, rc603, v596, e597, r598, gr604⟩ := app_csG (A := A2) (c := c2) k587 (H2.out.next (bstep (bl586)) (by omega)) (Nat.le_of_lt (k587.lt _ rfl).2) (by omega)
            have bl605 : Below W.drew.heap.size W.drew v596 := (bl586).grown gr604 (bl586).size (fun j hj => Nat.le_trans g513 (k587.lt j hj).1)
            have k607 := k588.kept gr604 (own_noI k587)
            have k608 := k589.kept gr604 (own_noI k587)
            have k609 := box_app k593 k587 gr604
            have q610 := cell_on p0 bl605
            have q611 := cell_on p1 bl605
            have q612 := cell_on p2 bl605
            refine wp_app_run _ _ 29 rfl (.slice (some ⟨W.heap.size, 0, none⟩) 0 0) (.slice A2 n2 c2) rfl rfl (.slice RA602 n2 rc603) v596 e597 ?_
            clear e597
            refine hK.out _ _ ⟨q610, q611, q612⟩ (fun hHeld613 => ?_)
            clear hK K hHeld595
            set_option linter.unusedSimpArgs false in try simp only [Act.put, List.getElem_toArray, List.getElem_cons_succ, List.getElem_cons_zero, List.setIfInBounds_toArray, List.set_cons_zero, List.set_cons_succ]
            refine wpAnyH_take (i := 16) (v := ?_) rfl (by kernel_rfl) (by kernel_rfl) (by kernel_rfl) (fun _ _ _ h => h) (Or.inl ⟨by kernel_rfl, ?_⟩) (by assumption) ?_
            rotate_left
            · intro w9 hS9; (try dsimp only at hS9); go_simp; (try with_reducible rfl)
            set_option linter.unusedSimpArgs false in try simp only [Act.put, List.getElem_toArray, List.getElem_cons_succ, List.getElem_cons_zero, List.setIfInBounds_toArray, List.set_cons_zero, List.set_cons_succ]
            have z0 := k609.cell 0
            have f0 := k609.frozen 0
            have z1 := k609.cell 1
            have f1 := k609.frozen 1
            have z2 := k609.cell 2
            have f2 := k609.frozen 2
            have z3 := k609.cell 3
            have f3 := k609.frozen 3
            simp at z0 z1 z2 z3
            have bx614 := k609.set 0 (.slice B0 n0 d0)
            have k615 := k607.set4 k609 0 (.slice B0 n0 d0)
            have k616 := k608.set4 k609 0 (.slice B0 n0 d0)
            have k617 := row_set4 r598 k609 0 (.slice B0 n0 d0)
            have bl618 := Below.setCell (p := ⟨(v524.heap.size), 0, none⟩) (bl605) g594 (.slice B0 n0 d0)
            have bx619 := bx614.set 1 (.slice B1 n1 d1)
            have k620 := k615.set4 bx614 1 (.slice B1 n1 d1)
            have k621 := k616.set4 bx614 1 (.slice B1 n1 d1)
            have k622 := row_set4 k617 bx614 1 (.slice B1 n1 d1)
            have bl623 := Below.setCell (p := ⟨(v524.heap.size), 1, none⟩) (bl618) g594 (.slice B1 n1 d1)
            have bx624 := bx619.set 2 ((.slice RA602 n2 rc603))
            have k625 := k620.set4 bx619 2 ((.slice RA602 n2 rc603))
            have k626 := k621.set4 bx619 2 ((.slice RA602 n2 rc603))
            have k627 := row_set4 k622 bx619 2 ((.slice RA602 n2 rc603))
            have bl628 := Below.setCell (p := ⟨(v524.heap.size), 2, none⟩) (bl623) g594 ((.slice RA602 n2 rc603))
            have bx629 := bx624.set 3 (.slice none 0 0)
            have k630 := k625.set4 bx624 3 (.slice none 0 0)
            have k631 := k626.set4 bx624 3 (.slice none 0 0)
            have k632 := row_set4 k627 bx624 3 (.slice none 0 0)
            have bl633 := Below.setCell (p := ⟨(v524.heap.size), 3, none⟩) (bl628) g594 (.slice none 0 0)
            simp at bx629
            have q634 := cell_on p0 bl633
            have q635 := cell_on p1 bl633
            have q636 := cell_on p2 bl633
            refine wpAnyH_ready (rs := [18]) (by kernel_rfl) (by simp) ?_
            refine AllReadyH.cons rfl (fun K hK => ?_) AllReadyH.nil
            go_simp
            refine hK.out _ _ ⟨q634, q635, q636⟩ (fun hHeld637 => ?_)
            clear hK K hHeld613
            set_option linter.unusedSimpArgs false in try simp only [Act.put, List.getElem_toArray, List.getElem_cons_succ, List.getElem_cons_zero, List.setIfInBounds_toArray, List.set_cons_zero, List.set_cons_succ]
            refine wpAnyH_done (by kernel_rfl) ?_ _
            go_wp2_with fail
            go_meet
            exact ⟨_, _, _, _, _, _, _, rfl, g594, bx629, k630, k631, own_less k632 g513, bstep bl633⟩
        · go_simp
          have bl638 : Below W.drew.heap.size W.drew (v515.alloc (.cells #[.slice none 0 0, .slice none 0 0, .slice none 0 0, .slice none 0 0] 32)) := bon (bl522) (bnew v515 (.cells #[.slice none 0 0, .slice none 0 0, .slice none 0 0, .slice none 0 0] 32))
          have k639 : (v515.alloc (.cells #[.slice none 0 0, .slice none 0 0, .slice none 0 0, .slice none 0 0] 32)).ownsRow (W.heap.size) 65 2 (.slice (some ⟨W.heap.size, 0, none⟩) 0 0) 0 [] := own_below (w := v515) (w' := (v515.alloc (.cells #[.slice none 0 0, .slice none 0 0, .slice none 0 0, .slice none 0 0] 32))) k518 (bnew v515 (.cells #[.slice none 0 0, .slice none 0 0, .slice none 0 0, .slice none 0 0] 32))
          have k640 := t517.next (bnew v515 (.cells #[.slice none 0 0, .slice none 0 0, .slice none 0 0, .slice none 0 0] 32))
          have q641 : (v515.alloc (.cells #[.slice none 0 0, .slice none 0 0, .slice none 0 0, .slice none 0 0] 32)).cell? ⟨b, 0, none⟩ = some (.slice A0 n0 c0) := cell_next (w1 := (v515.alloc (.cells #[.slice none 0 0, .slice none 0 0, .slice none 0 0, .slice none 0 0] 32))) (show v515.cell? _ = _ from q519) (bnew v515 (.cells #[.slice none 0 0, .slice none 0 0, .slice none 0 0, .slice none 0 0] 32))
          have q642 : (v515.alloc (.cells #[.slice none 0 0, .slice none 0 0, .slice none 0 0, .slice none 0 0] 32)).cell? ⟨b, 1, none⟩ = some (.slice A1 n1 c1) := cell_next (w1 := (v515.alloc (.cells #[.slice none 0 0, .slice none 0 0, .slice none 0 0, .slice none 0 0] 32))) (show v515.cell? _ = _ from q520) (bnew v515 (.cells #[.slice none 0 0, .slice none 0 0, .slice none 0 0, .slice none 0 0] 32))
          have q643 : (v515.alloc (.cells #[.slice none 0 0, .slice none 0 0, .slice none 0 0, .slice none 0 0] 32)).cell? ⟨b, 2, none⟩ = some (.slice A2 n2 c2) := cell_next (w1 := (v515.alloc (.cells #[.slice none 0 0, .slice none 0 0, .slice none 0 0, .slice none 0 0] 32))) (show v515.cell? _ = _ from q521) (bnew v515 (.cells #[.slice none 0 0, .slice none 0 0, .slice none 0 0, .slice none 0 0] 32))
          have k644 : BlkIs (v515.alloc (.cells #[.slice none 0 0, .slice none 0 0, .slice none 0 0, .slice none 0 0] 32)) (v515.heap.size) 32 #[.slice none 0 0, .slice none 0 0, .slice none 0 0, .slice none 0 0] := (show BlkIs (v515.alloc (.cells #[.slice none 0 0, .slice none 0 0, .slice none 0 0, .slice none 0 0] 32)) _ _ _ from blk_new _ _ _ _ (by simp))
          have g645 : W.heap.size ≤ (v515.heap.size) := (bstep (bl522)).size
          refine hK.out _ _ ⟨q641, q642, q643⟩ (fun hHeld646 => ?_)
          clear hK K hHeld523
          set_option linter.unusedSimpArgs false in try simp only [Act.put, List.getElem_toArray, List.getElem_cons_succ, List.getElem_cons_zero, List.setIfInBounds_toArray, List.set_cons_zero, List.set_cons_succ]
          refine wpAnyH_ready (rs := [9]) (by kernel_rfl) (by simp) ?_
          refine AllReadyH.cons rfl (fun K hK => ?_) (AllReadyH.nil)
          go_simp
          go_wp2_with (go_at_call 75; refine (HT1.out _ (bl638)).mono ?_; rintro e v647 ⟨B1, d1, rfl, t649, hb648⟩)
          have k650 := own_below k639 hb648
          have k651 := k640.next hb648
          have k652 := k644.next hb648
          have q653 := cell_next q641 hb648
          have q654 := cell_next q642 hb648
          have q655 := cell_next q643 hb648
          have bl656 := bon (bl638) hb648
          refine hK.out _ _ ⟨q653, q654, q655⟩ (fun hHeld657 => ?_)
          clear hK K hHeld646
          set_option linter.unusedSimpArgs false in try simp only [Act.put, List.getElem_toArray, List.getElem_cons_succ, List.getElem_cons_zero, List.setIfInBounds_toArray, List.set_cons_zero, List.set_cons_succ]
          refine wpAnyH_ready (rs := [15]) (by kernel_rfl) (by simp) ?_
          refine AllReadyH.cons rfl (fun K hK => ?_) (AllReadyH.nil)
          refine Eq.mpr (if_pos (by kernel_rfl)) ?_
          obtain ⟨RA664, rc665, v658, e659, r660, gr666⟩ := app_csG (A := A2) (c := c2) k650 (H2.out.next (bstep (bl656)) (by omega)) (Nat.le_of_lt (k650.lt _ rfl).2) (by omega)
          have bl667 : Below W.drew.heap.size W.drew v658 := (bl656).grown gr666 (bl656).size (fun j hj => Nat.le_trans g513 (k650.lt j hj).1)
          have k669 := k651.kept gr666 (own_noI k650)
          have k670 := box_app k652 k650 gr666
          have k671 := t649.kept gr666 (own_noI k650)
          have q672 := cell_on p0 bl667
          have q673 := cell_on p1 bl667
          have q674 := cell_on p2 bl667
          refine wp_app_run _ _ 29 rfl (.slice (some ⟨W.heap.size, 0, none⟩) 0 0) (.slice A2 n2 c2) rfl rfl (.slice RA664 n2 rc665) v658 e659 ?_
          clear e659
          refine hK.out _ _ ⟨q672, q673, q674⟩ (fun hHeld675 => ?_)
          clear hK K hHeld657
          set_option linter.unusedSimpArgs false in try simp only [Act.put, List.getElem_toArray, List.getElem_cons_succ, List.getElem_cons_zero, List.setIfInBounds_toArray, List.set_cons_zero, List.set_cons_succ]
          refine wpAnyH_take (i := 16) (v := ?_) rfl (by kernel_rfl) (by kernel_rfl) (by kernel_rfl) (fun _ _ _ h => h) (Or.inl ⟨by kernel_rfl, ?_⟩) (by assumption) ?_
          rotate_left
          · intro w9 hS9; (try dsimp only at hS9); go_simp; (try with_reducible rfl)
          set_option linter.unusedSimpArgs false in try simp only [Act.put, List.getElem_toArray, List.getElem_cons_succ, List.getElem_cons_zero, List.setIfInBounds_toArray, List.set_cons_zero, List.set_cons_succ]
          have z0 := k670.cell 0
          have f0 := k670.frozen 0
          have z1 := k670.cell 1
          have f1 := k670.frozen 1
          have z2 := k670.cell 2
          have f2 := k670.frozen 2
          have z3 := k670.cell 3
          have f3 := k670.frozen 3
          simp at z0 z1 z2 z3
          have bx676 := k670.set 0 (.slice B0 n0 d0)
          have k677 := k669.set4 k670 0 (.slice B0 n0 d0)
          have k678 := k671.set4 k670 0 (.slice B0 n0 d0)
          have k679 := row_set4 r660 k670 0 (.slice B0 n0 d0)
          have bl680 := Below.setCell (p := ⟨(v515.heap.size), 0, none⟩) (bl667) g645 (.slice B0 n0 d0)
          have bx681 := bx676.set 1 (.slice B1 n1 d1)
          have k682 := k677.set4 bx676 1 (.slice B1 n1 d1)
          have k683 := k678.set4 bx676 1 (.slice B1 n1 d1)
          have k684 := row_set4 k679 bx676 1 (.slice B1 n1 d1)
          have bl685 := Below.setCell (p := ⟨(v515.heap.size), 1, none⟩) (bl680) g645 (.slice B1 n1 d1)
          have bx686 := bx681.set 2 ((.slice RA664 n2 rc665))
          have k687 := k682.set4 bx681 2 ((.slice RA664 n2 rc665))
          have k688 := k683.set4 bx681 2 ((.slice RA664 n2 rc665))
          have k689 := row_set4 k684 bx681 2 ((.slice RA664 n2 rc665))
          have bl690 := Below.setCell (p := ⟨(v515.heap.size), 2, none⟩) (bl685) g645 ((.slice RA664 n2 rc665))
          have bx691 := bx686.set 3 (.slice none 0 0)
          have k692 := k687.set4 bx686 3 (.slice none 0 0)
          have k693 := k688.set4 bx686 3 (.slice none 0 0)
          have k694 := row_set4 k689 bx686 3 (.slice none 0 0)
          have bl695 := Below.setCell (p := ⟨(v515.heap.size), 3, none⟩) (bl690) g645 (.slice none 0 0)
          simp at bx691
          have q696 := cell_on p0 bl695
          have q697 := cell_on p1 bl695
          have q698 := cell_on p2 bl695
          refine wpAnyH_ready (rs := [18]) (by kernel_rfl) (by simp) ?_
          refine AllReadyH.cons rfl (fun K hK => ?_) AllReadyH.nil
          go_simp
          refine hK.out _ _ ⟨q696, q697, q698⟩ (fun hHeld699 => ?_)
          clear hK K hHeld675
          set_option linter.unusedSimpArgs false in try simp only [Act.put, List.getElem_toArray, List.getElem_cons_succ, List.getElem_cons_zero, List.setIfInBounds_toArray, List.set_cons_zero, List.set_cons_succ]
          refine wpAnyH_done (by kernel_rfl) ?_ _
          go_wp2_with fail
          go_meet
          exact ⟨_, _, _, _, _, _, _, rfl, g645, bx691, k692, k693, own_less k694 g513, bstep bl695⟩
      · go_simp
        have bl700 : Below W.drew.heap.size W.drew ((W.alloc (.cells #[] 65)).alloc (.cells #[.slice none 0 0, .slice none 0 0, .slice none 0 0, .slice none 0 0] 32)).drew := bon (bl508) (show Below (W.alloc (.cells #[] 65)).drew.heap.size (W.alloc (.cells #[] 65)).drew ((W.alloc (.cells #[] 65)).alloc (.cells #[.slice none 0 0, .slice none 0 0, .slice none 0 0, .slice none 0 0] 32)).drew from bel_ad (W.alloc (.cells #[] 65)) _)
        have k701 : ((W.alloc (.cells #[] 65)).alloc (.cells #[.slice none 0 0, .slice none 0 0, .slice none 0 0, .slice none 0 0] 32)).drew.ownsRow (W.heap.size) 65 2 (.slice (some ⟨W.heap.size, 0, none⟩) 0 0) 0 [] := own_below (w := (W.alloc (.cells #[] 65))) (w' := ((W.alloc (.cells #[] 65)).alloc (.cells #[.slice none 0 0, .slice none 0 0, .slice none 0 0, .slice none 0 0] 32))) k512 (bnew (W.alloc (.cells #[] 65)) (.cells #[.slice none 0 0, .slice none 0 0, .slice none 0 0, .slice none 0 0] 32))
        have q702 : ((W.alloc (.cells #[] 65)).alloc (.cells #[.slice none 0 0, .slice none 0 0, .slice none 0 0, .slice none 0 0] 32)).drew.cell? ⟨b, 0, none⟩ = some (.slice A0 n0 c0) := cell_next (w1 := ((W.alloc (.cells #[] 65)).alloc (.cells #[.slice none 0 0, .slice none 0 0, .slice none 0 0, .slice none 0 0] 32))) (show (W.alloc (.cells #[] 65)).cell? _ = _ from q509) (bnew (W.alloc (.cells #[] 65)) (.cells #[.slice none 0 0, .slice none 0 0, .slice none 0 0, .slice none 0 0] 32))
        have q703 : ((W.alloc (.cells #[] 65)).alloc (.cells #[.slice none 0 0, .slice none 0 0, .slice none 0 0, .slice none 0 0] 32)).drew.cell? ⟨b, 1, none⟩ = some (.slice A1 n1 c1) := cell_next (w1 := ((W.alloc (.cells #[] 65)).alloc (.cells #[.slice none 0 0, .slice none 0 0, .slice none 0 0, .slice none 0 0] 32))) (show (W.alloc (.cells #[] 65)).cell? _ = _ from q510) (bnew (W.alloc (.cells #[] 65)) (.cells #[.slice none 0 0, .slice none 0 0, .slice none 0 0, .slice none 0 0] 32))
        have q704 : ((W.alloc (.cells #[] 65)).alloc (.cells #[.slice none 0 0, .slice none 0 0, .slice none 0 0, .slice none 0 0] 32)).drew.cell? ⟨b, 2, none⟩ = some (.slice A2 n2 c2) := cell_next (w1 := ((W.alloc (.cells #[] 65)).alloc (.cells #[.slice none 0 0, .slice none 0 0, .slice none 0 0, .slice none 0 0] 32))) (show (W.alloc (.cells #[] 65)).cell? _ = _ from q511) (bnew (W.alloc (.cells #[] 65)) (.cells #[.slice none 0 0, .slice none 0 0, .slice none 0 0, .slice none 0 0] 32))
        have k705 : BlkIs ((W.alloc (.cells #[] 65)).alloc (.cells #[.slice none 0 0, .slice none 0 0, .slice none 0 0, .slice none 0 0] 32)).drew (W.heap.size + 1) 32 #[.slice none 0 0, .slice none 0 0, .slice none 0 0, .slice none 0 0] := (show BlkIs ((W.alloc (.cells #[] 65)).alloc (.cells #[.slice none 0 0, .slice none 0 0, .slice none 0 0, .slice none 0 0] 32)) _ _ _ from blk_new _ _ _ _ (by simp))
        have g706 : W.heap.size ≤ (W.heap.size + 1) := by have := (bstep (bl508)).size; simp at this; omega
        refine hK.out _ _ ⟨q702, q703, q704⟩ (fun hHeld707 => ?_)
        clear hK K hHeld514
        set_option linter.unusedSimpArgs false in try simp only [Act.put, List.getElem_toArray, List.getElem_cons_succ, List.getElem_cons_zero, List.setIfInBounds_toArray, List.set_cons_zero, List.set_cons_succ]
        refine wpAnyH_ready (rs := [4]) (by kernel_rfl) (by simp) ?_
        refine AllReadyH.cons rfl (fun K hK => ?_) (AllReadyH.nil)
        go_simp
        go_wp2_with (go_at_call 75; refine (HT0.out _ (bl700)).mono ?_; rintro e v708 ⟨B0, d0, rfl, t710, hb709⟩)
        have k711 := own_below k701 hb709
        have k712 := k705.next hb709
        have q713 := cell_next q702 hb709
        have q714 := cell_next q703 hb709
        have q715 := cell_next q704 hb709
        have bl716 := bon (bl700) hb709
        refine hK.out _ _ ⟨q713, q714, q715⟩ (fun hHeld717 => ?_)
        clear hK K hHeld707
        set_option linter.unusedSimpArgs false in try simp only [Act.put, List.getElem_toArray, List.getElem_cons_succ, List.getElem_cons_zero, List.setIfInBounds_toArray, List.set_cons_zero, List.set_cons_succ]
        refine wpAnyH_ready (rs := [9]) (by kernel_rfl) (by simp) ?_
        refine AllReadyH.cons rfl (fun K hK => ?_) (AllReadyH.nil)
        go_simp
        go_wp2_with (go_at_call 75; refine (HT1.out _ (bl716)).mono ?_; rintro e v718 ⟨B1, d1, rfl, t720, hb719⟩)
        have k721 := own_below k711 hb719
        have k722 := k712.next hb719
        have k723 := t710.next hb719
        have q724 := cell_next q713 hb719
        have q725 := cell_next q714 hb719
        have q726 := cell_next q715 hb719
        have bl727 := bon (bl716) hb719
        refine hK.out _ _ ⟨q724, q725, q726⟩ (fun hHeld728 => ?_)
        clear hK K hHeld717
        set_option linter.unusedSimpArgs false in try simp only [Act.put, List.getElem_toArray, List.getElem_cons_succ, List.getElem_cons_zero, List.setIfInBounds_toArray, List.set_cons_zero, List.set_cons_succ]
        refine wpAnyH_ready (rs := [15]) (by kernel_rfl) (by simp) ?_
        refine AllReadyH.cons rfl (fun K hK => ?_) (AllReadyH.nil)
        refine Eq.mpr (if_pos (by kernel_rfl)) ?_
        obtain ⟨RA735, rc736, v729, e730, r731, gr737⟩ := app_csG (A := A2) (c := c2) k721 (H2.out.next (bstep (bl727)) (by omega)) (Nat.le_of_lt (k721.lt _ rfl).2) (by omega)
        have bl738 : Below W.drew.heap.size W.drew v729 := (bl727).grown gr737 (bl727).size (fun j hj => Nat.le_trans g513 (k721.lt j hj).1)
        have k740 := box_app k722 k721 gr737
        have k741 := k723.kept gr737 (own_noI k721)
        have k742 := t720.kept gr737 (own_noI k721)
        have q743 := cell_on p0 bl738
        have q744 := cell_on p1 bl738
        have q745 := cell_on p2 bl738
        refine wp_app_run _ _ 29 rfl (.slice (some ⟨W.heap.size, 0, none⟩) 0 0) (.slice A2 n2 c2) rfl rfl (.slice RA735 n2 rc736) v729 e730 ?_
        clear e730
        refine hK.out _ _ ⟨q743, q744, q745⟩ (fun hHeld746 => ?_)
        clear hK K hHeld728
        set_option linter.unusedSimpArgs false in try simp only [Act.put, List.getElem_toArray, List.getElem_cons_succ, List.getElem_cons_zero, List.setIfInBounds_toArray, List.set_cons_zero, List.set_cons_succ]
        refine wpAnyH_take (i := 16) (v := ?_) rfl (by kernel_rfl) (by kernel_rfl) (by kernel_rfl) (fun _ _ _ h => h) (Or.inl ⟨by kernel_rfl, ?_⟩) (by assumption) ?_
        rotate_left
        · intro w9 hS9; (try dsimp only at hS9); go_simp; (try with_reducible rfl)
        set_option linter.unusedSimpArgs false in try simp only [Act.put, List.getElem_toArray, List.getElem_cons_succ, List.getElem_cons_zero, List.setIfInBounds_toArray, List.set_cons_zero, List.set_cons_succ]
        have z0 := k740.cell 0
        have f0 := k740.frozen 0
        have z1 := k740.cell 1
        have f1 := k740.frozen 1
        have z2 := k740.cell 2
        have f2 := k740.frozen 2
        have z3 := k740.cell 3
        have f3 := k740.frozen 3
        simp at z0 z1 z2 z3
        have bx747 := k740.set 0 (.slice B0 n0 d0)
        have k748 := k741.set4 k740 0 (.slice B0 n0 d0)
        have k749 := k742.set4 k740 0 (.slice B0 n0 d0)
        have k750 := row_set4 r731 k740 0 (.slice B0 n0 d0)
        have bl751 := Below.setCell (p := ⟨(W.heap.size + 1), 0, none⟩) (bl738) g706 (.slice B0 n0 d0)
        have bx752 := bx747.set 1 (.slice B1 n1 d1)
        have k753 := k748.set4 bx747 1 (.slice B1 n1 d1)
        have k754 := k749.set4 bx747 1 (.slice B1 n1 d1)
        have k755 := row_set4 k750 bx747 1 (.slice B1 n1 d1)
        have bl756 := Below.setCell (p := ⟨(W.heap.size + 1), 1, none⟩) (bl751) g706 (.slice B1 n1 d1)
        have bx757 := bx752.set 2 ((.slice RA735 n2 rc736))
        have k758 := k753.set4 bx752 2 ((.slice RA735 n2 rc736))
        have k759 := k754.set4 bx752 2 ((.slice RA735 n2 rc736))
        have k760 := row_set4 k755 bx752 2 ((.slice RA735 n2 rc736))
        have bl761 := Below.setCell (p := ⟨(W.heap.size + 1), 2, none⟩) (bl756) g706 ((.slice RA735 n2 rc736))
        have bx762 := bx757.set 3 (.slice none 0 0)
        have k763 := k758.set4 bx757 3 (.slice none 0 0)
        have k764 := k759.set4 bx757 3 (.slice none 0 0)
        have k765 := row_set4 k760 bx757 3 (.slice none 0 0)
        have bl766 := Below.setCell (p := ⟨(W.heap.size + 1), 3, none⟩) (bl761) g706 (.slice none 0 0)
        simp at bx762
        have q767 := cell_on p0 bl766
        have q768 := cell_on p1 bl766
        have q769 := cell_on p2 bl766
        refine wpAnyH_ready (rs := [18]) (by kernel_rfl) (by simp) ?_
        refine AllReadyH.cons rfl (fun K hK => ?_) AllReadyH.nil
        go_simp
        refine hK.out _ _ ⟨q767, q768, q769⟩ (fun hHeld770 => ?_)
        clear hK K hHeld746
        set_option linter.unusedSimpArgs false in try simp only [Act.put, List.getElem_toArray, List.getElem_cons_succ, List.getElem_cons_zero, List.setIfInBounds_toArray, List.set_cons_zero, List.set_cons_succ]
        refine wpAnyH_done (by kernel_rfl) ?_ _
        go_wp2_with fail
        go_meet
        exact ⟨_, _, _, _, _, _, _, rfl, g706, bx762, k763, k764, own_less k765 g513, bstep bl766⟩
    · go_simp
      have bl771 : Below W.drew.heap.size W.drew (W.alloc (.cells #[.slice none 0 0, .slice none 0 0, .slice none 0 0, .slice none 0 0] 32)).drew := bel_ad W _
      have q772 : (W.alloc (.cells #[.slice none 0 0, .slice none 0 0, .slice none 0 0, .slice none 0 0] 32)).drew.cell? ⟨b, 0, none⟩ = some (.slice A0 n0 c0) := cell_next (w1 := (W.alloc (.cells #[.slice none 0 0, .slice none 0 0, .slice none 0 0, .slice none 0 0] 32))) (show W.cell? _ = _ from qq0) (bnew W (.cells #[.slice none 0 0, .slice none 0 0, .slice none 0 0, .slice none 0 0] 32))
      have q773 : (W.alloc (.cells #[.slice none 0 0, .slice none 0 0, .slice none 0 0, .slice none 0 0] 32)).drew.cell? ⟨b, 1, none⟩ = some (.slice A1 n1 c1) := cell_next (w1 := (W.alloc (.cells #[.slice none 0 0, .slice none 0 0, .slice none 0 0, .slice none 0 0] 32))) (show W.cell? _ = _ from qq1) (bnew W (.cells #[.slice none 0 0, .slice none 0 0, .slice none 0 0, .slice none 0 0] 32))
      have q774 : (W.alloc (.cells #[.slice none 0 0, .slice none 0 0, .slice none 0 0, .slice none 0 0] 32)).drew.cell? ⟨b, 2, none⟩ = some (.slice A2 n2 c2) := cell_next (w1 := (W.alloc (.cells #[.slice none 0 0, .slice none 0 0, .slice none 0 0, .slice none 0 0] 32))) (show W.cell? _ = _ from qq2) (bnew W (.cells #[.slice none 0 0, .slice none 0 0, .slice none 0 0, .slice none 0 0] 32))
      have k775 : BlkIs (W.alloc (.cells #[.slice none 0 0, .slice none 0 0, .slice none 0 0, .slice none 0 0] 32)).drew (W.heap.size) 32 #[.slice none 0 0, .slice none 0 0, .slice none 0 0, .slice none 0 0] := (show BlkIs (W.alloc (.cells #[.slice none 0 0, .slice none 0 0, .slice none 0 0, .slice none 0 0] 32)) _ _ _ from blk_new _ _ _ _ (by simp))
      have g776 : W.heap.size ≤ (W.heap.size) := (bstep (hD0)).size
      refine hK.out _ _ ⟨q772, q773, q774⟩ (fun hHeld777 => ?_)
      clear hK K hHeld0
      set_option linter.unusedSimpArgs false in try simp only [Act.put, List.getElem_toArray, List.getElem_cons_succ, List.getElem_cons_zero, List.setIfInBounds_toArray, List.set_cons_zero, List.set_cons_succ]
      refine wpAnyH_ready (rs := [4, 10]) (by kernel_rfl) (by simp) ?_
      refine AllReadyH.cons rfl (fun K hK => ?_) (AllReadyH.cons rfl (fun K hK => ?_) (AllReadyH.nil))
      · go_simp
        go_wp2_with (go_at_call 75; refine (HT0.out _ (bl771)).mono ?_; rintro e v778 ⟨B0, d0, rfl, t780, hb779⟩)
        have k781 := k775.next hb779
        have q782 := cell_next q772 hb779
        have q783 := cell_next q773 hb779
        have q784 := cell_next q774 hb779
        have bl785 := bon (bl771) hb779
        refine hK.out _ _ ⟨q782, q783, q784⟩ (fun hHeld786 => ?_)
        clear hK K hHeld777
        set_option linter.unusedSimpArgs false in try simp only [Act.put, List.getElem_toArray, List.getElem_cons_succ, List.getElem_cons_zero, List.setIfInBounds_toArray, List.set_cons_zero, List.set_cons_succ]
        refine wpAnyH_ready (rs := [9, 10]) (by kernel_rfl) (by simp) ?_
        refine AllReadyH.cons rfl (fun K hK => ?_) (AllReadyH.cons rfl (fun K hK => ?_) (AllReadyH.nil))
        · go_simp
          go_wp2_with (go_at_call 75; refine (HT1.out _ (bl785)).mono ?_; rintro e v787 ⟨B1, d1, rfl, t789, hb788⟩)
          have k790 := k781.next hb788
          have k791 := t780.next hb788
          have q792 := cell_next q782 hb788
          have q793 := cell_next q783 hb788
          have q794 := cell_next q784 hb788
          have bl795 := bon (bl785) hb788
          refine hK.out _ _ ⟨q792, q793, q794⟩ (fun hHeld796 => ?_)
          clear hK K hHeld786
          set_option linter.unusedSimpArgs false in try simp only [Act.put, List.getElem_toArray, List.getElem_cons_succ, List.getElem_cons_zero, List.setIfInBounds_toArray, List.set_cons_zero, List.set_cons_succ]
          refine wpAnyH_ready (rs := [10]) (by kernel_rfl) (by simp) ?_
          refine AllReadyH.cons rfl (fun K hK => ?_) (AllReadyH.nil)
          go_simp
          have bl797 : Below W.drew.heap.size W.drew (v787.alloc (.cells #[] 65)) := bon (bl795) (bnew v787 (.cells #[] 65))
          have k798 : BlkIs (v787.alloc (.cells #[] 65)) (W.heap.size) 32 #[.slice none 0 0, .slice none 0 0, .slice none 0 0, .slice none 0 0] := BlkIs.next (w := v787) (w' := (v787.alloc (.cells #[] 65))) k790 (bnew v787 (.cells #[] 65))
          have k799 := k791.next (bnew v787 (.cells #[] 65))
          have k800 := t789.next (bnew v787 (.cells #[] 65))
          have q801 : (v787.alloc (.cells #[] 65)).cell? ⟨b, 0, none⟩ = some (.slice A0 n0 c0) := cell_next (w1 := (v787.alloc (.cells #[] 65))) (show v787.cell? _ = _ from q792) (bnew v787 (.cells #[] 65))
          have q802 : (v787.alloc (.cells #[] 65)).cell? ⟨b, 1, none⟩ = some (.slice A1 n1 c1) := cell_next (w1 := (v787.alloc (.cells #[] 65))) (show v787.cell? _ = _ from q793) (bnew v787 (.cells #[] 65))
          have q803 : (v787.alloc (.cells #[] 65)).cell? ⟨b, 2, none⟩ = some (.slice A2 n2 c2) := cell_next (w1 := (v787.alloc (.cells #[] 65))) (show v787.cell? _ = _ from q794) (bnew v787 (.cells #[] 65))
          have k804 : (v787.alloc (.cells #[] 65)).ownsRow (v787.heap.size) 65 2 (.slice (some ⟨v787.heap.size, 0, none⟩) 0 0) 0 [] := own_empty2 v787 65
          have g805 : W.heap.size ≤ (v787.heap.size) := (bstep (bl795)).size
          refine hK.out _ _ ⟨q801, q802, q803⟩ (fun hHeld806 => ?_)
          clear hK K hHeld796
          set_option linter.unusedSimpArgs false in try simp only [Act.put, List.getElem_toArray, List.getElem_cons_succ, List.getElem_cons_zero, List.setIfInBounds_toArray, List.set_cons_zero, List.set_cons_succ]
          refine wpAnyH_ready (rs := [15]) (by kernel_rfl) (by simp) ?_
          refine AllReadyH.cons rfl (fun K hK => ?_) (AllReadyH.nil)
          refine Eq.mpr (if_pos (by kernel_rfl)) ?_
          obtain ⟨RA813, rc814, v807, e808, r809, gr815⟩ := app_csG (A := A2) (c := c2) k804 (H2.out.next (bstep (bl797)) (by omega)) (Nat.le_of_lt (k804.lt _ rfl).2) (by omega)
          have bl816 : Below W.drew.heap.size W.drew v807 := (bl797).grown gr815 (bl797).size (fun j hj => Nat.le_trans g805 (k804.lt j hj).1)
          have k817 := box_app k798 k804 gr815
          have k818 := k799.kept gr815 (own_noI k804)
          have k819 := k800.kept gr815 (own_noI k804)
          have q821 := cell_on p0 bl816
          have q822 := cell_on p1 bl816
          have q823 := cell_on p2 bl816
          refine wp_app_run _ _ 29 rfl (.slice (some ⟨v787.heap.size, 0, none⟩) 0 0) (.slice A2 n2 c2) rfl rfl (.slice RA813 n2 rc814) v807 e808 ?_
          clear e808
          refine hK.out _ _ ⟨q821, q822, q823⟩ (fun hHeld824 => ?_)
          clear hK K hHeld806
          set_option linter.unusedSimpArgs false in try simp only [Act.put, List.getElem_toArray, List.getElem_cons_succ, List.getElem_cons_zero, List.setIfInBounds_toArray, List.set_cons_zero, List.set_cons_succ]
          refine wpAnyH_take (i := 16) (v := ?_) rfl (by kernel_rfl) (by kernel_rfl) (by kernel_rfl) (fun _ _ _ h => h) (Or.inl ⟨by kernel_rfl, ?_⟩) (by assumption) ?_
          rotate_left
          · intro w9 hS9; (try dsimp only at hS9); go_simp; (try with_reducible rfl)
          set_option linter.unusedSimpArgs false in try simp only [Act.put, List.getElem_toArray, List.getElem_cons_succ, List.getElem_cons_zero, List.setIfInBounds_toArray, List.set_cons_zero, List.set_cons_succ]
          have z0 := k817.cell 0
          have f0 := k817.frozen 0
          have z1 := k817.cell 1
          have f1 := k817.frozen 1
          have z2 := k817.cell 2
          have f2 := k817.frozen 2
          have z3 := k817.cell 3
          have f3 := k817.frozen 3
          simp at z0 z1 z2 z3
          have bx825 := k817.set 0 (.slice B0 n0 d0)
          have k826 := k818.set4 k817 0 (.slice B0 n0 d0)
          have k827 := k819.set4 k817 0 (.slice B0 n0 d0)
          have k828 := row_set4 r809 k817 0 (.slice B0 n0 d0)
          have bl829 := Below.setCell (p := ⟨(W.heap.size), 0, none⟩) (bl816) g776 (.slice B0 n0 d0)
          have bx830 := bx825.set 1 (.slice B1 n1 d1)
          have k831 := k826.set4 bx825 1 (.slice B1 n1 d1)
          have k832 := k827.set4 bx825 1 (.slice B1 n1 d1)
          have k833 := row_set4 k828 bx825 1 (.slice B1 n1 d1)
          have bl834 := Below.setCell (p := ⟨(W.heap.size), 1, none⟩) (bl829) g776 (.slice B1 n1 d1)
          have bx835 := bx830.set 2 ((.slice RA813 n2 rc814))
          have k836 := k831.set4 bx830 2 ((.slice RA813 n2 rc814))
          have k837 := k832.set4 bx830 2 ((.slice RA813 n2 rc814))
          have k838 := row_set4 k833 bx830 2 ((.slice RA813 n2 rc814))
          have bl839 := Below.setCell (p := ⟨(W.heap.size), 2, none⟩) (bl834) g776 ((.slice RA813 n2 rc814))
          have bx840 := bx835.set 3 (.slice none 0 0)
          have k841 := k836.set4 bx835 3 (.slice none 0 0)
          have k842 := k837.set4 bx835 3 (.slice none 0 0)
          have k843 := row_set4 k838 bx835 3 (.slice none 0 0)
          have bl844 := Below.setCell (p := ⟨(W.heap.size), 3, none⟩) (bl839) g776 (.slice none 0 0)
          simp at bx840
          have q845 := cell_on p0 bl844
          have q846 := cell_on p1 bl844
          have q847 := cell_on p2 bl844
          refine wpAnyH_ready (rs := [18]) (by kernel_rfl) (by simp) ?_
          refine AllReadyH.cons rfl (fun K hK => ?_) AllReadyH.nil
          go_simp
          refine hK.out _ _ ⟨q845, q846, q847⟩ (fun hHeld848 => ?_)
          clear hK K hHeld824
          set_option linter.unusedSimpArgs false in try simp only [Act.put, List.getElem_toArray, List.getElem_cons_succ, List.getElem_cons_zero, List.setIfInBounds_toArray, List.set_cons_zero, List.set_cons_succ]
          refine wpAnyH_done (by kernel_rfl) ?_ _
          go_wp2_with fail
          go_meet
          exact ⟨_, _, _, _, _, _, _, rfl, g776, bx840, k841, k842, own_less k843 g805, bstep bl844⟩
        · go_simp
          have bl849 : Below W.drew.heap.size W.drew (v778.alloc (.cells #[] 65)) := bon (bl785) (bnew v778 (.cells #[] 65))
          have k850 : BlkIs (v778.alloc (.cells #[] 65)) (W.heap.size) 32 #[.slice none 0 0, .slice none 0 0, .slice none 0 0, .slice none 0 0] := BlkIs.next (w := v778) (w' := (v778.alloc (.cells #[] 65))) k781 (bnew v778 (.cells #[] 65))
          have k851 := t780.next (bnew v778 (.cells #[] 65))
          have q852 : (v778.alloc (.cells #[] 65)).cell? ⟨b, 0, none⟩ = some (.slice A0 n0 c0) := cell_next (w1 := (v778.alloc (.cells #[] 65))) (show v778.cell? _ = _ from q782) (bnew v778 (.cells #[] 65))
          have q853 : (v778.alloc (.cells #[] 65)).cell? ⟨b, 1, none⟩ = some (.slice A1 n1 c1) := cell_next (w1 := (v778.alloc (.cells #[] 65))) (show v778.cell? _ = _ from q783) (bnew v778 (.cells #[] 65))
          have q854 : (v778.alloc (.cells #[] 65)).cell? ⟨b, 2, none⟩ = some (.slice A2 n2 c2) := cell_next (w1 := (v778.alloc (.cells #[] 65))) (show v778.cell? _ = _ from q784) (bnew v778 (.cells #[] 65))
          have k855 : (v778.alloc (.cells #[] 65)).ownsRow (v778.heap.size) 65 2 (.slice (some ⟨v778.heap.size, 0, none⟩) 0 0) 0 [] := own_empty2 v778 65
          have g856 : W.heap.size ≤ (v778.heap.size) := (bstep (bl785)).size
          refine hK.out _ _ ⟨q852, q853, q854⟩ (fun hHeld857 => ?_)
          clear hK K hHeld786
          set_option linter.unusedSimpArgs false in try simp only [Act.put, List.getElem_toArray, List.getElem_cons_succ, List.getElem_cons_zero, List.setIfInBounds_toArray, List.set_cons_zero, List.set_cons_succ]
          refine wpAnyH_ready (rs := [9]) (by kernel_rfl) (by simp) ?_
          refine AllReadyH.cons rfl (fun K hK => ?_) (AllReadyH.nil)
          go_simp
          go_wp2_with (go_at_call 75; refine (HT1.out _ (bl849)).mono ?_; rintro e v858 ⟨B1, d1, rfl, t860, hb859⟩)
          have k861 := k850.next hb859
          have k862 := k851.next hb859
          have k863 := own_below k855 hb859
          have q864 := cell_next q852 hb859
          have q865 := cell_next q853 hb859
          have q866 := cell_next q854 hb859
          have bl867 := bon (bl849) hb859
          refine hK.out _ _ ⟨q864, q865, q866⟩ (fun hHeld868 => ?_)
          clear hK K hHeld857
          set_option linter.unusedSimpArgs false in try simp only [Act.put, List.getElem_toArray, List.getElem_cons_succ, List.getElem_cons_zero, List.setIfInBounds_toArray, List.set_cons_zero, List.set_cons_succ]
          refine wpAnyH_ready (rs := [15]) (by kernel_rfl) (by simp) ?_
          refine AllReadyH.cons rfl (fun K hK => ?_) (AllReadyH.nil)
          refine Eq.mpr (if_pos (by kernel_rfl)) ?_
          obtain ⟨RA875, rc876, v869, e870, r871, gr877⟩ := app_csG (A := A2) (c := c2) k863 (H2.out.next (bstep (bl867)) (by omega)) (Nat.le_of_lt (k863.lt _ rfl).2) (by omega)
          have bl878 : Below W.drew.heap.size W.drew v869 := (bl867).grown gr877 (bl867).size (fun j hj => Nat.le_trans g856 (k863.lt j hj).1)
          have k879 := box_app k861 k863 gr877
          have k880 := k862.kept gr877 (own_noI k863)
          have k882 := t860.kept gr877 (own_noI k863)
          have q883 := cell_on p0 bl878
          have q884 := cell_on p1 bl878
          have q885 := cell_on p2 bl878
          refine wp_app_run _ _ 29 rfl (.slice (some ⟨v778.heap.size, 0, none⟩) 0 0) (.slice A2 n2 c2) rfl rfl (.slice RA875 n2 rc876) v869 e870 ?_
          clear e870
          refine hK.out _ _ ⟨q883, q884, q885⟩ (fun hHeld886 => ?_)
          clear hK K hHeld868
          set_option linter.unusedSimpArgs false in try simp only [Act.put, List.getElem_toArray, List.getElem_cons_succ, List.getElem_cons_zero, List.setIfInBounds_toArray, List.set_cons_zero, List.set_cons_succ]
          refine wpAnyH_take (i := 16) (v := ?_) rfl (by kernel_rfl) (by kernel_rfl) (by kernel_rfl) (fun _ _ _ h => h) (Or.inl ⟨by kernel_rfl, ?_⟩) (by assumption) ?_
          rotate_left
          · intro w9 hS9; (try dsimp only at hS9); go_simp; (try with_reducible rfl)
          set_option linter.unusedSimpArgs false in try simp only [Act.put, List.getElem_toArray, List.getElem_cons_succ, List.getElem_cons_zero, List.setIfInBounds_toArray, List.set_cons_zero, List.set_cons_succ]
          have z0 := k879.cell 0
          have f0 := k879.frozen 0
          have z1 := k879.cell 1
          have f1 := k879.frozen 1
          have z2 := k879.cell 2
          have f2 := k879.frozen 2
          have z3 := k879.cell 3
          have f3 := k879.frozen 3
          simp at z0 z1 z2 z3
          have bx887 := k879.set 0 (.slice B0 n0 d0)
          have k888 := k880.set4 k879 0 (.slice B0 n0 d0)
          have k889 := k882.set4 k879 0 (.slice B0 n0 d0)
          have k890 := row_set4 r871 k879 0 (.slice B0 n0 d0)
          have bl891 := Below.setCell (p := ⟨(W.heap.size), 0, none⟩) (bl878) g776 (.slice B0 n0 d0)
          have bx892 := bx887.set 1 (.slice B1 n1 d1)
          have k893 := k888.set4 bx887 1 (.slice B1 n1 d1)
          have k894 := k889.set4 bx887 1 (.slice B1 n1 d1)
          have k895 := row_set4 k890 bx887 1 (.slice B1 n1 d1)
          have bl896 := Below.setCell (p := ⟨(W.heap.size), 1, none⟩) (bl891) g776 (.slice B1 n1 d1)
          have bx897 := bx892.set 2 ((.slice RA875 n2 rc876))
          have k898 := k893.set4 bx892 2 ((.slice RA875 n2 rc876))
          have k899 := k894.set4 bx892 2 ((.slice RA875 n2 rc876))
          have k900 := row_set4 k895 bx892 2 ((.slice RA875 n2 rc876))
          have bl901 := Below.setCell (p := ⟨(W.heap.size), 2, none⟩) (bl896) g776 ((.slice RA875 n2 rc876))
          have bx902 := bx897.set 3 (.slice none 0 0)
          have k903 := k898.set4 bx897 3 (.slice none 0 0)
          have k904 := k899.set4 bx897 3 (.slice none 0 0)
          have k905 := row_set4 k900 bx897 3 (.slice none 0 0)
          have bl906 := Below.setCell (p := ⟨(W.heap.size), 3, none⟩) (bl901) g776 (.slice none 0 0)
          simp at bx902
          have q907 := cell_on p0 bl906
          have q908 := cell_on p1 bl906
          have q909 := cell_on p2 bl906
          refine wpAnyH_ready (rs := [18]) (by kernel_rfl) (by simp) ?_
          refine AllReadyH.cons rfl (fun K hK => ?_) AllReadyH.nil
          go_simp
          refine hK.out _ _ ⟨q907, q908, q909⟩ (fun hHeld910 => ?_)
          clear hK K hHeld886
          set_option linter.unusedSimpArgs false in try simp only [Act.put, List.getElem_toArray, List.getElem_cons_succ, List.getElem_cons_zero, List.setIfInBounds_toArray, List.set_cons_zero, List.set_cons_succ]
          refine wpAnyH_done (by kernel_rfl) ?_ _
          go_wp2_with fail
          go_meet
          exact ⟨_, _, _, _, _, _, _, rfl, g776, bx902, k903, k904, own_less k905 g856, bstep bl906⟩
      · go_simp
        have bl911 : Below W.drew.heap.size W.drew ((W.alloc (.cells #[.slice none 0 0, .slice none 0 0, .slice none 0 0, .slice none 0 0] 32)).alloc (.cells #[] 65)).drew := bon (bl771) (show Below (W.alloc (.cells #[.slice none 0 0, .slice none 0 0, .slice none 0 0, .slice none 0 0] 32)).drew.heap.size (W.alloc (.cells #[.slice none 0 0, .slice none 0 0, .slice none 0 0, .slice none 0 0] 32)).drew ((W.alloc (.cells #[.slice none 0 0, .slice none 0 0, .slice none 0 0, .slice none 0 0] 32)).alloc (.cells #[] 65)).drew from bel_ad (W.alloc (.cells #[.slice none 0 0, .slice none 0 0, .slice none 0 0, .slice none 0 0] 32)) _)
        have k912 : BlkIs ((W.alloc (.cells #[.slice none 0 0, .slice none 0 0, .slice none 0 0, .slice none 0 0] 32)).alloc (.cells #[] 65)).drew (W.heap.size) 32 #[.slice none 0 0, .slice none 0 0, .slice none 0 0, .slice none 0 0] := BlkIs.next (w := (W.alloc (.cells #[.slice none 0 0, .slice none 0 0, .slice none 0 0, .slice none 0 0] 32))) (w' := ((W.alloc (.cells #[.slice none 0 0, .slice none 0 0, .slice none 0 0, .slice none 0 0] 32)).alloc (.cells #[] 65))) k775 (bnew (W.alloc (.cells #[.slice none 0 0, .slice none 0 0, .slice none 0 0, .slice none 0 0] 32)) (.cells #[] 65))
        have q913 : ((W.alloc (.cells #[.slice none 0 0, .slice none 0 0, .slice none 0 0, .slice none 0 0] 32)).alloc (.cells #[] 65)).drew.cell? ⟨b, 0, none⟩ = some (.slice A0 n0 c0) := cell_next (w1 := ((W.alloc (.cells #[.slice none 0 0, .slice none 0 0, .slice none 0 0, .slice none 0 0] 32)).alloc (.cells #[] 65))) (show (W.alloc (.cells #[.slice none 0 0, .slice none 0 0, .slice none 0 0, .slice none 0 0] 32)).cell? _ = _ from q772) (bnew (W.alloc (.cells #[.slice none 0 0, .slice none 0 0, .slice none 0 0, .slice none 0 0] 32)) (.cells #[] 65))
        have q914 : ((W.alloc (.cells #[.slice none 0 0, .slice none 0 0, .slice none 0 0, .slice none 0 0] 32)).alloc (.cells #[] 65)).drew.cell? ⟨b, 1, none⟩ = some (.slice A1 n1 c1) := cell_next (w1 := ((W.alloc (.cells #[.slice none 0 0, .slice none 0 0, .slice none 0 0, .slice none 0 0] 32)).alloc (.cells #[] 65))) (show (W.alloc (.cells #[.slice none 0 0, .slice none 0 0, .slice none 0 0, .slice none 0 0] 32)).cell? _ = _ from q773) (bnew (W.alloc (.cells #[.slice none 0 0, .slice none 0 0, .slice none 0 0, .slice none 0 0] 32)) (.cells #[] 65))
        have q915 : ((W.alloc (.cells #[.slice none 0 0, .slice none 0 0, .slice none 0 0, .slice none 0 0] 32)).alloc (.cells #[] 65)).drew.cell? ⟨b, 2, none⟩ = some (.slice A2 n2 c2) := cell_next (w1 := ((W.alloc (.cells #[.slice none 0 0, .slice none 0 0, .slice none 0 0, .slice none 0 0] 32)).alloc (.cells #[] 65))) (show (W.alloc (.cells #[.slice none 0 0, .slice none 0 0, .slice none 0 0, .slice none 0 0] 32)).cell? _ = _ from q774) (bnew (W.alloc (.cells #[.slice none 0 0, .slice none 0 0, .slice none 0 0, .slice none 0 0] 32)) (.cells #[] 65))
        have k916 : ((W.alloc (.cells #[.slice none 0 0, .slice none 0 0, .slice none 0 0, .slice none 0 0] 32)).alloc (.cells #[] 65)).drew.ownsRow (W.heap.size + 1) 65 2 (.slice (some ⟨W.heap.size + 1, 0, none⟩) 0 0) 0 [] := by have h := own_empty2 (W.alloc (.cells #[.slice none 0 0, .slice none 0 0, .slice none 0 0, .slice none 0 0] 32)) 65; rw [show (W.alloc (.cells #[.slice none 0 0, .slice none 0 0, .slice none 0 0, .slice none 0 0] 32)).heap.size = W.heap.size + 1 from by simp] at h; exact h
        have g917 : W.heap.size ≤ (W.heap.size + 1) := by have := (bstep (bl771)).size; simp at this; omega
        refine hK.out _ _ ⟨q913, q914, q915⟩ (fun hHeld918 => ?_)
        clear hK K hHeld777
        set_option linter.unusedSimpArgs false in try simp only [Act.put, List.getElem_toArray, List.getElem_cons_succ, List.getElem_cons_zero, List.setIfInBounds_toArray, List.set_cons_zero, List.set_cons_succ]
        refine wpAnyH_ready (rs := [4]) (by kernel_rfl) (by simp) ?_
        refine AllReadyH.cons rfl (fun K hK => ?_) (AllReadyH.nil)
        go_simp
        go_wp2_with (go_at_call 75; refine (HT0.out _ (bl911)).mono ?_; rintro e v919 ⟨B0, d0, rfl, t921, hb920⟩)
        have k922 := k912.next hb920
        have k923 := own_below k916 hb920
        have q924 := cell_next q913 hb920
        have q925 := cell_next q914 hb920
        have q926 := cell_next q915 hb920
        have bl927 := bon (bl911) hb920
        refine hK.out _ _ ⟨q924, q925, q926⟩ (fun hHeld928 => ?_)
        clear hK K hHeld918
        set_option linter.unusedSimpArgs false in try simp only [Act.put, List.getElem_toArray, List.getElem_cons_succ, List.getElem_cons_zero, List.setIfInBounds_toArray, List.set_cons_zero, List.set_cons_succ]
        refine wpAnyH_ready (rs := [9]) (by kernel_rfl) (by simp) ?_
        refine AllReadyH.cons rfl (fun K hK => ?_) (AllReadyH.nil)
        go_simp
        go_wp2_with (go_at_call 75; refine (HT1.out _ (bl927)).mono ?_; rintro e v929 ⟨B1, d1, rfl, t931, hb930⟩)
        have k932 := k922.next hb930
        have k933 := own_below k923 hb930
        have k934 := t921.next hb930
        have q935 := cell_next q924 hb930
        have q936 := cell_next q925 hb930
        have q937 := cell_next q926 hb930
        have bl938 := bon (bl927) hb930
        refine hK.out _ _ ⟨q935, q936, q937⟩ (fun hHeld939 => ?_)
        clear hK K hHeld928
        set_option linter.unusedSimpArgs false in try simp only [Act.put, List.getElem_toArray, List.getElem_cons_succ, List.getElem_cons_zero, List.setIfInBounds_toArray, List.set_cons_zero, List.set_cons_succ]
        refine wpAnyH_ready (rs := [15]) (by kernel_rfl) (by simp) ?_
        refine AllReadyH.cons rfl (fun K hK => ?_) (AllReadyH.nil)
        refine Eq.mpr (if_pos (by kernel_rfl)) ?_
        obtain ⟨RA946, rc947, v940, e941, r942, gr948⟩ := app_csG (A := A2) (c := c2) k933 (H2.out.next (bstep (bl938)) (by omega)) (Nat.le_of_lt (k933.lt _ rfl).2) (by omega)
        have bl949 : Below W.drew.heap.size W.drew v940 := (bl938).grown gr948 (bl938).size (fun j hj => Nat.le_trans g917 (k933.lt j hj).1)
        have k950 := box_app k932 k933 gr948
        have k952 := k934.kept gr948 (own_noI k933)
        have k953 := t931.kept gr948 (own_noI k933)
        have q954 := cell_on p0 bl949
        have q955 := cell_on p1 bl949
        have q956 := cell_on p2 bl949
        refine wp_app_run _ _ 29 rfl (.slice (some ⟨W.heap.size + 1, 0, none⟩) 0 0) (.slice A2 n2 c2) rfl rfl (.slice RA946 n2 rc947) v940 e941 ?_
        clear e941
        refine hK.out _ _ ⟨q954, q955, q956⟩ (fun hHeld957 => ?_)
        clear hK K hHeld939
        set_option linter.unusedSimpArgs false in try simp only [Act.put, List.getElem_toArray, List.getElem_cons_succ, List.getElem_cons_zero, List.setIfInBounds_toArray, List.set_cons_zero, List.set_cons_succ]
        refine wpAnyH_take (i := 16) (v := ?_) rfl (by kernel_rfl) (by kernel_rfl) (by kernel_rfl) (fun _ _ _ h => h) (Or.inl ⟨by kernel_rfl, ?_⟩) (by assumption) ?_
        rotate_left
        · intro w9 hS9; (try dsimp only at hS9); go_simp; (try with_reducible rfl)
        set_option linter.unusedSimpArgs false in try simp only [Act.put, List.getElem_toArray, List.getElem_cons_succ, List.getElem_cons_zero, List.setIfInBounds_toArray, List.set_cons_zero, List.set_cons_succ]
        have z0 := k950.cell 0
        have f0 := k950.frozen 0
        have z1 := k950.cell 1
        have f1 := k950.frozen 1
        have z2 := k950.cell 2
        have f2 := k950.frozen 2
        have z3 := k950.cell 3
        have f3 := k950.frozen 3
        simp at z0 z1 z2 z3
        have bx958 := k950.set 0 (.slice B0 n0 d0)
        have k959 := k952.set4 k950 0 (.slice B0 n0 d0)
        have k960 := k953.set4 k950 0 (.slice B0 n0 d0)
        have k961 := row_set4 r942 k950 0 (.slice B0 n0 d0)
        have bl962 := Below.setCell (p := ⟨(W.heap.size), 0, none⟩) (bl949) g776 (.slice B0 n0 d0)
        have bx963 := bx958.set 1 (.slice B1 n1 d1)
        have k964 := k959.set4 bx958 1 (.slice B1 n1 d1)
        have k965 := k960.set4 bx958 1 (.slice B1 n1 d1)
        have k966 := row_set4 k961 bx958 1 (.slice B1 n1 d1)
        have bl967 := Below.setCell (p := ⟨(W.heap.size), 1, none⟩) (bl962) g776 (.slice B1 n1 d1)
        have bx968 := bx963.set 2 ((.slice RA946 n2 rc947))
        have k969 := k964.set4 bx963 2 ((.slice RA946 n2 rc947))
        have k970 := k965.set4 bx963 2 ((.slice RA946 n2 rc947))
        have k971 := row_set4 k966 bx963 2 ((.slice RA946 n2 rc947))
        have bl972 := Below.setCell (p := ⟨(W.heap.size), 2, none⟩) (bl967) g776 ((.slice RA946 n2 rc947))
        have bx973 := bx968.set 3 (.slice none 0 0)
        have k974 := k969.set4 bx968 3 (.slice none 0 0)
        have k975 := k970.set4 bx968 3 (.slice none 0 0)
        have k976 := row_set4 k971 bx968 3 (.slice none 0 0)
        have bl977 := Below.setCell (p := ⟨(W.heap.size), 3, none⟩) (bl972) g776 (.slice none 0 0)
        simp at bx973
        have q978 := cell_on p0 bl977
        have q979 := cell_on p1 bl977
        have q980 := cell_on p2 bl977
        refine wpAnyH_ready (rs := [18]) (by kernel_rfl) (by simp) ?_
        refine AllReadyH.cons rfl (fun K hK => ?_) AllReadyH.nil
        go_simp
        refine hK.out _ _ ⟨q978, q979, q980⟩ (fun hHeld981 => ?_)
        clear hK K hHeld957
        set_option linter.unusedSimpArgs false in try simp only [Act.put, List.getElem_toArray, List.getElem_cons_succ, List.getElem_cons_zero, List.setIfInBounds_toArray, List.set_cons_zero, List.set_cons_succ]
        refine wpAnyH_done (by kernel_rfl) ?_ _
        go_wp2_with fail
        go_meet
        exact ⟨_, _, _, _, _, _, _, rfl, g776, bx973, k974, k975, own_less k976 g917, bstep bl977⟩
  case rest =>
    clear HT0 HT1
    obtain ⟨g, B0, d0, B1, d1, B2, d2, rfl, hg, hG0, hT00, hT10, hC0, hbc⟩ := hcut
    have HR := Lib.hid hR
    have hb0s := hb0.size
    clear hR
    have hP0 := pt_nil wc W.heap.size
    go_wp2_with fail
    go_loopw [4] (fun i wr => ∃ (k : Nat) (vr : Value), k ≤ n3 ∧ i = .int .i64 k ∧ BlkIs wr g 32 #[.slice B0 n0 d0, .slice B1 n1 d1, .slice B2 n2 d2, vr] ∧ PRow wr W.heap.size vr k (t3.take k) ∧ TsL wr B0 n0 t0 ∧ TsL wr B1 n1 t1 ∧ wr.ownsRow W.heap.size 65 2 (.slice B2 n2 d2) n2 (flatC t2) ∧ Below W.heap.size W wr) (fun i _ => n3 - (intOf i).toNat)
    case atStart => exact ⟨0, _, Nat.zero_le _, rfl, hG0, hP0, hT00, hT10, hC0, hbc⟩
    case round =>
      clear hG0 hP0 hT00 hT10 hC0 hbc
      obtain ⟨k, vr, hk, rfl, hG, hP, hT0, hT1, hC, hbel⟩ := hrel
      have hsz := hbel.size
      by_cases hlt : k < n3
      · obtain ⟨b', off, x, rfl, hb', hx, Af, nf, cf, q0, q1, kf⟩ := H3.out.at_ hlt
        have hee := he3 x (List.mem_of_getElem? hx)
        have hnf := kf.1
        subst hnf
        have HT : Hid (t3.take (k + 1) = t3.take k ++ [x]) := by show _ = _; rw [List.take_add_one, hx]; rfl
        have HTf : Hid (∀ x', Below W.heap.size W x' → Calls Tryz.prog 75 #[.slice Af x.s.length cf] x' fun e w' => ∃ A' c', e = .returned (.slice A' x.s.length c') ∧ TsL w' A' x.s.length x.s ∧ Below x'.heap.size x' w') := fun x' hx' => ownAllTs_c Af _ cf B x.s x' (kf.next hx' (by omega)) (Nat.le_trans (by omega) hx'.size) hee.1 hee.2
        have pk := cell_next p3 hbel
        clear hx kf hee
        go_wp2_with fail
        have hbd : Below W.heap.size W wr.drew := hbel.drew
        have hGd : BlkIs wr.drew g 32 #[.slice B0 n0 d0, .slice B1 n1 d1, .slice B2 n2 d2, vr] := hG
        have hPd : PRow wr.drew W.heap.size vr k (t3.take k) := hP
        have hT0d : TsL wr.drew B0 n0 t0 := hT0
        have hT1d : TsL wr.drew B1 n1 t1 := hT1
        have hCd : wr.drew.ownsRow W.heap.size 65 2 (.slice B2 n2 d2) n2 (flatC t2) := hC
        clear hG hP hT0 hT1 hC hbel
        refine wp_region_held_drew (S := fun w' => w'.cell? ⟨b, 3, none⟩ = some (.slice (some ⟨b', off, none⟩) n3 c3) ∧ w'.cell? ⟨b', off + k * 2, none⟩ = some (.int .i64 x.a) ∧ w'.cell? ⟨b', off + k * 2 + 1, none⟩ = some (.slice Af x.s.length cf)) (by kernel_rfl) ⟨cell_next p3 hbd, cell_next q0 hbd, cell_next q1 hbd⟩ ?_
        intro hHeld0
        refine wpAnyH_take (i := 0) (v := ?_) rfl (by kernel_rfl) (by kernel_rfl) (by kernel_rfl) (fun _ _ _ h => h) (Or.inl ⟨by kernel_rfl, ?_⟩) (by assumption) ?_
        rotate_left
        · intro w9 hS9; (try dsimp only at hS9); go_simp; (try with_reducible rfl)
        set_option linter.unusedSimpArgs false in try simp only [Act.put, List.getElem_toArray, List.getElem_cons_succ, List.getElem_cons_zero, List.setIfInBounds_toArray, List.set_cons_zero, List.set_cons_succ]
        refine wpAnyH_take (i := 2) (v := ?_) rfl (by kernel_rfl) (by kernel_rfl) (by kernel_rfl) (fun _ _ _ h => h) (Or.inl ⟨by kernel_rfl, ?_⟩) (by assumption) ?_
        rotate_left
        · intro w9 hS9; (try dsimp only at hS9); go_simp; (try with_reducible rfl)
        set_option linter.unusedSimpArgs false in try simp only [Act.put, List.getElem_toArray, List.getElem_cons_succ, List.getElem_cons_zero, List.setIfInBounds_toArray, List.set_cons_zero, List.set_cons_succ]
        refine wpAnyH_take (i := 3) (v := ?_) rfl (by kernel_rfl) (by kernel_rfl) (by kernel_rfl) (fun _ _ _ h => h) (Or.inl ⟨by kernel_rfl, ?_⟩) (by assumption) ?_
        rotate_left
        · intro w9 hS9; (try dsimp only at hS9); go_simp; (try with_reducible rfl)
        set_option linter.unusedSimpArgs false in try simp only [Act.put, List.getElem_toArray, List.getElem_cons_succ, List.getElem_cons_zero, List.setIfInBounds_toArray, List.set_cons_zero, List.set_cons_succ]
        refine wpAnyH_take (i := 4) (v := ?_) rfl (by kernel_rfl) (by kernel_rfl) (by kernel_rfl) (fun _ _ _ h => h) (Or.inl ⟨by kernel_rfl, ?_⟩) (by assumption) ?_
        rotate_left
        · intro w9 hS9; (try dsimp only at hS9); go_simp; (try with_reducible rfl)
        set_option linter.unusedSimpArgs false in try simp only [Act.put, List.getElem_toArray, List.getElem_cons_succ, List.getElem_cons_zero, List.setIfInBounds_toArray, List.set_cons_zero, List.set_cons_succ]
        refine wpAnyH_take (i := 5) (v := ?_) rfl (by kernel_rfl) (by kernel_rfl) (by kernel_rfl) (fun _ _ _ h => h) (Or.inl ⟨by kernel_rfl, ?_⟩) (by assumption) ?_
        rotate_left
        · intro w9 hS9; (try dsimp only at hS9); go_simp; (try with_reducible rfl)
        set_option linter.unusedSimpArgs false in try simp only [Act.put, List.getElem_toArray, List.getElem_cons_succ, List.getElem_cons_zero, List.setIfInBounds_toArray, List.set_cons_zero, List.set_cons_succ]
        refine wpAnyH_take (i := 6) (v := ?_) rfl (by kernel_rfl) (by kernel_rfl) (by kernel_rfl) (fun _ _ _ h => h) (Or.inl ⟨by kernel_rfl, ?_⟩) (by assumption) ?_
        rotate_left
        · intro w9 hS9; (try dsimp only at hS9); go_simp; (try with_reducible rfl)
        set_option linter.unusedSimpArgs false in try simp only [Act.put, List.getElem_toArray, List.getElem_cons_succ, List.getElem_cons_zero, List.setIfInBounds_toArray, List.set_cons_zero, List.set_cons_succ]
        refine wpAnyH_take (i := 7) (v := ?_) rfl (by kernel_rfl) (by kernel_rfl) (by kernel_rfl) (fun _ _ _ h => h) (Or.inl ⟨by kernel_rfl, ?_⟩) (by assumption) ?_
        rotate_left
        · intro w9 hS9; (try dsimp only at hS9); go_simp; (try with_reducible rfl)
        set_option linter.unusedSimpArgs false in try simp only [Act.put, List.getElem_toArray, List.getElem_cons_succ, List.getElem_cons_zero, List.setIfInBounds_toArray, List.set_cons_zero, List.set_cons_succ]
        refine wpAnyH_take (i := 8) (v := ?_) rfl (by kernel_rfl) (by kernel_rfl) (by kernel_rfl) (fun _ _ _ h => h) (Or.inl ⟨by kernel_rfl, ?_⟩) (by assumption) ?_
        rotate_left
        · intro w9 hS9; (try dsimp only at hS9); go_simp; (try with_reducible rfl)
        set_option linter.unusedSimpArgs false in try simp only [Act.put, List.getElem_toArray, List.getElem_cons_succ, List.getElem_cons_zero, List.setIfInBounds_toArray, List.set_cons_zero, List.set_cons_succ]
        refine wpAnyH_take (i := 9) (v := ?_) rfl (by kernel_rfl) (by kernel_rfl) (by kernel_rfl) (fun _ _ _ h => h) (Or.inl ⟨by kernel_rfl, ?_⟩) (by assumption) ?_
        rotate_left
        · intro w9 hS9; (try dsimp only at hS9); go_simp; (try with_reducible rfl)
        set_option linter.unusedSimpArgs false in try simp only [Act.put, List.getElem_toArray, List.getElem_cons_succ, List.getElem_cons_zero, List.setIfInBounds_toArray, List.set_cons_zero, List.set_cons_succ]
        refine wpAnyH_take (i := 10) (v := ?_) rfl (by kernel_rfl) (by kernel_rfl) (by kernel_rfl) (fun _ _ _ h => h) (Or.inl ⟨by kernel_rfl, ?_⟩) (by assumption) ?_
        rotate_left
        · intro w9 hS9; (try dsimp only at hS9); go_simp; (try with_reducible rfl)
        set_option linter.unusedSimpArgs false in try simp only [Act.put, List.getElem_toArray, List.getElem_cons_succ, List.getElem_cons_zero, List.setIfInBounds_toArray, List.set_cons_zero, List.set_cons_succ]
        refine wpAnyH_take (i := 11) (v := ?_) rfl (by kernel_rfl) (by kernel_rfl) (by kernel_rfl) (fun _ _ _ h => h) (Or.inl ⟨by kernel_rfl, ?_⟩) (by assumption) ?_
        rotate_left
        · intro w9 hS9; (try dsimp only at hS9); go_simp; (try with_reducible rfl)
        set_option linter.unusedSimpArgs false in try simp only [Act.put, List.getElem_toArray, List.getElem_cons_succ, List.getElem_cons_zero, List.setIfInBounds_toArray, List.set_cons_zero, List.set_cons_succ]
        refine wpAnyH_take (i := 12) (v := ?_) rfl (by kernel_rfl) (by kernel_rfl) (by kernel_rfl) (fun _ _ _ h => h) (Or.inl ⟨by kernel_rfl, ?_⟩) (by assumption) ?_
        rotate_left
        · intro w9 hS9; (try dsimp only at hS9); go_simp; (try with_reducible rfl)
        set_option linter.unusedSimpArgs false in try simp only [Act.put, List.getElem_toArray, List.getElem_cons_succ, List.getElem_cons_zero, List.setIfInBounds_toArray, List.set_cons_zero, List.set_cons_succ]
        refine wpAnyH_take (i := 13) (v := ?_) rfl (by kernel_rfl) (by kernel_rfl) (by kernel_rfl) (fun _ _ _ h => h) (Or.inl ⟨by kernel_rfl, ?_⟩) (by assumption) ?_
        rotate_left
        · intro w9 hS9; (try dsimp only at hS9); go_simp; (try with_reducible rfl)
        set_option linter.unusedSimpArgs false in try simp only [Act.put, List.getElem_toArray, List.getElem_cons_succ, List.getElem_cons_zero, List.setIfInBounds_toArray, List.set_cons_zero, List.set_cons_succ]
        refine wpAnyH_take (i := 14) (v := ?_) rfl (by kernel_rfl) (by kernel_rfl) (by kernel_rfl) (fun _ _ _ h => h) (Or.inl ⟨by kernel_rfl, ?_⟩) (by assumption) ?_
        rotate_left
        · intro w9 hS9; (try dsimp only at hS9); go_simp; (try with_reducible rfl)
        set_option linter.unusedSimpArgs false in try simp only [Act.put, List.getElem_toArray, List.getElem_cons_succ, List.getElem_cons_zero, List.setIfInBounds_toArray, List.set_cons_zero, List.set_cons_succ]
        refine wpAnyH_take (i := 15) (v := ?_) rfl (by kernel_rfl) (by kernel_rfl) (by kernel_rfl) (fun _ _ _ h => h) (Or.inl ⟨by kernel_rfl, ?_⟩) (by assumption) ?_
        rotate_left
        · intro w9 hS9; (try dsimp only at hS9); go_simp; (try with_reducible rfl)
        set_option linter.unusedSimpArgs false in try simp only [Act.put, List.getElem_toArray, List.getElem_cons_succ, List.getElem_cons_zero, List.setIfInBounds_toArray, List.set_cons_zero, List.set_cons_succ]
        refine wpAnyH_take (i := 16) (v := ?_) rfl (by kernel_rfl) (by kernel_rfl) (by kernel_rfl) (fun _ _ _ h => h) (Or.inl ⟨by kernel_rfl, ?_⟩) (by assumption) ?_
        rotate_left
        · intro w9 hS9; (try dsimp only at hS9); go_simp; (try with_reducible rfl)
        set_option linter.unusedSimpArgs false in try simp only [Act.put, List.getElem_toArray, List.getElem_cons_succ, List.getElem_cons_zero, List.setIfInBounds_toArray, List.set_cons_zero, List.set_cons_succ]
        refine wpAnyH_take (i := 17) (v := ?_) rfl (by kernel_rfl) (by kernel_rfl) (by kernel_rfl) (fun _ _ _ h => h) (Or.inl ⟨by kernel_rfl, ?_⟩) (by assumption) ?_
        rotate_left
        · intro w9 hS9; (try dsimp only at hS9); go_simp; (try with_reducible rfl)
        set_option linter.unusedSimpArgs false in try simp only [Act.put, List.getElem_toArray, List.getElem_cons_succ, List.getElem_cons_zero, List.setIfInBounds_toArray, List.set_cons_zero, List.set_cons_succ]
        refine wpAnyH_ready (rs := [1, 18]) (by kernel_rfl) (by simp) ?_
        refine AllReadyH.cons rfl (fun K hK => ?_) (AllReadyH.cons rfl (fun K hK => ?_) (AllReadyH.nil))
        · have z1 := hGd.cell 3
          simp at z1
          go_simp
          refine hK.out _ _ ⟨cell_next p3 hbd, cell_next q0 hbd, cell_next q1 hbd⟩ (fun hHeld2 => ?_)
          clear hK K hHeld0
          set_option linter.unusedSimpArgs false in try simp only [Act.put, List.getElem_toArray, List.getElem_cons_succ, List.getElem_cons_zero, List.setIfInBounds_toArray, List.set_cons_zero, List.set_cons_succ]
          refine wpAnyH_ready (rs := [18]) (by kernel_rfl) (by simp) ?_
          refine AllReadyH.cons rfl (fun K hK => ?_) (AllReadyH.nil)
          go_simp
          go_wp2_with (go_at_call 75; refine (HTf.out _ hbd).mono ?_; rintro e v3 ⟨Af1, cf1, rfl, t5, hb4⟩)
          have k6 := hGd.next hb4
          have k7 := hT0d.next hb4
          have k8 := hT1d.next hb4
          have k9 := hPd.next hb4
          have k10 := own_below hCd hb4
          have bw11 := bon hbd hb4
          refine hK.out _ _ ⟨cell_next p3 bw11, cell_next q0 bw11, cell_next q1 bw11⟩ (fun hHeld12 => ?_)
          clear hK K hHeld2
          set_option linter.unusedSimpArgs false in try simp only [Act.put, List.getElem_toArray, List.getElem_cons_succ, List.getElem_cons_zero, List.setIfInBounds_toArray, List.set_cons_zero, List.set_cons_succ]
          refine wpAnyH_take (i := 19) (v := ?_) rfl (by kernel_rfl) (by kernel_rfl) (by kernel_rfl) (fun _ _ _ h => h) (Or.inl ⟨by kernel_rfl, ?_⟩) (by assumption) ?_
          rotate_left
          · intro w9 hS9; (try dsimp only at hS9); go_simp; (try with_reducible rfl)
          set_option linter.unusedSimpArgs false in try simp only [Act.put, List.getElem_toArray, List.getElem_cons_succ, List.getElem_cons_zero, List.setIfInBounds_toArray, List.set_cons_zero, List.set_cons_succ]
          refine wpAnyH_ready (rs := [20]) (by kernel_rfl) (by simp) ?_
          refine AllReadyH.cons rfl (fun K hK => ?_) (AllReadyH.nil)
          go_simp
          have k13 := k6.next (bnew v3 (.cells #[.int .i64 x.a, .slice Af1 x.s.length cf1] 83))
          have k14 := k7.next (bnew v3 (.cells #[.int .i64 x.a, .slice Af1 x.s.length cf1] 83))
          have k15 := k8.next (bnew v3 (.cells #[.int .i64 x.a, .slice Af1 x.s.length cf1] 83))
          have k16 := k9.next (bnew v3 (.cells #[.int .i64 x.a, .slice Af1 x.s.length cf1] 83))
          have k17 := t5.next (bnew v3 (.cells #[.int .i64 x.a, .slice Af1 x.s.length cf1] 83))
          have k18 := own_below k10 (bnew v3 (.cells #[.int .i64 x.a, .slice Af1 x.s.length cf1] 83))
          have bw19 := bon bw11 (bnew v3 (.cells #[.int .i64 x.a, .slice Af1 x.s.length cf1] 83))
          have pt20 : PtL (v3.alloc (.cells #[.int .i64 x.a, .slice Af1 x.s.length cf1] 83)) (some ⟨v3.heap.size, 0, none⟩) 1 [x] := pt_one (blk_new _ _ _ _ rfl) k17
          generalize (v3.alloc (.cells #[.int .i64 x.a, .slice Af1 x.s.length cf1] 83)) = V21 at k13 k14 k15 k16 k17 k18 bw19 pt20 ⊢
          refine hK.out _ _ ⟨cell_next p3 bw19, cell_next q0 bw19, cell_next q1 bw19⟩ (fun hHeld22 => ?_)
          clear hK K hHeld12
          set_option linter.unusedSimpArgs false in try simp only [Act.put, List.getElem_toArray, List.getElem_cons_succ, List.getElem_cons_zero, List.setIfInBounds_toArray, List.set_cons_zero, List.set_cons_succ]
          refine wpAnyH_ready (rs := [21]) (by kernel_rfl) (by simp) ?_
          refine AllReadyH.cons rfl (fun K hK => ?_) (AllReadyH.nil)
          refine Eq.mpr (if_pos (by kernel_rfl)) ?_
          obtain ⟨vp, v23, e24, rw27, hb25, gr26⟩ := app_pt (c := 1) k16 pt20 bw19.size (by omega) (by omega)
          obtain ⟨Ap, cp, rfl, _⟩ := rw27.out
          obtain ⟨_, _, ho, _⟩ := k16
          have k28 := blk_grown k13 ho (by decide) gr26
          have k29 := k14.kept gr26 (own_noP ho)
          have k30 := k15.kept gr26 (own_noP ho)
          have k31 := own_kept k18 gr26 (own_not ho (by decide))
          have bw32 := bw19.trans hb25
          refine wp_app_run _ _ 30 rfl vr (.slice (some ⟨v3.heap.size, 0, none⟩) 1 1) rfl rfl (.slice Ap (k + 1) cp) v23 e24 ?_
          clear e24
          refine hK.out _ _ ⟨cell_next p3 bw32, cell_next q0 bw32, cell_next q1 bw32⟩ (fun hHeld33 => ?_)
          clear hK K hHeld22
          set_option linter.unusedSimpArgs false in try simp only [Act.put, List.getElem_toArray, List.getElem_cons_succ, List.getElem_cons_zero, List.setIfInBounds_toArray, List.set_cons_zero, List.set_cons_succ]
          refine wpAnyH_take (i := 22) (v := ?_) rfl (by kernel_rfl) (by kernel_rfl) (by kernel_rfl) (fun _ _ _ h => h) (Or.inl ⟨by kernel_rfl, ?_⟩) (by assumption) ?_
          rotate_left
          · intro w9 hS9; (try dsimp only at hS9); go_simp; (try with_reducible rfl)
          set_option linter.unusedSimpArgs false in try simp only [Act.put, List.getElem_toArray, List.getElem_cons_succ, List.getElem_cons_zero, List.setIfInBounds_toArray, List.set_cons_zero, List.set_cons_succ]
          refine wpAnyH_ready (rs := [23]) (by kernel_rfl) (by simp) ?_
          refine AllReadyH.cons rfl (fun K hK => ?_) (AllReadyH.nil)
          have z3 := k28.cell 3
          have f3 := k28.frozen 3
          simp at z3
          have bx34 := k28.set 3 (.slice Ap (k + 1) cp)
          simp at bx34
          have k0 := k29.kept (r := some g) only_set (fun k cs e => ⟨blk_not k28 (by decide) k cs e, blk_not k28 (by decide) k cs e⟩) (w' := v23.setCell ⟨g, 3, none⟩ (.slice Ap (k + 1) cp))
          have k1 := k30.kept (r := some g) only_set (fun k cs e => ⟨blk_not k28 (by decide) k cs e, blk_not k28 (by decide) k cs e⟩) (w' := v23.setCell ⟨g, 3, none⟩ (.slice Ap (k + 1) cp))
          have k2 := own_kept (w' := v23.setCell ⟨g, 3, none⟩ (.slice Ap (k + 1) cp)) k31 (r := some g) only_set (blk_not k28 (by decide))
          have k3 := rw27.kept (r := some g) only_set (fun k cs e => ⟨blk_not k28 (by decide) k cs e, blk_not k28 (by decide) k cs e⟩) (blk_not k28 (by decide)) (w' := v23.setCell ⟨g, 3, none⟩ (.slice Ap (k + 1) cp))
          have bwf := Below.setCell (p := ⟨g, 3, none⟩) bw32 hg (.slice Ap (k + 1) cp)
          go_simp
          refine hK.out _ _ ⟨cell_next p3 bwf, cell_next q0 bwf, cell_next q1 bwf⟩ (fun hHeld35 => ?_)
          clear hK K hHeld33
          set_option linter.unusedSimpArgs false in try simp only [Act.put, List.getElem_toArray, List.getElem_cons_succ, List.getElem_cons_zero, List.setIfInBounds_toArray, List.set_cons_zero, List.set_cons_succ]
          refine wpAnyH_done (by kernel_rfl) ?_ _
          go_wp2_with fail
          go_roundw
          case rel => exact ⟨k + 1, _, by omega, by go_num, bx34, (by rw [HT.out]; exact k3), k0, k1, k2, bwf⟩
          case measure => simp [intOf]; omega
        · go_simp
          go_wp2_with (go_at_call 75; refine (HTf.out _ hbd).mono ?_; rintro e v36 ⟨Af1, cf1, rfl, t38, hb37⟩)
          have k39 := hGd.next hb37
          have k40 := hT0d.next hb37
          have k41 := hT1d.next hb37
          have k42 := hPd.next hb37
          have k43 := own_below hCd hb37
          have bw44 := bon hbd hb37
          refine hK.out _ _ ⟨cell_next p3 bw44, cell_next q0 bw44, cell_next q1 bw44⟩ (fun hHeld45 => ?_)
          clear hK K hHeld0
          set_option linter.unusedSimpArgs false in try simp only [Act.put, List.getElem_toArray, List.getElem_cons_succ, List.getElem_cons_zero, List.setIfInBounds_toArray, List.set_cons_zero, List.set_cons_succ]
          refine wpAnyH_take (i := 19) (v := ?_) rfl (by kernel_rfl) (by kernel_rfl) (by kernel_rfl) (fun _ _ _ h => h) (Or.inl ⟨by kernel_rfl, ?_⟩) (by assumption) ?_
          rotate_left
          · intro w9 hS9; (try dsimp only at hS9); go_simp; (try with_reducible rfl)
          set_option linter.unusedSimpArgs false in try simp only [Act.put, List.getElem_toArray, List.getElem_cons_succ, List.getElem_cons_zero, List.setIfInBounds_toArray, List.set_cons_zero, List.set_cons_succ]
          refine wpAnyH_ready (rs := [1, 20]) (by kernel_rfl) (by simp) ?_
          refine AllReadyH.cons rfl (fun K hK => ?_) (AllReadyH.cons rfl (fun K hK => ?_) (AllReadyH.nil))
          · have z46 := k39.cell 3
            simp at z46
            go_simp
            refine hK.out _ _ ⟨cell_next p3 bw44, cell_next q0 bw44, cell_next q1 bw44⟩ (fun hHeld47 => ?_)
            clear hK K hHeld45
            set_option linter.unusedSimpArgs false in try simp only [Act.put, List.getElem_toArray, List.getElem_cons_succ, List.getElem_cons_zero, List.setIfInBounds_toArray, List.set_cons_zero, List.set_cons_succ]
            refine wpAnyH_ready (rs := [20]) (by kernel_rfl) (by simp) ?_
            refine AllReadyH.cons rfl (fun K hK => ?_) (AllReadyH.nil)
            go_simp
            have k48 := k39.next (bnew v36 (.cells #[.int .i64 x.a, .slice Af1 x.s.length cf1] 83))
            have k49 := k40.next (bnew v36 (.cells #[.int .i64 x.a, .slice Af1 x.s.length cf1] 83))
            have k50 := k41.next (bnew v36 (.cells #[.int .i64 x.a, .slice Af1 x.s.length cf1] 83))
            have k51 := k42.next (bnew v36 (.cells #[.int .i64 x.a, .slice Af1 x.s.length cf1] 83))
            have k52 := t38.next (bnew v36 (.cells #[.int .i64 x.a, .slice Af1 x.s.length cf1] 83))
            have k53 := own_below k43 (bnew v36 (.cells #[.int .i64 x.a, .slice Af1 x.s.length cf1] 83))
            have bw54 := bon bw44 (bnew v36 (.cells #[.int .i64 x.a, .slice Af1 x.s.length cf1] 83))
            have pt55 : PtL (v36.alloc (.cells #[.int .i64 x.a, .slice Af1 x.s.length cf1] 83)) (some ⟨v36.heap.size, 0, none⟩) 1 [x] := pt_one (blk_new _ _ _ _ rfl) k52
            generalize (v36.alloc (.cells #[.int .i64 x.a, .slice Af1 x.s.length cf1] 83)) = V56 at k48 k49 k50 k51 k52 k53 bw54 pt55 ⊢
            refine hK.out _ _ ⟨cell_next p3 bw54, cell_next q0 bw54, cell_next q1 bw54⟩ (fun hHeld57 => ?_)
            clear hK K hHeld47
            set_option linter.unusedSimpArgs false in try simp only [Act.put, List.getElem_toArray, List.getElem_cons_succ, List.getElem_cons_zero, List.setIfInBounds_toArray, List.set_cons_zero, List.set_cons_succ]
            refine wpAnyH_ready (rs := [21]) (by kernel_rfl) (by simp) ?_
            refine AllReadyH.cons rfl (fun K hK => ?_) (AllReadyH.nil)
            refine Eq.mpr (if_pos (by kernel_rfl)) ?_
            obtain ⟨vp, v58, e59, rw62, hb60, gr61⟩ := app_pt (c := 1) k51 pt55 bw54.size (by omega) (by omega)
            obtain ⟨Ap, cp, rfl, _⟩ := rw62.out
            obtain ⟨_, _, ho, _⟩ := k51
            have k63 := blk_grown k48 ho (by decide) gr61
            have k64 := k49.kept gr61 (own_noP ho)
            have k65 := k50.kept gr61 (own_noP ho)
            have k66 := own_kept k53 gr61 (own_not ho (by decide))
            have bw67 := bw54.trans hb60
            refine wp_app_run _ _ 30 rfl vr (.slice (some ⟨v36.heap.size, 0, none⟩) 1 1) rfl rfl (.slice Ap (k + 1) cp) v58 e59 ?_
            clear e59
            refine hK.out _ _ ⟨cell_next p3 bw67, cell_next q0 bw67, cell_next q1 bw67⟩ (fun hHeld68 => ?_)
            clear hK K hHeld57
            set_option linter.unusedSimpArgs false in try simp only [Act.put, List.getElem_toArray, List.getElem_cons_succ, List.getElem_cons_zero, List.setIfInBounds_toArray, List.set_cons_zero, List.set_cons_succ]
            refine wpAnyH_take (i := 22) (v := ?_) rfl (by kernel_rfl) (by kernel_rfl) (by kernel_rfl) (fun _ _ _ h => h) (Or.inl ⟨by kernel_rfl, ?_⟩) (by assumption) ?_
            rotate_left
            · intro w9 hS9; (try dsimp only at hS9); go_simp; (try with_reducible rfl)
            set_option linter.unusedSimpArgs false in try simp only [Act.put, List.getElem_toArray, List.getElem_cons_succ, List.getElem_cons_zero, List.setIfInBounds_toArray, List.set_cons_zero, List.set_cons_succ]
            refine wpAnyH_ready (rs := [23]) (by kernel_rfl) (by simp) ?_
            refine AllReadyH.cons rfl (fun K hK => ?_) (AllReadyH.nil)
            have z3 := k63.cell 3
            have f3 := k63.frozen 3
            simp at z3
            have bx69 := k63.set 3 (.slice Ap (k + 1) cp)
            simp at bx69
            have k0 := k64.kept (r := some g) only_set (fun k cs e => ⟨blk_not k63 (by decide) k cs e, blk_not k63 (by decide) k cs e⟩) (w' := v58.setCell ⟨g, 3, none⟩ (.slice Ap (k + 1) cp))
            have k1 := k65.kept (r := some g) only_set (fun k cs e => ⟨blk_not k63 (by decide) k cs e, blk_not k63 (by decide) k cs e⟩) (w' := v58.setCell ⟨g, 3, none⟩ (.slice Ap (k + 1) cp))
            have k2 := own_kept (w' := v58.setCell ⟨g, 3, none⟩ (.slice Ap (k + 1) cp)) k66 (r := some g) only_set (blk_not k63 (by decide))
            have k3 := rw62.kept (r := some g) only_set (fun k cs e => ⟨blk_not k63 (by decide) k cs e, blk_not k63 (by decide) k cs e⟩) (blk_not k63 (by decide)) (w' := v58.setCell ⟨g, 3, none⟩ (.slice Ap (k + 1) cp))
            have bwf := Below.setCell (p := ⟨g, 3, none⟩) bw67 hg (.slice Ap (k + 1) cp)
            go_simp
            refine hK.out _ _ ⟨cell_next p3 bwf, cell_next q0 bwf, cell_next q1 bwf⟩ (fun hHeld70 => ?_)
            clear hK K hHeld68
            set_option linter.unusedSimpArgs false in try simp only [Act.put, List.getElem_toArray, List.getElem_cons_succ, List.getElem_cons_zero, List.setIfInBounds_toArray, List.set_cons_zero, List.set_cons_succ]
            refine wpAnyH_done (by kernel_rfl) ?_ _
            go_wp2_with fail
            go_roundw
            case rel => exact ⟨k + 1, _, by omega, by go_num, bx69, (by rw [HT.out]; exact k3), k0, k1, k2, bwf⟩
            case measure => simp [intOf]; omega
          · go_simp
            have k71 := k39.next (bnew v36 (.cells #[.int .i64 x.a, .slice Af1 x.s.length cf1] 83))
            have k72 := k40.next (bnew v36 (.cells #[.int .i64 x.a, .slice Af1 x.s.length cf1] 83))
            have k73 := k41.next (bnew v36 (.cells #[.int .i64 x.a, .slice Af1 x.s.length cf1] 83))
            have k74 := k42.next (bnew v36 (.cells #[.int .i64 x.a, .slice Af1 x.s.length cf1] 83))
            have k75 := t38.next (bnew v36 (.cells #[.int .i64 x.a, .slice Af1 x.s.length cf1] 83))
            have k76 := own_below k43 (bnew v36 (.cells #[.int .i64 x.a, .slice Af1 x.s.length cf1] 83))
            have bw77 := bon bw44 (bnew v36 (.cells #[.int .i64 x.a, .slice Af1 x.s.length cf1] 83))
            have pt78 : PtL (v36.alloc (.cells #[.int .i64 x.a, .slice Af1 x.s.length cf1] 83)) (some ⟨v36.heap.size, 0, none⟩) 1 [x] := pt_one (blk_new _ _ _ _ rfl) k75
            generalize (v36.alloc (.cells #[.int .i64 x.a, .slice Af1 x.s.length cf1] 83)) = V79 at k71 k72 k73 k74 k75 k76 bw77 pt78 ⊢
            refine hK.out _ _ ⟨cell_next p3 bw77, cell_next q0 bw77, cell_next q1 bw77⟩ (fun hHeld80 => ?_)
            clear hK K hHeld45
            set_option linter.unusedSimpArgs false in try simp only [Act.put, List.getElem_toArray, List.getElem_cons_succ, List.getElem_cons_zero, List.setIfInBounds_toArray, List.set_cons_zero, List.set_cons_succ]
            refine wpAnyH_ready (rs := [1]) (by kernel_rfl) (by simp) ?_
            refine AllReadyH.cons rfl (fun K hK => ?_) (AllReadyH.nil)
            have z81 := k71.cell 3
            simp at z81
            go_simp
            refine hK.out _ _ ⟨cell_next p3 bw77, cell_next q0 bw77, cell_next q1 bw77⟩ (fun hHeld82 => ?_)
            clear hK K hHeld80
            set_option linter.unusedSimpArgs false in try simp only [Act.put, List.getElem_toArray, List.getElem_cons_succ, List.getElem_cons_zero, List.setIfInBounds_toArray, List.set_cons_zero, List.set_cons_succ]
            refine wpAnyH_ready (rs := [21]) (by kernel_rfl) (by simp) ?_
            refine AllReadyH.cons rfl (fun K hK => ?_) (AllReadyH.nil)
            refine Eq.mpr (if_pos (by kernel_rfl)) ?_
            obtain ⟨vp, v83, e84, rw87, hb85, gr86⟩ := app_pt (c := 1) k74 pt78 bw77.size (by omega) (by omega)
            obtain ⟨Ap, cp, rfl, _⟩ := rw87.out
            obtain ⟨_, _, ho, _⟩ := k74
            have k88 := blk_grown k71 ho (by decide) gr86
            have k89 := k72.kept gr86 (own_noP ho)
            have k90 := k73.kept gr86 (own_noP ho)
            have k91 := own_kept k76 gr86 (own_not ho (by decide))
            have bw92 := bw77.trans hb85
            refine wp_app_run _ _ 30 rfl vr (.slice (some ⟨v36.heap.size, 0, none⟩) 1 1) rfl rfl (.slice Ap (k + 1) cp) v83 e84 ?_
            clear e84
            refine hK.out _ _ ⟨cell_next p3 bw92, cell_next q0 bw92, cell_next q1 bw92⟩ (fun hHeld93 => ?_)
            clear hK K hHeld82
            set_option linter.unusedSimpArgs false in try simp only [Act.put, List.getElem_toArray, List.getElem_cons_succ, List.getElem_cons_zero, List.setIfInBounds_toArray, List.set_cons_zero, List.set_cons_succ]
            refine wpAnyH_take (i := 22) (v := ?_) rfl (by kernel_rfl) (by kernel_rfl) (by kernel_rfl) (fun _ _ _ h => h) (Or.inl ⟨by kernel_rfl, ?_⟩) (by assumption) ?_
            rotate_left
            · intro w9 hS9; (try dsimp only at hS9); go_simp; (try with_reducible rfl)
            set_option linter.unusedSimpArgs false in try simp only [Act.put, List.getElem_toArray, List.getElem_cons_succ, List.getElem_cons_zero, List.setIfInBounds_toArray, List.set_cons_zero, List.set_cons_succ]
            refine wpAnyH_ready (rs := [23]) (by kernel_rfl) (by simp) ?_
            refine AllReadyH.cons rfl (fun K hK => ?_) (AllReadyH.nil)
            have z3 := k88.cell 3
            have f3 := k88.frozen 3
            simp at z3
            have bx94 := k88.set 3 (.slice Ap (k + 1) cp)
            simp at bx94
            have k0 := k89.kept (r := some g) only_set (fun k cs e => ⟨blk_not k88 (by decide) k cs e, blk_not k88 (by decide) k cs e⟩) (w' := v83.setCell ⟨g, 3, none⟩ (.slice Ap (k + 1) cp))
            have k1 := k90.kept (r := some g) only_set (fun k cs e => ⟨blk_not k88 (by decide) k cs e, blk_not k88 (by decide) k cs e⟩) (w' := v83.setCell ⟨g, 3, none⟩ (.slice Ap (k + 1) cp))
            have k2 := own_kept (w' := v83.setCell ⟨g, 3, none⟩ (.slice Ap (k + 1) cp)) k91 (r := some g) only_set (blk_not k88 (by decide))
            have k3 := rw87.kept (r := some g) only_set (fun k cs e => ⟨blk_not k88 (by decide) k cs e, blk_not k88 (by decide) k cs e⟩) (blk_not k88 (by decide)) (w' := v83.setCell ⟨g, 3, none⟩ (.slice Ap (k + 1) cp))
            have bwf := Below.setCell (p := ⟨g, 3, none⟩) bw92 hg (.slice Ap (k + 1) cp)
            go_simp
            refine hK.out _ _ ⟨cell_next p3 bwf, cell_next q0 bwf, cell_next q1 bwf⟩ (fun hHeld95 => ?_)
            clear hK K hHeld93
            set_option linter.unusedSimpArgs false in try simp only [Act.put, List.getElem_toArray, List.getElem_cons_succ, List.getElem_cons_zero, List.setIfInBounds_toArray, List.set_cons_zero, List.set_cons_succ]
            refine wpAnyH_done (by kernel_rfl) ?_ _
            go_wp2_with fail
            go_roundw
            case rel => exact ⟨k + 1, _, by omega, by go_num, bx94, (by rw [HT.out]; exact k3), k0, k1, k2, bwf⟩
            case measure => simp [intOf]; omega
      · have e : k = n3 := by omega
        subst e
        rw [List.take_of_length_le (by rw [H3.out.1]; omega)] at hP
        obtain ⟨B3, d3, rfl, _⟩ := hP.out
        have hR2 := HR.out.next hbel
        have z0 := hG.cell 0
        have z1 := hG.cell 1
        have z2 := hG.cell 2
        have z3 := hG.cell 3
        have f0 := hR2.frozen 0
        have f1 := hR2.frozen 1
        have f2 := hR2.frozen 2
        have f3 := hR2.frozen 3
        have y0 := hR2.cell 0
        have y1 := hR2.cell 1
        have y2 := hR2.cell 2
        have y3 := hR2.cell 3
        simp at z0 z1 z2 z3 y0 y1 y2 y3
        have hX := (((hR2.set 0 (.slice B0 n0 d0)).set 1 (.slice B1 n1 d1)).set 2 (.slice B2 n2 d2)).set 3 (.slice B3 k d3)
        simp at hX
        have r0 := hX.cell 0
        have r1 := hX.cell 1
        have r2 := hX.cell 2
        have r3 := hX.cell 3
        simp at r0 r1 r2 r3
        have hgr : wr.grownBy ((((wr.setCell ⟨w.heap.size, 0, none⟩ (.slice B0 n0 d0)).setCell ⟨w.heap.size, 1, none⟩ (.slice B1 n1 d1)).setCell ⟨w.heap.size, 2, none⟩ (.slice B2 n2 d2)).setCell ⟨w.heap.size, 3, none⟩ (.slice B3 k d3)) (some w.heap.size) := only_trans (only_trans (only_trans only_set only_set) only_set) only_set
        have hno := fun k cs e => And.intro (blk_not hR2 (e' := 2) (by decide) k cs e) (blk_not hR2 (e' := 88) (by decide) k cs e)
        have q0 := hT0.kept hgr hno
        have q1 := hT1.kept hgr hno
        have q2 := own_less (own_kept hC hgr (blk_not hR2 (by decide))) hb0s
        have q3 := (hP.kept hgr hno (blk_not hR2 (by decide))).less hb0s
        have hbF := (((bon hb0 hbel).setCell (p := ⟨w.heap.size, 0, none⟩) (Nat.le_refl _) (.slice B0 n0 d0)).setCell (p := ⟨w.heap.size, 1, none⟩) (Nat.le_refl _) (.slice B1 n1 d1)).setCell (p := ⟨w.heap.size, 2, none⟩) (Nat.le_refl _) (.slice B2 n2 d2) |>.setCell (p := ⟨w.heap.size, 3, none⟩) (Nat.le_refl _) (.slice B3 k d3)
        have pk := cell_next p3 hbel
        clear hX hgr hno hG hR2
        go_wp2_with fail
        refine bodyPost_ret (v := .agg #[.slice B0 n0 d0, .slice B1 n1 d1, .slice B2 n2 d2, .slice B3 k d3]) (by simp [results, Tryz.results46, go_sem, r0, r1, r2, r3]) rfl ?_
        exact ⟨_, _, _, _, _, _, _, _, rfl, q0, q1, q2, q3, hbF⟩
end Go.Proofs.YtdmcpabpjhinhaaGreatDoor
