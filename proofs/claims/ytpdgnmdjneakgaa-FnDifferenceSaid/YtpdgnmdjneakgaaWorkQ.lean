/-
  The work list of pairs of states: its items in a row, their numbers in a map; add. Conditions: at most 1000 items.
-/
import Derived.Test.YtpdgnmdjneakgaaWork
import Derived.Test.YtpdgnmdjneakgaaKeyQ
namespace Go.Proofs.Ytpdgnmdjneakgaa
set_option linter.unusedVariables false
open Go.RowKit Go.Shelf Go.Deep

/-- A work list of pairs of states in memory: its block g, its row, its map. -/
structure WLQ (κ : Int) (w : World) (g lo B : Nat) (A : Option Addr) (c : Nat) (mv : Option Nat) (L : List Int) : Prop where
  box : BlkIs w g 82 #[.slice A L.length c, .map mv]
  glo : lo ≤ g
  row : w.ownsRow lo 52 2 (.slice A L.length c) L.length (L.flatMap (pv κ))
  num : ∀ b, mv = some b → lo ≤ b ∧ b < B ∧ NumQ κ w b L
  nil : mv = none → L = []
section
variable {κ : Int} {w w' : World} {g lo B c : Nat} {A : Option Addr} {mv : Option Nat} {L : List Int}
theorem WLQ.row_ne (h : WLQ κ w g lo B A c mv L) : (Value.slice A 0 0).ownBlock ≠ some g := by
  intro e
  rcases h.row.2 with ⟨h1, _⟩ | ⟨r, cap, cur, h1, _, h3, _⟩
  · injection h1 with h1; subst h1; cases e
  · injection h1 with h1; subst h1
    obtain rfl : r = g := Option.some.inj (show some r = some g from e)
    have hb := h.box
    unfold BlkIs at hb
    rw [h3] at hb
    injection hb with hb
    injection hb with _ h2 _
    revert h2
    decide
theorem WLQ.map_ne (h : WLQ κ w g lo B A c mv L) {b : Nat} (hb : mv = some b) : b ≠ g ∧ (Value.slice A 0 0).ownBlock ≠ some b := by
  obtain ⟨es, cl, hm⟩ := (h.num b hb).2.2.isMap
  refine ⟨fun e => ?_, fun e => ?_⟩
  · subst e
    have hx := h.box
    unfold BlkIs at hx
    rw [hm] at hx
    injection hx with hx
    cases hx
  · rcases h.row.2 with ⟨h1, _⟩ | ⟨r, cap, cur, h1, _, h3, _⟩
    · injection h1 with h1; subst h1; cases e
    · injection h1 with h1; subst h1
      obtain rfl : r = b := Option.some.inj (show some r = some b from e)
      rw [h3] at hm
      injection hm with hm
      cases hm
theorem WLQ.ge (h : WLQ κ w g lo B A c mv L) {k : Nat} (hk : wb g A mv k) : lo ≤ k ∧ k < w.heap.size := by
  rcases hk with rfl | hk | hk
  · exact ⟨h.glo, h.box.lt⟩
  · exact h.row.lt k ((ob_any _ _ _).trans hk)
  · have := h.num k hk; exact ⟨this.1, this.2.2.lt⟩
theorem WLQ.next (h : WLQ κ w g lo B A c mv L) {S : Nat → Prop} (ht : Turns S w w') (hS : ∀ k, wb g A mv k → ¬ S k) : WLQ κ w' g lo B A c mv L := by
  refine ⟨ht.blk h.box (hS g (.inl rfl)), h.glo, ⟨h.row.1, ?_⟩, fun b hb => ?_, h.nil⟩
  · rcases h.row.2 with h1 | ⟨r, cap, cur, h1, h2, h3, h4⟩
    · exact .inl h1
    · refine .inr ⟨r, cap, cur, h1, h2, ?_, h4⟩
      have hr : (Value.slice A 0 0).ownBlock = some r := by injection h1 with h1; subst h1; rfl
      have hlt : r < w.heap.size := by
        rcases Nat.lt_or_ge r w.heap.size with hlt | hge
        · exact hlt
        · rw [Array.getElem?_eq_none hge] at h3; cases h3
      rw [ht.block r hlt (hS r (.inr (.inl hr)))]; exact h3
  · obtain ⟨h1, h2, h3⟩ := h.num b hb
    exact ⟨h1, h2, h3.blk (ht.block b h3.lt (hS b (.inr (.inr hb))))⟩
theorem WLQ.isCells (h : WLQ κ w g lo B A c mv L) {k : Nat} {o : Obj} (hk : wb g A mv k) (hB : B ≤ k) (ho : w.heap[k]? = some o) : o.isCells = true := by
  rcases hk with rfl | hk | hk
  · have := h.box
    unfold BlkIs at this
    rw [ho] at this
    injection this with this
    subst this; rfl
  · rcases h.row.2 with ⟨h1, _⟩ | ⟨r, cap, cur, h1, _, h3, _⟩
    · injection h1 with h1; subst h1; cases hk
    · injection h1 with h1; subst h1
      obtain rfl : r = k := Option.some.inj (show some r = some k from hk)
      rw [h3] at ho
      injection ho with ho
      subst ho; rfl
  · have := (h.num k hk).2.1; omega
end


theorem infoQ : (Try.prog.info? 52).map (fun i => (i.zero, i.size, i.bytes)) = some (some (.agg #[.int .i64 0, .int .i64 0]), 2, 16) := by kernel_rfl
theorem wp_putQ {H : Type} {P : Program} {w : World} {o : Oper} {a : Act} {K : Act → World → Prop} {Q : Exit → Act → World → Prop} (m x v : Operand) (t : TypeId) (hop : o.op = Op.mapUpdate t m x v)
    (k e : TypeId) (Kd : Maps.Keyed P k) (ht : P.underlying t = some (.map k e)) (R : Value → Option (DataW H × List MemPlace)) (b n : Nat) (D : DataW H)
    (hm : a.eval m = .map (some b)) (hown : w.ownsMap P k R b n D) (hn : n < maxLen) (key val : Value) (kl : Lit) (hx : a.eval x = key) (hv : a.eval v = val) (hkey : keyOf P k key = some kl) (d : DataW H) (ps : List MemPlace) (hval : R val = some (d, ps))
    (hK : ∀ w', w'.ownsMap P k R b (n + 1) (D.put kl d) → w.grownBy w' (some b) → K (a.put o.dst undef) w') : Oper.wp P o a w K Q := by
  obtain ⟨w', hrun, r1, r2⟩ := hown.update Kd ht hn hkey hval
  unfold Oper.wp
  simp [execOp, hop, hm, hx, hv, hrun, Result.andThen]
  exact hK w' r1 r2
/-- A lookup of a row as one step of a region that draws. -/
theorem wp_lookQ {H : Type} {P : Program} {w : World} {o : Oper} {a : Act} {K : Act → World → Prop} {Q : Exit → Act → World → Prop} (m x : Operand) (t : TypeId) (hop : o.op = Op.lookup t m x true)
    (k e : TypeId) (q : IntKind) (Kd : Maps.Keyed P k) (ht : P.underlying t = some (.map k e)) (he : P.underlying e = some (.int q)) (hz : (zeroValue e).run P w = .ok (.int q 0) w) (b n : Nat) (D : DataW H)
    (hm : a.eval m = .map (some b)) (hown : w.ownsMap P k (plainElem P e) b n D) (key : Value) (kl : Lit) (hx : a.eval x = key) (hkey : keyOf P k key = some kl)
    (hK : ∀ c : Int, D.atKey kl (.lit (.int q 0)) = .lit (.int q c) → K (a.put o.dst (.tuple #[.int q c, .bool (Maps.has D kl)])) w) : Oper.wp P o a w K Q := by
  obtain ⟨v, ps, hrun, hv⟩ := hown.look_ok Kd ht hz (plainElem_int he (by cases q <;> decide)) hkey
  obtain ⟨c, rfl, hc, _⟩ := plainElem_int_inv he hv
  unfold Oper.wp
  simp [execOp, hop, hm, hx, hrun, Result.andThen]
  exact hK c (congrArg Prod.fst hc)
set_option maxRecDepth 100000 in
set_option maxHeartbeats 4000000 in
/-- An item is added, and others are there. -/
theorem addQ_c (κ : Int) (g lo B : Nat) (A : Option Addr) (c b : Nat) (L : List Int) (x x0 x1 : Int) (h0 : x / κ = x0) (h1 : x % κ = x1) (w : World) (h : WLQ κ w g lo B A c (some b) L) (hx : RowQ κ x) (hL : L.length ≤ 1000) (hlo : lo ≤ w.heap.size) :
    Calls Try.prog 45 #[.pointer (some ⟨g, 0, none⟩), .agg #[.int .i64 x0, .int .i64 x1]] w fun e w' => ∃ A' c', e = .returned (.int .i64 ((addL x L).idxOf x : Int)) ∧ WLQ κ w' g lo B A' c' (some b) (addL x L) ∧ Turns (wb g A (some b)) w w' ∧ ∀ k, wb g A' (some b) k → wb g A (some b) k ∨ w.heap.size ≤ k := by
  have hba := bnew w (.cells #[.int .i64 x0, .int .i64 x1] 52)
  have ht0 := Turns.of_below (S := wb g A (some b)) hba
  have hW := h.next (S := fun _ => False) (Turns.of_below hba) (fun k _ e => e)
  have hbx : BlkIs (w.alloc (.cells #[.int .i64 x0, .int .i64 x1] 52)) w.heap.size 52 #[.int .i64 x0, .int .i64 x1] := blk_new _ _ _ _ rfl
  have hs0 := hba.size
  have hgw : ∀ k, wb g A (some b) k → k < w.heap.size := fun k hk => (h.ge hk).2
  have hkey : keyOf Try.prog 52 (.agg #[.int .i64 x0, .int .i64 x1]) = some (kQ κ x) := by rw [← h0, ← h1]; exact kQ_key hx
  have qT : ∀ (w : World) (r : Option Nat), (binOp .eql 80 (.map r) (.map none)).run Try.prog w = .ok (.bool r.isNone) w := fun w r => run_eql_map_nil w _ _ _ r Try.underlying80
  have HX := Lib.hid hx
  obtain ⟨hb0, hb1, D, hD1, hD2⟩ := hW.num b rfl
  have hrn := hW.row_ne
  obtain ⟨hmn1, hmn2⟩ := hW.map_ne rfl
  have HB := Lib.hid hW.box
  have HR := Lib.hid hW.row
  have hgl := hW.box.lt
  have hglo := hW.glo
  have hbl := hD1.lt
  have hDm := hD1.isMap
  have c0 := hW.box.cell 0
  have c1 := hW.box.cell 1
  simp at c0 c1
  have hD2x := hD2 _ hx
  have HW := Lib.hid hW
  have hxx : pv κ x = [.int .i64 x0, .int .i64 x1] := by unfold pv; rw [h0, h1]
  have HXX := Lib.hid hxx
  clear h hx hxx hW h0 h1
  by_cases hm : x ∈ L
  · have hhas : Maps.has D (kQ κ x) = true := by rw [hD2x.1]; exact decide_eq_true hm
    have H2 := Lib.hid (hD2x.2 hm)
    have HF := Lib.hid (addL_old hm)
    clear hD2 hD2x hm
    go_enter Try.func45, Try.ntmps45
    go_wp2_with fail
    obtain ⟨gx, hgx⟩ : ∃ gx, w.heap.size = gx := ⟨_, rfl⟩
    rw [hgx] at hbx ⊢
    generalize w.alloc (.cells #[.int .i64 x0, .int .i64 x1] 52) = W at ht0 hD1 HW HB HR c0 c1 hbx ⊢
    have y0 := hbx.cell 0
    have y1 := hbx.cell 1
    simp at y0 y1
    have hDd : W.drew.ownsMap Try.prog 52 (plainElem Try.prog 2) b L.length D := hD1
    have k1 : W.drew.cell? ⟨g, 1, none⟩ = some (.map (some b)) := c1
    have k2 : W.drew.cell? ⟨gx, 0, none⟩ = some (.int .i64 x0) := y0
    have k3 : W.drew.cell? ⟨gx, 1, none⟩ = some (.int .i64 x1) := y1
    have ht0d : Turns (wb g A (some b)) w W.drew := ⟨ht0.os, ht0.tape, ht0.output, ht0.size, ht0.block⟩
    have HW0 := Lib.hid (HW.out.next (S := fun _ => False) (w' := W.drew) ⟨rfl, rfl, rfl, Nat.le_refl _, fun _ _ _ => rfl⟩ (fun k _ e => e))
    refine wp_region_held_drew (S := fun w' => w'.cell? ⟨g, 1, none⟩ = some (.map (some b)) ∧ w'.cell? ⟨gx, 0, none⟩ = some (.int .i64 x0) ∧ w'.cell? ⟨gx, 1, none⟩ = some (.int .i64 x1)) (by kernel_rfl) ⟨k1, k2, k3⟩ ?_
    intro hHeld0
    generalize W.drew = W0 at hDd k1 k2 k3 HW0 ht0d hHeld0 ⊢
    refine wpAnyH_take (i := 0) (v := ?_) rfl (by kernel_rfl) (by kernel_rfl) (by kernel_rfl) (fun _ _ _ h => h) (Or.inl ⟨by kernel_rfl, ?_⟩) (by assumption) ?_
    rotate_left
    · intro w9 hS9; (try dsimp only at hS9); go_simp; (try with_reducible rfl)
    set_option linter.unusedSimpArgs false in try simp only [Act.put, List.getElem_toArray, List.getElem_cons_succ, List.getElem_cons_zero, List.setIfInBounds_toArray, List.set_cons_zero, List.set_cons_succ]
    refine wpAnyH_take (i := 1) (v := ?_) rfl (by kernel_rfl) (by kernel_rfl) (by kernel_rfl) (fun _ _ _ h => h) (Or.inl ⟨by kernel_rfl, ?_⟩) (by assumption) ?_
    rotate_left
    · intro w9 hS9; (try dsimp only at hS9); go_simp; (try with_reducible rfl)
    set_option linter.unusedSimpArgs false in try simp only [Act.put, List.getElem_toArray, List.getElem_cons_succ, List.getElem_cons_zero, List.setIfInBounds_toArray, List.set_cons_zero, List.set_cons_succ]
    refine wpAnyH_take (i := 2) (v := ?_) rfl (by kernel_rfl) (by kernel_rfl) (by kernel_rfl) (fun _ _ _ h => h) (Or.inl ⟨by kernel_rfl, ?_⟩) (by assumption) ?_
    rotate_left
    · intro w9 hS9; (try dsimp only at hS9); go_simp; (try with_reducible rfl)
    set_option linter.unusedSimpArgs false in try simp only [Act.put, List.getElem_toArray, List.getElem_cons_succ, List.getElem_cons_zero, List.setIfInBounds_toArray, List.set_cons_zero, List.set_cons_succ]
    refine wpAnyH_take (i := 3) (v := ?_) rfl (by kernel_rfl) (by kernel_rfl) (by kernel_rfl) (fun _ _ _ h => h) (Or.inl ⟨by kernel_rfl, ?_⟩) (by assumption) ?_
    rotate_left
    · intro w9 hS9; (try dsimp only at hS9); go_simp; (try with_reducible rfl)
    set_option linter.unusedSimpArgs false in try simp only [Act.put, List.getElem_toArray, List.getElem_cons_succ, List.getElem_cons_zero, List.setIfInBounds_toArray, List.set_cons_zero, List.set_cons_succ]
    refine wpAnyH_take (i := 4) (v := ?_) rfl (by kernel_rfl) (by kernel_rfl) (by kernel_rfl) (fun _ _ _ h => h) (Or.inl ⟨by kernel_rfl, ?_⟩) (by assumption) ?_
    rotate_left
    · intro w9 hS9; (try dsimp only at hS9); go_simp; (try with_reducible rfl)
    set_option linter.unusedSimpArgs false in try simp only [Act.put, List.getElem_toArray, List.getElem_cons_succ, List.getElem_cons_zero, List.setIfInBounds_toArray, List.set_cons_zero, List.set_cons_succ]
    refine wpAnyH_ready (rs := [5]) (by kernel_rfl) (by simp) ?_
    refine AllReadyH.cons rfl (fun K hK => ?_) (AllReadyH.nil)
    refine Eq.mpr (if_pos (by kernel_rfl)) ?_
    refine wp_lookQ _ _ 80 rfl 52 2 .i64 keyedQ Try.underlying80 Try.underlying2 (zeroQ _) b L.length D rfl hDd _ _ rfl hkey (fun cc hat => ?_)
    rw [hhas]
    obtain rfl : (L.idxOf x : Int) = cc := by (have := H2.out.symm.trans hat; simpa using this)
    refine hK.out _ _ ⟨k1, k2, k3⟩ (fun hHeld1 => ?_)
    clear hK K hHeld0
    set_option linter.unusedSimpArgs false in try simp only [Act.put, List.getElem_toArray, List.getElem_cons_succ, List.getElem_cons_zero, List.setIfInBounds_toArray, List.set_cons_zero, List.set_cons_succ]
    refine wpAnyH_take (i := 6) (v := ?_) rfl (by kernel_rfl) (by kernel_rfl) (by kernel_rfl) (fun _ _ _ h => h) (Or.inl ⟨by kernel_rfl, ?_⟩) (by assumption) ?_
    rotate_left
    · intro w9 hS9; (try dsimp only at hS9); go_simp; (try with_reducible rfl)
    set_option linter.unusedSimpArgs false in try simp only [Act.put, List.getElem_toArray, List.getElem_cons_succ, List.getElem_cons_zero, List.setIfInBounds_toArray, List.set_cons_zero, List.set_cons_succ]
    refine wpAnyH_take (i := 7) (v := ?_) rfl (by kernel_rfl) (by kernel_rfl) (by kernel_rfl) (fun _ _ _ h => h) (Or.inl ⟨by kernel_rfl, ?_⟩) (by assumption) ?_
    rotate_left
    · intro w9 hS9; (try dsimp only at hS9); go_simp; (try with_reducible rfl)
    set_option linter.unusedSimpArgs false in try simp only [Act.put, List.getElem_toArray, List.getElem_cons_succ, List.getElem_cons_zero, List.setIfInBounds_toArray, List.set_cons_zero, List.set_cons_succ]
    refine wpAnyH_take (i := 8) (v := ?_) rfl (by kernel_rfl) (by kernel_rfl) (by kernel_rfl) (fun _ _ _ h => h) (Or.inl ⟨by kernel_rfl, ?_⟩) (by assumption) ?_
    rotate_left
    · intro w9 hS9; (try dsimp only at hS9); go_simp; (try with_reducible rfl)
    set_option linter.unusedSimpArgs false in try simp only [Act.put, List.getElem_toArray, List.getElem_cons_succ, List.getElem_cons_zero, List.setIfInBounds_toArray, List.set_cons_zero, List.set_cons_succ]
    refine wpAnyH_take (i := 9) (v := ?_) rfl (by kernel_rfl) (by kernel_rfl) (by kernel_rfl) (fun _ _ _ h => h) (Or.inl ⟨by kernel_rfl, ?_⟩) (by assumption) ?_
    rotate_left
    · intro w9 hS9; (try dsimp only at hS9); go_simp; (try with_reducible rfl)
    set_option linter.unusedSimpArgs false in try simp only [Act.put, List.getElem_toArray, List.getElem_cons_succ, List.getElem_cons_zero, List.setIfInBounds_toArray, List.set_cons_zero, List.set_cons_succ]
    refine wpAnyH_take (i := 10) (v := ?_) rfl (by kernel_rfl) (by kernel_rfl) (by kernel_rfl) (fun _ _ _ h => h) (Or.inl ⟨by kernel_rfl, ?_⟩) (by assumption) ?_
    rotate_left
    · intro w9 hS9; (try dsimp only at hS9); go_simp; (try with_reducible rfl)
    set_option linter.unusedSimpArgs false in try simp only [Act.put, List.getElem_toArray, List.getElem_cons_succ, List.getElem_cons_zero, List.setIfInBounds_toArray, List.set_cons_zero, List.set_cons_succ]
    refine wpAnyH_done (by kernel_rfl) ?_ _
    go_wp2_with fail
    go_ret
    exact ⟨A, c, by rw [HF.out]; rfl, by rw [HF.out]; exact HW0.out, ht0d, fun k hk => .inl hk⟩
  · have hhas : Maps.has D (kQ κ x) = false := by rw [hD2x.1]; exact decide_eq_false hm
    have HF := Lib.hid (addL_new hm)
    have HI : Hid ((addL x L).idxOf x = L.length) := by show _ = _; rw [addL_new hm, List.idxOf_append, if_neg hm]; simp
    have HD2 := Lib.hid hD2
    have HM := Lib.hid hm
    obtain ⟨i0, hi, hz0, hz1, hz2⟩ := info_parts infoQ
    clear hD2 hD2x hm
    go_enter Try.func45, Try.ntmps45
    go_wp2_with fail
    obtain ⟨gx, hgx⟩ : ∃ gx, w.heap.size = gx := ⟨_, rfl⟩
    have HGX := Lib.hid hgx
    rw [hgx] at hbx ⊢
    clear hgx
    generalize w.alloc (.cells #[.int .i64 x0, .int .i64 x1] 52) = W at ht0 hD1 HW HB HR c0 c1 hbx hs0 ⊢
    have y0 := hbx.cell 0
    have y1 := hbx.cell 1
    simp at y0 y1
    have hDd : W.drew.ownsMap Try.prog 52 (plainElem Try.prog 2) b L.length D := hD1
    have k1 : W.drew.cell? ⟨g, 1, none⟩ = some (.map (some b)) := c1
    have k2 : W.drew.cell? ⟨gx, 0, none⟩ = some (.int .i64 x0) := y0
    have k3 : W.drew.cell? ⟨gx, 1, none⟩ = some (.int .i64 x1) := y1
    have ht0d : Turns (wb g A (some b)) w W.drew := ⟨ht0.os, ht0.tape, ht0.output, ht0.size, ht0.block⟩
    have HW0 := Lib.hid (HW.out.next (S := fun _ => False) (w' := W.drew) ⟨rfl, rfl, rfl, Nat.le_refl _, fun _ _ _ => rfl⟩ (fun k _ e => e))
    have hbxd : BlkIs W.drew gx 52 #[.int .i64 x0, .int .i64 x1] := hbx
    have hbgx : b ≠ gx := fun e => by have := hgw b (.inr (.inr rfl)); have := HGX.out; omega
    have hggx : g ≠ gx := fun e => by have := hgw g (.inl rfl); have := HGX.out; omega
    have hAgx : (Value.slice A 0 0).ownBlock ≠ some gx := fun e => by have := hgw gx (.inr (.inl e)); have := HGX.out; omega
    have hgl2 := hgw g (.inl rfl)
    clear hD1 c0 c1 y0 y1 hbx HW HB HR
    refine wp_region_held_drew (S := fun w' => w'.cell? ⟨g, 1, none⟩ = some (.map (some b)) ∧ w'.cell? ⟨gx, 0, none⟩ = some (.int .i64 x0) ∧ w'.cell? ⟨gx, 1, none⟩ = some (.int .i64 x1)) (by kernel_rfl) ⟨k1, k2, k3⟩ ?_
    intro hHeld0
    generalize W.drew = W0 at hDd k1 k2 k3 HW0 ht0d hbxd hHeld0 ⊢
    refine wpAnyH_take (i := 0) (v := ?_) rfl (by kernel_rfl) (by kernel_rfl) (by kernel_rfl) (fun _ _ _ h => h) (Or.inl ⟨by kernel_rfl, ?_⟩) (by assumption) ?_
    rotate_left
    · intro w9 hS9; (try dsimp only at hS9); go_simp; (try with_reducible rfl)
    set_option linter.unusedSimpArgs false in try simp only [Act.put, List.getElem_toArray, List.getElem_cons_succ, List.getElem_cons_zero, List.setIfInBounds_toArray, List.set_cons_zero, List.set_cons_succ]
    refine wpAnyH_take (i := 1) (v := ?_) rfl (by kernel_rfl) (by kernel_rfl) (by kernel_rfl) (fun _ _ _ h => h) (Or.inl ⟨by kernel_rfl, ?_⟩) (by assumption) ?_
    rotate_left
    · intro w9 hS9; (try dsimp only at hS9); go_simp; (try with_reducible rfl)
    set_option linter.unusedSimpArgs false in try simp only [Act.put, List.getElem_toArray, List.getElem_cons_succ, List.getElem_cons_zero, List.setIfInBounds_toArray, List.set_cons_zero, List.set_cons_succ]
    refine wpAnyH_take (i := 2) (v := ?_) rfl (by kernel_rfl) (by kernel_rfl) (by kernel_rfl) (fun _ _ _ h => h) (Or.inl ⟨by kernel_rfl, ?_⟩) (by assumption) ?_
    rotate_left
    · intro w9 hS9; (try dsimp only at hS9); go_simp; (try with_reducible rfl)
    set_option linter.unusedSimpArgs false in try simp only [Act.put, List.getElem_toArray, List.getElem_cons_succ, List.getElem_cons_zero, List.setIfInBounds_toArray, List.set_cons_zero, List.set_cons_succ]
    refine wpAnyH_take (i := 3) (v := ?_) rfl (by kernel_rfl) (by kernel_rfl) (by kernel_rfl) (fun _ _ _ h => h) (Or.inl ⟨by kernel_rfl, ?_⟩) (by assumption) ?_
    rotate_left
    · intro w9 hS9; (try dsimp only at hS9); go_simp; (try with_reducible rfl)
    set_option linter.unusedSimpArgs false in try simp only [Act.put, List.getElem_toArray, List.getElem_cons_succ, List.getElem_cons_zero, List.setIfInBounds_toArray, List.set_cons_zero, List.set_cons_succ]
    refine wpAnyH_take (i := 4) (v := ?_) rfl (by kernel_rfl) (by kernel_rfl) (by kernel_rfl) (fun _ _ _ h => h) (Or.inl ⟨by kernel_rfl, ?_⟩) (by assumption) ?_
    rotate_left
    · intro w9 hS9; (try dsimp only at hS9); go_simp; (try with_reducible rfl)
    set_option linter.unusedSimpArgs false in try simp only [Act.put, List.getElem_toArray, List.getElem_cons_succ, List.getElem_cons_zero, List.setIfInBounds_toArray, List.set_cons_zero, List.set_cons_succ]
    refine wpAnyH_ready (rs := [5]) (by kernel_rfl) (by simp) ?_
    refine AllReadyH.cons rfl (fun K hK => ?_) (AllReadyH.nil)
    refine Eq.mpr (if_pos (by kernel_rfl)) ?_
    refine wp_lookQ _ _ 80 rfl 52 2 .i64 keyedQ Try.underlying80 Try.underlying2 (zeroQ _) b L.length D rfl hDd _ _ rfl hkey (fun cc hat => ?_)
    rw [hhas]
    refine hK.out _ _ ⟨k1, k2, k3⟩ (fun hHeld1 => ?_)
    clear hK K hHeld0
    set_option linter.unusedSimpArgs false in try simp only [Act.put, List.getElem_toArray, List.getElem_cons_succ, List.getElem_cons_zero, List.setIfInBounds_toArray, List.set_cons_zero, List.set_cons_succ]
    refine wpAnyH_take (i := 6) (v := ?_) rfl (by kernel_rfl) (by kernel_rfl) (by kernel_rfl) (fun _ _ _ h => h) (Or.inl ⟨by kernel_rfl, ?_⟩) (by assumption) ?_
    rotate_left
    · intro w9 hS9; (try dsimp only at hS9); go_simp; (try with_reducible rfl)
    set_option linter.unusedSimpArgs false in try simp only [Act.put, List.getElem_toArray, List.getElem_cons_succ, List.getElem_cons_zero, List.setIfInBounds_toArray, List.set_cons_zero, List.set_cons_succ]
    refine wpAnyH_take (i := 7) (v := ?_) rfl (by kernel_rfl) (by kernel_rfl) (by kernel_rfl) (fun _ _ _ h => h) (Or.inl ⟨by kernel_rfl, ?_⟩) (by assumption) ?_
    rotate_left
    · intro w9 hS9; (try dsimp only at hS9); go_simp; (try with_reducible rfl)
    set_option linter.unusedSimpArgs false in try simp only [Act.put, List.getElem_toArray, List.getElem_cons_succ, List.getElem_cons_zero, List.setIfInBounds_toArray, List.set_cons_zero, List.set_cons_succ]
    refine wpAnyH_take (i := 8) (v := ?_) rfl (by kernel_rfl) (by kernel_rfl) (by kernel_rfl) (fun _ _ _ h => h) (Or.inl ⟨by kernel_rfl, ?_⟩) (by assumption) ?_
    rotate_left
    · intro w9 hS9; (try dsimp only at hS9); go_simp; (try with_reducible rfl)
    set_option linter.unusedSimpArgs false in try simp only [Act.put, List.getElem_toArray, List.getElem_cons_succ, List.getElem_cons_zero, List.setIfInBounds_toArray, List.set_cons_zero, List.set_cons_succ]
    refine wpAnyH_take (i := 9) (v := ?_) rfl (by kernel_rfl) (by kernel_rfl) (by kernel_rfl) (fun _ _ _ h => h) (Or.inl ⟨by kernel_rfl, ?_⟩) (by assumption) ?_
    rotate_left
    · intro w9 hS9; (try dsimp only at hS9); go_simp; (try with_reducible rfl)
    set_option linter.unusedSimpArgs false in try simp only [Act.put, List.getElem_toArray, List.getElem_cons_succ, List.getElem_cons_zero, List.setIfInBounds_toArray, List.set_cons_zero, List.set_cons_succ]
    refine wpAnyH_take (i := 10) (v := ?_) rfl (by kernel_rfl) (by kernel_rfl) (by kernel_rfl) (fun _ _ _ h => h) (Or.inl ⟨by kernel_rfl, ?_⟩) (by assumption) ?_
    rotate_left
    · intro w9 hS9; (try dsimp only at hS9); go_simp; (try with_reducible rfl)
    set_option linter.unusedSimpArgs false in try simp only [Act.put, List.getElem_toArray, List.getElem_cons_succ, List.getElem_cons_zero, List.setIfInBounds_toArray, List.set_cons_zero, List.set_cons_succ]
    refine wpAnyH_done (by kernel_rfl) ?_ _
    have g0 := HW0.out.box.cell 0
    simp at g0
    go_wp2_with fail
    have hDe : W0.drew.ownsMap Try.prog 52 (plainElem Try.prog 2) b L.length D := hDd
    have ht1 : Turns (wb g A (some b)) w W0.drew := ⟨ht0d.os, ht0d.tape, ht0d.output, ht0d.size, ht0d.block⟩
    have HW1 := Lib.hid (HW0.out.next (S := fun _ => False) (w' := W0.drew) ⟨rfl, rfl, rfl, Nat.le_refl _, fun _ _ _ => rfl⟩ (fun k _ e => e))
    have hbxe : BlkIs W0.drew gx 52 #[.int .i64 x0, .int .i64 x1] := hbxd
    replace k1 : W0.drew.cell? ⟨g, 1, none⟩ = some (.map (some b)) := k1
    replace k2 : W0.drew.cell? ⟨gx, 0, none⟩ = some (.int .i64 x0) := k2
    replace k3 : W0.drew.cell? ⟨gx, 1, none⟩ = some (.int .i64 x1) := k3
    clear hDd HW0 ht0d hbxd g0
    refine wp_region_held_drew (S := fun w' => w'.cell? ⟨g, 1, none⟩ = some (.map (some b)) ∧ w'.cell? ⟨gx, 0, none⟩ = some (.int .i64 x0) ∧ w'.cell? ⟨gx, 1, none⟩ = some (.int .i64 x1)) (by kernel_rfl) ⟨k1, k2, k3⟩ ?_
    intro hHeld0
    generalize W0.drew = W1 at hDe k1 k2 k3 HW1 ht1 hbxe hHeld0 ⊢
    refine wpAnyH_take (i := 0) (v := ?_) rfl (by kernel_rfl) (by kernel_rfl) (by kernel_rfl) (fun _ _ _ h => h) (Or.inl ⟨by kernel_rfl, ?_⟩) (by assumption) ?_
    rotate_left
    · intro w9 hS9; (try dsimp only at hS9); go_simp; (try with_reducible rfl)
    set_option linter.unusedSimpArgs false in try simp only [Act.put, List.getElem_toArray, List.getElem_cons_succ, List.getElem_cons_zero, List.setIfInBounds_toArray, List.set_cons_zero, List.set_cons_succ]
    refine wpAnyH_take (i := 1) (v := ?_) rfl (by kernel_rfl) (by kernel_rfl) (by kernel_rfl) (fun _ _ _ h => h) (Or.inl ⟨by kernel_rfl, ?_⟩) (by assumption) ?_
    rotate_left
    · intro w9 hS9; (try dsimp only at hS9); go_simp; (try with_reducible rfl)
    set_option linter.unusedSimpArgs false in try simp only [Act.put, List.getElem_toArray, List.getElem_cons_succ, List.getElem_cons_zero, List.setIfInBounds_toArray, List.set_cons_zero, List.set_cons_succ]
    refine wpAnyH_take (i := 2) (v := ?_) rfl (by kernel_rfl) (by kernel_rfl) (by kernel_rfl) (fun _ _ _ h => h) (Or.inl ⟨by kernel_rfl, ?_⟩) (by assumption) ?_
    rotate_left
    · intro w9 hS9; (try dsimp only at hS9); go_simp; (try with_reducible rfl)
    set_option linter.unusedSimpArgs false in try simp only [Act.put, List.getElem_toArray, List.getElem_cons_succ, List.getElem_cons_zero, List.setIfInBounds_toArray, List.set_cons_zero, List.set_cons_succ]
    refine wpAnyH_take (i := 3) (v := ?_) rfl (by kernel_rfl) (by kernel_rfl) (by kernel_rfl) (fun _ _ _ h => h) (Or.inl ⟨by kernel_rfl, ?_⟩) (by assumption) ?_
    rotate_left
    · intro w9 hS9; (try dsimp only at hS9); go_simp; (try with_reducible rfl)
    set_option linter.unusedSimpArgs false in try simp only [Act.put, List.getElem_toArray, List.getElem_cons_succ, List.getElem_cons_zero, List.setIfInBounds_toArray, List.set_cons_zero, List.set_cons_succ]
    refine wpAnyH_take (i := 4) (v := ?_) rfl (by kernel_rfl) (by kernel_rfl) (by kernel_rfl) (fun _ _ _ h => h) (Or.inl ⟨by kernel_rfl, ?_⟩) (by assumption) ?_
    rotate_left
    · intro w9 hS9; (try dsimp only at hS9); go_simp; (try with_reducible rfl)
    set_option linter.unusedSimpArgs false in try simp only [Act.put, List.getElem_toArray, List.getElem_cons_succ, List.getElem_cons_zero, List.setIfInBounds_toArray, List.set_cons_zero, List.set_cons_succ]
    refine wpAnyH_take (i := 5) (v := ?_) rfl (by kernel_rfl) (by kernel_rfl) (by kernel_rfl) (fun _ _ _ h => h) (Or.inl ⟨by kernel_rfl, ?_⟩) (by assumption) ?_
    rotate_left
    · intro w9 hS9; (try dsimp only at hS9); go_simp; (try with_reducible rfl)
    set_option linter.unusedSimpArgs false in try simp only [Act.put, List.getElem_toArray, List.getElem_cons_succ, List.getElem_cons_zero, List.setIfInBounds_toArray, List.set_cons_zero, List.set_cons_succ]
    refine wpAnyH_ready (rs := [6]) (by kernel_rfl) (by simp) ?_
    refine AllReadyH.cons rfl (fun K hK => ?_) (AllReadyH.nil)
    refine Eq.mpr (if_pos (by kernel_rfl)) ?_
    refine wp_putQ _ _ _ 80 rfl 52 2 keyedQ Try.underlying80 _ b L.length D rfl hDe (by unfold maxLen; omega) _ _ _ rfl rfl hkey _ [] (plainElem_int Try.underlying2 (WalkArith.wf_i64 (n := (L.length : Int)) (by omega))) (fun w1 hown1 hgrow1 => ?_)
    have X1 := hbxe.by_grown hgrow1 (fun e => hbgx (Option.some.inj e))
    have l2 := X1.cell 0
    have l3 := X1.cell 1
    simp at l2 l3
    have B0 := HW1.out.box.by_grown hgrow1 (fun e => hmn1 (Option.some.inj e))
    have l1 : w1.cell? ⟨g, 1, none⟩ = some (.map (some b)) := B0.cell 1
    refine hK.out _ _ ⟨l1, l2, l3⟩ (fun hHeld1 => ?_)
    clear hK K hHeld0
    set_option linter.unusedSimpArgs false in try simp only [Act.put, List.getElem_toArray, List.getElem_cons_succ, List.getElem_cons_zero, List.setIfInBounds_toArray, List.set_cons_zero, List.set_cons_succ]
    refine wpAnyH_done (by kernel_rfl) ?_ _
    have HN := Lib.hid (numQ_put HD2.out hDm HM.out HX.out hown1)
    have R0 := HW1.out.row.kept hgrow1 (.inr (fun e => hmn2 ((ob_any _ _ _).symm.trans e)))
    have T1 : Turns (wb g A (some b)) w w1 := ht1.trans (Turns.of_grown (S := wb g A (some b)) hgrow1 (fun k e => .inr (.inr e))) (fun k _ e => e)
    have d0 := B0.cell 0
    simp at d0
    clear hown1 hDe k1 k2 k3
    go_wp2_with fail
    have hX7 : BlkIs w1.drew gx 52 #[.int .i64 x0, .int .i64 x1] := X1
    have hB7 : BlkIs w1.drew g 82 #[.slice A L.length c, .map (some b)] := B0
    have hR7 : w1.drew.ownsRow lo 52 2 (.slice A L.length c) L.length (L.flatMap (pv κ)) := R0
    have hN7 : Hid (NumQ κ w1.drew b (L ++ [x])) := HN.out.blk rfl
    have hT7 : Turns (wb g A (some b)) w w1.drew := ⟨T1.os, T1.tape, T1.output, T1.size, T1.block⟩
    have n2 : w1.drew.cell? ⟨gx, 0, none⟩ = some (.int .i64 x0) := l2
    have n3 : w1.drew.cell? ⟨gx, 1, none⟩ = some (.int .i64 x1) := l3
    clear X1 B0 R0 HN T1 l1 l2 l3 d0 HW1 ht1 hbxe hgrow1
    refine wp_region_held_drew (S := fun w' => w'.cell? ⟨gx, 0, none⟩ = some (.int .i64 x0) ∧ w'.cell? ⟨gx, 1, none⟩ = some (.int .i64 x1)) (by kernel_rfl) ⟨n2, n3⟩ ?_
    intro hHeld0
    generalize w1.drew = V0 at hX7 hB7 hR7 hN7 hT7 n2 n3 hHeld0 ⊢
    refine wpAnyH_take (i := 0) (v := ?_) rfl (by kernel_rfl) (by kernel_rfl) (by kernel_rfl) (fun _ _ _ h => h) (Or.inl ⟨by kernel_rfl, ?_⟩) (by assumption) ?_
    rotate_left
    · intro w9 hS9; (try dsimp only at hS9); go_simp; (try with_reducible rfl)
    set_option linter.unusedSimpArgs false in try simp only [Act.put, List.getElem_toArray, List.getElem_cons_succ, List.getElem_cons_zero, List.setIfInBounds_toArray, List.set_cons_zero, List.set_cons_succ]
    refine wpAnyH_take (i := 1) (v := ?_) rfl (by kernel_rfl) (by kernel_rfl) (by kernel_rfl) (fun _ _ _ h => h) (Or.inl ⟨by kernel_rfl, ?_⟩) (by assumption) ?_
    rotate_left
    · intro w9 hS9; (try dsimp only at hS9); go_simp; (try with_reducible rfl)
    set_option linter.unusedSimpArgs false in try simp only [Act.put, List.getElem_toArray, List.getElem_cons_succ, List.getElem_cons_zero, List.setIfInBounds_toArray, List.set_cons_zero, List.set_cons_succ]
    refine wpAnyH_take (i := 2) (v := ?_) rfl (by kernel_rfl) (by kernel_rfl) (by kernel_rfl) (fun _ _ _ h => h) (Or.inl ⟨by kernel_rfl, ?_⟩) (by assumption) ?_
    rotate_left
    · intro w9 hS9; (try dsimp only at hS9); go_simp; (try with_reducible rfl)
    set_option linter.unusedSimpArgs false in try simp only [Act.put, List.getElem_toArray, List.getElem_cons_succ, List.getElem_cons_zero, List.setIfInBounds_toArray, List.set_cons_zero, List.set_cons_succ]
    refine wpAnyH_take (i := 3) (v := ?_) rfl (by kernel_rfl) (by kernel_rfl) (by kernel_rfl) (fun _ _ _ h => h) (Or.inl ⟨by kernel_rfl, ?_⟩) (by assumption) ?_
    rotate_left
    · intro w9 hS9; (try dsimp only at hS9); go_simp; (try with_reducible rfl)
    set_option linter.unusedSimpArgs false in try simp only [Act.put, List.getElem_toArray, List.getElem_cons_succ, List.getElem_cons_zero, List.setIfInBounds_toArray, List.set_cons_zero, List.set_cons_succ]
    refine wpAnyH_take (i := 5) (v := ?_) rfl (by kernel_rfl) (by kernel_rfl) (by kernel_rfl) (fun _ _ _ h => h) (Or.inl ⟨by kernel_rfl, ?_⟩) (by assumption) ?_
    rotate_left
    · intro w9 hS9; (try dsimp only at hS9); go_simp; (try with_reducible rfl)
    set_option linter.unusedSimpArgs false in try simp only [Act.put, List.getElem_toArray, List.getElem_cons_succ, List.getElem_cons_zero, List.setIfInBounds_toArray, List.set_cons_zero, List.set_cons_succ]
    refine wpAnyH_ready (rs := [4, 6]) (by kernel_rfl) (by simp) ?_
    refine AllReadyH.cons rfl (fun K hK => ?_) (AllReadyH.cons rfl (fun K hK => ?_) (AllReadyH.nil))
    · have z1 := hB7.cell 0
      simp at z1
      go_simp
      refine hK.out _ _ ⟨n2, n3⟩ (fun hHeld2 => ?_)
      clear hK K hHeld0
      set_option linter.unusedSimpArgs false in try simp only [Act.put, List.getElem_toArray, List.getElem_cons_succ, List.getElem_cons_zero, List.setIfInBounds_toArray, List.set_cons_zero, List.set_cons_succ]
      refine wpAnyH_ready (rs := [6]) (by kernel_rfl) (by simp) ?_
      refine AllReadyH.cons rfl (fun K hK => ?_) (AllReadyH.nil)
      go_simp
      have B4 := hB7.next (bnew V0 (.cells #[.int .i64 x0, .int .i64 x1] 52))
      have R4 := own_below hR7 (bnew V0 (.cells #[.int .i64 x0, .int .i64 x1] 52))
      have X4 := hX7.next (bnew V0 (.cells #[.int .i64 x0, .int .i64 x1] 52))
      have N4 : Hid (NumQ κ (V0.alloc (.cells #[.int .i64 x0, .int .i64 x1] 52)) b (L ++ [x])) := hN7.out.blk ((bnew V0 (.cells #[.int .i64 x0, .int .i64 x1] 52)).block b hN7.out.lt)
      have T4 : Turns (wb g A (some b)) w (V0.alloc (.cells #[.int .i64 x0, .int .i64 x1] 52)) := hT7.trans (Turns.of_below (S := wb g A (some b)) (bnew V0 (.cells #[.int .i64 x0, .int .i64 x1] 52))) (fun k _ e => e)
      have H4 : ∀ (j : Nat) (u : Value), [Value.int .i64 x0, .int .i64 x1][j]? = some u → (V0.alloc (.cells #[.int .i64 x0, .int .i64 x1] 52)).cell? ((⟨V0.heap.size, 0, none⟩ : Addr).add j) = some u := fun j u hj => by
        have hbn : BlkIs (V0.alloc (.cells #[.int .i64 x0, .int .i64 x1] 52)) V0.heap.size 52 #[.int .i64 x0, .int .i64 x1] := blk_new _ _ _ _ rfl
        have he : (⟨V0.heap.size, 0, none⟩ : Addr).add j = ⟨V0.heap.size, j, none⟩ := by cases j <;> simp [Addr.add]
        rw [he, hbn.cell j]
        simpa using hj
      generalize V0.alloc (.cells #[.int .i64 x0, .int .i64 x1] 52) = V3 at B4 R4 X4 N4 T4 H4 ⊢
      have c40 := X4.cell 0
      have c41 := X4.cell 1
      simp at c40 c41
      refine hK.out _ _ ⟨c40, c41⟩ (fun hHeld5 => ?_)
      clear hK K hHeld2
      set_option linter.unusedSimpArgs false in try simp only [Act.put, List.getElem_toArray, List.getElem_cons_succ, List.getElem_cons_zero, List.setIfInBounds_toArray, List.set_cons_zero, List.set_cons_succ]
      refine wpAnyH_ready (rs := [7]) (by kernel_rfl) (by simp) ?_
      refine AllReadyH.cons rfl (fun K hK => ?_) (AllReadyH.nil)
      refine step_append_sep rfl _ _ 45 rfl lo 52 i0 (.agg #[.int .i64 0, .int .i64 0]) 2 16 Try.underlying45 hi hz0 hz1 hz2 rfl (by decide) _ _ _ rfl R4 ⟨V0.heap.size, 0, none⟩ 1 1 [.int .i64 x0, .int .i64 x1] rfl rfl H4 (by simp [Value.oneCell']) (by unfold maxLen; omega) (by omega) (Nat.le_trans hlo T4.size) (by omega) (fun g' cap' w2 hown2 hgrow2 hsep => ?_)
      have B2 := B4.by_grown hgrow2 (fun e => hrn ((ob_any _ _ _).symm.trans e))
      have X2 := X4.by_grown hgrow2 (fun e => hAgx ((ob_any _ _ _).symm.trans e))
      have N2 : Hid (NumQ κ w2 b (L ++ [x])) := N4.out.kept hgrow2 (fun e => hmn2 ((ob_any _ _ _).symm.trans e))
      have T2 : Turns (wb g A (some b)) w w2 := T4.trans (Turns.of_grown (S := wb g A (some b)) hgrow2 (fun k e => .inr (.inl ((ob_any _ _ _).symm.trans e)))) (fun k _ e => e)
      have e0 := X2.cell 0
      have e1 := X2.cell 1
      simp at e0 e1
      have hsz2 := T4.size
      refine hK.out _ _ ⟨e0, e1⟩ (fun hHeld6 => ?_)
      clear hK K hHeld5
      set_option linter.unusedSimpArgs false in try simp only [Act.put, List.getElem_toArray, List.getElem_cons_succ, List.getElem_cons_zero, List.setIfInBounds_toArray, List.set_cons_zero, List.set_cons_succ]
      refine wpAnyH_take (i := 8) (v := ?_) rfl (by kernel_rfl) (by kernel_rfl) (by kernel_rfl) (fun _ _ _ h => h) (Or.inl ⟨by kernel_rfl, ?_⟩) (by assumption) ?_
      rotate_left
      · intro w9 hS9; (try dsimp only at hS9); go_simp; (try with_reducible rfl)
      set_option linter.unusedSimpArgs false in try simp only [Act.put, List.getElem_toArray, List.getElem_cons_succ, List.getElem_cons_zero, List.setIfInBounds_toArray, List.set_cons_zero, List.set_cons_succ]
      refine wpAnyH_take (i := 9) (v := ?_) rfl (by kernel_rfl) (by kernel_rfl) (by kernel_rfl) (fun _ _ _ h => h) (Or.inl ⟨by kernel_rfl, ?_⟩) (by assumption) ?_
      rotate_left
      · intro w9 hS9; (try dsimp only at hS9); go_simp; (try with_reducible rfl)
      set_option linter.unusedSimpArgs false in try simp only [Act.put, List.getElem_toArray, List.getElem_cons_succ, List.getElem_cons_zero, List.setIfInBounds_toArray, List.set_cons_zero, List.set_cons_succ]
      refine wpAnyH_ready (rs := [10]) (by kernel_rfl) (by simp) ?_
      refine AllReadyH.cons rfl (fun K hK => ?_) (AllReadyH.nil)
      have z0 := B2.cell 0
      have f0 := B2.frozen 0
      simp at z0
      have hB3 := B2.set 0 (.slice (some ⟨g', 0, none⟩) (L.length + 1) cap')
      simp at hB3
      have X3 := X2.far (g' := g) (fun e => hggx e.symm) 0 (.slice (some ⟨g', 0, none⟩) (L.length + 1) cap')
      have j0 := X3.cell 0
      have j1 := X3.cell 1
      simp at j0 j1
      go_simp
      refine hK.out _ _ ⟨j0, j1⟩ (fun hHeld7 => ?_)
      clear hK K hHeld6
      set_option linter.unusedSimpArgs false in try simp only [Act.put, List.getElem_toArray, List.getElem_cons_succ, List.getElem_cons_zero, List.setIfInBounds_toArray, List.set_cons_zero, List.set_cons_succ]
      refine wpAnyH_done (by kernel_rfl) ?_ _
      go_wp2_with fail
      go_ret
      have hg' : g' ≠ g := fun e => by
        rcases hsep with h' | h'
        · exact hrn ((ob_any _ _ _).symm.trans (h'.symm.trans (by rw [e])))
        · omega
      have ht : Turns (wb g A (some b)) w (w2.setCell ⟨g, 0, none⟩ (.slice (some ⟨g', 0, none⟩) (L.length + 1) cap')) := T2.set (.inl rfl)
      refine ⟨some ⟨g', 0, none⟩, cap', by rw [HI.out]; rfl, ?_, ht, fun k hk => ?_⟩
      · rw [HF.out]
        refine ⟨?_, hglo, ?_, fun b' e => ?_, fun e => by cases e⟩
        · rw [List.length_append]; exact hB3
        · have e : ([x].flatMap (pv κ)) = [.int .i64 x0, .int .i64 x1] := by rw [List.flatMap_cons, List.flatMap_nil, List.append_nil]; exact HXX.out
          rw [List.length_append, List.flatMap_append, e]
          exact hown2.kept (only_set (g := g)) (.inr (fun e => hg' (Option.some.inj e)))
        · obtain rfl := Option.some.inj e
          exact ⟨hb0, hb1, N2.out.kept (only_set (g := g)) (fun e => hmn1 (Option.some.inj e).symm)⟩
      · rcases hk with rfl | hk | hk
        · exact .inl (.inl rfl)
        · obtain rfl : g' = k := Option.some.inj hk
          rcases hsep with h' | h'
          · exact .inl (.inr (.inl ((ob_any _ _ _).symm.trans h'.symm)))
          · right; omega
        · exact .inl (.inr (.inr hk))
    · go_simp
      have B9 := hB7.next (bnew V0 (.cells #[.int .i64 x0, .int .i64 x1] 52))
      have R9 := own_below hR7 (bnew V0 (.cells #[.int .i64 x0, .int .i64 x1] 52))
      have X9 := hX7.next (bnew V0 (.cells #[.int .i64 x0, .int .i64 x1] 52))
      have N9 : Hid (NumQ κ (V0.alloc (.cells #[.int .i64 x0, .int .i64 x1] 52)) b (L ++ [x])) := hN7.out.blk ((bnew V0 (.cells #[.int .i64 x0, .int .i64 x1] 52)).block b hN7.out.lt)
      have T9 : Turns (wb g A (some b)) w (V0.alloc (.cells #[.int .i64 x0, .int .i64 x1] 52)) := hT7.trans (Turns.of_below (S := wb g A (some b)) (bnew V0 (.cells #[.int .i64 x0, .int .i64 x1] 52))) (fun k _ e => e)
      have H9 : ∀ (j : Nat) (u : Value), [Value.int .i64 x0, .int .i64 x1][j]? = some u → (V0.alloc (.cells #[.int .i64 x0, .int .i64 x1] 52)).cell? ((⟨V0.heap.size, 0, none⟩ : Addr).add j) = some u := fun j u hj => by
        have hbn : BlkIs (V0.alloc (.cells #[.int .i64 x0, .int .i64 x1] 52)) V0.heap.size 52 #[.int .i64 x0, .int .i64 x1] := blk_new _ _ _ _ rfl
        have he : (⟨V0.heap.size, 0, none⟩ : Addr).add j = ⟨V0.heap.size, j, none⟩ := by cases j <;> simp [Addr.add]
        rw [he, hbn.cell j]
        simpa using hj
      generalize V0.alloc (.cells #[.int .i64 x0, .int .i64 x1] 52) = V8 at B9 R9 X9 N9 T9 H9 ⊢
      have c90 := X9.cell 0
      have c91 := X9.cell 1
      simp at c90 c91
      refine hK.out _ _ ⟨c90, c91⟩ (fun hHeld10 => ?_)
      clear hK K hHeld0
      set_option linter.unusedSimpArgs false in try simp only [Act.put, List.getElem_toArray, List.getElem_cons_succ, List.getElem_cons_zero, List.setIfInBounds_toArray, List.set_cons_zero, List.set_cons_succ]
      refine wpAnyH_ready (rs := [4]) (by kernel_rfl) (by simp) ?_
      refine AllReadyH.cons rfl (fun K hK => ?_) (AllReadyH.nil)
      have z11 := B9.cell 0
      simp at z11
      go_simp
      refine hK.out _ _ ⟨c90, c91⟩ (fun hHeld12 => ?_)
      clear hK K hHeld10
      set_option linter.unusedSimpArgs false in try simp only [Act.put, List.getElem_toArray, List.getElem_cons_succ, List.getElem_cons_zero, List.setIfInBounds_toArray, List.set_cons_zero, List.set_cons_succ]
      refine wpAnyH_ready (rs := [7]) (by kernel_rfl) (by simp) ?_
      refine AllReadyH.cons rfl (fun K hK => ?_) (AllReadyH.nil)
      refine step_append_sep rfl _ _ 45 rfl lo 52 i0 (.agg #[.int .i64 0, .int .i64 0]) 2 16 Try.underlying45 hi hz0 hz1 hz2 rfl (by decide) _ _ _ rfl R9 ⟨V0.heap.size, 0, none⟩ 1 1 [.int .i64 x0, .int .i64 x1] rfl rfl H9 (by simp [Value.oneCell']) (by unfold maxLen; omega) (by omega) (Nat.le_trans hlo T9.size) (by omega) (fun g' cap' w2 hown2 hgrow2 hsep => ?_)
      have B2 := B9.by_grown hgrow2 (fun e => hrn ((ob_any _ _ _).symm.trans e))
      have X2 := X9.by_grown hgrow2 (fun e => hAgx ((ob_any _ _ _).symm.trans e))
      have N2 : Hid (NumQ κ w2 b (L ++ [x])) := N9.out.kept hgrow2 (fun e => hmn2 ((ob_any _ _ _).symm.trans e))
      have T2 : Turns (wb g A (some b)) w w2 := T9.trans (Turns.of_grown (S := wb g A (some b)) hgrow2 (fun k e => .inr (.inl ((ob_any _ _ _).symm.trans e)))) (fun k _ e => e)
      have e0 := X2.cell 0
      have e1 := X2.cell 1
      simp at e0 e1
      have hsz2 := T9.size
      refine hK.out _ _ ⟨e0, e1⟩ (fun hHeld13 => ?_)
      clear hK K hHeld12
      set_option linter.unusedSimpArgs false in try simp only [Act.put, List.getElem_toArray, List.getElem_cons_succ, List.getElem_cons_zero, List.setIfInBounds_toArray, List.set_cons_zero, List.set_cons_succ]
      refine wpAnyH_take (i := 8) (v := ?_) rfl (by kernel_rfl) (by kernel_rfl) (by kernel_rfl) (fun _ _ _ h => h) (Or.inl ⟨by kernel_rfl, ?_⟩) (by assumption) ?_
      rotate_left
      · intro w9 hS9; (try dsimp only at hS9); go_simp; (try with_reducible rfl)
      set_option linter.unusedSimpArgs false in try simp only [Act.put, List.getElem_toArray, List.getElem_cons_succ, List.getElem_cons_zero, List.setIfInBounds_toArray, List.set_cons_zero, List.set_cons_succ]
      refine wpAnyH_take (i := 9) (v := ?_) rfl (by kernel_rfl) (by kernel_rfl) (by kernel_rfl) (fun _ _ _ h => h) (Or.inl ⟨by kernel_rfl, ?_⟩) (by assumption) ?_
      rotate_left
      · intro w9 hS9; (try dsimp only at hS9); go_simp; (try with_reducible rfl)
      set_option linter.unusedSimpArgs false in try simp only [Act.put, List.getElem_toArray, List.getElem_cons_succ, List.getElem_cons_zero, List.setIfInBounds_toArray, List.set_cons_zero, List.set_cons_succ]
      refine wpAnyH_ready (rs := [10]) (by kernel_rfl) (by simp) ?_
      refine AllReadyH.cons rfl (fun K hK => ?_) (AllReadyH.nil)
      have z0 := B2.cell 0
      have f0 := B2.frozen 0
      simp at z0
      have hB3 := B2.set 0 (.slice (some ⟨g', 0, none⟩) (L.length + 1) cap')
      simp at hB3
      have X3 := X2.far (g' := g) (fun e => hggx e.symm) 0 (.slice (some ⟨g', 0, none⟩) (L.length + 1) cap')
      have j0 := X3.cell 0
      have j1 := X3.cell 1
      simp at j0 j1
      go_simp
      refine hK.out _ _ ⟨j0, j1⟩ (fun hHeld14 => ?_)
      clear hK K hHeld13
      set_option linter.unusedSimpArgs false in try simp only [Act.put, List.getElem_toArray, List.getElem_cons_succ, List.getElem_cons_zero, List.setIfInBounds_toArray, List.set_cons_zero, List.set_cons_succ]
      refine wpAnyH_done (by kernel_rfl) ?_ _
      go_wp2_with fail
      go_ret
      have hg' : g' ≠ g := fun e => by
        rcases hsep with h' | h'
        · exact hrn ((ob_any _ _ _).symm.trans (h'.symm.trans (by rw [e])))
        · omega
      have ht : Turns (wb g A (some b)) w (w2.setCell ⟨g, 0, none⟩ (.slice (some ⟨g', 0, none⟩) (L.length + 1) cap')) := T2.set (.inl rfl)
      refine ⟨some ⟨g', 0, none⟩, cap', by rw [HI.out]; rfl, ?_, ht, fun k hk => ?_⟩
      · rw [HF.out]
        refine ⟨?_, hglo, ?_, fun b' e => ?_, fun e => by cases e⟩
        · rw [List.length_append]; exact hB3
        · have e : ([x].flatMap (pv κ)) = [.int .i64 x0, .int .i64 x1] := by rw [List.flatMap_cons, List.flatMap_nil, List.append_nil]; exact HXX.out
          rw [List.length_append, List.flatMap_append, e]
          exact hown2.kept (only_set (g := g)) (.inr (fun e => hg' (Option.some.inj e)))
        · obtain rfl := Option.some.inj e
          exact ⟨hb0, hb1, N2.out.kept (only_set (g := g)) (fun e => hmn1 (Option.some.inj e).symm)⟩
      · rcases hk with rfl | hk | hk
        · exact .inl (.inl rfl)
        · obtain rfl : g' = k := Option.some.inj hk
          rcases hsep with h' | h'
          · exact .inl (.inr (.inl ((ob_any _ _ _).symm.trans h'.symm)))
          · right; omega
        · exact .inl (.inr (.inr hk))

set_option maxRecDepth 100000 in
set_option maxHeartbeats 4000000 in
/-- The first item is added: the map is made. -/
theorem addQ_first_c (κ : Int) (g lo B : Nat) (A : Option Addr) (c : Nat) (L : List Int) (x x0 x1 : Int) (h0 : x / κ = x0) (h1 : x % κ = x1) (w : World) (h : WLQ κ w g lo B A c none L) (hA0 : (Value.slice A 0 0).ownBlock = none) (hx : RowQ κ x) (hlo : lo ≤ w.heap.size) (hBw : w.heap.size + 1 < B) :
    Calls Try.prog 45 #[.pointer (some ⟨g, 0, none⟩), .agg #[.int .i64 x0, .int .i64 x1]] w fun e w' => ∃ A' c' b', e = .returned (.int .i64 ((addL x L).idxOf x : Int)) ∧ WLQ κ w' g lo B A' c' (some b') (addL x L) ∧ Turns (fun k => k = g) w w' ∧ ∀ k, wb g A' (some b') k → k = g ∨ w.heap.size ≤ k := by
  have hL0 := h.nil rfl
  have hL : L.length ≤ 1000 := by rw [hL0]; exact Nat.zero_le _
  have hba := bnew w (.cells #[.int .i64 x0, .int .i64 x1] 52)
  have hbx : BlkIs (w.alloc (.cells #[.int .i64 x0, .int .i64 x1] 52)) w.heap.size 52 #[.int .i64 x0, .int .i64 x1] := blk_new _ _ _ _ rfl
  have hgl2 := h.box.lt
  have hglo := h.glo
  have hWa := h.next (S := fun _ => False) (Turns.of_below hba) (fun k _ e => e)
  have hsa : (w.alloc (.cells #[.int .i64 x0, .int .i64 x1] 52)).heap.size = w.heap.size + 1 := by simp
  have hkey : keyOf Try.prog 52 (.agg #[.int .i64 x0, .int .i64 x1]) = some (kQ κ x) := by rw [← h0, ← h1]; exact kQ_key hx
  have qT : ∀ (w : World) (r : Option Nat), (binOp .eql 80 (.map r) (.map none)).run Try.prog w = .ok (.bool r.isNone) w := fun w r => run_eql_map_nil w _ _ _ r Try.underlying80
  have hmm := @run_makeMap Try.prog
  have ht0 := Turns.of_below (S := fun k => k = g) hba
  have HX := Lib.hid hx
  obtain ⟨i0, hi, hz0, hz1, hz2⟩ := info_parts infoQ
  have hxx : pv κ x = [.int .i64 x0, .int .i64 x1] := by unfold pv; rw [h0, h1]
  have HXX := Lib.hid hxx
  clear h hx hxx hba h0 h1
  go_enter Try.func45, Try.ntmps45
  go_upto_region 1 with fail
  generalize w.alloc (.cells #[.int .i64 x0, .int .i64 x1] 52) = Wa at hbx hWa hsa ht0 ⊢
  have hrn := hWa.row_ne
  have hgla := hWa.box.lt
  have c0 : Wa.cell? ⟨g, 0, none⟩ = some (.slice A L.length c) := hWa.box.cell 0
  have c1 : Wa.cell? ⟨g, 1, none⟩ = some (.map none) := hWa.box.cell 1
  have hb0 := hWa.box.next (bnew Wa (.map #[] 0))
  have d1 : (Wa.alloc (.map #[] 0)).cell? ⟨g, 1, none⟩ = some (.map none) := hb0.cell 1
  have k1 := hb0.frozen 1
  have hggx : g ≠ w.heap.size := by omega
  have hWL : WLQ κ ((Wa.setCell ⟨g, 1, none⟩ (.map (some Wa.heap.size))).alloc (.map #[] 0)) g lo B A c (some Wa.heap.size) L := by
    have hbx := hWa.box.set 1 (.map (some Wa.heap.size))
    simp at hbx
    refine ⟨hbx.next (bnew _ _), hglo, ?_, fun b' e => ?_, fun e => by cases e⟩
    · exact (hWa.row.kept (only_set (g := g)) (.inr (fun e => hrn ((ob_any _ _ _).symm.trans e)))).alloc _
    · obtain rfl := Option.some.inj e
      refine ⟨by omega, by omega, ?_⟩
      rw [hL0]
      have := numQ_made κ (Wa.setCell ⟨g, 1, none⟩ (.map (some Wa.heap.size)))
      rwa [show (Wa.setCell ⟨g, 1, none⟩ (.map (some Wa.heap.size))).heap.size = Wa.heap.size by simp] at this
  have htW : Turns (fun k => k = g) w ((Wa.setCell ⟨g, 1, none⟩ (.map (some Wa.heap.size))).alloc (.map #[] 0)) := (ht0.set rfl).trans (Turns.of_below (S := fun k => k = g) (bnew _ _)) (fun _ _ e => e)
  have hbx2 : BlkIs ((Wa.setCell ⟨g, 1, none⟩ (.map (some Wa.heap.size))).alloc (.map #[] 0)) w.heap.size 52 #[.int .i64 x0, .int .i64 x1] := (hbx.far (fun e => hggx e.symm) 1 _).next (bnew _ _)
  have HTW := Lib.hid htW
  have HWL := Lib.hid hWL
  have HBX := Lib.hid hbx2
  have HSA := Lib.hid hsa
  clear hb0 hWL htW hbx2 hbx hWa ht0 hsa
  go_upto_if 11 with fail
  go_cut [] (fun wx => wx = (Wa.setCell ⟨g, 1, none⟩ (.map (some Wa.heap.size))).alloc (.map #[] 0))
  case first =>
    go_wp2_with fail
    go_meet
    rfl
  case rest =>
  obtain rfl := hcut
  have hsa := HSA.out
  clear HSA
  obtain ⟨b, hbw⟩ : ∃ b, b = Wa.heap.size := ⟨_, rfl⟩
  obtain ⟨gx, hgx⟩ : ∃ gx, w.heap.size = gx := ⟨_, rfl⟩
  rw [← hbw] at HTW HWL HBX hsa ⊢
  rw [hgx] at HBX hggx ⊢
  have HBW : Hid (b = w.heap.size + 1) := hsa
  have HGX := Lib.hid hgx
  have hbgx : b ≠ gx := by omega
  clear hbw hgx hsa
  generalize (Wa.setCell ⟨g, 1, none⟩ (.map (some b))).alloc (.map #[] 0) = W at HTW HWL HBX ⊢
  clear c0 c1 d1 k1 hmm
  have h := HWL.out
  obtain ⟨hb0, hb1, D, hD1, hD2⟩ := h.num b rfl
  obtain ⟨hmn1, hmn2⟩ := h.map_ne rfl
  have hDm := hD1.isMap
  have c1 : W.cell? ⟨g, 1, none⟩ = some (.map (some b)) := h.box.cell 1
  have hm : x ∉ L := by rw [hL0]; simp
  have hhas : Maps.has D (kQ κ x) = false := by rw [(hD2 x HX.out).1]; exact decide_eq_false hm
  have HF := Lib.hid (addL_new hm)
  have HI : Hid ((addL x L).idxOf x = L.length) := by show _ = _; rw [addL_new hm, List.idxOf_append, if_neg hm]; simp
  have HD2 := Lib.hid hD2
  have HM := Lib.hid hm
  have y0 := HBX.out.cell 0
  have y1 := HBX.out.cell 1
  simp at y0 y1
  have hDd : W.drew.ownsMap Try.prog 52 (plainElem Try.prog 2) b L.length D := hD1
  have k1 : W.drew.cell? ⟨g, 1, none⟩ = some (.map (some b)) := c1
  have k2 : W.drew.cell? ⟨gx, 0, none⟩ = some (.int .i64 x0) := y0
  have k3 : W.drew.cell? ⟨gx, 1, none⟩ = some (.int .i64 x1) := y1
  have ht0d : Turns (wb g A (some b)) w W.drew := by
    have ht0 := HTW.out.more (S' := wb g A (some b)) (fun k _ e => .inl e)
    exact ⟨ht0.os, ht0.tape, ht0.output, ht0.size, ht0.block⟩
  have HW0 := Lib.hid (HWL.out.next (S := fun _ => False) (w' := W.drew) ⟨rfl, rfl, rfl, Nat.le_refl _, fun _ _ _ => rfl⟩ (fun k _ e => e))
  have hbxd : BlkIs W.drew gx 52 #[.int .i64 x0, .int .i64 x1] := HBX.out
  have hAgx : (Value.slice A 0 0).ownBlock ≠ some gx := fun e => by rw [hA0] at e; cases e
  clear hD1 hD2 hm h c1 y0 y1 HWL HBX HTW hL0
  go_wp2_with fail
  refine wp_region_held_drew (S := fun w' => w'.cell? ⟨g, 1, none⟩ = some (.map (some b)) ∧ w'.cell? ⟨gx, 0, none⟩ = some (.int .i64 x0) ∧ w'.cell? ⟨gx, 1, none⟩ = some (.int .i64 x1)) (by kernel_rfl) ⟨k1, k2, k3⟩ ?_
  intro hHeld0
  generalize W.drew = W0 at hDd k1 k2 k3 HW0 ht0d hbxd hHeld0 ⊢
  refine wpAnyH_take (i := 0) (v := ?_) rfl (by kernel_rfl) (by kernel_rfl) (by kernel_rfl) (fun _ _ _ h => h) (Or.inl ⟨by kernel_rfl, ?_⟩) (by assumption) ?_
  rotate_left
  · intro w9 hS9; (try dsimp only at hS9); go_simp; (try with_reducible rfl)
  set_option linter.unusedSimpArgs false in try simp only [Act.put, List.getElem_toArray, List.getElem_cons_succ, List.getElem_cons_zero, List.setIfInBounds_toArray, List.set_cons_zero, List.set_cons_succ]
  refine wpAnyH_take (i := 1) (v := ?_) rfl (by kernel_rfl) (by kernel_rfl) (by kernel_rfl) (fun _ _ _ h => h) (Or.inl ⟨by kernel_rfl, ?_⟩) (by assumption) ?_
  rotate_left
  · intro w9 hS9; (try dsimp only at hS9); go_simp; (try with_reducible rfl)
  set_option linter.unusedSimpArgs false in try simp only [Act.put, List.getElem_toArray, List.getElem_cons_succ, List.getElem_cons_zero, List.setIfInBounds_toArray, List.set_cons_zero, List.set_cons_succ]
  refine wpAnyH_take (i := 2) (v := ?_) rfl (by kernel_rfl) (by kernel_rfl) (by kernel_rfl) (fun _ _ _ h => h) (Or.inl ⟨by kernel_rfl, ?_⟩) (by assumption) ?_
  rotate_left
  · intro w9 hS9; (try dsimp only at hS9); go_simp; (try with_reducible rfl)
  set_option linter.unusedSimpArgs false in try simp only [Act.put, List.getElem_toArray, List.getElem_cons_succ, List.getElem_cons_zero, List.setIfInBounds_toArray, List.set_cons_zero, List.set_cons_succ]
  refine wpAnyH_take (i := 3) (v := ?_) rfl (by kernel_rfl) (by kernel_rfl) (by kernel_rfl) (fun _ _ _ h => h) (Or.inl ⟨by kernel_rfl, ?_⟩) (by assumption) ?_
  rotate_left
  · intro w9 hS9; (try dsimp only at hS9); go_simp; (try with_reducible rfl)
  set_option linter.unusedSimpArgs false in try simp only [Act.put, List.getElem_toArray, List.getElem_cons_succ, List.getElem_cons_zero, List.setIfInBounds_toArray, List.set_cons_zero, List.set_cons_succ]
  refine wpAnyH_take (i := 4) (v := ?_) rfl (by kernel_rfl) (by kernel_rfl) (by kernel_rfl) (fun _ _ _ h => h) (Or.inl ⟨by kernel_rfl, ?_⟩) (by assumption) ?_
  rotate_left
  · intro w9 hS9; (try dsimp only at hS9); go_simp; (try with_reducible rfl)
  set_option linter.unusedSimpArgs false in try simp only [Act.put, List.getElem_toArray, List.getElem_cons_succ, List.getElem_cons_zero, List.setIfInBounds_toArray, List.set_cons_zero, List.set_cons_succ]
  refine wpAnyH_ready (rs := [5]) (by kernel_rfl) (by simp) ?_
  refine AllReadyH.cons rfl (fun K hK => ?_) (AllReadyH.nil)
  refine Eq.mpr (if_pos (by kernel_rfl)) ?_
  refine wp_lookQ _ _ 80 rfl 52 2 .i64 keyedQ Try.underlying80 Try.underlying2 (zeroQ _) b L.length D rfl hDd _ _ rfl hkey (fun cc hat => ?_)
  rw [hhas]
  refine hK.out _ _ ⟨k1, k2, k3⟩ (fun hHeld1 => ?_)
  clear hK K hHeld0
  set_option linter.unusedSimpArgs false in try simp only [Act.put, List.getElem_toArray, List.getElem_cons_succ, List.getElem_cons_zero, List.setIfInBounds_toArray, List.set_cons_zero, List.set_cons_succ]
  refine wpAnyH_take (i := 6) (v := ?_) rfl (by kernel_rfl) (by kernel_rfl) (by kernel_rfl) (fun _ _ _ h => h) (Or.inl ⟨by kernel_rfl, ?_⟩) (by assumption) ?_
  rotate_left
  · intro w9 hS9; (try dsimp only at hS9); go_simp; (try with_reducible rfl)
  set_option linter.unusedSimpArgs false in try simp only [Act.put, List.getElem_toArray, List.getElem_cons_succ, List.getElem_cons_zero, List.setIfInBounds_toArray, List.set_cons_zero, List.set_cons_succ]
  refine wpAnyH_take (i := 7) (v := ?_) rfl (by kernel_rfl) (by kernel_rfl) (by kernel_rfl) (fun _ _ _ h => h) (Or.inl ⟨by kernel_rfl, ?_⟩) (by assumption) ?_
  rotate_left
  · intro w9 hS9; (try dsimp only at hS9); go_simp; (try with_reducible rfl)
  set_option linter.unusedSimpArgs false in try simp only [Act.put, List.getElem_toArray, List.getElem_cons_succ, List.getElem_cons_zero, List.setIfInBounds_toArray, List.set_cons_zero, List.set_cons_succ]
  refine wpAnyH_take (i := 8) (v := ?_) rfl (by kernel_rfl) (by kernel_rfl) (by kernel_rfl) (fun _ _ _ h => h) (Or.inl ⟨by kernel_rfl, ?_⟩) (by assumption) ?_
  rotate_left
  · intro w9 hS9; (try dsimp only at hS9); go_simp; (try with_reducible rfl)
  set_option linter.unusedSimpArgs false in try simp only [Act.put, List.getElem_toArray, List.getElem_cons_succ, List.getElem_cons_zero, List.setIfInBounds_toArray, List.set_cons_zero, List.set_cons_succ]
  refine wpAnyH_take (i := 9) (v := ?_) rfl (by kernel_rfl) (by kernel_rfl) (by kernel_rfl) (fun _ _ _ h => h) (Or.inl ⟨by kernel_rfl, ?_⟩) (by assumption) ?_
  rotate_left
  · intro w9 hS9; (try dsimp only at hS9); go_simp; (try with_reducible rfl)
  set_option linter.unusedSimpArgs false in try simp only [Act.put, List.getElem_toArray, List.getElem_cons_succ, List.getElem_cons_zero, List.setIfInBounds_toArray, List.set_cons_zero, List.set_cons_succ]
  refine wpAnyH_take (i := 10) (v := ?_) rfl (by kernel_rfl) (by kernel_rfl) (by kernel_rfl) (fun _ _ _ h => h) (Or.inl ⟨by kernel_rfl, ?_⟩) (by assumption) ?_
  rotate_left
  · intro w9 hS9; (try dsimp only at hS9); go_simp; (try with_reducible rfl)
  set_option linter.unusedSimpArgs false in try simp only [Act.put, List.getElem_toArray, List.getElem_cons_succ, List.getElem_cons_zero, List.setIfInBounds_toArray, List.set_cons_zero, List.set_cons_succ]
  refine wpAnyH_done (by kernel_rfl) ?_ _
  have g0 := HW0.out.box.cell 0
  simp at g0
  go_wp2_with fail
  have hDe : W0.drew.ownsMap Try.prog 52 (plainElem Try.prog 2) b L.length D := hDd
  have ht1 : Turns (wb g A (some b)) w W0.drew := ⟨ht0d.os, ht0d.tape, ht0d.output, ht0d.size, ht0d.block⟩
  have HW1 := Lib.hid (HW0.out.next (S := fun _ => False) (w' := W0.drew) ⟨rfl, rfl, rfl, Nat.le_refl _, fun _ _ _ => rfl⟩ (fun k _ e => e))
  have hbxe : BlkIs W0.drew gx 52 #[.int .i64 x0, .int .i64 x1] := hbxd
  replace k1 : W0.drew.cell? ⟨g, 1, none⟩ = some (.map (some b)) := k1
  replace k2 : W0.drew.cell? ⟨gx, 0, none⟩ = some (.int .i64 x0) := k2
  replace k3 : W0.drew.cell? ⟨gx, 1, none⟩ = some (.int .i64 x1) := k3
  clear hDd HW0 ht0d hbxd g0
  refine wp_region_held_drew (S := fun w' => w'.cell? ⟨g, 1, none⟩ = some (.map (some b)) ∧ w'.cell? ⟨gx, 0, none⟩ = some (.int .i64 x0) ∧ w'.cell? ⟨gx, 1, none⟩ = some (.int .i64 x1)) (by kernel_rfl) ⟨k1, k2, k3⟩ ?_
  intro hHeld0
  generalize W0.drew = W1 at hDe k1 k2 k3 HW1 ht1 hbxe hHeld0 ⊢
  refine wpAnyH_take (i := 0) (v := ?_) rfl (by kernel_rfl) (by kernel_rfl) (by kernel_rfl) (fun _ _ _ h => h) (Or.inl ⟨by kernel_rfl, ?_⟩) (by assumption) ?_
  rotate_left
  · intro w9 hS9; (try dsimp only at hS9); go_simp; (try with_reducible rfl)
  set_option linter.unusedSimpArgs false in try simp only [Act.put, List.getElem_toArray, List.getElem_cons_succ, List.getElem_cons_zero, List.setIfInBounds_toArray, List.set_cons_zero, List.set_cons_succ]
  refine wpAnyH_take (i := 1) (v := ?_) rfl (by kernel_rfl) (by kernel_rfl) (by kernel_rfl) (fun _ _ _ h => h) (Or.inl ⟨by kernel_rfl, ?_⟩) (by assumption) ?_
  rotate_left
  · intro w9 hS9; (try dsimp only at hS9); go_simp; (try with_reducible rfl)
  set_option linter.unusedSimpArgs false in try simp only [Act.put, List.getElem_toArray, List.getElem_cons_succ, List.getElem_cons_zero, List.setIfInBounds_toArray, List.set_cons_zero, List.set_cons_succ]
  refine wpAnyH_take (i := 2) (v := ?_) rfl (by kernel_rfl) (by kernel_rfl) (by kernel_rfl) (fun _ _ _ h => h) (Or.inl ⟨by kernel_rfl, ?_⟩) (by assumption) ?_
  rotate_left
  · intro w9 hS9; (try dsimp only at hS9); go_simp; (try with_reducible rfl)
  set_option linter.unusedSimpArgs false in try simp only [Act.put, List.getElem_toArray, List.getElem_cons_succ, List.getElem_cons_zero, List.setIfInBounds_toArray, List.set_cons_zero, List.set_cons_succ]
  refine wpAnyH_take (i := 3) (v := ?_) rfl (by kernel_rfl) (by kernel_rfl) (by kernel_rfl) (fun _ _ _ h => h) (Or.inl ⟨by kernel_rfl, ?_⟩) (by assumption) ?_
  rotate_left
  · intro w9 hS9; (try dsimp only at hS9); go_simp; (try with_reducible rfl)
  set_option linter.unusedSimpArgs false in try simp only [Act.put, List.getElem_toArray, List.getElem_cons_succ, List.getElem_cons_zero, List.setIfInBounds_toArray, List.set_cons_zero, List.set_cons_succ]
  refine wpAnyH_take (i := 4) (v := ?_) rfl (by kernel_rfl) (by kernel_rfl) (by kernel_rfl) (fun _ _ _ h => h) (Or.inl ⟨by kernel_rfl, ?_⟩) (by assumption) ?_
  rotate_left
  · intro w9 hS9; (try dsimp only at hS9); go_simp; (try with_reducible rfl)
  set_option linter.unusedSimpArgs false in try simp only [Act.put, List.getElem_toArray, List.getElem_cons_succ, List.getElem_cons_zero, List.setIfInBounds_toArray, List.set_cons_zero, List.set_cons_succ]
  refine wpAnyH_take (i := 5) (v := ?_) rfl (by kernel_rfl) (by kernel_rfl) (by kernel_rfl) (fun _ _ _ h => h) (Or.inl ⟨by kernel_rfl, ?_⟩) (by assumption) ?_
  rotate_left
  · intro w9 hS9; (try dsimp only at hS9); go_simp; (try with_reducible rfl)
  set_option linter.unusedSimpArgs false in try simp only [Act.put, List.getElem_toArray, List.getElem_cons_succ, List.getElem_cons_zero, List.setIfInBounds_toArray, List.set_cons_zero, List.set_cons_succ]
  refine wpAnyH_ready (rs := [6]) (by kernel_rfl) (by simp) ?_
  refine AllReadyH.cons rfl (fun K hK => ?_) (AllReadyH.nil)
  refine Eq.mpr (if_pos (by kernel_rfl)) ?_
  refine wp_putQ _ _ _ 80 rfl 52 2 keyedQ Try.underlying80 _ b L.length D rfl hDe (by unfold maxLen; omega) _ _ _ rfl rfl hkey _ [] (plainElem_int Try.underlying2 (WalkArith.wf_i64 (n := (L.length : Int)) (by omega))) (fun w1 hown1 hgrow1 => ?_)
  have X1 := hbxe.by_grown hgrow1 (fun e => hbgx (Option.some.inj e))
  have l2 := X1.cell 0
  have l3 := X1.cell 1
  simp at l2 l3
  have B0 := HW1.out.box.by_grown hgrow1 (fun e => hmn1 (Option.some.inj e))
  have l1 : w1.cell? ⟨g, 1, none⟩ = some (.map (some b)) := B0.cell 1
  refine hK.out _ _ ⟨l1, l2, l3⟩ (fun hHeld1 => ?_)
  clear hK K hHeld0
  set_option linter.unusedSimpArgs false in try simp only [Act.put, List.getElem_toArray, List.getElem_cons_succ, List.getElem_cons_zero, List.setIfInBounds_toArray, List.set_cons_zero, List.set_cons_succ]
  refine wpAnyH_done (by kernel_rfl) ?_ _
  have HN := Lib.hid (numQ_put HD2.out hDm HM.out HX.out hown1)
  have R0 := HW1.out.row.kept hgrow1 (.inr (fun e => hmn2 ((ob_any _ _ _).symm.trans e)))
  have T1 : Turns (wb g A (some b)) w w1 := ht1.trans (Turns.of_grown (S := wb g A (some b)) hgrow1 (fun k e => .inr (.inr e))) (fun k _ e => e)
  have d0 := B0.cell 0
  simp at d0
  clear hown1 hDe k1 k2 k3
  go_wp2_with fail
  have hX7 : BlkIs w1.drew gx 52 #[.int .i64 x0, .int .i64 x1] := X1
  have hB7 : BlkIs w1.drew g 82 #[.slice A L.length c, .map (some b)] := B0
  have hR7 : w1.drew.ownsRow lo 52 2 (.slice A L.length c) L.length (L.flatMap (pv κ)) := R0
  have hN7 : Hid (NumQ κ w1.drew b (L ++ [x])) := HN.out.blk rfl
  have hT7 : Turns (wb g A (some b)) w w1.drew := ⟨T1.os, T1.tape, T1.output, T1.size, T1.block⟩
  have n2 : w1.drew.cell? ⟨gx, 0, none⟩ = some (.int .i64 x0) := l2
  have n3 : w1.drew.cell? ⟨gx, 1, none⟩ = some (.int .i64 x1) := l3
  clear X1 B0 R0 HN T1 l1 l2 l3 d0 HW1 ht1 hbxe hgrow1
  refine wp_region_held_drew (S := fun w' => w'.cell? ⟨gx, 0, none⟩ = some (.int .i64 x0) ∧ w'.cell? ⟨gx, 1, none⟩ = some (.int .i64 x1)) (by kernel_rfl) ⟨n2, n3⟩ ?_
  intro hHeld0
  generalize w1.drew = V0 at hX7 hB7 hR7 hN7 hT7 n2 n3 hHeld0 ⊢
  refine wpAnyH_take (i := 0) (v := ?_) rfl (by kernel_rfl) (by kernel_rfl) (by kernel_rfl) (fun _ _ _ h => h) (Or.inl ⟨by kernel_rfl, ?_⟩) (by assumption) ?_
  rotate_left
  · intro w9 hS9; (try dsimp only at hS9); go_simp; (try with_reducible rfl)
  set_option linter.unusedSimpArgs false in try simp only [Act.put, List.getElem_toArray, List.getElem_cons_succ, List.getElem_cons_zero, List.setIfInBounds_toArray, List.set_cons_zero, List.set_cons_succ]
  refine wpAnyH_take (i := 1) (v := ?_) rfl (by kernel_rfl) (by kernel_rfl) (by kernel_rfl) (fun _ _ _ h => h) (Or.inl ⟨by kernel_rfl, ?_⟩) (by assumption) ?_
  rotate_left
  · intro w9 hS9; (try dsimp only at hS9); go_simp; (try with_reducible rfl)
  set_option linter.unusedSimpArgs false in try simp only [Act.put, List.getElem_toArray, List.getElem_cons_succ, List.getElem_cons_zero, List.setIfInBounds_toArray, List.set_cons_zero, List.set_cons_succ]
  refine wpAnyH_take (i := 2) (v := ?_) rfl (by kernel_rfl) (by kernel_rfl) (by kernel_rfl) (fun _ _ _ h => h) (Or.inl ⟨by kernel_rfl, ?_⟩) (by assumption) ?_
  rotate_left
  · intro w9 hS9; (try dsimp only at hS9); go_simp; (try with_reducible rfl)
  set_option linter.unusedSimpArgs false in try simp only [Act.put, List.getElem_toArray, List.getElem_cons_succ, List.getElem_cons_zero, List.setIfInBounds_toArray, List.set_cons_zero, List.set_cons_succ]
  refine wpAnyH_take (i := 3) (v := ?_) rfl (by kernel_rfl) (by kernel_rfl) (by kernel_rfl) (fun _ _ _ h => h) (Or.inl ⟨by kernel_rfl, ?_⟩) (by assumption) ?_
  rotate_left
  · intro w9 hS9; (try dsimp only at hS9); go_simp; (try with_reducible rfl)
  set_option linter.unusedSimpArgs false in try simp only [Act.put, List.getElem_toArray, List.getElem_cons_succ, List.getElem_cons_zero, List.setIfInBounds_toArray, List.set_cons_zero, List.set_cons_succ]
  refine wpAnyH_take (i := 5) (v := ?_) rfl (by kernel_rfl) (by kernel_rfl) (by kernel_rfl) (fun _ _ _ h => h) (Or.inl ⟨by kernel_rfl, ?_⟩) (by assumption) ?_
  rotate_left
  · intro w9 hS9; (try dsimp only at hS9); go_simp; (try with_reducible rfl)
  set_option linter.unusedSimpArgs false in try simp only [Act.put, List.getElem_toArray, List.getElem_cons_succ, List.getElem_cons_zero, List.setIfInBounds_toArray, List.set_cons_zero, List.set_cons_succ]
  refine wpAnyH_ready (rs := [4, 6]) (by kernel_rfl) (by simp) ?_
  refine AllReadyH.cons rfl (fun K hK => ?_) (AllReadyH.cons rfl (fun K hK => ?_) (AllReadyH.nil))
  · have z1 := hB7.cell 0
    simp at z1
    go_simp
    refine hK.out _ _ ⟨n2, n3⟩ (fun hHeld2 => ?_)
    clear hK K hHeld0
    set_option linter.unusedSimpArgs false in try simp only [Act.put, List.getElem_toArray, List.getElem_cons_succ, List.getElem_cons_zero, List.setIfInBounds_toArray, List.set_cons_zero, List.set_cons_succ]
    refine wpAnyH_ready (rs := [6]) (by kernel_rfl) (by simp) ?_
    refine AllReadyH.cons rfl (fun K hK => ?_) (AllReadyH.nil)
    go_simp
    have B4 := hB7.next (bnew V0 (.cells #[.int .i64 x0, .int .i64 x1] 52))
    have R4 := own_below hR7 (bnew V0 (.cells #[.int .i64 x0, .int .i64 x1] 52))
    have X4 := hX7.next (bnew V0 (.cells #[.int .i64 x0, .int .i64 x1] 52))
    have N4 : Hid (NumQ κ (V0.alloc (.cells #[.int .i64 x0, .int .i64 x1] 52)) b (L ++ [x])) := hN7.out.blk ((bnew V0 (.cells #[.int .i64 x0, .int .i64 x1] 52)).block b hN7.out.lt)
    have T4 : Turns (wb g A (some b)) w (V0.alloc (.cells #[.int .i64 x0, .int .i64 x1] 52)) := hT7.trans (Turns.of_below (S := wb g A (some b)) (bnew V0 (.cells #[.int .i64 x0, .int .i64 x1] 52))) (fun k _ e => e)
    have H4 : ∀ (j : Nat) (u : Value), [Value.int .i64 x0, .int .i64 x1][j]? = some u → (V0.alloc (.cells #[.int .i64 x0, .int .i64 x1] 52)).cell? ((⟨V0.heap.size, 0, none⟩ : Addr).add j) = some u := fun j u hj => by
      have hbn : BlkIs (V0.alloc (.cells #[.int .i64 x0, .int .i64 x1] 52)) V0.heap.size 52 #[.int .i64 x0, .int .i64 x1] := blk_new _ _ _ _ rfl
      have he : (⟨V0.heap.size, 0, none⟩ : Addr).add j = ⟨V0.heap.size, j, none⟩ := by cases j <;> simp [Addr.add]
      rw [he, hbn.cell j]
      simpa using hj
    generalize V0.alloc (.cells #[.int .i64 x0, .int .i64 x1] 52) = V3 at B4 R4 X4 N4 T4 H4 ⊢
    have c40 := X4.cell 0
    have c41 := X4.cell 1
    simp at c40 c41
    refine hK.out _ _ ⟨c40, c41⟩ (fun hHeld5 => ?_)
    clear hK K hHeld2
    set_option linter.unusedSimpArgs false in try simp only [Act.put, List.getElem_toArray, List.getElem_cons_succ, List.getElem_cons_zero, List.setIfInBounds_toArray, List.set_cons_zero, List.set_cons_succ]
    refine wpAnyH_ready (rs := [7]) (by kernel_rfl) (by simp) ?_
    refine AllReadyH.cons rfl (fun K hK => ?_) (AllReadyH.nil)
    refine step_append_sep rfl _ _ 45 rfl lo 52 i0 (.agg #[.int .i64 0, .int .i64 0]) 2 16 Try.underlying45 hi hz0 hz1 hz2 rfl (by decide) _ _ _ rfl R4 ⟨V0.heap.size, 0, none⟩ 1 1 [.int .i64 x0, .int .i64 x1] rfl rfl H4 (by simp [Value.oneCell']) (by unfold maxLen; omega) (by omega) (Nat.le_trans hlo T4.size) (by omega) (fun g' cap' w2 hown2 hgrow2 hsep => ?_)
    have B2 := B4.by_grown hgrow2 (fun e => hrn ((ob_any _ _ _).symm.trans e))
    have X2 := X4.by_grown hgrow2 (fun e => hAgx ((ob_any _ _ _).symm.trans e))
    have N2 : Hid (NumQ κ w2 b (L ++ [x])) := N4.out.kept hgrow2 (fun e => hmn2 ((ob_any _ _ _).symm.trans e))
    have T2 : Turns (wb g A (some b)) w w2 := T4.trans (Turns.of_grown (S := wb g A (some b)) hgrow2 (fun k e => .inr (.inl ((ob_any _ _ _).symm.trans e)))) (fun k _ e => e)
    have e0 := X2.cell 0
    have e1 := X2.cell 1
    simp at e0 e1
    have hsz2 := T4.size
    refine hK.out _ _ ⟨e0, e1⟩ (fun hHeld6 => ?_)
    clear hK K hHeld5
    set_option linter.unusedSimpArgs false in try simp only [Act.put, List.getElem_toArray, List.getElem_cons_succ, List.getElem_cons_zero, List.setIfInBounds_toArray, List.set_cons_zero, List.set_cons_succ]
    refine wpAnyH_take (i := 8) (v := ?_) rfl (by kernel_rfl) (by kernel_rfl) (by kernel_rfl) (fun _ _ _ h => h) (Or.inl ⟨by kernel_rfl, ?_⟩) (by assumption) ?_
    rotate_left
    · intro w9 hS9; (try dsimp only at hS9); go_simp; (try with_reducible rfl)
    set_option linter.unusedSimpArgs false in try simp only [Act.put, List.getElem_toArray, List.getElem_cons_succ, List.getElem_cons_zero, List.setIfInBounds_toArray, List.set_cons_zero, List.set_cons_succ]
    refine wpAnyH_take (i := 9) (v := ?_) rfl (by kernel_rfl) (by kernel_rfl) (by kernel_rfl) (fun _ _ _ h => h) (Or.inl ⟨by kernel_rfl, ?_⟩) (by assumption) ?_
    rotate_left
    · intro w9 hS9; (try dsimp only at hS9); go_simp; (try with_reducible rfl)
    set_option linter.unusedSimpArgs false in try simp only [Act.put, List.getElem_toArray, List.getElem_cons_succ, List.getElem_cons_zero, List.setIfInBounds_toArray, List.set_cons_zero, List.set_cons_succ]
    refine wpAnyH_ready (rs := [10]) (by kernel_rfl) (by simp) ?_
    refine AllReadyH.cons rfl (fun K hK => ?_) (AllReadyH.nil)
    have z0 := B2.cell 0
    have f0 := B2.frozen 0
    simp at z0
    have hB3 := B2.set 0 (.slice (some ⟨g', 0, none⟩) (L.length + 1) cap')
    simp at hB3
    have X3 := X2.far (g' := g) (fun e => hggx e.symm) 0 (.slice (some ⟨g', 0, none⟩) (L.length + 1) cap')
    have j0 := X3.cell 0
    have j1 := X3.cell 1
    simp at j0 j1
    go_simp
    refine hK.out _ _ ⟨j0, j1⟩ (fun hHeld7 => ?_)
    clear hK K hHeld6
    set_option linter.unusedSimpArgs false in try simp only [Act.put, List.getElem_toArray, List.getElem_cons_succ, List.getElem_cons_zero, List.setIfInBounds_toArray, List.set_cons_zero, List.set_cons_succ]
    refine wpAnyH_done (by kernel_rfl) ?_ _
    go_wp2_with fail
    go_ret
    have hg' : g' ≠ g := fun e => by
      rcases hsep with h' | h'
      · exact hrn ((ob_any _ _ _).symm.trans (h'.symm.trans (by rw [e])))
      · omega
    have ht : Turns (wb g A (some b)) w (w2.setCell ⟨g, 0, none⟩ (.slice (some ⟨g', 0, none⟩) (L.length + 1) cap')) := T2.set (.inl rfl)
    refine ⟨some ⟨g', 0, none⟩, cap', b, by rw [HI.out]; rfl, ?_, ht.more (fun k hk e => by
      rcases e with rfl | e | e
      · exact rfl
      · rw [hA0] at e; cases e
      · obtain rfl := Option.some.inj e; have := HBW.out; omega), fun k hk => ?_⟩
    · rw [HF.out]
      refine ⟨?_, hglo, ?_, fun b' e => ?_, fun e => by cases e⟩
      · rw [List.length_append]; exact hB3
      · have e : ([x].flatMap (pv κ)) = [.int .i64 x0, .int .i64 x1] := by rw [List.flatMap_cons, List.flatMap_nil, List.append_nil]; exact HXX.out
        rw [List.length_append, List.flatMap_append, e]
        exact hown2.kept (only_set (g := g)) (.inr (fun e => hg' (Option.some.inj e)))
      · obtain rfl := Option.some.inj e
        exact ⟨hb0, hb1, N2.out.kept (only_set (g := g)) (fun e => hmn1 (Option.some.inj e).symm)⟩
    · rcases hk with rfl | hk | hk
      · exact .inl rfl
      · obtain rfl : g' = k := Option.some.inj hk
        rcases hsep with h' | h'
        · have := (ob_any _ _ _).symm.trans h'.symm; rw [hA0] at this; cases this
        · right; omega
      · right; obtain rfl := Option.some.inj hk; have := HBW.out; omega
  · go_simp
    have B9 := hB7.next (bnew V0 (.cells #[.int .i64 x0, .int .i64 x1] 52))
    have R9 := own_below hR7 (bnew V0 (.cells #[.int .i64 x0, .int .i64 x1] 52))
    have X9 := hX7.next (bnew V0 (.cells #[.int .i64 x0, .int .i64 x1] 52))
    have N9 : Hid (NumQ κ (V0.alloc (.cells #[.int .i64 x0, .int .i64 x1] 52)) b (L ++ [x])) := hN7.out.blk ((bnew V0 (.cells #[.int .i64 x0, .int .i64 x1] 52)).block b hN7.out.lt)
    have T9 : Turns (wb g A (some b)) w (V0.alloc (.cells #[.int .i64 x0, .int .i64 x1] 52)) := hT7.trans (Turns.of_below (S := wb g A (some b)) (bnew V0 (.cells #[.int .i64 x0, .int .i64 x1] 52))) (fun k _ e => e)
    have H9 : ∀ (j : Nat) (u : Value), [Value.int .i64 x0, .int .i64 x1][j]? = some u → (V0.alloc (.cells #[.int .i64 x0, .int .i64 x1] 52)).cell? ((⟨V0.heap.size, 0, none⟩ : Addr).add j) = some u := fun j u hj => by
      have hbn : BlkIs (V0.alloc (.cells #[.int .i64 x0, .int .i64 x1] 52)) V0.heap.size 52 #[.int .i64 x0, .int .i64 x1] := blk_new _ _ _ _ rfl
      have he : (⟨V0.heap.size, 0, none⟩ : Addr).add j = ⟨V0.heap.size, j, none⟩ := by cases j <;> simp [Addr.add]
      rw [he, hbn.cell j]
      simpa using hj
    generalize V0.alloc (.cells #[.int .i64 x0, .int .i64 x1] 52) = V8 at B9 R9 X9 N9 T9 H9 ⊢
    have c90 := X9.cell 0
    have c91 := X9.cell 1
    simp at c90 c91
    refine hK.out _ _ ⟨c90, c91⟩ (fun hHeld10 => ?_)
    clear hK K hHeld0
    set_option linter.unusedSimpArgs false in try simp only [Act.put, List.getElem_toArray, List.getElem_cons_succ, List.getElem_cons_zero, List.setIfInBounds_toArray, List.set_cons_zero, List.set_cons_succ]
    refine wpAnyH_ready (rs := [4]) (by kernel_rfl) (by simp) ?_
    refine AllReadyH.cons rfl (fun K hK => ?_) (AllReadyH.nil)
    have z11 := B9.cell 0
    simp at z11
    go_simp
    refine hK.out _ _ ⟨c90, c91⟩ (fun hHeld12 => ?_)
    clear hK K hHeld10
    set_option linter.unusedSimpArgs false in try simp only [Act.put, List.getElem_toArray, List.getElem_cons_succ, List.getElem_cons_zero, List.setIfInBounds_toArray, List.set_cons_zero, List.set_cons_succ]
    refine wpAnyH_ready (rs := [7]) (by kernel_rfl) (by simp) ?_
    refine AllReadyH.cons rfl (fun K hK => ?_) (AllReadyH.nil)
    refine step_append_sep rfl _ _ 45 rfl lo 52 i0 (.agg #[.int .i64 0, .int .i64 0]) 2 16 Try.underlying45 hi hz0 hz1 hz2 rfl (by decide) _ _ _ rfl R9 ⟨V0.heap.size, 0, none⟩ 1 1 [.int .i64 x0, .int .i64 x1] rfl rfl H9 (by simp [Value.oneCell']) (by unfold maxLen; omega) (by omega) (Nat.le_trans hlo T9.size) (by omega) (fun g' cap' w2 hown2 hgrow2 hsep => ?_)
    have B2 := B9.by_grown hgrow2 (fun e => hrn ((ob_any _ _ _).symm.trans e))
    have X2 := X9.by_grown hgrow2 (fun e => hAgx ((ob_any _ _ _).symm.trans e))
    have N2 : Hid (NumQ κ w2 b (L ++ [x])) := N9.out.kept hgrow2 (fun e => hmn2 ((ob_any _ _ _).symm.trans e))
    have T2 : Turns (wb g A (some b)) w w2 := T9.trans (Turns.of_grown (S := wb g A (some b)) hgrow2 (fun k e => .inr (.inl ((ob_any _ _ _).symm.trans e)))) (fun k _ e => e)
    have e0 := X2.cell 0
    have e1 := X2.cell 1
    simp at e0 e1
    have hsz2 := T9.size
    refine hK.out _ _ ⟨e0, e1⟩ (fun hHeld13 => ?_)
    clear hK K hHeld12
    set_option linter.unusedSimpArgs false in try simp only [Act.put, List.getElem_toArray, List.getElem_cons_succ, List.getElem_cons_zero, List.setIfInBounds_toArray, List.set_cons_zero, List.set_cons_succ]
    refine wpAnyH_take (i := 8) (v := ?_) rfl (by kernel_rfl) (by kernel_rfl) (by kernel_rfl) (fun _ _ _ h => h) (Or.inl ⟨by kernel_rfl, ?_⟩) (by assumption) ?_
    rotate_left
    · intro w9 hS9; (try dsimp only at hS9); go_simp; (try with_reducible rfl)
    set_option linter.unusedSimpArgs false in try simp only [Act.put, List.getElem_toArray, List.getElem_cons_succ, List.getElem_cons_zero, List.setIfInBounds_toArray, List.set_cons_zero, List.set_cons_succ]
    refine wpAnyH_take (i := 9) (v := ?_) rfl (by kernel_rfl) (by kernel_rfl) (by kernel_rfl) (fun _ _ _ h => h) (Or.inl ⟨by kernel_rfl, ?_⟩) (by assumption) ?_
    rotate_left
    · intro w9 hS9; (try dsimp only at hS9); go_simp; (try with_reducible rfl)
    set_option linter.unusedSimpArgs false in try simp only [Act.put, List.getElem_toArray, List.getElem_cons_succ, List.getElem_cons_zero, List.setIfInBounds_toArray, List.set_cons_zero, List.set_cons_succ]
    refine wpAnyH_ready (rs := [10]) (by kernel_rfl) (by simp) ?_
    refine AllReadyH.cons rfl (fun K hK => ?_) (AllReadyH.nil)
    have z0 := B2.cell 0
    have f0 := B2.frozen 0
    simp at z0
    have hB3 := B2.set 0 (.slice (some ⟨g', 0, none⟩) (L.length + 1) cap')
    simp at hB3
    have X3 := X2.far (g' := g) (fun e => hggx e.symm) 0 (.slice (some ⟨g', 0, none⟩) (L.length + 1) cap')
    have j0 := X3.cell 0
    have j1 := X3.cell 1
    simp at j0 j1
    go_simp
    refine hK.out _ _ ⟨j0, j1⟩ (fun hHeld14 => ?_)
    clear hK K hHeld13
    set_option linter.unusedSimpArgs false in try simp only [Act.put, List.getElem_toArray, List.getElem_cons_succ, List.getElem_cons_zero, List.setIfInBounds_toArray, List.set_cons_zero, List.set_cons_succ]
    refine wpAnyH_done (by kernel_rfl) ?_ _
    go_wp2_with fail
    go_ret
    have hg' : g' ≠ g := fun e => by
      rcases hsep with h' | h'
      · exact hrn ((ob_any _ _ _).symm.trans (h'.symm.trans (by rw [e])))
      · omega
    have ht : Turns (wb g A (some b)) w (w2.setCell ⟨g, 0, none⟩ (.slice (some ⟨g', 0, none⟩) (L.length + 1) cap')) := T2.set (.inl rfl)
    refine ⟨some ⟨g', 0, none⟩, cap', b, by rw [HI.out]; rfl, ?_, ht.more (fun k hk e => by
      rcases e with rfl | e | e
      · exact rfl
      · rw [hA0] at e; cases e
      · obtain rfl := Option.some.inj e; have := HBW.out; omega), fun k hk => ?_⟩
    · rw [HF.out]
      refine ⟨?_, hglo, ?_, fun b' e => ?_, fun e => by cases e⟩
      · rw [List.length_append]; exact hB3
      · have e : ([x].flatMap (pv κ)) = [.int .i64 x0, .int .i64 x1] := by rw [List.flatMap_cons, List.flatMap_nil, List.append_nil]; exact HXX.out
        rw [List.length_append, List.flatMap_append, e]
        exact hown2.kept (only_set (g := g)) (.inr (fun e => hg' (Option.some.inj e)))
      · obtain rfl := Option.some.inj e
        exact ⟨hb0, hb1, N2.out.kept (only_set (g := g)) (fun e => hmn1 (Option.some.inj e).symm)⟩
    · rcases hk with rfl | hk | hk
      · exact .inl rfl
      · obtain rfl : g' = k := Option.some.inj hk
        rcases hsep with h' | h'
        · have := (ob_any _ _ _).symm.trans h'.symm; rw [hA0] at this; cases this
        · right; omega
      · right; obtain rfl := Option.some.inj hk; have := HBW.out; omega

theorem pv_at (κ : Int) : ∀ (L : List Int) (k : Nat) (x : Int), L[k]? = some x → (L.flatMap (pv κ))[k * 2]? = some (.int .i64 (x / κ)) ∧ (L.flatMap (pv κ))[k * 2 + 1]? = some (.int .i64 (x % κ))
  | [], k, x, h => by simp at h
  | y :: L, 0, x, h => by
    obtain rfl : y = x := by simpa using h
    exact ⟨rfl, rfl⟩
  | y :: L, k + 1, x, h => by
    have ih := pv_at κ L k x (by simpa using h)
    have e1 : (k + 1) * 2 = k * 2 + 1 + 1 := by omega
    rw [e1]
    exact ⟨ih.1, ih.2⟩

set_option maxRecDepth 100000 in
set_option maxHeartbeats 2000000 in
/-- The items, one after another, also those that are added meanwhile: whatever the rounds do. -/
theorem eachQ_rounds (κ : Int) (F : Fence) (n : Nat) (hf : F.fn 46) (hro : F.round = none) (hn : 1 ≤ n) (g : Nat) (I : List Int × Nat → World → Prop)
    (hM : ∀ L k W, I (L, k) W → k ≤ L.length ∧ L.length ≤ 1000 ∧ ∃ lo B A c mv, WLQ κ W g lo B A c mv L) (L0 : List Int) :
    Rounds F n Try.prog 46 #[.pointer (some ⟨g, 0, none⟩)] (fun x : Int => #[.agg #[.int .i64 (x / κ), .int .i64 (x % κ)]]) I (fun s x => s.1[s.2]? = some x) (fun s s' => s'.2 = s.2 + 1) (fun s => s.2 = s.1.length) (L0, 0) := fun l J Jx W hJI hY h0 => by
  refine callsIn_of_wp Try.func46 rfl hf ?_ hro
  simp only [Try.ntmps46, List.size_toArray, List.length_cons, List.length_nil, Nat.reduceAdd, Nat.reduceSub, Array.replicate_succ, Array.replicate_zero, List.push_toArray, List.append_toArray, List.nil_append, List.cons_append]
  gi_wp2
  gi_loopw [4] (fun i wr => ∃ (L : List Int) (k : Nat), i = .int .i64 k ∧ J (L, k) wr) (fun i _ => 1001 - (intOf i).toNat)
  case atStart => exact ⟨L0, 0, rfl, h0⟩
  case round =>
    obtain ⟨L, k, rfl, hJ⟩ := hrel
    obtain ⟨hk, hl, lo, B, A, c, mv, hW⟩ := hM L k wr (hJI _ wr hJ)
    have c0 : wr.cell? ⟨g, 0, none⟩ = some (.slice A L.length c) := hW.box.cell 0
    obtain ⟨m, hm⟩ : ∃ m, L.length = m := ⟨_, rfl⟩
    rw [hm] at c0 hk hl
    by_cases hlt : k < m
    · obtain ⟨x, hx⟩ : ∃ x, L[k]? = some x := ⟨_, List.getElem?_eq_getElem (by omega)⟩
      have i1 : (k : Int) < (m : Int) := by omega
      have hrow := hW.row
      obtain ⟨r, rfl⟩ : ∃ r, A = some ⟨r, 0, none⟩ := by
        rcases hrow.2 with h' | ⟨r, cap, cur, k1, _⟩
        · have := h'.2; omega
        · injection k1 with k1; exact ⟨r, k1⟩
      have c1 : wr.cell? ⟨r, k * 2, none⟩ = some (.int .i64 (x / κ)) := by
        rw [hrow.cellAt (k * 2) (by omega)]; exact (pv_at κ L k x hx).1
      have c2 : wr.cell? ⟨r, k * 2 + 1, none⟩ = some (.int .i64 (x % κ)) := by
        rw [hrow.cellAt (k * 2 + 1) (by omega)]; exact (pv_at κ L k x hx).2
      obtain ⟨fn, tmps, assign, body, hy, hR⟩ := hY (L, k) x wr hJ hx
      (try dsimp only at hy)
      clear hrow hW hx hm
      gi_wp2
      refine hR.mono ?_
      rintro e W3 (⟨rfl, ⟨L', k'⟩, hs', hJ3⟩ | ⟨rfl, hJx3⟩)
      · obtain rfl : k' = k + 1 := hs'
        gi_wp2
        go_roundw
        case rel => exact ⟨L', k + 1, by go_num, hJ3⟩
        case measure => simp [intOf]; omega
      · gi_wp2
        refine bodyPost_ret (results_none rfl _ _ _) rfl ?_
        exact ⟨⟨_, rfl⟩, .inr hJx3⟩
    · have i1 : ¬ (k : Int) < (m : Int) := by omega
      have hF : Hid (J (L, L.length) wr) := by show J (L, L.length) wr; rw [show L.length = k by omega]; exact hJ
      clear hm hW
      gi_wp2
      go_end0
      exact ⟨⟨_, rfl⟩, .inl ⟨L, hF.out⟩⟩
end Go.Proofs.Ytpdgnmdjneakgaa
