/-
  The work list of the policies: its items in a row, their numbers in a map; add, each. Conditions: at most 1000 items.
-/
import Derived.Test.YtpdgnmdjneakgaaBound
import Derived.Test.YtpdgnmdjneakgaaSep
import Derived.Test.YtpdgnmdjneakgaaBlk
import Derived.Maps.Own
import Derived.Maps.OwnOps
import Derived.Maps.OwnSet
import Derived.Carry
import Derived.WalkSpells
import Derived.Maps.AppendAt
import Derived.Deep.DeepCutAuto
namespace Go.Proofs.Ytpdgnmdjneakgaa
set_option linter.unusedVariables false
open Go.RowKit Go.Shelf Go.Deep

/-- Nothing turns but in the blocks S, and in new ones. -/
structure Turns (S : Nat → Prop) (w w' : World) : Prop where
  os : w'.os = w.os
  tape : w'.tape = w.tape
  output : w'.output = w.output
  size : w.heap.size ≤ w'.heap.size
  block : ∀ k, k < w.heap.size → ¬ S k → w'.heap[k]? = w.heap[k]?
section
variable {S S' : Nat → Prop} {w w' w'' : World} {g i B : Nat} {t : TypeId} {cs : Array Value} {v : Value}
theorem Turns.refl (S : Nat → Prop) (w : World) : Turns S w w := ⟨rfl, rfl, rfl, Nat.le_refl _, fun _ _ _ => rfl⟩
theorem Turns.of_below (h : Below w.heap.size w w') : Turns S w w' := ⟨h.os, h.tape, h.output, h.size, fun k hk _ => h.block k hk⟩
theorem Turns.of_grown {r : Option Nat} (h : w.grownBy w' r) (hr : ∀ k, r = some k → S k) : Turns S w w' := ⟨h.os, h.tape, h.output, h.size, fun k hk hn => h.block k hk (fun e => hn (hr k e.symm))⟩
theorem Turns.trans (h : Turns S w w') (h' : Turns S' w' w'') (hs : ∀ k, k < w.heap.size → S' k → S k) : Turns S w w'' :=
  ⟨h'.os.trans h.os, h'.tape.trans h.tape, h'.output.trans h.output, Nat.le_trans h.size h'.size, fun k hk hn => (h'.block k (Nat.lt_of_lt_of_le hk h.size) (fun e => hn (hs k hk e))).trans (h.block k hk hn)⟩
theorem Turns.more (h : Turns S w w') (hs : ∀ k, k < w.heap.size → S k → S' k) : Turns S' w w' := ⟨h.os, h.tape, h.output, h.size, fun k hk hn => h.block k hk (fun e => hn (hs k hk e))⟩
theorem Turns.blk (h : Turns S w w') (hb : BlkIs w g t cs) (hn : ¬ S g) : BlkIs w' g t cs := (h.block g hb.lt hn).trans hb
theorem Turns.set (h : Turns S w w') (hg : S g) : Turns S w (w'.setCell ⟨g, i, none⟩ v) :=
  h.trans (Turns.of_grown (S := S) (only_set (g := g)) (fun k e => by injection e with e; rw [← e]; exact hg)) (fun _ _ e => e)
theorem Turns.below (h : Turns S w w') (hS : ∀ k, S k → B ≤ k) (hB : B ≤ w.heap.size) : Below B w w' := ⟨h.os, h.tape, h.output, h.size, fun k hk => h.block k (by omega) (fun e => by have := hS k e; omega)⟩
theorem Turns.keepsFrom (h : Turns S w w') (hS : ∀ k o, B ≤ k → S k → w.heap[k]? = some o → o.isCells = true) : KeepsFrom B w w' :=
  ⟨h.size, fun k o hB hk ho => (h.block k (Array.getElem?_eq_some_iff.1 hk).1 (fun e => by have := hS k o hB e hk; rw [this] at ho; cases ho)).trans hk⟩
theorem BlkIs.by_grown {r : Option Nat} (h : BlkIs w g t cs) (hg : w.grownBy w' r) (hr : r ≠ some g) : BlkIs w' g t cs := (hg.block g h.lt (fun e => hr e.symm)).trans h
end

theorem keyedW : Maps.Keyed Try.prog 2 := Maps.int_keyed Try.underlying2
theorem zeroW (w : World) : (zeroValue 2).run Try.prog w = .ok (.int .i64 0) w := by kernel_rfl
/-- Block b is the map of the numbers of a list's items. -/
def NumM (w : World) (b : Nat) (L : List Int) : Prop :=
  ∃ D : DataW Unit, w.ownsMap Try.prog 2 (plainElem Try.prog 2) b L.length D ∧ ∀ k : Int, Maps.has D (.int .i64 k) = decide (k ∈ L) ∧ (k ∈ L → D.atKey (.int .i64 k) (.lit (.int .i64 0)) = .lit (.int .i64 (L.idxOf k : Int)))
theorem numM_made (w : World) : NumM (w.alloc (.map #[] 0)) w.heap.size [] := ⟨.map [], World.ownsMap_made _ _ _ _, fun k => ⟨by simp [Maps.has_eq], fun h => by cases h⟩⟩
theorem numM_put {w : World} {D : DataW Unit} {b : Nat} {L : List Int} {x : Int} (h : ∀ k : Int, Maps.has D (.int .i64 k) = decide (k ∈ L) ∧ (k ∈ L → D.atKey (.int .i64 k) (.lit (.int .i64 0)) = .lit (.int .i64 (L.idxOf k : Int))))
    (hD : Maps.IsMap D) (hx : x ∉ L) (h3 : w.ownsMap Try.prog 2 (plainElem Try.prog 2) b (L.length + 1) (D.put (.int .i64 x) (.lit (.int .i64 (L.length : Int))))) : NumM w b (L ++ [x]) := by
  refine ⟨_, by rw [List.length_append]; exact h3, fun k => ?_⟩
  by_cases e : k = x
  · subst e
    refine ⟨?_, fun _ => ?_⟩
    · rw [Maps.has_put_same (k := .int .i64 k) hD trivial]; simp
    · rw [Maps.atKey_put_same (k := .int .i64 k) hD trivial, List.idxOf_append, if_neg hx]
      simp
  · refine ⟨?_, fun hk => ?_⟩
    · rw [Maps.has_put_other (fun h => e (by injection h)), (h k).1]
      simp [e]
    · have hk' : k ∈ L := by rcases List.mem_append.1 hk with h' | h'; exact h'; simp at h'; exact absurd h' e
      rw [Maps.atKey_put_other (fun h => e (by injection h)), (h k).2 hk', List.idxOf_append, if_pos hk']
theorem NumM.kept {w w' : World} {b : Nat} {L : List Int} {r : Option Nat} (h : NumM w b L) (hg : w.grownBy w' r) (hr : r ≠ some b) : NumM w' b L := by
  obtain ⟨D, h1, h2⟩ := h
  exact ⟨D, h1.kept hg (fun e => hr e.symm), h2⟩
theorem NumM.blk {w w' : World} {b : Nat} {L : List Int} (h : NumM w b L) (hb : w'.heap[b]? = w.heap[b]?) : NumM w' b L := by
  obtain ⟨D, ⟨es, clock, h3, h4⟩, h2⟩ := h
  exact ⟨D, ⟨es, clock, hb.trans h3, h4⟩, h2⟩
theorem NumM.lt {w : World} {b : Nat} {L : List Int} (h : NumM w b L) : b < w.heap.size := by obtain ⟨D, h1, _⟩ := h; exact h1.lt
theorem NumM.isMap {w : World} {b : Nat} {L : List Int} (h : NumM w b L) : ∃ es cl, w.heap[b]? = some (.map es cl) := by obtain ⟨D, ⟨es, cl, h1, _⟩, _⟩ := h; exact ⟨es, cl, h1⟩

/-- A list with an item more, if it is new. -/
def addL (x : Int) (L : List Int) : List Int := if x ∈ L then L else L ++ [x]
theorem addL_old {x : Int} {L : List Int} (h : x ∈ L) : addL x L = L := if_pos h
theorem addL_new {x : Int} {L : List Int} (h : x ∉ L) : addL x L = L ++ [x] := if_neg h
/-- The blocks of a work list. -/
def wb (g : Nat) (A : Option Addr) (mv : Option Nat) (k : Nat) : Prop := k = g ∨ (Value.slice A 0 0).ownBlock = some k ∨ mv = some k
/-- A work list in memory: its block g, its row, its map. -/
structure WL (w : World) (g lo B : Nat) (A : Option Addr) (c : Nat) (mv : Option Nat) (L : List Int) : Prop where
  box : BlkIs w g 96 #[.slice A L.length c, .map mv]
  glo : lo ≤ g
  row : w.ownsRow lo 2 1 (.slice A L.length c) L.length (L.map ic)
  num : ∀ b, mv = some b → lo ≤ b ∧ b < B ∧ NumM w b L
  nil : mv = none → L = []
theorem ob_any (A : Option Addr) (n c : Nat) : (Value.slice A n c).ownBlock = (Value.slice A 0 0).ownBlock := by cases A <;> rfl
section
variable {w w' : World} {g lo B c : Nat} {A : Option Addr} {mv : Option Nat} {L : List Int}
theorem WL.row_ne (h : WL w g lo B A c mv L) : (Value.slice A 0 0).ownBlock ≠ some g := by
  intro e
  rcases h.row.2 with ⟨h1, _⟩ | ⟨r, cap, cur, h1, _, h3, _⟩
  · injection h1 with h1; subst h1; cases e
  · injection h1 with h1; subst h1
    obtain rfl : r = g := Option.some.inj (show some r = some g from e)
    have hb := h.box
    unfold BlkIs at hb
    rw [h3] at hb
    injection hb with hb
    injection hb with _ h2 _
    revert h2
    decide
theorem WL.map_ne (h : WL w g lo B A c mv L) {b : Nat} (hb : mv = some b) : b ≠ g ∧ (Value.slice A 0 0).ownBlock ≠ some b := by
  obtain ⟨es, cl, hm⟩ := (h.num b hb).2.2.isMap
  refine ⟨fun e => ?_, fun e => ?_⟩
  · subst e
    have hx := h.box
    unfold BlkIs at hx
    rw [hm] at hx
    injection hx with hx
    cases hx
  · rcases h.row.2 with ⟨h1, _⟩ | ⟨r, cap, cur, h1, _, h3, _⟩
    · injection h1 with h1; subst h1; cases e
    · injection h1 with h1; subst h1
      obtain rfl : r = b := Option.some.inj (show some r = some b from e)
      rw [h3] at hm
      injection hm with hm
      cases hm
theorem WL.ge (h : WL w g lo B A c mv L) {k : Nat} (hk : wb g A mv k) : lo ≤ k ∧ k < w.heap.size := by
  rcases hk with rfl | hk | hk
  · exact ⟨h.glo, h.box.lt⟩
  · exact h.row.lt k ((ob_any _ _ _).trans hk)
  · have := h.num k hk; exact ⟨this.1, this.2.2.lt⟩
theorem WL.next (h : WL w g lo B A c mv L) {S : Nat → Prop} (ht : Turns S w w') (hS : ∀ k, wb g A mv k → ¬ S k) : WL w' g lo B A c mv L := by
  refine ⟨ht.blk h.box (hS g (.inl rfl)), h.glo, ⟨h.row.1, ?_⟩, fun b hb => ?_, h.nil⟩
  · rcases h.row.2 with h1 | ⟨r, cap, cur, h1, h2, h3, h4⟩
    · exact .inl h1
    · refine .inr ⟨r, cap, cur, h1, h2, ?_, h4⟩
      have hr : (Value.slice A 0 0).ownBlock = some r := by injection h1 with h1; subst h1; rfl
      have hlt : r < w.heap.size := by
        rcases Nat.lt_or_ge r w.heap.size with hlt | hge
        · exact hlt
        · rw [Array.getElem?_eq_none hge] at h3; cases h3
      rw [ht.block r hlt (hS r (.inr (.inl hr)))]; exact h3
  · obtain ⟨h1, h2, h3⟩ := h.num b hb
    exact ⟨h1, h2, h3.blk (ht.block b h3.lt (hS b (.inr (.inr hb))))⟩
theorem WL.isCells (h : WL w g lo B A c mv L) {k : Nat} {o : Obj} (hk : wb g A mv k) (hB : B ≤ k) (ho : w.heap[k]? = some o) : o.isCells = true := by
  rcases hk with rfl | hk | hk
  · have := h.box
    unfold BlkIs at this
    rw [ho] at this
    injection this with this
    subst this; rfl
  · rcases h.row.2 with ⟨h1, _⟩ | ⟨r, cap, cur, h1, _, h3, _⟩
    · injection h1 with h1; subst h1; cases hk
    · injection h1 with h1; subst h1
      obtain rfl : r = k := Option.some.inj (show some r = some k from hk)
      rw [h3] at ho
      injection ho with ho
      subst ho; rfl
  · have := (h.num k hk).2.1; omega
end

set_option maxRecDepth 100000 in
set_option maxHeartbeats 4000000 in
/-- An item is added, and others are there. -/
theorem add_c (g lo B : Nat) (A : Option Addr) (c b : Nat) (L : List Int) (x : Int) (w : World) (h : WL w g lo B A c (some b) L) (hx : 0 ≤ x ∧ x ≤ 1000000) (hL : L.length ≤ 1000) (hlo : lo ≤ w.heap.size) :
    Calls Try.prog 51 #[.pointer (some ⟨g, 0, none⟩), .int .i64 x] w fun e w' => ∃ A' c', e = .returned (.int .i64 ((addL x L).idxOf x : Int)) ∧ WL w' g lo B A' c' (some b) (addL x L) ∧ Turns (wb g A (some b)) w w' ∧ ∀ k, wb g A' (some b) k → wb g A (some b) k ∨ w.heap.size ≤ k := by
  obtain ⟨i0, hi, hz0, hz1, hz2⟩ := info_parts info64
  obtain ⟨hb0, hb1, D, hD1, hD2⟩ := h.num b rfl
  have hrn := h.row_ne
  obtain ⟨hmn1, hmn2⟩ := h.map_ne rfl
  have HB := Lib.hid h.box
  have HR := Lib.hid h.row
  have hgl := h.box.lt
  have hglo := h.glo
  have hbl := hD1.lt
  have hDm := hD1.isMap
  have c0 : w.cell? ⟨g, 0, none⟩ = some (.slice A L.length c) := h.box.cell 0
  have c1 : w.cell? ⟨g, 1, none⟩ = some (.map (some b)) := h.box.cell 1
  have hw : (Lit.int .i64 x).wf = true := WalkArith.wf_i64 (by omega)
  have hkey := Maps.keyOf_int_mk (P := Try.prog) Try.underlying2 hw
  have hD2x := hD2 x
  have qT : ∀ (w : World) (r : Option Nat), (binOp .eql 94 (.map r) (.map none)).run Try.prog w = .ok (.bool r.isNone) w := fun w r => run_eql_map_nil w _ _ _ r Try.underlying94
  by_cases hm : x ∈ L
  · have hhas : Maps.has D (.int .i64 x) = true := by rw [hD2x.1]; exact decide_eq_true hm
    have H2 := Lib.hid (hD2x.2 hm)
    have HF := Lib.hid (addL_old hm)
    have HW := Lib.hid h
    clear hD2 hD2x hm h
    go_enter Try.func51, Try.ntmps51
    go_wp2_with (at_lookup; refine wpList_lookup_own_ok_int _ rfl _ _ 94 rfl 2 2 .i64 keyedW Try.underlying94 Try.underlying2 (zeroW _) b L.length D rfl hD1 _ _ rfl hkey ?_; intro cc hat hwc; rw [hhas]; obtain rfl : (L.idxOf x : Int) = cc := by (have := H2.out.symm.trans hat; simpa using this))
    go_ret
    exact ⟨A, c, by rw [HF.out]; rfl, by rw [HF.out]; exact HW.out, Turns.refl _ _, fun k hk => .inl hk⟩
  · have hhas : Maps.has D (.int .i64 x) = false := by rw [hD2x.1]; exact decide_eq_false hm
    have HF := Lib.hid (addL_new hm)
    have HI : Hid ((addL x L).idxOf x = L.length) := by show _ = _; rw [addL_new hm, List.idxOf_append, if_neg hm]; simp
    have HD2 := Lib.hid hD2
    have HM := Lib.hid hm
    clear hD2 hD2x hm h
    go_enter Try.func51, Try.ntmps51
    go_upto_region 7 with (first
      | (at_lookup; refine wpList_lookup_own_ok_int _ rfl _ _ 94 rfl 2 2 .i64 keyedW Try.underlying94 Try.underlying2 (zeroW _) b L.length D rfl hD1 _ _ rfl hkey ?_; intro cc hat hwc; rw [hhas])
      | (at_mapUpdate; refine wpList_mapUpdate_own _ rfl _ _ _ 94 rfl 2 2 keyedW Try.underlying94 _ b L.length D rfl hD1 (by unfold maxLen; omega) _ _ _ rfl rfl hkey _ [] (plainElem_int Try.underlying2 (WalkArith.wf_i64 (n := (L.length : Int)) (by omega))) ?_; intro w1 hown1 hgrow1)
      | go_in)
    have HN := Lib.hid (numM_put HD2.out hDm HM.out hown1)
    have B1 := HB.out.by_grown hgrow1 (fun e => hmn1 (Option.some.inj e))
    have R1 := HR.out.kept hgrow1 (.inr (fun e => hmn2 ((ob_any _ _ _).symm.trans e)))
    have d0 : w1.cell? ⟨g, 0, none⟩ = some (.slice A L.length c) := B1.cell 0
    have hs1 := hgrow1.size
    clear c0 c1 hown1 hD1
    go_wp2_with (at_builtin; refine wpList_append_sep rfl _ _ 29 rfl lo 2 i0 (.int .i64 0) 1 8 Try.underlying29 hi hz0 hz1 hz2 rfl (by decide) _ _ _ rfl (R1.alloc _) ⟨w1.heap.size, 0, none⟩ 1 1 [.int .i64 x] rfl rfl (cell_one_new _ _ _) (by simp [Value.oneCell']) (by unfold maxLen; omega) (by omega) (by simp; omega) (by omega) ?_; intro g' cap' w2 hown2 hgrow2 hsep; have B2 := (B1.next (bnew w1 (.cells #[.int .i64 x] 2))).by_grown hgrow2 (fun e => hrn ((ob_any _ _ _).symm.trans e)); have e0 := B2.cell 0; have f0 := B2.frozen 0; simp at e0)
    go_ret
    have hs2 := hgrow2.size
    have hsa : (w1.alloc (.cells #[.int .i64 x] 2)).heap.size = w1.heap.size + 1 := by simp
    have hNb := HN.out.lt
    have hg' : g' ≠ g := fun e => by
      rcases hsep with h' | h'
      · exact hrn ((ob_any _ _ _).symm.trans (h'.symm.trans (by rw [e])))
      · omega
    have hgb : g' ≠ b := fun e => by
      rcases hsep with h' | h'
      · exact hmn2 ((ob_any _ _ _).symm.trans (h'.symm.trans (by rw [e])))
      · omega
    have hB3 := B2.set 0 (.slice (some ⟨g', 0, none⟩) (L.length + 1) cap')
    simp at hB3
    have ht : Turns (wb g A (some b)) w (w2.setCell ⟨g, 0, none⟩ (.slice (some ⟨g', 0, none⟩) (L.length + 1) cap')) :=
      (((Turns.of_grown (S := wb g A (some b)) hgrow1 (fun k e => .inr (.inr e))).trans (Turns.of_below (S := wb g A (some b)) (bnew w1 (.cells #[.int .i64 x] 2))) (fun k _ e => e)).trans (Turns.of_grown (S := wb g A (some b)) hgrow2 (fun k e => .inr (.inl ((ob_any _ _ _).symm.trans e)))) (fun k _ e => e)).set (.inl rfl)
    refine ⟨some ⟨g', 0, none⟩, cap', by rw [HI.out]; rfl, ?_, ht, fun k hk => ?_⟩
    · rw [HF.out]
      refine ⟨?_, hglo, ?_, fun b' e => ?_, fun e => by cases e⟩
      · rw [List.length_append]; exact hB3
      · rw [List.length_append, List.map_append]
        exact hown2.kept (only_set (g := g)) (.inr (fun e => hg' (Option.some.inj e)))
      · obtain rfl := Option.some.inj e
        refine ⟨hb0, hb1, ?_⟩
        exact ((HN.out.kept (World.grownBy_alloc _ _ none) (by simp)).kept hgrow2 (fun e => hmn2 ((ob_any _ _ _).symm.trans e))).kept (only_set (g := g)) (fun e => hmn1 (Option.some.inj e).symm)
    · rcases hk with rfl | hk | hk
      · exact .inl (.inl rfl)
      · obtain rfl : g' = k := Option.some.inj hk
        rcases hsep with h' | h'
        · exact .inl (.inr (.inl ((ob_any _ _ _).symm.trans h'.symm)))
        · right; omega
      · exact .inl (.inr (.inr hk))

set_option maxRecDepth 100000 in
set_option maxHeartbeats 4000000 in
/-- The first item is added: the map is made. -/
theorem add_first_c (g lo B : Nat) (A : Option Addr) (c : Nat) (L : List Int) (x : Int) (w : World) (h : WL w g lo B A c none L) (hA0 : (Value.slice A 0 0).ownBlock = none) (hx : 0 ≤ x ∧ x ≤ 1000000) (hlo : lo ≤ w.heap.size) (hBw : w.heap.size < B) :
    Calls Try.prog 51 #[.pointer (some ⟨g, 0, none⟩), .int .i64 x] w fun e w' => ∃ A' c' b', e = .returned (.int .i64 ((addL x L).idxOf x : Int)) ∧ WL w' g lo B A' c' (some b') (addL x L) ∧ Turns (fun k => k = g) w w' ∧ ∀ k, wb g A' (some b') k → k = g ∨ w.heap.size ≤ k := by
  obtain ⟨i0, hi, hz0, hz1, hz2⟩ := info_parts info64
  have hL0 := h.nil rfl
  have hL : L.length ≤ 1000 := by rw [hL0]; exact Nat.zero_le _
  have hgl := h.box.lt
  have hglo := h.glo
  have hrn := h.row_ne
  have c0 : w.cell? ⟨g, 0, none⟩ = some (.slice A L.length c) := h.box.cell 0
  have c1 : w.cell? ⟨g, 1, none⟩ = some (.map none) := h.box.cell 1
  have hmm := @run_makeMap Try.prog
  have qT : ∀ (w : World) (r : Option Nat), (binOp .eql 94 (.map r) (.map none)).run Try.prog w = .ok (.bool r.isNone) w := fun w r => run_eql_map_nil w _ _ _ r Try.underlying94
  have hb0 := h.box.next (bnew w (.map #[] 0))
  have d1 : (w.alloc (.map #[] 0)).cell? ⟨g, 1, none⟩ = some (.map none) := hb0.cell 1
  have k1 := hb0.frozen 1
  have hWL : WL ((w.setCell ⟨g, 1, none⟩ (.map (some w.heap.size))).alloc (.map #[] 0)) g lo B A c (some w.heap.size) L := by
    have hbx := h.box.set 1 (.map (some w.heap.size))
    simp at hbx
    refine ⟨hbx.next (bnew _ _), hglo, ?_, fun b' e => ?_, fun e => by cases e⟩
    · exact (h.row.kept (only_set (g := g)) (.inr (fun e => hrn ((ob_any _ _ _).symm.trans e)))).alloc _
    · obtain rfl := Option.some.inj e
      refine ⟨hlo, hBw, ?_⟩
      rw [hL0]
      have := numM_made (w.setCell ⟨g, 1, none⟩ (.map (some w.heap.size)))
      rwa [show (w.setCell ⟨g, 1, none⟩ (.map (some w.heap.size))).heap.size = w.heap.size by simp] at this
  have ht0 : Turns (fun k => k = g) w ((w.setCell ⟨g, 1, none⟩ (.map (some w.heap.size))).alloc (.map #[] 0)) := ((Turns.refl (fun k => k = g) w).set rfl).trans (Turns.of_below (S := fun k => k = g) (bnew _ _)) (fun _ _ e => e)
  have HT0 := Lib.hid ht0
  have HWL := Lib.hid hWL
  clear hb0 hWL ht0 h
  go_enter Try.func51, Try.ntmps51
  go_upto_if 11 with fail
  go_cut [] (fun wx => wx = (w.setCell ⟨g, 1, none⟩ (.map (some w.heap.size))).alloc (.map #[] 0))
  case first =>
    go_wp2_with fail
    go_meet
    rfl
  case rest =>
  obtain rfl := hcut
  obtain ⟨b, hbw⟩ : ∃ b, b = w.heap.size := ⟨_, rfl⟩
  rw [← hbw] at HT0 HWL ⊢
  have HBW := Lib.hid hbw
  clear hbw
  generalize (w.setCell ⟨g, 1, none⟩ (.map (some b))).alloc (.map #[] 0) = W1 at HT0 HWL ⊢
  clear c0 c1 d1 k1 hmm
  have h := HWL.out
  have hsW := HT0.out.size
  have hloW : lo ≤ W1.heap.size := by omega
  obtain ⟨hb0, hb1, D, hD1, hD2⟩ := h.num b rfl
  obtain ⟨hmn1, hmn2⟩ := h.map_ne rfl
  have HB := Lib.hid h.box
  have HR := Lib.hid h.row
  have hbl := hD1.lt
  have hDm := hD1.isMap
  have c0 : W1.cell? ⟨g, 0, none⟩ = some (.slice A L.length c) := h.box.cell 0
  have c1 : W1.cell? ⟨g, 1, none⟩ = some (.map (some b)) := h.box.cell 1
  have hw : (Lit.int .i64 x).wf = true := WalkArith.wf_i64 (by omega)
  have hkey := Maps.keyOf_int_mk (P := Try.prog) Try.underlying2 hw
  have hm : x ∉ L := by rw [hL0]; simp
  have hhas : Maps.has D (.int .i64 x) = false := by rw [(hD2 x).1]; exact decide_eq_false hm
  have HF := Lib.hid (addL_new hm)
  have HI : Hid ((addL x L).idxOf x = L.length) := by show _ = _; rw [addL_new hm, List.idxOf_append, if_neg hm]; simp
  have HD2 := Lib.hid hD2
  have HM := Lib.hid hm
  clear hD2 hm h HWL hL0
  go_upto_region 7 with (first
    | (at_lookup; refine wpList_lookup_own_ok_int _ rfl _ _ 94 rfl 2 2 .i64 keyedW Try.underlying94 Try.underlying2 (zeroW _) b L.length D rfl hD1 _ _ rfl hkey ?_; intro cc hat hwc; rw [hhas])
    | (at_mapUpdate; refine wpList_mapUpdate_own _ rfl _ _ _ 94 rfl 2 2 keyedW Try.underlying94 _ b L.length D rfl hD1 (by unfold maxLen; omega) _ _ _ rfl rfl hkey _ [] (plainElem_int Try.underlying2 (WalkArith.wf_i64 (n := (L.length : Int)) (by omega))) ?_; intro w1 hown1 hgrow1)
    | go_in)
  have HN := Lib.hid (numM_put HD2.out hDm HM.out hown1)
  have B1 := HB.out.by_grown hgrow1 (fun e => hmn1 (Option.some.inj e))
  have R1 := HR.out.kept hgrow1 (.inr (fun e => hmn2 ((ob_any _ _ _).symm.trans e)))
  have d0 : w1.cell? ⟨g, 0, none⟩ = some (.slice A L.length c) := B1.cell 0
  have hs1 := hgrow1.size
  clear c0 c1 hown1 hD1
  go_wp2_with (at_builtin; refine wpList_append_sep rfl _ _ 29 rfl lo 2 i0 (.int .i64 0) 1 8 Try.underlying29 hi hz0 hz1 hz2 rfl (by decide) _ _ _ rfl (R1.alloc _) ⟨w1.heap.size, 0, none⟩ 1 1 [.int .i64 x] rfl rfl (cell_one_new _ _ _) (by simp [Value.oneCell']) (by unfold maxLen; omega) (by omega) (by simp; omega) (by omega) ?_; intro g' cap' w2 hown2 hgrow2 hsep; have B2 := (B1.next (bnew w1 (.cells #[.int .i64 x] 2))).by_grown hgrow2 (fun e => hrn ((ob_any _ _ _).symm.trans e)); have e0 := B2.cell 0; have f0 := B2.frozen 0; simp at e0)
  go_ret
  have hs2 := hgrow2.size
  have hsa : (w1.alloc (.cells #[.int .i64 x] 2)).heap.size = w1.heap.size + 1 := by simp
  have hNb := HN.out.lt
  have hg' : g' ≠ g := fun e => by
    rcases hsep with h' | h'
    · exact hrn ((ob_any _ _ _).symm.trans (h'.symm.trans (by rw [e])))
    · omega
  have hgb : g' ≠ b := fun e => by
    rcases hsep with h' | h'
    · exact hmn2 ((ob_any _ _ _).symm.trans (h'.symm.trans (by rw [e])))
    · omega
  have hB3 := B2.set 0 (.slice (some ⟨g', 0, none⟩) (L.length + 1) cap')
  simp at hB3
  have ht : Turns (wb g A (some b)) W1 (w2.setCell ⟨g, 0, none⟩ (.slice (some ⟨g', 0, none⟩) (L.length + 1) cap')) :=
    (((Turns.of_grown (S := wb g A (some b)) hgrow1 (fun k e => .inr (.inr e))).trans (Turns.of_below (S := wb g A (some b)) (bnew w1 (.cells #[.int .i64 x] 2))) (fun k _ e => e)).trans (Turns.of_grown (S := wb g A (some b)) hgrow2 (fun k e => .inr (.inl ((ob_any _ _ _).symm.trans e)))) (fun k _ e => e)).set (.inl rfl)
  refine ⟨some ⟨g', 0, none⟩, cap', b, by rw [HI.out]; rfl, ?_, (HT0.out).trans ht (fun k hk e => by
    rcases e with rfl | e | e
    · exact rfl
    · rw [hA0] at e; cases e
    · obtain rfl := Option.some.inj e; have := HBW.out; omega), fun k hk => ?_⟩
  · rw [HF.out]
    refine ⟨?_, hglo, ?_, fun b' e => ?_, fun e => by cases e⟩
    · rw [List.length_append]; exact hB3
    · rw [List.length_append, List.map_append]
      exact hown2.kept (only_set (g := g)) (.inr (fun e => hg' (Option.some.inj e)))
    · obtain rfl := Option.some.inj e
      refine ⟨hb0, hb1, ?_⟩
      exact ((HN.out.kept (World.grownBy_alloc _ _ none) (by simp)).kept hgrow2 (fun e => hmn2 ((ob_any _ _ _).symm.trans e))).kept (only_set (g := g)) (fun e => hmn1 (Option.some.inj e).symm)
  · rcases hk with rfl | hk | hk
    · exact .inl rfl
    · obtain rfl : g' = k := Option.some.inj hk
      rcases hsep with h' | h'
      · have := (ob_any _ _ _).symm.trans h'.symm; rw [hA0] at this; cases this
      · right; omega
    · right; obtain rfl := Option.some.inj hk; have := HBW.out; omega

set_option maxRecDepth 100000 in
set_option maxHeartbeats 2000000 in
/-- The items, one after another, also those that are added meanwhile: whatever the rounds do. -/
theorem each_rounds (F : Fence) (n : Nat) (hf : F.fn 52) (hro : F.round = none) (hn : 1 ≤ n) (g : Nat) (I : List Int × Nat → World → Prop)
    (hM : ∀ L k W, I (L, k) W → k ≤ L.length ∧ L.length ≤ 1000 ∧ ∃ lo B A c mv, WL W g lo B A c mv L) (L0 : List Int) :
    Rounds F n Try.prog 52 #[.pointer (some ⟨g, 0, none⟩)] (fun x : Int => #[.int .i64 x]) I (fun s x => s.1[s.2]? = some x) (fun s s' => s'.2 = s.2 + 1) (fun s => s.2 = s.1.length) (L0, 0) := fun l J Jx W hJI hY h0 => by
  refine callsIn_of_wp Try.func52 rfl hf ?_ hro
  simp only [Try.ntmps52, List.size_toArray, List.length_cons, List.length_nil, Nat.reduceAdd, Nat.reduceSub, Array.replicate_succ, Array.replicate_zero, List.push_toArray, List.append_toArray, List.nil_append, List.cons_append]
  gi_wp2
  gi_loopw [4] (fun i wr => ∃ (L : List Int) (k : Nat), i = .int .i64 k ∧ J (L, k) wr) (fun i _ => 1001 - (intOf i).toNat)
  case atStart => exact ⟨L0, 0, rfl, h0⟩
  case round =>
    obtain ⟨L, k, rfl, hJ⟩ := hrel
    obtain ⟨hk, hl, lo, B, A, c, mv, hW⟩ := hM L k wr (hJI _ wr hJ)
    have c0 : wr.cell? ⟨g, 0, none⟩ = some (.slice A L.length c) := hW.box.cell 0
    obtain ⟨m, hm⟩ : ∃ m, L.length = m := ⟨_, rfl⟩
    rw [hm] at c0 hk hl
    by_cases hlt : k < m
    · obtain ⟨x, hx⟩ : ∃ x, L[k]? = some x := ⟨_, List.getElem?_eq_getElem (by omega)⟩
      have i1 : (k : Int) < (m : Int) := by omega
      have hrow := hW.row
      obtain ⟨r, rfl⟩ : ∃ r, A = some ⟨r, 0, none⟩ := by
        rcases hrow.2 with h' | ⟨r, cap, cur, k1, _⟩
        · have := h'.2; omega
        · injection k1 with k1; exact ⟨r, k1⟩
      have c1 : wr.cell? ⟨r, k, none⟩ = some (.int .i64 x) := by
        rw [hrow.cellAt k (by omega), List.getElem?_map, hx]; rfl
      obtain ⟨fn, tmps, assign, body, hy, hR⟩ := hY (L, k) x wr hJ hx
      (try dsimp only at hy)
      clear hrow hW hx hm
      gi_wp2
      refine hR.mono ?_
      rintro e W3 (⟨rfl, ⟨L', k'⟩, hs', hJ3⟩ | ⟨rfl, hJx3⟩)
      · obtain rfl : k' = k + 1 := hs'
        gi_wp2
        go_roundw
        case rel => exact ⟨L', k + 1, by go_num, hJ3⟩
        case measure => simp [intOf]; omega
      · gi_wp2
        refine bodyPost_ret (results_none rfl _ _ _) rfl ?_
        exact ⟨⟨_, rfl⟩, .inr hJx3⟩
    · have i1 : ¬ (k : Int) < (m : Int) := by omega
      have hF : Hid (J (L, L.length) wr) := by show J (L, L.length) wr; rw [show L.length = k by omega]; exact hJ
      clear hm hW
      gi_wp2
      go_end0
      exact ⟨⟨_, rfl⟩, .inl ⟨L, hF.out⟩⟩
end Go.Proofs.Ytpdgnmdjneakgaa
