/-
  The instruction with a text, in the model. Conditions: texts of at most 2^20 bytes. (printed by gen_rds.py)
-/
import Derived.Test.YtahlpjhhbcjfpaaDoorRdQ
import Derived.Test.YtahlpjhhbcjfpaaDoorReadS
import Derived.Test.YtahlpjhhbcjfpaaDoorInsT
import Derived.Test.YtahlpjhhbcjfpaaDoorTrmP
import Derived.Test.YtahlpjhhbcjfpaaDoorCutR
namespace Go.Proofs.YtahlpjhhbcjfpaaDoor
set_option linter.unusedVariables false
set_option linter.unusedSimpArgs false
open Go.RowKit

theorem bneS {a b : ByteArray} (h : ¬ a = b) : (a == b) = false := by
  obtain ⟨a⟩ := a
  obtain ⟨b⟩ := b
  have h1 : ¬ a = b := fun e => h (congrArg ByteArray.mk e)
  show (a == b) = false
  simpa using h1
theorem beqS {a b : ByteArray} (h : a = b) : (a == b) = true := by
  subst h
  obtain ⟨a⟩ := a
  show (a == a) = true
  simp
/-- The operation that the words met so far have given. -/
def opR (q : List UInt8) (k : Nat) (xo : Int) : Prop := (xo = -1 ∧ ∀ j : Nat, j < k → nmL (j : Int) ≠ q) ∨ (0 ≤ xo ∧ xo < (k : Int) ∧ nmL xo = q)
theorem opR_hit {q : List UInt8} {k : Nat} (h : nmL (k : Int) = q) : opR q (k + 1) (k : Int) := .inr ⟨by omega, by omega, h⟩
theorem opR_miss {q : List UInt8} {k : Nat} {xo : Int} (h : opR q k xo) (hn : ¬ nmL (k : Int) = q) : opR q (k + 1) xo := by
  rcases h with ⟨h1, h2⟩ | ⟨h1, h2, h3⟩
  · refine .inl ⟨h1, fun j hj => ?_⟩
    by_cases e : j = k
    · subst e; exact hn
    · exact h2 j (by omega)
  · exact .inr ⟨h1, by omega, h3⟩
theorem opR_is {q : List UInt8} {xo op : Int} (h : opR q 12 xo) (hl : 0 ≤ op ∧ op ≤ 11) (he : nmL op = q) : xo = op := by
  rcases h with ⟨h1, h2⟩ | ⟨h1, h2, h3⟩
  · have := h2 op.toNat (by omega)
    rw [Int.toNat_of_nonneg hl.1] at this
    exact absurd he this
  · exact nm_inj ⟨h1, by omega⟩ hl (h3.trans he.symm)
theorem opR_lim {q : List UInt8} {k : Nat} {xo : Int} (h : opR q k xo) : -1 ≤ xo ∧ xo ≤ (k : Int) := by
  rcases h with ⟨h1, _⟩ | ⟨h1, h2, _⟩ <;> omega

set_option maxRecDepth 100000 in
set_option maxHeartbeats 8000000 in
theorem l07Read_c (s : ByteArray) (w : World) (hs : s.size ≤ 1048576) :
    Calls Tryd.prog 52 #[.string s] w fun e w' => ∃ r, e = .returned (.tuple #[.agg #[.int .i64 r.1.1, .int .i64 r.1.2], .bool r.2]) ∧ IsR s.data.toList r ∧ Below w.heap.size w w' := by
  have hb0 := bnew w (.cells #[.int .i64 0, .int .i64 0] 26)
  have hR : BlkIs (w.alloc (.cells #[.int .i64 0, .int .i64 0] 26)) w.heap.size 26 #[.int .i64 0, .int .i64 0] := blk_new _ _ _ _ rfl
  have HC := Lib.hid (l01Cut_c s 32 (w.alloc (.cells #[.int .i64 0, .int .i64 0] 26)) hs)
  go_enter Tryd.func52, Tryd.ntmps52
  go_wp2_with fail
  generalize w.alloc (.cells #[.int .i64 0, .int .i64 0] 26) = W at hb0 hR HC ⊢
  refine HC.out.mono ?_
  rintro e w1 ⟨v, rfl, hown, hb1⟩
  have hlen := cutS_len 32 s
  have hpart := cutS_part 32 s
  have hml : (cutS 32 s).length = (cutL 32 s.data.toList).length := by unfold cutS; rw [List.length_map]
  obtain ⟨q, qs, hq⟩ : ∃ q qs, cutL 32 s.data.toList = q :: qs := by
    cases h : cutL 32 s.data.toList with
    | nil => exact absurd h (cut_ne 32 _)
    | cons q qs => exact ⟨q, qs, rfl⟩
  have hcs : cutS 32 s = strL q :: qs.map strL := by unfold cutS; rw [hq]; rfl
  rcases hown.2 with h' | ⟨g, cap, cur, rfl, hrest⟩
  · have := h'.2; omega
  have hgc : ∀ j x, (cutS 32 s)[j]? = some x → w1.cell? ⟨g, j, none⟩ = some (.string x) := fun j x hj => by
    have hjl := (List.getElem?_eq_some_iff.1 hj).1
    have := hown.cellAt j (by omega)
    rw [List.getElem?_map, hj] at this
    exact this
  have hg0 : w1.cell? ⟨g, 0, none⟩ = some (.string (strL q)) := hgc 0 _ (by rw [hcs]; rfl)
  have hglt : g < w1.heap.size := cell_lt hg0
  obtain ⟨m, hm⟩ : ∃ m, (cutS 32 s).length = m := ⟨_, rfl⟩
  rw [hm] at hown hlen ⊢
  have hm0 : 0 < m := hlen.1
  have hmi : (0 : Int) < (m : Int) := by omega
  have hmq : m = qs.length + 1 := by rw [← hm, hcs]; simp
  have HGC := Lib.hid hgc
  have HQ := Lib.hid hq
  have HCS := Lib.hid hcs
  have HPT := Lib.hid hpart
  have hR1 := hR.next hb1
  have hRl := hR1.lt
  have hb01 := bon hb0 hb1
  have hbX := bnew w1 (.cells #[.int .i64 (-1), .int .i64 0] 26)
  have hX : BlkIs (w1.alloc (.cells #[.int .i64 (-1), .int .i64 0] 26)) w1.heap.size 26 #[.int .i64 (-1), .int .i64 0] := blk_new _ _ _ _ rfl
  clear hown hrest hgc hq hcs hpart HC hR hml hm hlen
  go_wp2_with fail
  generalize w1.alloc (.cells #[.int .i64 (-1), .int .i64 0] 26) = W1 at hbX hX ⊢
  have hs01 := hb01.size
  go_loopw [6] (fun i wr => ∃ (k : Nat) (xo : Int), k ≤ 12 ∧ i = .int .i64 k ∧ BlkIs wr w1.heap.size 26 #[.int .i64 xo, .int .i64 0] ∧ Hid (opR q k xo) ∧ Below w1.heap.size w1 wr) (fun i _ => 12 - (intOf i).toNat)
  case atStart => exact ⟨0, -1, by omega, rfl, hX, .inl ⟨rfl, fun j hj => by omega⟩, hbX⟩
  case round =>
    clear hX hbX
    obtain ⟨k, xo, hk, rfl, hX, hop, hbel⟩ := hrel
    have d0 := cell_next hg0 hbel
    have hRr := hR1.next hbel
    have xlt := hX.lt
    by_cases hlt : k < 12
    · have i1 : (k : Int) ≤ 11 := by omega
      have HW := Lib.hid (fun W => l07Word_c (k : Int) W (by omega))
      go_upto_region 6 with fail
      by_cases hq : nmL (k : Int) = q
      · have t0 : nmB (k : Int) = strL q := by
          apply ByteArray.ext
          apply Array.toList_inj.1
          rw [strL_toList]
          exact hq
        have t1 := beqS t0
        have HS := Lib.hid (opR_hit hq)
        have t2 : ((nmB (k : Int)).toList == (strL q).toList) = true := by rw [t0]; exact beq_self_eq_true _
        clear t0 hq hop
        refine wp_region_held_drew (S := fun w' => w'.cell? ⟨g, 0, none⟩ = some (.string (strL q))) (by kernel_rfl) d0 ?_
        intro hH0
        refine wpAnyH_take (i := 0) (v := ?_) rfl (by kernel_rfl) (by kernel_rfl) (by kernel_rfl) (fun _ _ _ h => h) (Or.inl ⟨by kernel_rfl, ?_⟩) (by assumption) ?_
        rotate_left
        · intro w9 hS9; (try dsimp only at hS9); go_simp; (try with_reducible rfl)
        set_option linter.unusedSimpArgs false in try simp only [Act.put, List.getElem_toArray, List.getElem_cons_succ, List.getElem_cons_zero, List.setIfInBounds_toArray, List.set_cons_zero, List.set_cons_succ]
        refine wpAnyH_take (i := 2) (v := ?_) rfl (by kernel_rfl) (by kernel_rfl) (by kernel_rfl) (fun _ _ _ h => h) (Or.inl ⟨by kernel_rfl, ?_⟩) (by assumption) ?_
        rotate_left
        · intro w9 hS9; (try dsimp only at hS9); go_simp; (try with_reducible rfl)
        set_option linter.unusedSimpArgs false in try simp only [Act.put, List.getElem_toArray, List.getElem_cons_succ, List.getElem_cons_zero, List.setIfInBounds_toArray, List.set_cons_zero, List.set_cons_succ]
        refine wpAnyH_take (i := 3) (v := ?_) rfl (by kernel_rfl) (by kernel_rfl) (by kernel_rfl) (fun _ _ _ h => h) (Or.inl ⟨by kernel_rfl, ?_⟩) (by assumption) ?_
        rotate_left
        · intro w9 hS9; (try dsimp only at hS9); go_simp; (try with_reducible rfl)
        set_option linter.unusedSimpArgs false in try simp only [Act.put, List.getElem_toArray, List.getElem_cons_succ, List.getElem_cons_zero, List.setIfInBounds_toArray, List.set_cons_zero, List.set_cons_succ]
        refine wpAnyH_take (i := 4) (v := ?_) rfl (by kernel_rfl) (by kernel_rfl) (by kernel_rfl) (fun _ _ _ h => h) (Or.inl ⟨by kernel_rfl, ?_⟩) (by assumption) ?_
        rotate_left
        · intro w9 hS9; (try dsimp only at hS9); go_simp; (try with_reducible rfl)
        set_option linter.unusedSimpArgs false in try simp only [Act.put, List.getElem_toArray, List.getElem_cons_succ, List.getElem_cons_zero, List.setIfInBounds_toArray, List.set_cons_zero, List.set_cons_succ]
        refine wpAnyH_ready (rs := [1]) (by kernel_rfl) (by simp) ?_
        refine AllReadyH.cons rfl (fun K hK => ?_) AllReadyH.nil
        go_simp
        go_wp2_with (go_at_call 100; refine (HW.out _).mono ?_; rintro e w8 ⟨rfl, hb8⟩)
        refine hK.out _ _ (cell_on d0 hb8) (fun hH1 => ?_)
        clear hK K hH0
        set_option linter.unusedSimpArgs false in try simp only [Act.put, List.getElem_toArray, List.getElem_cons_succ, List.getElem_cons_zero, List.setIfInBounds_toArray, List.set_cons_zero, List.set_cons_succ]
        refine wpAnyH_take (i := 5) (v := .bool true) rfl (by kernel_rfl) (by kernel_rfl) (by kernel_rfl) (fun _ _ _ h => h) (Or.inl ⟨by kernel_rfl, ?_⟩) (by assumption) ?_
        · intro w9 hS9; (try dsimp only at hS9); go_simp; (try with_reducible rfl)
        set_option linter.unusedSimpArgs false in try simp only [Act.put, List.getElem_toArray, List.getElem_cons_succ, List.getElem_cons_zero, List.setIfInBounds_toArray, List.set_cons_zero, List.set_cons_succ]
        refine wpAnyH_done (by kernel_rfl) ?_ _
        have hX8 := hX.next (bstep hb8)
        have hb08 := hbel.trans ((bstep hb8).mono hbel.size)
        have y0 := hX8.frozen 0
        have x0 : w8.cell? ⟨w1.heap.size, 0, none⟩ = some (.int .i64 xo) := hX8.cell 0
        have hX9 := hX8.set 0 (.int .i64 (k : Int))
        simp at hX9
        have hb09 := hb08.setCell (p := ⟨w1.heap.size, 0, none⟩) (Nat.le_refl _) (.int .i64 (k : Int))
        go_wp2_with fail
        go_roundw
        case rel => exact ⟨k + 1, (k : Int), by omega, by go_num, hX9, HS, hb09⟩
        case measure => simp [intOf]; omega
      · have t0 : ¬ nmB (k : Int) = strL q := fun h => hq (by have := congrArg (fun s : ByteArray => s.data.toList) h; rw [strL_toList] at this; exact this)
        have t1 := bneS t0
        have HS := Lib.hid (opR_miss hop.out hq)
        have t2 : ((nmB (k : Int)).toList == (strL q).toList) = false := by
          rw [Go.ByteArray.toList_eq, Go.ByteArray.toList_eq, strL_toList]
          exact beq_eq_false_iff_ne.mpr hq
        clear hq hop
        refine wp_region_held_drew (S := fun w' => w'.cell? ⟨g, 0, none⟩ = some (.string (strL q))) (by kernel_rfl) d0 ?_
        intro hH0
        refine wpAnyH_take (i := 0) (v := ?_) rfl (by kernel_rfl) (by kernel_rfl) (by kernel_rfl) (fun _ _ _ h => h) (Or.inl ⟨by kernel_rfl, ?_⟩) (by assumption) ?_
        rotate_left
        · intro w9 hS9; (try dsimp only at hS9); go_simp; (try with_reducible rfl)
        set_option linter.unusedSimpArgs false in try simp only [Act.put, List.getElem_toArray, List.getElem_cons_succ, List.getElem_cons_zero, List.setIfInBounds_toArray, List.set_cons_zero, List.set_cons_succ]
        refine wpAnyH_take (i := 2) (v := ?_) rfl (by kernel_rfl) (by kernel_rfl) (by kernel_rfl) (fun _ _ _ h => h) (Or.inl ⟨by kernel_rfl, ?_⟩) (by assumption) ?_
        rotate_left
        · intro w9 hS9; (try dsimp only at hS9); go_simp; (try with_reducible rfl)
        set_option linter.unusedSimpArgs false in try simp only [Act.put, List.getElem_toArray, List.getElem_cons_succ, List.getElem_cons_zero, List.setIfInBounds_toArray, List.set_cons_zero, List.set_cons_succ]
        refine wpAnyH_take (i := 3) (v := ?_) rfl (by kernel_rfl) (by kernel_rfl) (by kernel_rfl) (fun _ _ _ h => h) (Or.inl ⟨by kernel_rfl, ?_⟩) (by assumption) ?_
        rotate_left
        · intro w9 hS9; (try dsimp only at hS9); go_simp; (try with_reducible rfl)
        set_option linter.unusedSimpArgs false in try simp only [Act.put, List.getElem_toArray, List.getElem_cons_succ, List.getElem_cons_zero, List.setIfInBounds_toArray, List.set_cons_zero, List.set_cons_succ]
        refine wpAnyH_take (i := 4) (v := ?_) rfl (by kernel_rfl) (by kernel_rfl) (by kernel_rfl) (fun _ _ _ h => h) (Or.inl ⟨by kernel_rfl, ?_⟩) (by assumption) ?_
        rotate_left
        · intro w9 hS9; (try dsimp only at hS9); go_simp; (try with_reducible rfl)
        set_option linter.unusedSimpArgs false in try simp only [Act.put, List.getElem_toArray, List.getElem_cons_succ, List.getElem_cons_zero, List.setIfInBounds_toArray, List.set_cons_zero, List.set_cons_succ]
        refine wpAnyH_ready (rs := [1]) (by kernel_rfl) (by simp) ?_
        refine AllReadyH.cons rfl (fun K hK => ?_) AllReadyH.nil
        go_simp
        go_wp2_with (go_at_call 100; refine (HW.out _).mono ?_; rintro e w8 ⟨rfl, hb8⟩)
        refine hK.out _ _ (cell_on d0 hb8) (fun hH1 => ?_)
        clear hK K hH0
        set_option linter.unusedSimpArgs false in try simp only [Act.put, List.getElem_toArray, List.getElem_cons_succ, List.getElem_cons_zero, List.setIfInBounds_toArray, List.set_cons_zero, List.set_cons_succ]
        refine wpAnyH_take (i := 5) (v := .bool false) rfl (by kernel_rfl) (by kernel_rfl) (by kernel_rfl) (fun _ _ _ h => h) (Or.inl ⟨by kernel_rfl, ?_⟩) (by assumption) ?_
        · intro w9 hS9; (try dsimp only at hS9); go_simp; (try with_reducible rfl)
        set_option linter.unusedSimpArgs false in try simp only [Act.put, List.getElem_toArray, List.getElem_cons_succ, List.getElem_cons_zero, List.setIfInBounds_toArray, List.set_cons_zero, List.set_cons_succ]
        refine wpAnyH_done (by kernel_rfl) ?_ _
        have hX8 := hX.next (bstep hb8)
        have hb08 := hbel.trans ((bstep hb8).mono hbel.size)
        go_wp2_with fail
        go_roundw
        case rel => exact ⟨k + 1, xo, by omega, by go_num, hX8, HS, hb08⟩
        case measure => simp [intOf]; omega
    · have hk12 : k = 12 := by omega
      subst hk12
      have hxl := opR_lim hop.out
      have hb02 := bon hb01 hbel

      by_cases hm2 : m = 2
      · obtain ⟨q1, rfl⟩ := List.length_eq_one_iff.1 (show qs.length = 1 by omega)
        have i2 : (m : Int) = 2 := by omega
        have hg1 : w1.cell? ⟨g, 1, none⟩ = some (.string (strL q1)) := HGC.out 1 _ (by rw [HCS.out]; rfl)
        have d1 := cell_next hg1 hbel
        have hsz1 := HPT.out (strL q1) (by rw [HCS.out]; simp)
        have HV0 := l01Value_c (strL q1) (by omega) wr
        rw [strL_toList] at HV0
        have m1 : (1 : Int) < (m : Int) := by omega
        cases hrd : rd q1 with
        | none =>
          have HF : Hid (IsR s.data.toList ((0, 0), false)) := .inr ⟨fun op a hi => by
            have hl := instrB_lim hi.1
            rcases isL_cut hi with e | ⟨e, _⟩
            · rw [HQ.out] at e
              have e2 : q1 = Lib.itoa a := by simpa using (List.cons.inj (List.cons.inj e).2).1
              rw [rd_yes (n := a) (by omega) (by omega) e2.symm] at hrd
              cases hrd
            · rw [HQ.out] at e
              simp at e, rfl⟩
          rw [hrd] at HV0
          have HV : Hid (Calls Tryd.prog 105 #[.string (strL q1)] wr fun e w' => e = .returned (.tuple #[.int .i64 0, .bool false]) ∧ Below wr.heap.size wr w') := HV0
          clear HV0 hrd hop
          go_wp2_with fail
          refine HV.out.mono ?_
          rintro e w4 ⟨rfl, hb4⟩
          have hR4 := hRr.next hb4
          have hb04 := bon hb02 hb4
          have yy0 := hR4.frozen 0
          have yy1 := hR4.frozen 1
          have xx0 : w4.cell? ⟨w.heap.size, 0, none⟩ = some (.int .i64 0) := hR4.cell 0
          have xx1 : w4.cell? ⟨w.heap.size, 1, none⟩ = some (.int .i64 0) := hR4.cell 1
          have hR9 := (hR4.set 0 (.int .i64 0)).set 1 (.int .i64 0)
          have s0 : ((w4.setCell ⟨w.heap.size, 0, none⟩ (.int .i64 0)).setCell ⟨w.heap.size, 1, none⟩ (.int .i64 0)).cell? ⟨w.heap.size, 0, none⟩ = some (.int .i64 0) := by rw [hR9.cell 0]; simp
          have s1 : ((w4.setCell ⟨w.heap.size, 0, none⟩ (.int .i64 0)).setCell ⟨w.heap.size, 1, none⟩ (.int .i64 0)).cell? ⟨w.heap.size, 1, none⟩ = some (.int .i64 0) := by rw [hR9.cell 1]; simp
          have hb9 := (hb04.setCell (p := ⟨w.heap.size, 0, none⟩) (Nat.le_refl _) (.int .i64 0)).setCell (p := ⟨w.heap.size, 1, none⟩) (Nat.le_refl _) (.int .i64 0)
          go_wp2_with fail
          refine bodyPost_ret (v := .tuple #[.agg #[.int .i64 0, .int .i64 0], .bool false]) (by simp [results, Tryd.results52, go_sem, s0, s1]) rfl ?_
          first | exact ⟨0, 0, .inl ⟨rfl, HF.out, hb9⟩⟩ | exact ⟨((0, 0), false), rfl, HF.out, hb9⟩
        | some n =>
          have hn := rd_some hrd
          rw [hrd] at HV0
          have HV : Hid (Calls Tryd.prog 105 #[.string (strL q1)] wr fun e w' => e = .returned (.tuple #[.int .i64 n, .bool true]) ∧ Below wr.heap.size wr w') := HV0
          have HX : Hid (∀ op a, isL s.data.toList op a → xo = op ∧ n = a) := fun op a hi => by
            have hl := instrB_lim hi.1
            rcases isL_cut hi with e | ⟨e, _⟩
            · rw [HQ.out] at e
              have e1 : q = nmL op := (List.cons.inj e).1
              have e2 : q1 = Lib.itoa a := by simpa using (List.cons.inj (List.cons.inj e).2).1
              refine ⟨opR_is hop.out hl.1 e1.symm, ?_⟩
              rw [rd_yes (n := a) (by omega) (by omega) e2.symm] at hrd
              exact (Option.some.inj hrd).symm
            · rw [HQ.out] at e
              simp at e
          clear HV0 hrd hop
          go_wp2_with fail
          refine HV.out.mono ?_
          rintro e w4 ⟨rfl, hb4⟩
          have hX4 := hX.next hb4
          have hR4 := hRr.next hb4
          have x0 : w4.cell? ⟨w1.heap.size, 0, none⟩ = some (.int .i64 xo) := hX4.cell 0
          have x1 : w4.cell? ⟨w1.heap.size, 1, none⟩ = some (.int .i64 0) := hX4.cell 1
          have y1 := hX4.frozen 1
          have hXS := hX4.set 1 (.int .i64 n)
          simp at hXS
          have hRS := hR4.far (g' := w1.heap.size) (by omega) 1 (.int .i64 n)
          have hbS := (bon hb02 hb4).setCell (p := ⟨w1.heap.size, 1, none⟩) (by show w.heap.size ≤ w1.heap.size; omega) (.int .i64 n)
          have xs0 : (w4.setCell ⟨w1.heap.size, 1, none⟩ (.int .i64 n)).cell? ⟨w1.heap.size, 0, none⟩ = some (.int .i64 xo) := hXS.cell 0
          have xs1 : (w4.setCell ⟨w1.heap.size, 1, none⟩ (.int .i64 n)).cell? ⟨w1.heap.size, 1, none⟩ = some (.int .i64 n) := hXS.cell 1
          have HI0 := l07Instr_c xo n (w4.setCell ⟨w1.heap.size, 1, none⟩ (.int .i64 n))
          cases hv : instrB xo n with
          | false =>
            rw [hv] at HI0
            have HI := Lib.hid HI0
            have HF : Hid (IsR s.data.toList ((0, 0), false)) := .inr ⟨fun op a hi => by obtain ⟨e1, e2⟩ := HX.out op a hi; rw [e1, e2] at hv; exact absurd hi.1 (by rw [hv]; decide), rfl⟩
            clear HI0 hv
            go_wp2_with fail
            refine HI.out.mono ?_
            rintro e w5 ⟨rfl, hb5⟩
            have hR5 := hRS.next hb5
            have hb05 := bon hbS hb5
            have yy0 := hR5.frozen 0
            have yy1 := hR5.frozen 1
            have xx0 : w5.cell? ⟨w.heap.size, 0, none⟩ = some (.int .i64 0) := hR5.cell 0
            have xx1 : w5.cell? ⟨w.heap.size, 1, none⟩ = some (.int .i64 0) := hR5.cell 1
            have hR9 := (hR5.set 0 (.int .i64 0)).set 1 (.int .i64 0)
            have s0 : ((w5.setCell ⟨w.heap.size, 0, none⟩ (.int .i64 0)).setCell ⟨w.heap.size, 1, none⟩ (.int .i64 0)).cell? ⟨w.heap.size, 0, none⟩ = some (.int .i64 0) := by rw [hR9.cell 0]; simp
            have s1 : ((w5.setCell ⟨w.heap.size, 0, none⟩ (.int .i64 0)).setCell ⟨w.heap.size, 1, none⟩ (.int .i64 0)).cell? ⟨w.heap.size, 1, none⟩ = some (.int .i64 0) := by rw [hR9.cell 1]; simp
            have hb9 := (hb05.setCell (p := ⟨w.heap.size, 0, none⟩) (Nat.le_refl _) (.int .i64 0)).setCell (p := ⟨w.heap.size, 1, none⟩) (Nat.le_refl _) (.int .i64 0)
            go_wp2_with fail
            refine bodyPost_ret (v := .tuple #[.agg #[.int .i64 0, .int .i64 0], .bool false]) (by simp [results, Tryd.results52, go_sem, s0, s1]) rfl ?_
            first | exact ⟨0, 0, .inl ⟨rfl, HF.out, hb9⟩⟩ | exact ⟨((0, 0), false), rfl, HF.out, hb9⟩
          | true =>
            rw [hv] at HI0
            have HI := Lib.hid HI0
            have hl := instrB_lim hv
            by_cases he : lineL xo n = s.data.toList
            · have hE : lineB xo n = s := by
                apply ByteArray.ext
                apply Array.toList_inj.1
                rw [lineB_toList]
                exact he
              have HLN : Hid (∀ W : World, Calls Tryd.prog 46 #[.agg #[.int .i64 xo, .int .i64 n]] W fun e w' => e = .returned (.string s) ∧ Below W.heap.size W w') := fun W => by
                have := l07Line_c xo n W hl.1 hl.2
                rwa [hE] at this
              have HF : Hid (IsR s.data.toList ((xo, n), true)) := .inl ⟨⟨hv, he⟩, rfl⟩
              clear HI0 hv hl he hE
              go_wp2_with fail
              refine HI.out.mono ?_
              rintro e w5 ⟨rfl, hb5⟩
              have hX5 := hXS.next hb5
              have hR5 := hRS.next hb5
              have u0 : w5.cell? ⟨w1.heap.size, 0, none⟩ = some (.int .i64 xo) := hX5.cell 0
              have u1 : w5.cell? ⟨w1.heap.size, 1, none⟩ = some (.int .i64 n) := hX5.cell 1
              go_wp2_with fail
              refine (HLN.out w5).mono ?_
              rintro e w6 ⟨rfl, hb6⟩
              have hX6 := hX5.next hb6
              have hR6 := hR5.next hb6
              have v0 : w6.cell? ⟨w1.heap.size, 0, none⟩ = some (.int .i64 xo) := hX6.cell 0
              have v1 : w6.cell? ⟨w1.heap.size, 1, none⟩ = some (.int .i64 n) := hX6.cell 1
              have yy0 := hR6.frozen 0
              have yy1 := hR6.frozen 1
              have xx0 : w6.cell? ⟨w.heap.size, 0, none⟩ = some (.int .i64 0) := hR6.cell 0
              have xx1 : w6.cell? ⟨w.heap.size, 1, none⟩ = some (.int .i64 0) := hR6.cell 1
              have hR9 := (hR6.set 0 (.int .i64 xo)).set 1 (.int .i64 n)
              have s0 : ((w6.setCell ⟨w.heap.size, 0, none⟩ (.int .i64 xo)).setCell ⟨w.heap.size, 1, none⟩ (.int .i64 n)).cell? ⟨w.heap.size, 0, none⟩ = some (.int .i64 xo) := by rw [hR9.cell 0]; simp
              have s1 : ((w6.setCell ⟨w.heap.size, 0, none⟩ (.int .i64 xo)).setCell ⟨w.heap.size, 1, none⟩ (.int .i64 n)).cell? ⟨w.heap.size, 1, none⟩ = some (.int .i64 n) := by rw [hR9.cell 1]; simp
              have hb9 := ((bon (bon hbS hb5) hb6).setCell (p := ⟨w.heap.size, 0, none⟩) (Nat.le_refl _) (.int .i64 xo)).setCell (p := ⟨w.heap.size, 1, none⟩) (Nat.le_refl _) (.int .i64 n)
              go_wp2_with fail
              refine bodyPost_ret (v := .tuple #[.agg #[.int .i64 xo, .int .i64 n], .bool true]) (by simp [results, Tryd.results52, go_sem, s0, s1]) rfl ?_
              first | exact ⟨((xo, n), true), rfl, HF.out, hb9⟩ | exact ⟨xo, n, .inr ⟨rfl, HF.out, hb9⟩⟩
            · have hE : ¬ lineB xo n = s := fun h => he (by rw [← lineB_toList, h])
              have t1 : (lineB xo n == s) = false := bneS hE
              have t2 : ((lineB xo n).toList == s.toList) = false := by
                rw [Go.ByteArray.toList_eq, Go.ByteArray.toList_eq, lineB_toList]
                exact beq_eq_false_iff_ne.mpr he
              have t3 : (lineB xo n != s) = true := by unfold bne; rw [t1]; rfl
              have HLN := Lib.hid (fun W => l07Line_c xo n W hl.1 hl.2)
              have HF : Hid (IsR s.data.toList ((0, 0), false)) := .inr ⟨fun op a hi => by obtain ⟨e1, e2⟩ := HX.out op a hi; rw [e1, e2] at he; exact he hi.2, rfl⟩
              clear HI0 hv hl he
              go_wp2_with fail
              refine HI.out.mono ?_
              rintro e w5 ⟨rfl, hb5⟩
              have hX5 := hXS.next hb5
              have hR5 := hRS.next hb5
              have u0 : w5.cell? ⟨w1.heap.size, 0, none⟩ = some (.int .i64 xo) := hX5.cell 0
              have u1 : w5.cell? ⟨w1.heap.size, 1, none⟩ = some (.int .i64 n) := hX5.cell 1
              go_wp2_with fail
              refine (HLN.out w5).mono ?_
              rintro e w6 ⟨rfl, hb6⟩
              have hR6 := hR5.next hb6
              have hb06 := bon (bon hbS hb5) hb6
              have yy0 := hR6.frozen 0
              have yy1 := hR6.frozen 1
              have xx0 : w6.cell? ⟨w.heap.size, 0, none⟩ = some (.int .i64 0) := hR6.cell 0
              have xx1 : w6.cell? ⟨w.heap.size, 1, none⟩ = some (.int .i64 0) := hR6.cell 1
              have hR9 := (hR6.set 0 (.int .i64 0)).set 1 (.int .i64 0)
              have s0 : ((w6.setCell ⟨w.heap.size, 0, none⟩ (.int .i64 0)).setCell ⟨w.heap.size, 1, none⟩ (.int .i64 0)).cell? ⟨w.heap.size, 0, none⟩ = some (.int .i64 0) := by rw [hR9.cell 0]; simp
              have s1 : ((w6.setCell ⟨w.heap.size, 0, none⟩ (.int .i64 0)).setCell ⟨w.heap.size, 1, none⟩ (.int .i64 0)).cell? ⟨w.heap.size, 1, none⟩ = some (.int .i64 0) := by rw [hR9.cell 1]; simp
              have hb9 := (hb06.setCell (p := ⟨w.heap.size, 0, none⟩) (Nat.le_refl _) (.int .i64 0)).setCell (p := ⟨w.heap.size, 1, none⟩) (Nat.le_refl _) (.int .i64 0)
              go_wp2_with fail
              refine bodyPost_ret (v := .tuple #[.agg #[.int .i64 0, .int .i64 0], .bool false]) (by simp [results, Tryd.results52, go_sem, s0, s1]) rfl ?_
              first | exact ⟨0, 0, .inl ⟨rfl, HF.out, hb9⟩⟩ | exact ⟨((0, 0), false), rfl, HF.out, hb9⟩
      · have i2 : ¬ (m : Int) = 2 := by omega
        have HX : Hid (∀ op a, isL s.data.toList op a → xo = op ∧ 0 = a) := fun op a hi => by
          have hl := instrB_lim hi.1
          rcases isL_cut hi with e | ⟨e, e0⟩
          · rw [HQ.out] at e
            have := congrArg List.length e
            simp at this
            omega
          · rw [HQ.out] at e
            exact ⟨opR_is hop.out hl.1 (List.cons.inj e).1.symm, e0.symm⟩
        have x0 : wr.cell? ⟨w1.heap.size, 0, none⟩ = some (.int .i64 xo) := hX.cell 0
        have x1 : wr.cell? ⟨w1.heap.size, 1, none⟩ = some (.int .i64 0) := hX.cell 1
        clear hop
        have HI0 := l07Instr_c xo 0 wr
        cases hv : instrB xo 0 with
        | false =>
          rw [hv] at HI0
          have HI := Lib.hid HI0
          have HF : Hid (IsR s.data.toList ((0, 0), false)) := .inr ⟨fun op a hi => by obtain ⟨e1, e2⟩ := HX.out op a hi; rw [e1, e2] at hv; exact absurd hi.1 (by rw [hv]; decide), rfl⟩
          clear HI0 hv
          go_wp2_with fail
          refine HI.out.mono ?_
          rintro e w5 ⟨rfl, hb5⟩
          have hR5 := hRr.next hb5
          have hb05 := bon hb02 hb5
          have yy0 := hR5.frozen 0
          have yy1 := hR5.frozen 1
          have xx0 : w5.cell? ⟨w.heap.size, 0, none⟩ = some (.int .i64 0) := hR5.cell 0
          have xx1 : w5.cell? ⟨w.heap.size, 1, none⟩ = some (.int .i64 0) := hR5.cell 1
          have hR9 := (hR5.set 0 (.int .i64 0)).set 1 (.int .i64 0)
          have s0 : ((w5.setCell ⟨w.heap.size, 0, none⟩ (.int .i64 0)).setCell ⟨w.heap.size, 1, none⟩ (.int .i64 0)).cell? ⟨w.heap.size, 0, none⟩ = some (.int .i64 0) := by rw [hR9.cell 0]; simp
          have s1 : ((w5.setCell ⟨w.heap.size, 0, none⟩ (.int .i64 0)).setCell ⟨w.heap.size, 1, none⟩ (.int .i64 0)).cell? ⟨w.heap.size, 1, none⟩ = some (.int .i64 0) := by rw [hR9.cell 1]; simp
          have hb9 := (hb05.setCell (p := ⟨w.heap.size, 0, none⟩) (Nat.le_refl _) (.int .i64 0)).setCell (p := ⟨w.heap.size, 1, none⟩) (Nat.le_refl _) (.int .i64 0)
          go_wp2_with fail
          refine bodyPost_ret (v := .tuple #[.agg #[.int .i64 0, .int .i64 0], .bool false]) (by simp [results, Tryd.results52, go_sem, s0, s1]) rfl ?_
          first | exact ⟨0, 0, .inl ⟨rfl, HF.out, hb9⟩⟩ | exact ⟨((0, 0), false), rfl, HF.out, hb9⟩
        | true =>
          rw [hv] at HI0
          have HI := Lib.hid HI0
          have hl := instrB_lim hv
          by_cases he : lineL xo 0 = s.data.toList
          · have hE : lineB xo 0 = s := by
              apply ByteArray.ext
              apply Array.toList_inj.1
              rw [lineB_toList]
              exact he
            have HLN : Hid (∀ W : World, Calls Tryd.prog 46 #[.agg #[.int .i64 xo, .int .i64 0]] W fun e w' => e = .returned (.string s) ∧ Below W.heap.size W w') := fun W => by
              have := l07Line_c xo 0 W hl.1 hl.2
              rwa [hE] at this
            have HF : Hid (IsR s.data.toList ((xo, 0), true)) := .inl ⟨⟨hv, he⟩, rfl⟩
            clear HI0 hv hl he hE
            go_wp2_with fail
            refine HI.out.mono ?_
            rintro e w5 ⟨rfl, hb5⟩
            have hX5 := hX.next hb5
            have hR5 := hRr.next hb5
            have u0 : w5.cell? ⟨w1.heap.size, 0, none⟩ = some (.int .i64 xo) := hX5.cell 0
            have u1 : w5.cell? ⟨w1.heap.size, 1, none⟩ = some (.int .i64 0) := hX5.cell 1
            go_wp2_with fail
            refine (HLN.out w5).mono ?_
            rintro e w6 ⟨rfl, hb6⟩
            have hX6 := hX5.next hb6
            have hR6 := hR5.next hb6
            have v0 : w6.cell? ⟨w1.heap.size, 0, none⟩ = some (.int .i64 xo) := hX6.cell 0
            have v1 : w6.cell? ⟨w1.heap.size, 1, none⟩ = some (.int .i64 0) := hX6.cell 1
            have yy0 := hR6.frozen 0
            have yy1 := hR6.frozen 1
            have xx0 : w6.cell? ⟨w.heap.size, 0, none⟩ = some (.int .i64 0) := hR6.cell 0
            have xx1 : w6.cell? ⟨w.heap.size, 1, none⟩ = some (.int .i64 0) := hR6.cell 1
            have hR9 := (hR6.set 0 (.int .i64 xo)).set 1 (.int .i64 0)
            have s0 : ((w6.setCell ⟨w.heap.size, 0, none⟩ (.int .i64 xo)).setCell ⟨w.heap.size, 1, none⟩ (.int .i64 0)).cell? ⟨w.heap.size, 0, none⟩ = some (.int .i64 xo) := by rw [hR9.cell 0]; simp
            have s1 : ((w6.setCell ⟨w.heap.size, 0, none⟩ (.int .i64 xo)).setCell ⟨w.heap.size, 1, none⟩ (.int .i64 0)).cell? ⟨w.heap.size, 1, none⟩ = some (.int .i64 0) := by rw [hR9.cell 1]; simp
            have hb9 := ((bon (bon hb02 hb5) hb6).setCell (p := ⟨w.heap.size, 0, none⟩) (Nat.le_refl _) (.int .i64 xo)).setCell (p := ⟨w.heap.size, 1, none⟩) (Nat.le_refl _) (.int .i64 0)
            go_wp2_with fail
            refine bodyPost_ret (v := .tuple #[.agg #[.int .i64 xo, .int .i64 0], .bool true]) (by simp [results, Tryd.results52, go_sem, s0, s1]) rfl ?_
            first | exact ⟨((xo, 0), true), rfl, HF.out, hb9⟩ | exact ⟨xo, 0, .inr ⟨rfl, HF.out, hb9⟩⟩
          · have hE : ¬ lineB xo 0 = s := fun h => he (by rw [← lineB_toList, h])
            have t1 : (lineB xo 0 == s) = false := bneS hE
            have t2 : ((lineB xo 0).toList == s.toList) = false := by
              rw [Go.ByteArray.toList_eq, Go.ByteArray.toList_eq, lineB_toList]
              exact beq_eq_false_iff_ne.mpr he
            have t3 : (lineB xo 0 != s) = true := by unfold bne; rw [t1]; rfl
            have HLN := Lib.hid (fun W => l07Line_c xo 0 W hl.1 hl.2)
            have HF : Hid (IsR s.data.toList ((0, 0), false)) := .inr ⟨fun op a hi => by obtain ⟨e1, e2⟩ := HX.out op a hi; rw [e1, e2] at he; exact he hi.2, rfl⟩
            clear HI0 hv hl he
            go_wp2_with fail
            refine HI.out.mono ?_
            rintro e w5 ⟨rfl, hb5⟩
            have hX5 := hX.next hb5
            have hR5 := hRr.next hb5
            have u0 : w5.cell? ⟨w1.heap.size, 0, none⟩ = some (.int .i64 xo) := hX5.cell 0
            have u1 : w5.cell? ⟨w1.heap.size, 1, none⟩ = some (.int .i64 0) := hX5.cell 1
            go_wp2_with fail
            refine (HLN.out w5).mono ?_
            rintro e w6 ⟨rfl, hb6⟩
            have hR6 := hR5.next hb6
            have hb06 := bon (bon hb02 hb5) hb6
            have yy0 := hR6.frozen 0
            have yy1 := hR6.frozen 1
            have xx0 : w6.cell? ⟨w.heap.size, 0, none⟩ = some (.int .i64 0) := hR6.cell 0
            have xx1 : w6.cell? ⟨w.heap.size, 1, none⟩ = some (.int .i64 0) := hR6.cell 1
            have hR9 := (hR6.set 0 (.int .i64 0)).set 1 (.int .i64 0)
            have s0 : ((w6.setCell ⟨w.heap.size, 0, none⟩ (.int .i64 0)).setCell ⟨w.heap.size, 1, none⟩ (.int .i64 0)).cell? ⟨w.heap.size, 0, none⟩ = some (.int .i64 0) := by rw [hR9.cell 0]; simp
            have s1 : ((w6.setCell ⟨w.heap.size, 0, none⟩ (.int .i64 0)).setCell ⟨w.heap.size, 1, none⟩ (.int .i64 0)).cell? ⟨w.heap.size, 1, none⟩ = some (.int .i64 0) := by rw [hR9.cell 1]; simp
            have hb9 := (hb06.setCell (p := ⟨w.heap.size, 0, none⟩) (Nat.le_refl _) (.int .i64 0)).setCell (p := ⟨w.heap.size, 1, none⟩) (Nat.le_refl _) (.int .i64 0)
            go_wp2_with fail
            refine bodyPost_ret (v := .tuple #[.agg #[.int .i64 0, .int .i64 0], .bool false]) (by simp [results, Tryd.results52, go_sem, s0, s1]) rfl ?_
            first | exact ⟨0, 0, .inl ⟨rfl, HF.out, hb9⟩⟩ | exact ⟨((0, 0), false), rfl, HF.out, hb9⟩

set_option maxRecDepth 100000 in
set_option maxHeartbeats 4000000 in
theorem specRead_c (s : ByteArray) (w : World) (hs : s.size ≤ 1048576) :
    Calls Tryd.prog 13 #[.string s] w fun e w' => ∃ r, e = .returned (.tuple #[.agg #[.int .i64 r.1.1, .int .i64 r.1.2], .bool r.2]) ∧ IsR s.data.toList r ∧ Below w.heap.size w w' := by
  have hb0 := bnew w (.cells #[.int .i64 0, .int .i64 0] 26)
  have hR : BlkIs (w.alloc (.cells #[.int .i64 0, .int .i64 0] 26)) w.heap.size 26 #[.int .i64 0, .int .i64 0] := blk_new _ _ _ _ rfl
  have HC := Lib.hid (l07Read_c s (w.alloc (.cells #[.int .i64 0, .int .i64 0] 26)) hs)
  go_enter Tryd.func13, Tryd.ntmps13
  go_wp2_with fail
  generalize w.alloc (.cells #[.int .i64 0, .int .i64 0] 26) = W at hb0 hR HC ⊢
  refine HC.out.mono ?_
  rintro e w1 ⟨r, rfl, hr, hb1⟩
  have hR1 := hR.next hb1
  have yy0 := hR1.frozen 0
  have yy1 := hR1.frozen 1
  have xx0 : w1.cell? ⟨w.heap.size, 0, none⟩ = some (.int .i64 0) := hR1.cell 0
  have xx1 : w1.cell? ⟨w.heap.size, 1, none⟩ = some (.int .i64 0) := hR1.cell 1
  have hR9 := (hR1.set 0 (.int .i64 r.1.1)).set 1 (.int .i64 r.1.2)
  have s0 : ((w1.setCell ⟨w.heap.size, 0, none⟩ (.int .i64 r.1.1)).setCell ⟨w.heap.size, 1, none⟩ (.int .i64 r.1.2)).cell? ⟨w.heap.size, 0, none⟩ = some (.int .i64 r.1.1) := by rw [hR9.cell 0]; simp
  have s1 : ((w1.setCell ⟨w.heap.size, 0, none⟩ (.int .i64 r.1.1)).setCell ⟨w.heap.size, 1, none⟩ (.int .i64 r.1.2)).cell? ⟨w.heap.size, 1, none⟩ = some (.int .i64 r.1.2) := by rw [hR9.cell 1]; simp
  have hb9 := ((bon hb0 hb1).setCell (p := ⟨w.heap.size, 0, none⟩) (Nat.le_refl _) (.int .i64 r.1.1)).setCell (p := ⟨w.heap.size, 1, none⟩) (Nat.le_refl _) (.int .i64 r.1.2)
  have HRR := Lib.hid hr
  clear hr
  go_wp2_with fail
  refine bodyPost_ret (v := .tuple #[.agg #[.int .i64 r.1.1, .int .i64 r.1.2], .bool r.2]) (by simp [results, Tryd.results13, go_sem, s0, s1]) rfl ?_
  exact ⟨r, rfl, HRR.out, hb9⟩
end Go.Proofs.YtahlpjhhbcjfpaaDoor

