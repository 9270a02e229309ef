/-
  The program's classes. Conditions: a policy with at most 1000 states.
-/
import Derived.Test.YtopijecdhjnipaaClsAll
import Derived.Test.YtopijecdhjnipaaMinN
namespace Go.Proofs.Ytopijecdhjnipaa
set_option linter.unusedVariables false
open Go.RowKit

set_option maxRecDepth 100000 in
set_option maxHeartbeats 4000000 in
theorem classes_c (A : Option Addr) (n c B : Nat) (xs : List (List Int)) (w : World) (h : InLL w B A n xs) (hB : B ≤ w.heap.size) (ok : RectP xs) (hn : n ≤ 1000) :
    Calls Try.prog 45 #[.agg #[.slice A n c]] w (ClsR xs w) := by
  obtain ⟨i0, hi, hz0, hz1, hz2⟩ := info_parts info64
  have hxn : xs.length = n := h.1
  have hb0 := bnew w (.cells #[.slice A n c] 26)
  have hP0 : BlkIs (w.alloc (.cells #[.slice A n c] 26)) w.heap.size 26 #[.slice A n c] := blk_new _ _ _ _ rfl
  have HX := Lib.hid (h.next hb0 hB)
  have hB0 := Nat.le_trans hB hb0.size
  have HOK := Lib.hid ok
  have hk0 : kinds xs 0 = 1 := kinds_zero ok.lo
  clear h ok
  unfold ClsR
  go_enter Try.func45, Try.ntmps45
  go_upto_region 1 with fail
  generalize w.alloc (.cells #[.slice A n c] 26) = W at hb0 hP0 HX hB0 ⊢
  have p0 := hP0.cell 0
  simp at p0
  go_wp2_with (at_make; refine wpList_make_full _ rfl _ _ 35 rfl W.heap.size 2 i0 (.int .i64 0) 1 Try.underlying35 hi hz0 hz1 .i64 .i64 _ _ n rfl rfl rfl rfl (by rw [hz2]; omega) (by unfold maxLen; omega) (Nat.le_refl _) ?_; intro w1 hown hgrow)
  have hb1 := (Below.refl W.heap.size W).grown hgrow (Nat.le_refl _) (fun _ h => by cases h)
  have hc1 : InL w1 w1.heap.size (some ⟨W.heap.size, 0, none⟩) n (List.replicate n 0) := by
    have h1 : w1.ownsRow W.heap.size 2 1 (.slice (some ⟨W.heap.size, 0, none⟩) n n) n ((List.replicate n (0 : Int)).map ic) := by
      rw [List.map_replicate]
      have e := hown
      rw [show (Value.int .i64 0).cells = #[Value.int .i64 0] from rfl, toList_madeCells_one] at e
      simpa [ic] using e
    exact (OwnL.of_own h1).inn
  have hb2 := bnew w1 (.cells #[.slice (some ⟨W.heap.size, 0, none⟩) n n] 35)
  have hK2 : BlkIs (w1.alloc (.cells #[.slice (some ⟨W.heap.size, 0, none⟩) n n] 35)) w1.heap.size 35 #[.slice (some ⟨W.heap.size, 0, none⟩) n n] := blk_new _ _ _ _ rfl
  have hc2 := (hc1.next hb2 (Nat.le_refl _)).more hb2.size
  have hbw := bon hb0 (bon hb1 hb2)
  have hbW := bon hb1 hb2
  have hcl0 : Hid (ClsI xs 0 (List.replicate n 0)) := by show ClsI _ _ _; rw [← hxn]; exact ClsI.zero HOK.out
  clear hgrow hown hc1
  generalize w1.alloc (.cells #[.slice (some ⟨W.heap.size, 0, none⟩) n n] 35) = W2 at hb2 hK2 hc2 hbw hbW ⊢
  have hlb : w.heap.size ≤ w1.heap.size ∧ B ≤ w1.heap.size := ⟨by have := hb0.size; have := hb1.size; omega, by have := hb1.size; omega⟩
  generalize w1.heap.size = bk at hK2 hlb ⊢
  have hbk0 := hK2.lt
  have hP2 := hP0.next hbW
  have HX2 := Lib.hid (HX.out.next hbW hB0)
  have hB2 := Nat.le_trans hB0 hbW.size
  go_loopw [4, 5, 6] (fun ct _ _ wr => ∃ (t : Nat) (Ac : Option Addr) (cc : Nat) (cl : List Int), ct = .int .i64 (kinds xs t : Int) ∧ Hid (ClsI xs t cl) ∧ BlkIs wr bk 35 #[.slice Ac n cc] ∧ InL wr wr.heap.size Ac n cl ∧ Below w.heap.size w wr ∧ BlkIs wr w.heap.size 26 #[.slice A n c] ∧ InLL wr B A n xs ∧ W2.heap.size ≤ wr.heap.size) (fun ct _ _ _ => n + 1 - (intOf ct).toNat)
  case atStart => exact ⟨0, _, _, _, by rw [hk0]; rfl, hcl0, hK2, hc2, hbw, hP2, HX2.out, Nat.le_refl _⟩
  case round =>
    clear hcl0 hK2 hc2 hbw hb0 hb1 hb2 hbW p0 hP0 hP2
    obtain ⟨hlb1, hlb2⟩ := hlb
    rename World => wa
    obtain ⟨t, Ac, cc, cl, rfl, hcl, hK, hin, hbw, hP, hX, hsz⟩ := hrel
    have hkn := kinds_le xs t
    have hg0 := bnew wa (.cells #[.slice none 0 0, .map none] 79)
    have hG : BlkIs (wa.alloc (.cells #[.slice none 0 0, .map none] 79)) wa.heap.size 79 #[.slice none 0 0, .map none] := blk_new _ _ _ _ rfl
    have hWL : WLR (wa.alloc (.cells #[.slice none 0 0, .map none] 79)) wa.heap.size wa.heap.size 0 none 0 none [] := ⟨hG, Nat.le_refl _, World.ownsRow_nil _ _ _ _, (fun b e => by cases e), fun _ => rfl⟩
    have hBa : B ≤ wa.heap.size := Nat.le_trans hB2 hsz
    have HE := Lib.hid (eachCls_c xs t cl bk wa.heap.size A n c Ac cc wa.heap.size 0 wa.heap.size none 0 _ HOK.out hcl.out hn ((hX.next hg0 hBa).more hBa) (hK.next hg0) (hin.next hg0 (Nat.le_refl _)) hg0.size hWL rfl hg0.size (by have := hK.lt; omega) (Nat.le_refl _))
    have hPg := hP.next hg0
    have q0 := hPg.cell 0
    simp at q0
    have HRC0 := rowsK_cls HOK.out hcl.out
    rw [hxn] at HRC0
    have HRC := Lib.hid HRC0
    have hKg := hK.next hg0
    have hXg := hX.next hg0 hBa
    have hing := hin.next hg0 (Nat.le_refl _)
    have hbg := bon hbw hg0
    have hsg : wa.heap.size < (wa.alloc (.cells #[.slice none 0 0, .map none] 79)).heap.size := by simp
    clear hG hWL hX hin HRC0
    have hbkl := hK.lt
    have hpl := hP.lt
    go_wp2_with fail
    refine HE.out.mono ?_
    rintro e w5 ⟨gO, rfl, hown, ⟨A5, c5, mv5, B5, hW5⟩, hT⟩
    have hTb : Below wa.heap.size (wa.alloc (.cells #[.slice none 0 0, .map none] 79)) w5 := hT.below (fun q e => by omega) hg0.size
    have hK5 := hT.blk hKg (by omega)
    have hP5 := hT.blk hPg (by omega)
    have hX5 := hXg.next hTb hBa
    have hI5 := hing.next hTb (Nat.le_refl _)
    have hs5 := hT.size
    have hb5 : Below w.heap.size w w5 := hbg.trans (hTb.mono (by have := hbw.size; omega))
    obtain ⟨KN, hKK⟩ : ∃ KN, (rowsK xs cl n).1.length = KN := ⟨_, rfl⟩
    have hkt := HRC.out.2
    rw [hKK] at hkt
    have l0 := hW5.box.cell 0
    rw [hKK] at l0
    simp at l0
    have k0 := hK5.cell 0
    have k1 := hK5.frozen 0
    simp at k0
    have HX5 := Lib.hid hX5
    have HP5 := Lib.hid hP5
    have HK5 := Lib.hid hK5
    have HI5 := Lib.hid hI5
    clear hW5 hT hTb hKg hPg hXg hing hX5 hP5 hI5 HE
    by_cases hkk : kinds xs (t + 1) = kinds xs t
    · have q1 : ((KN : Int) == (kinds xs t : Int)) = true := by simp only [beq_iff_eq]; omega
      have HKK := Lib.hid hkk
      clear hkk hkt hKK
      go_wp2_with fail
      go_ret
      exact ⟨Ac, cc, cl, t, by rw [hxn]; rfl, hcl.out, settled_of HKK.out, by rw [hxn]; exact HI5.out.more (by omega), hb5⟩
    · have q1 : ((KN : Int) == (kinds xs t : Int)) = false := by simp only [beq_eq_false_iff_ne, ne_eq]; omega
      have hgr : kinds xs t < kinds xs (t + 1) := by have := kinds_more xs t; omega
      have hkn2 := kinds_le xs (t + 1)
      clear hkk
      go_wp2_with fail
      have l1 : w5.drew.cell? ⟨wa.heap.size, 0, none⟩ = some (.slice A5 KN c5) := l0
      have hK6 : BlkIs w5.drew bk 35 #[.slice Ac n cc] := HK5.out
      have hP6 : BlkIs w5.drew w.heap.size 26 #[.slice A n c] := HP5.out
      have hO6 : w5.drew.ownsRow (wa.alloc (.cells #[.slice none 0 0, .map none] 79)).heap.size 2 1 (.slice (some ⟨gO, 0, none⟩) n n) n ((rowsK xs cl n).2.map ic) := hown
      have hX6 : InLL w5.drew B A n xs := HX5.out
      have hb6 : Below w.heap.size w w5.drew := hb5.drew
      have hs6 : w5.drew.heap.size = w5.heap.size := rfl
      clear hown l0 k0 k1
      refine wp_region_held_drew (S := fun w' => w'.cell? ⟨wa.heap.size, 0, none⟩ = some (.slice A5 KN c5)) (by kernel_rfl) l1 ?_
      intro hHeld0
      generalize w5.drew = w6 at hK6 hP6 hO6 hX6 hb6 hs6 l1 hHeld0 ⊢
      refine wpAnyH_take (i := 0) (v := ?_) rfl (by kernel_rfl) (by kernel_rfl) (by kernel_rfl) (fun _ _ _ h => h) (Or.inl ⟨by kernel_rfl, ?_⟩) (by assumption) ?_
      rotate_left
      · intro w9 hS9; (try dsimp only at hS9); go_simp; (try with_reducible rfl)
      set_option linter.unusedSimpArgs false in try simp only [Act.put, List.getElem_toArray, List.getElem_cons_succ, List.getElem_cons_zero, List.setIfInBounds_toArray, List.set_cons_zero, List.set_cons_succ]
      refine wpAnyH_take (i := 1) (v := ?_) rfl (by kernel_rfl) (by kernel_rfl) (by kernel_rfl) (fun _ _ _ h => h) (Or.inl ⟨by kernel_rfl, ?_⟩) (by assumption) ?_
      rotate_left
      · intro w9 hS9; (try dsimp only at hS9); go_simp; (try with_reducible rfl)
      set_option linter.unusedSimpArgs false in try simp only [Act.put, List.getElem_toArray, List.getElem_cons_succ, List.getElem_cons_zero, List.setIfInBounds_toArray, List.set_cons_zero, List.set_cons_succ]
      refine wpAnyH_take (i := 2) (v := ?_) rfl (by kernel_rfl) (by kernel_rfl) (by kernel_rfl) (fun _ _ _ h => h) (Or.inl ⟨by kernel_rfl, ?_⟩) (by assumption) ?_
      rotate_left
      · intro w9 hS9; (try dsimp only at hS9); go_simp; (try with_reducible rfl)
      set_option linter.unusedSimpArgs false in try simp only [Act.put, List.getElem_toArray, List.getElem_cons_succ, List.getElem_cons_zero, List.setIfInBounds_toArray, List.set_cons_zero, List.set_cons_succ]
      refine wpAnyH_take (i := 3) (v := ?_) rfl (by kernel_rfl) (by kernel_rfl) (by kernel_rfl) (fun _ _ _ h => h) (Or.inl ⟨by kernel_rfl, ?_⟩) (by assumption) ?_
      rotate_left
      · intro w9 hS9; (try dsimp only at hS9); go_simp; (try with_reducible rfl)
      set_option linter.unusedSimpArgs false in try simp only [Act.put, List.getElem_toArray, List.getElem_cons_succ, List.getElem_cons_zero, List.setIfInBounds_toArray, List.set_cons_zero, List.set_cons_succ]
      refine wpAnyH_ready (rs := [4]) (by kernel_rfl) (by simp) ?_
      refine AllReadyH.cons rfl (fun K hK => ?_) (AllReadyH.nil)
      have k0 := hK6.cell 0
      have k1 := hK6.frozen 0
      simp at k0
      have hK7 := hK6.set 0 (.slice (some ⟨gO, 0, none⟩) n n)
      simp at hK7
      have l2 : (w6.setCell ⟨bk, 0, none⟩ (.slice (some ⟨gO, 0, none⟩) n n)).cell? ⟨wa.heap.size, 0, none⟩ = some (.slice A5 KN c5) := (World.cell?_of_block (a := ⟨wa.heap.size, 0, none⟩) (Below.heap_setCell w6 ⟨bk, 0, none⟩ _ wa.heap.size (by show wa.heap.size ≠ bk; omega))).trans l1
      go_simp
      refine hK.out _ _ l2 (fun hHeld1 => ?_)
      clear hK K hHeld0
      set_option linter.unusedSimpArgs false in try simp only [Act.put, List.getElem_toArray, List.getElem_cons_succ, List.getElem_cons_zero, List.setIfInBounds_toArray, List.set_cons_zero, List.set_cons_succ]
      refine wpAnyH_take (i := 5) (v := ?_) rfl (by kernel_rfl) (by kernel_rfl) (by kernel_rfl) (fun _ _ _ h => h) (Or.inl ⟨by kernel_rfl, ?_⟩) (by assumption) ?_
      rotate_left
      · intro w9 hS9; (try dsimp only at hS9); go_simp; (try with_reducible rfl)
      set_option linter.unusedSimpArgs false in try simp only [Act.put, List.getElem_toArray, List.getElem_cons_succ, List.getElem_cons_zero, List.setIfInBounds_toArray, List.set_cons_zero, List.set_cons_succ]
      refine wpAnyH_done (by kernel_rfl) ?_ _
      have hO7 := hO6.kept (only_set (w := w6) (g := bk) (i := 0) (x := .slice (some ⟨gO, 0, none⟩) n n)) (.inr (own_ne_blk hO6 hK6 (by decide)))
      have hP7 := hP6.far (g' := bk) (fun e => by rw [e] at hP6; unfold BlkIs at hP6 hK6; rw [hK6] at hP6; injection hP6 with hP6; injection hP6 with _ hP6 _; revert hP6; decide) 0 (.slice (some ⟨gO, 0, none⟩) n n)
      have hb7 := hb6.setCell (p := ⟨bk, 0, none⟩) (by show w.heap.size ≤ bk; omega) (.slice (some ⟨gO, 0, none⟩) n n)
      have hX7 := hX6.next (w' := w6.setCell ⟨bk, 0, none⟩ (.slice (some ⟨gO, 0, none⟩) n n)) (B' := B) ((Below.refl B w6).setCell (p := ⟨bk, 0, none⟩) (by show B ≤ bk; omega) _) (Nat.le_refl _)
      have hI7 := (OwnL.of_own hO7).inn
      have hL7 := Lib.hid (HRC.out.1)
      clear hO6 hP6 hb6 hX6 hK6 l1 l2 k0 k1
      go_wp2_with fail
      go_roundw
      case rel => exact ⟨t + 1, _, _, _, by first | rfl | rw [hkt], hL7.out, hK7, hI7, hb7, hP7, hX7, by simp; omega⟩
      case measure => simp [intOf]; omega
end Go.Proofs.Ytopijecdhjnipaa

