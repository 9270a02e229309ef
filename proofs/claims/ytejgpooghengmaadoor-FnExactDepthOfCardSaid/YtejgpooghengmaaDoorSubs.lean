/-
  Subproofs: what the program's subproofsOf gives. Conditions: at most 2^20 nodes and numbers; the table nodeForms holds what the program's text lays.
-/
import Derived.Test.YtejgpooghengmaaDoorConv
import Derived.RegionTactic
import Derived.Test.YtejgpooghengmaaDoorMakeS
import Derived.Outline
namespace Go.Proofs.YtejgpooghengmaaDoor
set_option linter.unusedVariables false
set_option linter.unusedSimpArgs false
open Go.RowKit Go.Shelf Go.Deep
attribute [local go_sem] Oper.semAt_some

theorem infoSub : (Tryd.prog.info? 87).map (fun i => (i.zero, i.size, i.bytes)) = some (some (.pointer none), 1, 8) := by kernel_rfl
/-- A node that came in at a place. -/
abbrev SubT (w : World) (B n : Nat) : Type := {x : PN // 0 < n → x.1 < n ∧ InL w B x.2.A0 x.2.n0 x.2.x.t.2 ∧ InL w B x.2.A1 x.2.n1 x.2.x.m ∧ x.2.x.tot ≤ 1048576}

set_option maxRecDepth 100000 in
set_option maxHeartbeats 4000000 in
theorem subs_in (A : Option Addr) (n c B : Nat) (xs : List N5) (w : World) (hT : TabN w) (h : InN5 w B A n xs) (hB : B ≤ w.heap.size) (hn : n ≤ 1048576) (he : totN5 xs ≤ 1048576) :
    CallsIn Fence.wide 5 Tryd.prog 48 #[.slice A n c] w (SubsR w B n xs) := by
  refine callsIn_of_wp_marks Tryd.func48 rfl trivial ?_ rfl
  simp only [Tryd.ntmps48, List.size_toArray, List.length_cons, List.length_nil, Nat.reduceAdd, Nat.reduceSub, Array.replicate_succ, Array.replicate_zero, List.push_toArray, List.append_toArray, List.nil_append, List.cons_append]
  by_cases h60 : n ≤ 60
  · have r1 : ¬ (60 : Int) < (n : Int) := by omega
    have hmk : ∀ w : World, Sem.run Tryd.prog (Instr.makeSlice 78 (.int .i64 (n : Int)) (.int .i64 (n : Int))) w = .ok (.slice (some ⟨w.heap.size, 0, none⟩) n n) (w.alloc (.cells (madeCells #[.pointer none] n) 87)) := run_make_row' (P := Tryd.prog) 78 87 (.pointer none) 8 Tryd.underlying78 infoSub rfl .i64 .i64 n (by omega) (by omega)
    obtain ⟨g, hg⟩ := nvs_of h
    have hgt : ∀ j, j < n → (g j).x.tot ≤ 1048576 := fun j hj => by
      obtain ⟨_, _, _, _, hx, _⟩ := hg j hj
      exact Nat.le_trans (totN5_mem (List.mem_of_getElem? hx)) he
    gi_wp2_with (refine ⟨trivial, ?_⟩; gi_at_call 80; refine (back_in Fence.wide 4 trivial rfl _ _ _ _).mono ?_; rintro e w' ⟨rfl, rfl⟩)
    clear hmk
    have b0 : BlkIs ((((((w.alloc (.cells #[.slice none 0 0] 78)).alloc (.cells #[.bool false] 4)).alloc (.cells (madeCells #[.pointer none] n) 87)).alloc (.cells #[.slice (some ⟨w.heap.size + 1 + 1, 0, none⟩) n n] 78)).alloc (.cells #[.slice none 0 0] 78)).alloc (.cells #[.slice A n c] 25)) w.heap.size 78 #[.slice none 0 0] := (((((blk_new _ _ _ _ (by simp)).next (bnew _ _)).next (bnew _ _)).next (bnew _ _)).next (bnew _ _)).next (bnew _ _)
    have b1 : BlkIs ((((((w.alloc (.cells #[.slice none 0 0] 78)).alloc (.cells #[.bool false] 4)).alloc (.cells (madeCells #[.pointer none] n) 87)).alloc (.cells #[.slice (some ⟨w.heap.size + 1 + 1, 0, none⟩) n n] 78)).alloc (.cells #[.slice none 0 0] 78)).alloc (.cells #[.slice A n c] 25)) (w.heap.size + 1) 4 #[.bool false] := ((((blk_new _ _ _ _ (by simp)).next (bnew _ _)).next (bnew _ _)).next (bnew _ _)).next (bnew _ _)
    have b2 : BlkIs ((((((w.alloc (.cells #[.slice none 0 0] 78)).alloc (.cells #[.bool false] 4)).alloc (.cells (madeCells #[.pointer none] n) 87)).alloc (.cells #[.slice (some ⟨w.heap.size + 1 + 1, 0, none⟩) n n] 78)).alloc (.cells #[.slice none 0 0] 78)).alloc (.cells #[.slice A n c] 25)) (w.heap.size + 1 + 1) 87 (madeCells #[.pointer none] n) := (((blk_new _ _ _ _ (by simp)).next (bnew _ _)).next (bnew _ _)).next (bnew _ _)
    have b3 : BlkIs ((((((w.alloc (.cells #[.slice none 0 0] 78)).alloc (.cells #[.bool false] 4)).alloc (.cells (madeCells #[.pointer none] n) 87)).alloc (.cells #[.slice (some ⟨w.heap.size + 1 + 1, 0, none⟩) n n] 78)).alloc (.cells #[.slice none 0 0] 78)).alloc (.cells #[.slice A n c] 25)) (w.heap.size + 1 + 1 + 1) 78 #[.slice (some ⟨w.heap.size + 1 + 1, 0, none⟩) n n] := ((blk_new _ _ _ _ (by simp)).next (bnew _ _)).next (bnew _ _)
    have b4 : BlkIs ((((((w.alloc (.cells #[.slice none 0 0] 78)).alloc (.cells #[.bool false] 4)).alloc (.cells (madeCells #[.pointer none] n) 87)).alloc (.cells #[.slice (some ⟨w.heap.size + 1 + 1, 0, none⟩) n n] 78)).alloc (.cells #[.slice none 0 0] 78)).alloc (.cells #[.slice A n c] 25)) (w.heap.size + 1 + 1 + 1 + 1) 78 #[.slice none 0 0] := (blk_new _ _ _ _ (by simp)).next (bnew _ _)
    have b5 : BlkIs ((((((w.alloc (.cells #[.slice none 0 0] 78)).alloc (.cells #[.bool false] 4)).alloc (.cells (madeCells #[.pointer none] n) 87)).alloc (.cells #[.slice (some ⟨w.heap.size + 1 + 1, 0, none⟩) n n] 78)).alloc (.cells #[.slice none 0 0] 78)).alloc (.cells #[.slice A n c] 25)) (w.heap.size + 1 + 1 + 1 + 1 + 1) 25 #[.slice A n c] := blk_new _ _ _ _ (by simp)
    have hB0 : Below w.heap.size w ((((((w.alloc (.cells #[.slice none 0 0] 78)).alloc (.cells #[.bool false] 4)).alloc (.cells (madeCells #[.pointer none] n) 87)).alloc (.cells #[.slice (some ⟨w.heap.size + 1 + 1, 0, none⟩) n n] 78)).alloc (.cells #[.slice none 0 0] 78)).alloc (.cells #[.slice A n c] 25)) := bon (bon (bon (bon (bon (bnew _ _) (bnew _ _)) (bnew _ _)) (bnew _ _)) (bnew _ _)) (bnew _ _)
    have hsz : ((((((w.alloc (.cells #[.slice none 0 0] 78)).alloc (.cells #[.bool false] 4)).alloc (.cells (madeCells #[.pointer none] n) 87)).alloc (.cells #[.slice (some ⟨w.heap.size + 1 + 1, 0, none⟩) n n] 78)).alloc (.cells #[.slice none 0 0] 78)).alloc (.cells #[.slice A n c] 25)).heap.size = w.heap.size + 6 := by simp
    generalize (((((w.alloc (.cells #[.slice none 0 0] 78)).alloc (.cells #[.bool false] 4)).alloc (.cells (madeCells #[.pointer none] n) 87)).alloc (.cells #[.slice (some ⟨w.heap.size + 1 + 1, 0, none⟩) n n] 78)).alloc (.cells #[.slice none 0 0] 78)).alloc (.cells #[.slice A n c] 25) = W0 at b0 b1 b2 b3 b4 b5 hB0 hsz ⊢
    obtain ⟨f, hf⟩ : ∃ f : Nat → SubT w B n, ∀ k, (f k).1 = bk g n k := ⟨fun k => ⟨bk g n k, fun h0 => by
      obtain ⟨_, _, _, _, _, _, i0, i1⟩ := hg (n - 1 - k) (by omega)
      exact ⟨by show n - 1 - k < n; omega, i0, i1, hgt _ (by omega)⟩⟩, fun k => rfl⟩
    refine wpIn_rangeFunc_ownH rfl (by omega) (gf := 95) (lb := #[.pointer (some ⟨w.heap.size + 1 + 1 + 1 + 1 + 1, 0, none⟩)]) rfl trivial (enters_of Tryd.func95 (by kernel_rfl) rfl)
      (back_stops Fence.wide 4 trivial rfl (by omega) (w.heap.size + 1 + 1 + 1 + 1 + 1) w.heap.size A n c (fun x : SubT w B n => bkE x.1) f g (fun k hk => by rw [hf k]) hn W0 (by omega) b5 (fun j hj => by
        obtain ⟨b, off, e, hb, _, hv, _⟩ := hg j hj
        exact ⟨b, off, e, by omega, hv.below hB0 (by omega)⟩)) keepB_t (keepB_b (by omega)) (Below.refl _ _) (fun _ => rfl)
      (fun pre W => InvG w n (w.heap.size + 6) w.heap.size (w.heap.size + 1) (w.heap.size + 1 + 1) (w.heap.size + 1 + 1 + 1) (w.heap.size + 1 + 1 + 1 + 1) (pre.map Subtype.val) W ∧ w.heap.size + 6 ≤ W.heap.size ∧ BlkIs W (w.heap.size + 1 + 1 + 1 + 1 + 1) 25 #[.slice A n c])
      (fun c pre W => c = .ret ∧ stkG (pre.map Subtype.val).reverse = none ∧ BlkIs W w.heap.size 78 #[.slice none 0 0] ∧ BlkIs W (w.heap.size + 1) 4 #[.bool false] ∧ Below w.heap.size w W)
      (fun s X Y row hs hg hr => ⟨InvG.own (by omega) (s.map Subtype.val) X Y row hs.1 hg hr, Nat.le_trans hs.2.1 hg.size, (hg.block _ hs.2.2.lt (fun e => by obtain ⟨_, o, ho, hc⟩ := hr _ e.symm; rw [show X.heap[w.heap.size + 1 + 1 + 1 + 1 + 1]? = _ from hs.2.2] at ho; obtain rfl := Option.some.inj ho; cases hc)).trans hs.2.2⟩)
      (fun c s X Y row hs hg hr => by
        obtain ⟨hc, hn, r0, r1, hb⟩ := hs
        have hk : ∀ {g t cs}, BlkIs X g t cs → BlkIs Y g t cs := fun {g t cs} hg' => (hg.block g hg'.lt (fun e => by obtain ⟨_, o, ho, hc⟩ := hr g e.symm; rw [show X.heap[g]? = _ from hg'] at ho; obtain rfl := Option.some.inj ho; cases hc)).trans hg'
        exact ⟨hc, hn, hk r0, hk r1, hb.grown hg hb.size (fun k e => by have := (hr k e).1; omega)⟩)
      ⟨⟨[], fun _ => 0, fun _ => .slice none 0 0, .slice none 0 0, madeCells #[.pointer none] n, rfl, b4, World.ownsRow_nil _ _ _ _, b3, ⟨b2, by simp [size_madeCells]⟩, (fun k x hk => by simp at hk), b0, b1, (fun k x hk => by simp at hk), hB0⟩, by omega, b5⟩
      (fun x a' W => ∃ Bx, w.heap.size + 6 ≤ Bx ∧ BlkIs W Bx 76 #[.int .i64 x.1.2.x.k, .int .i64 x.1.2.x.f, .int .i64 x.1.2.x.t.1, .slice x.1.2.A0 x.1.2.n0 x.1.2.c0, .slice x.1.2.A1 x.1.2.n1 x.1.2.c1] ∧ a' = { tmps := #[.slice A n c, undef, .pointer (some ⟨w.heap.size, 0, none⟩), .pointer (some ⟨w.heap.size + 1, 0, none⟩), .pointer (some ⟨w.heap.size + 1 + 1 + 1, 0, none⟩), .pointer (some ⟨w.heap.size + 1 + 1 + 1 + 1, 0, none⟩), .int .i64 (x.1.1 : Int), .pointer (some ⟨Bx, 0, none⟩), undef, undef, .slice A n c, .int .i64 (n : Int), .bool false, .slice A n c, .int .i64 (n : Int), .slice (some ⟨w.heap.size + 1 + 1, 0, none⟩) n n, .slice A n c, .func (.func 95) #[] #[.pointer (some ⟨w.heap.size + 1 + 1 + 1 + 1 + 1, 0, none⟩)], .int .i64 (x.1.1 : Int), .agg #[.int .i64 x.1.2.x.k, .int .i64 x.1.2.x.f, .int .i64 x.1.2.x.t.1, .slice x.1.2.A0 x.1.2.n0 x.1.2.c0, .slice x.1.2.A1 x.1.2.n1 x.1.2.c1], undef, undef, undef, undef, undef, undef, undef, undef, undef, undef, undef, undef, undef, undef, undef, undef, undef, undef, undef, undef, undef, undef, undef, undef, undef, undef, undef, undef, undef, undef, undef, undef, undef, undef, undef, undef, undef, undef, undef, undef, undef, undef, undef, undef, undef, undef, undef, undef, undef, undef, undef, undef, undef, undef, undef, undef, undef, undef, undef, undef, undef, undef, undef, undef, undef, undef, undef, undef], defers := [] })
      (fun x a' _ X Y row hs hg hr => by
        obtain ⟨Bx, q1, q2, q3⟩ := hs
        exact ⟨Bx, q1, (hg.block Bx q2.lt (fun e => by obtain ⟨_, o, ho, hc⟩ := hr Bx e.symm; rw [show X.heap[Bx]? = _ from q2] at ho; obtain rfl := Option.some.inj ho; cases hc)).trans q2, q3⟩)
      ?assign ?body ?done ?stop
    case assign =>
      rintro l pre ⟨⟨at_, y⟩, hx⟩ W K hI hK
      dsimp only [bkE, NV.val]
      gi_wp2
      exact hK _ _ ((KeepsOthers.alloc _ _).from _) ⟨(Below.refl _ W).alloc hI.1.below.size _, fun e => e.next (bnew _ _)⟩ ⟨hI.1.same (same_alloc _ _ _) (hI.1.below.alloc hI.1.below.size _), by have := hI.2.1; simp; omega, hI.2.2.next (bnew _ _)⟩ ⟨W.heap.size, hI.2.1, blk_new _ _ _ _ rfl, rfl⟩
    case body =>
      rintro l pre ⟨⟨at_, y⟩, hx⟩ a' W hl ⟨r, hr⟩ ⟨hI, hs6, hI5⟩ ⟨Bx, hBx, hX, rfl⟩ hlt
      obtain ⟨hat, hi0, hi1, htot⟩ := hx (by omega)
      dsimp only at hX hat hi0 hi1 htot ⊢
      obtain ⟨S, blk, pvs, wv, cs, h1, h2, h3, h4, ⟨h5, h5'⟩, h6, h7, h8, h9, hBW⟩ := hI
      have hsW := hBW.size
      obtain ⟨A2, c2, rfl, _⟩ := own_slice h3
      have hlen := Lib.hid (stkG_len _ _ h1)
      have hd60 : S.length ≤ 60 := by have := hlen.out; simp only [List.length_reverse, List.length_map] at this; omega
      have HN0 := isNode_c y.x y.A0 y.n0 y.c0 y.A1 y.n1 y.c1 B W.drew (hT.next hBW.drew) (hi0.next hBW.drew hB) (hi1.next hBW.drew hB) (by show B ≤ W.heap.size; omega) htot
      have e0 := hX.cell 0
      have e1 := hX.cell 1
      have e2 := hX.cell 2
      have e3 := hX.cell 3
      have e4 := hX.cell 4
      simp at e0 e1 e2 e3 e4
      cases hv : nodeB y.x with
      | false =>
        have HNONE : Hid (stkG ((List.map Subtype.val (pre ++ [⟨(at_, y), hx⟩])).reverse) = none) := by
          show _ = none
          rw [List.map_append, List.reverse_append]
          show stkG ((at_, y) :: (List.map Subtype.val pre).reverse) = none
          rw [stkG_cons h1, if_neg (by show ¬ (nodeB y.x = true ∧ _); rw [hv]; simp)]
        rw [hv] at HN0
        have HN := Lib.hid HN0
        have H7 := Lib.hid h7
        have H8 := Lib.hid h8
        clear HN0 h1 h2 h3 h4 h5 h6 h7 h8 h9 hv hlen
        gi_wp2
        refine region_round (fun W' => W'.cell? ⟨Bx, 0, none⟩ = some (.int .i64 y.x.k) ∧ W'.cell? ⟨Bx, 1, none⟩ = some (.int .i64 y.x.f) ∧ W'.cell? ⟨Bx, 2, none⟩ = some (.int .i64 y.x.t.1) ∧ W'.cell? ⟨Bx, 3, none⟩ = some (.slice y.A0 y.n0 y.c0) ∧ W'.cell? ⟨Bx, 4, none⟩ = some (.slice y.A1 y.n1 y.c1)) (by kernel_rfl) (by kernel_rfl) ⟨e0, e1, e2, e3, e4⟩ ?_
        intro hHeld
        refine wpAnyH_take (i := 0) (v := ?_) rfl (by kernel_rfl) (by kernel_rfl) (by kernel_rfl) (fun _ _ _ h => h) (Or.inl ⟨by kernel_rfl, ?_⟩) (by assumption) ?_
        rotate_left
        · intro w9 hS9; (try dsimp only at hS9); go_simp; (try with_reducible rfl)
        try simp only [Act.put, List.getElem_toArray, List.getElem_cons_succ, List.getElem_cons_zero, List.setIfInBounds_toArray, List.set_cons_zero, List.set_cons_succ]
        refine wpAnyH_ready (rs := [1]) (by kernel_rfl) (by simp) ?_
        refine AllReadyH.cons rfl (fun K hK => ?_) AllReadyH.nil
        go_simp
        go_wp2_with (go_at_call 81; refine HN.out.mono ?_; rintro e w1 ⟨rfl, hb1⟩)
        refine hK.out _ _ ⟨cell_on e0 hb1, cell_on e1 hb1, cell_on e2 hb1, cell_on e3 hb1, cell_on e4 hb1⟩ (fun hHeld2 => ?_)
        clear hK K hHeld
        refine wpAnyH_take (i := 2) (v := ?_) rfl (by kernel_rfl) (by kernel_rfl) (by kernel_rfl) (fun _ _ _ h => h) (Or.inl ⟨by kernel_rfl, ?_⟩) (by assumption) ?_
        rotate_left
        · intro w9 hS9; (try dsimp only at hS9); go_simp; (try with_reducible rfl)
        try simp only [Act.put, List.getElem_toArray, List.getElem_cons_succ, List.getElem_cons_zero, List.setIfInBounds_toArray, List.set_cons_zero, List.set_cons_succ]
        refine wpAnyH_take (i := 3) (v := ?_) rfl (by kernel_rfl) (by kernel_rfl) (by kernel_rfl) (fun _ _ _ h => h) (Or.inl ⟨by kernel_rfl, ?_⟩) (by assumption) ?_
        rotate_left
        · intro w9 hS9; (try dsimp only at hS9); go_simp; (try with_reducible rfl)
        try simp only [Act.put, List.getElem_toArray, List.getElem_cons_succ, List.getElem_cons_zero, List.setIfInBounds_toArray, List.set_cons_zero, List.set_cons_succ]
        refine wpAnyH_take (i := 4) (v := undef) rfl (by kernel_rfl) (by kernel_rfl) (by kernel_rfl) (fun _ _ _ h => h) (Or.inr ⟨by kernel_rfl, rfl⟩) (by assumption) ?_
        try simp only [Act.put, List.getElem_toArray, List.getElem_cons_succ, List.getElem_cons_zero, List.setIfInBounds_toArray, List.set_cons_zero, List.set_cons_succ]
        refine wpAnyH_take (i := 5) (v := undef) rfl (by kernel_rfl) (by kernel_rfl) (by kernel_rfl) (fun _ _ _ h => h) (Or.inr ⟨by kernel_rfl, rfl⟩) (by assumption) ?_
        try simp only [Act.put, List.getElem_toArray, List.getElem_cons_succ, List.getElem_cons_zero, List.setIfInBounds_toArray, List.set_cons_zero, List.set_cons_succ]
        refine wpAnyH_take (i := 6) (v := undef) rfl (by kernel_rfl) (by kernel_rfl) (by kernel_rfl) (fun _ _ _ h => h) (Or.inr ⟨by kernel_rfl, rfl⟩) (by assumption) ?_
        try simp only [Act.put, List.getElem_toArray, List.getElem_cons_succ, List.getElem_cons_zero, List.setIfInBounds_toArray, List.set_cons_zero, List.set_cons_succ]
        refine wpAnyH_take (i := 7) (v := undef) rfl (by kernel_rfl) (by kernel_rfl) (by kernel_rfl) (fun _ _ _ h => h) (Or.inr ⟨by kernel_rfl, rfl⟩) (by assumption) ?_
        try simp only [Act.put, List.getElem_toArray, List.getElem_cons_succ, List.getElem_cons_zero, List.setIfInBounds_toArray, List.set_cons_zero, List.set_cons_succ]
        refine wpAnyH_take (i := 8) (v := undef) rfl (by kernel_rfl) (by kernel_rfl) (by kernel_rfl) (fun _ _ _ h => h) (Or.inr ⟨by kernel_rfl, rfl⟩) (by assumption) ?_
        try simp only [Act.put, List.getElem_toArray, List.getElem_cons_succ, List.getElem_cons_zero, List.setIfInBounds_toArray, List.set_cons_zero, List.set_cons_succ]
        refine wpAnyH_take (i := 9) (v := undef) rfl (by kernel_rfl) (by kernel_rfl) (by kernel_rfl) (fun _ _ _ h => h) (Or.inr ⟨by kernel_rfl, rfl⟩) (by assumption) ?_
        try simp only [Act.put, List.getElem_toArray, List.getElem_cons_succ, List.getElem_cons_zero, List.setIfInBounds_toArray, List.set_cons_zero, List.set_cons_succ]
        refine wpAnyH_take (i := 10) (v := undef) rfl (by kernel_rfl) (by kernel_rfl) (by kernel_rfl) (fun _ _ _ h => h) (Or.inr ⟨by kernel_rfl, rfl⟩) (by assumption) ?_
        try simp only [Act.put, List.getElem_toArray, List.getElem_cons_succ, List.getElem_cons_zero, List.setIfInBounds_toArray, List.set_cons_zero, List.set_cons_succ]
        refine wpAnyH_take (i := 11) (v := undef) rfl (by kernel_rfl) (by kernel_rfl) (by kernel_rfl) (fun _ _ _ h => h) (Or.inr ⟨by kernel_rfl, rfl⟩) (by assumption) ?_
        try simp only [Act.put, List.getElem_toArray, List.getElem_cons_succ, List.getElem_cons_zero, List.setIfInBounds_toArray, List.set_cons_zero, List.set_cons_succ]
        refine wpAnyH_take (i := 12) (v := ?_) rfl (by kernel_rfl) (by kernel_rfl) (by kernel_rfl) (fun _ _ _ h => h) (Or.inl ⟨by kernel_rfl, ?_⟩) (by assumption) ?_
        rotate_left
        · intro w9 hS9; (try dsimp only at hS9); go_simp; (try with_reducible rfl)
        try simp only [Act.put, List.getElem_toArray, List.getElem_cons_succ, List.getElem_cons_zero, List.setIfInBounds_toArray, List.set_cons_zero, List.set_cons_succ]
        refine wpAnyH_done (by kernel_rfl) ?_ _
        refine NormOnly.normal ?_
        clear hHeld2
        have hb01 : Below W.heap.size W w1 := bstep hb1
        have R0 := H7.out.next hb01
        have R1 := H8.out.next hb01
        have p0 := R0.cell 0
        have p1 := R1.cell 0
        have f0 := R0.frozen 0
        have f1 := R1.frozen 0
        simp at p0 p1
        have HR := Lib.hid (res_no (D := W0.heap.size) hBW hb01 H7.out H8.out)
        clear R0 R1
        gi_wp2
        obtain ⟨k1, k2, k3, k4⟩ := HR.out
        exact ⟨k1, rfl, HNONE.out, k2, k3, k4⟩
      | true =>
        obtain ⟨hk1, hk3⟩ := nodeB_is hv
        obtain ⟨⟨yk, yf, yt, ym⟩, A0, n0, c0, A1, n1, c1⟩ := y
        dsimp only at hv hk1 hk3 e0 e1 e2 e3 e4 HN0 hi0 hi1 htot
        obtain ⟨kk, rfl⟩ := Int.eq_ofNat_of_zero_le (show 0 ≤ yk by omega)
        obtain ⟨_, _, _, _, t4⟩ := hT.next hBW kk (by omega)
        rw [nform_forks kk (by omega) (by omega)] at t4
        have hfk2 := forks_le (kk : Int)
        have HFK : Hid (frk (at_, ⟨⟨(kk : Int), yf, yt, ym⟩, A0, n0, c0, A1, n1, c1⟩) = forks (kk : Int)) := rfl
        have i1 : (kk : Int) < 4 := by omega
        have e5 : W.cell? ⟨w.heap.size + 1 + 1 + 1 + 1, 0, none⟩ = some (.slice A2 S.length c2) := h2.cell 0
        generalize forks (kk : Int) = fk at t4 hfk2 HFK
        rw [hv] at HN0
        have HN := Lib.hid HN0
        have H1 := Lib.hid h1
        have H2 := Lib.hid h2
        have H3 := Lib.hid h3
        have H4 := Lib.hid h4
        have H5 := Lib.hid h5
        have H5' := Lib.hid h5'
        have H6 := Lib.hid h6
        have H7 := Lib.hid h7
        have H8 := Lib.hid h8
        have H9 := Lib.hid h9
        have HX := Lib.hid hX
        have HV := Lib.hid hv
        clear HN0 h1 h2 h3 h4 h5 h5' h6 h7 h8 h9 hv hlen hX
        gi_wp2
        by_cases hfew : S.length < fk
        · have i2 : (S.length : Int) < (fk : Int) := by omega
          have HNONE : Hid (stkG ((List.map Subtype.val (pre ++ [⟨(at_, ⟨⟨(kk : Int), yf, yt, ym⟩, A0, n0, c0, A1, n1, c1⟩), hx⟩])).reverse) = none) := by
            show _ = none
            rw [List.map_append, List.reverse_append]
            show stkG ((at_, ⟨⟨(kk : Int), yf, yt, ym⟩, A0, n0, c0, A1, n1, c1⟩) :: (List.map Subtype.val pre).reverse) = none
            rw [stkG_cons H1.out, if_neg (fun a => by have := a.2; rw [HFK.out] at this; omega)]
          refine region_round (fun W' => W'.cell? ⟨Bx, 0, none⟩ = some (.int .i64 (kk : Int)) ∧ W'.cell? ⟨Bx, 1, none⟩ = some (.int .i64 yf) ∧ W'.cell? ⟨Bx, 2, none⟩ = some (.int .i64 yt.1) ∧ W'.cell? ⟨Bx, 3, none⟩ = some (.slice A0 n0 c0) ∧ W'.cell? ⟨Bx, 4, none⟩ = some (.slice A1 n1 c1) ∧ W'.cell? ⟨w.heap.size + 1 + 1 + 1 + 1, 0, none⟩ = some (.slice A2 S.length c2) ∧ W'.cell? ⟨0, kk * 5 + 4, none⟩ = some (.int .i64 (fk : Int))) (by kernel_rfl) (by kernel_rfl) ⟨e0, e1, e2, e3, e4, e5, t4⟩ ?_
          intro hHeld
          refine wpAnyH_take (i := 0) (v := ?_) rfl (by kernel_rfl) (by kernel_rfl) (by kernel_rfl) (fun _ _ _ h => h) (Or.inl ⟨by kernel_rfl, ?_⟩) (by assumption) ?_
          rotate_left
          · intro w9 hS9; (try dsimp only at hS9); go_simp; (try with_reducible rfl)
          try simp only [Act.put, List.getElem_toArray, List.getElem_cons_succ, List.getElem_cons_zero, List.setIfInBounds_toArray, List.set_cons_zero, List.set_cons_succ]
          refine wpAnyH_ready (rs := [1]) (by kernel_rfl) (by simp) ?_
          refine AllReadyH.cons rfl (fun K hK => ?_) AllReadyH.nil
          go_simp
          go_wp2_with (go_at_call 81; refine HN.out.mono ?_; rintro e w1 ⟨rfl, hb1⟩)
          refine hK.out _ _ ⟨cell_on e0 hb1, cell_on e1 hb1, cell_on e2 hb1, cell_on e3 hb1, cell_on e4 hb1, cell_on e5 hb1, cell_on t4 hb1⟩ (fun hHeld2 => ?_)
          clear hK K hHeld
          refine wpAnyH_take (i := 2) (v := ?_) rfl (by kernel_rfl) (by kernel_rfl) (by kernel_rfl) (fun _ _ _ h => h) (Or.inl ⟨by kernel_rfl, ?_⟩) (by assumption) ?_
          rotate_left
          · intro w9 hS9; (try dsimp only at hS9); go_simp; (try with_reducible rfl)
          try simp only [Act.put, List.getElem_toArray, List.getElem_cons_succ, List.getElem_cons_zero, List.setIfInBounds_toArray, List.set_cons_zero, List.set_cons_succ]
          refine wpAnyH_take (i := 3) (v := ?_) rfl (by kernel_rfl) (by kernel_rfl) (by kernel_rfl) (fun _ _ _ h => h) (Or.inl ⟨by kernel_rfl, ?_⟩) (by assumption) ?_
          rotate_left
          · intro w9 hS9; (try dsimp only at hS9); go_simp; (try with_reducible rfl)
          try simp only [Act.put, List.getElem_toArray, List.getElem_cons_succ, List.getElem_cons_zero, List.setIfInBounds_toArray, List.set_cons_zero, List.set_cons_succ]
          refine wpAnyH_take (i := 4) (v := ?_) rfl (by kernel_rfl) (by kernel_rfl) (by kernel_rfl) (fun _ _ _ h => h) (Or.inl ⟨by kernel_rfl, ?_⟩) (by assumption) ?_
          rotate_left
          · intro w9 hS9; (try dsimp only at hS9); go_simp; (try with_reducible rfl)
          try simp only [Act.put, List.getElem_toArray, List.getElem_cons_succ, List.getElem_cons_zero, List.setIfInBounds_toArray, List.set_cons_zero, List.set_cons_succ]
          refine wpAnyH_take (i := 5) (v := ?_) rfl (by kernel_rfl) (by kernel_rfl) (by kernel_rfl) (fun _ _ _ h => h) (Or.inl ⟨by kernel_rfl, ?_⟩) (by assumption) ?_
          rotate_left
          · intro w9 hS9; (try dsimp only at hS9); go_simp; (try with_reducible rfl)
          try simp only [Act.put, List.getElem_toArray, List.getElem_cons_succ, List.getElem_cons_zero, List.setIfInBounds_toArray, List.set_cons_zero, List.set_cons_succ]
          refine wpAnyH_take (i := 6) (v := ?_) rfl (by kernel_rfl) (by kernel_rfl) (by kernel_rfl) (fun _ _ _ h => h) (Or.inl ⟨by kernel_rfl, ?_⟩) (by assumption) ?_
          rotate_left
          · intro w9 hS9; (try dsimp only at hS9); go_simp; (try with_reducible rfl)
          try simp only [Act.put, List.getElem_toArray, List.getElem_cons_succ, List.getElem_cons_zero, List.setIfInBounds_toArray, List.set_cons_zero, List.set_cons_succ]
          refine wpAnyH_take (i := 7) (v := ?_) rfl (by kernel_rfl) (by kernel_rfl) (by kernel_rfl) (fun _ _ _ h => h) (Or.inl ⟨by kernel_rfl, ?_⟩) (by assumption) ?_
          rotate_left
          · intro w9 hS9; (try dsimp only at hS9); go_simp; (try with_reducible rfl)
          try simp only [Act.put, List.getElem_toArray, List.getElem_cons_succ, List.getElem_cons_zero, List.setIfInBounds_toArray, List.set_cons_zero, List.set_cons_succ]
          refine wpAnyH_take (i := 8) (v := ?_) rfl (by kernel_rfl) (by kernel_rfl) (by kernel_rfl) (fun _ _ _ h => h) (Or.inl ⟨by kernel_rfl, ?_⟩) (by assumption) ?_
          rotate_left
          · intro w9 hS9; (try dsimp only at hS9); go_simp; (try with_reducible rfl)
          try simp only [Act.put, List.getElem_toArray, List.getElem_cons_succ, List.getElem_cons_zero, List.setIfInBounds_toArray, List.set_cons_zero, List.set_cons_succ]
          refine wpAnyH_take (i := 9) (v := ?_) rfl (by kernel_rfl) (by kernel_rfl) (by kernel_rfl) (fun _ _ _ h => h) (Or.inl ⟨by kernel_rfl, ?_⟩) (by assumption) ?_
          rotate_left
          · intro w9 hS9; (try dsimp only at hS9); go_simp; (try with_reducible rfl)
          try simp only [Act.put, List.getElem_toArray, List.getElem_cons_succ, List.getElem_cons_zero, List.setIfInBounds_toArray, List.set_cons_zero, List.set_cons_succ]
          refine wpAnyH_take (i := 10) (v := ?_) rfl (by kernel_rfl) (by kernel_rfl) (by kernel_rfl) (fun _ _ _ h => h) (Or.inl ⟨by kernel_rfl, ?_⟩) (by assumption) ?_
          rotate_left
          · intro w9 hS9; (try dsimp only at hS9); go_simp; (try with_reducible rfl)
          try simp only [Act.put, List.getElem_toArray, List.getElem_cons_succ, List.getElem_cons_zero, List.setIfInBounds_toArray, List.set_cons_zero, List.set_cons_succ]
          refine wpAnyH_take (i := 11) (v := ?_) rfl (by kernel_rfl) (by kernel_rfl) (by kernel_rfl) (fun _ _ _ h => h) (Or.inl ⟨by kernel_rfl, ?_⟩) (by assumption) ?_
          rotate_left
          · intro w9 hS9; (try dsimp only at hS9); go_simp; (try with_reducible rfl)
          try simp only [Act.put, List.getElem_toArray, List.getElem_cons_succ, List.getElem_cons_zero, List.setIfInBounds_toArray, List.set_cons_zero, List.set_cons_succ]
          refine wpAnyH_take (i := 12) (v := ?_) rfl (by kernel_rfl) (by kernel_rfl) (by kernel_rfl) (fun _ _ _ h => h) (Or.inl ⟨by kernel_rfl, ?_⟩) (by assumption) ?_
          rotate_left
          · intro w9 hS9; (try dsimp only at hS9); go_simp; (try with_reducible rfl)
          try simp only [Act.put, List.getElem_toArray, List.getElem_cons_succ, List.getElem_cons_zero, List.setIfInBounds_toArray, List.set_cons_zero, List.set_cons_succ]
          refine wpAnyH_done (by kernel_rfl) ?_ _
          refine NormOnly.normal ?_
          clear hHeld2
          have hb01 : Below W.heap.size W w1 := bstep hb1
          have R0 := H7.out.next hb01
          have R1 := H8.out.next hb01
          have p0 := R0.cell 0
          have p1 := R1.cell 0
          have f0 := R0.frozen 0
          have f1 := R1.frozen 0
          simp at p0 p1
          have HR := Lib.hid (res_no (D := W0.heap.size) hBW hb01 H7.out H8.out)
          clear R0 R1
          gi_wp2
          obtain ⟨k1, k2, k3, k4⟩ := HR.out
          exact ⟨k1, rfl, HNONE.out, k2, k3, k4⟩
        · have i2 : ¬ (S.length : Int) < (fk : Int) := by omega
          refine region_round (fun W' => W'.cell? ⟨Bx, 0, none⟩ = some (.int .i64 (kk : Int)) ∧ W'.cell? ⟨Bx, 1, none⟩ = some (.int .i64 yf) ∧ W'.cell? ⟨Bx, 2, none⟩ = some (.int .i64 yt.1) ∧ W'.cell? ⟨Bx, 3, none⟩ = some (.slice A0 n0 c0) ∧ W'.cell? ⟨Bx, 4, none⟩ = some (.slice A1 n1 c1) ∧ W'.cell? ⟨w.heap.size + 1 + 1 + 1 + 1, 0, none⟩ = some (.slice A2 S.length c2) ∧ W'.cell? ⟨0, kk * 5 + 4, none⟩ = some (.int .i64 (fk : Int))) (by kernel_rfl) (by kernel_rfl) ⟨e0, e1, e2, e3, e4, e5, t4⟩ ?_
          intro hHeld
          refine wpAnyH_take (i := 0) (v := ?_) rfl (by kernel_rfl) (by kernel_rfl) (by kernel_rfl) (fun _ _ _ h => h) (Or.inl ⟨by kernel_rfl, ?_⟩) (by assumption) ?_
          rotate_left
          · intro w9 hS9; (try dsimp only at hS9); go_simp; (try with_reducible rfl)
          try simp only [Act.put, List.getElem_toArray, List.getElem_cons_succ, List.getElem_cons_zero, List.setIfInBounds_toArray, List.set_cons_zero, List.set_cons_succ]
          refine wpAnyH_ready (rs := [1]) (by kernel_rfl) (by simp) ?_
          refine AllReadyH.cons rfl (fun K hK => ?_) AllReadyH.nil
          go_simp
          go_wp2_with (go_at_call 81; refine HN.out.mono ?_; rintro e w1 ⟨rfl, hb1⟩)
          refine hK.out _ _ ⟨cell_on e0 hb1, cell_on e1 hb1, cell_on e2 hb1, cell_on e3 hb1, cell_on e4 hb1, cell_on e5 hb1, cell_on t4 hb1⟩ (fun hHeld2 => ?_)
          clear hK K hHeld
          refine wpAnyH_take (i := 2) (v := ?_) rfl (by kernel_rfl) (by kernel_rfl) (by kernel_rfl) (fun _ _ _ h => h) (Or.inl ⟨by kernel_rfl, ?_⟩) (by assumption) ?_
          rotate_left
          · intro w9 hS9; (try dsimp only at hS9); go_simp; (try with_reducible rfl)
          try simp only [Act.put, List.getElem_toArray, List.getElem_cons_succ, List.getElem_cons_zero, List.setIfInBounds_toArray, List.set_cons_zero, List.set_cons_succ]
          refine wpAnyH_take (i := 3) (v := ?_) rfl (by kernel_rfl) (by kernel_rfl) (by kernel_rfl) (fun _ _ _ h => h) (Or.inl ⟨by kernel_rfl, ?_⟩) (by assumption) ?_
          rotate_left
          · intro w9 hS9; (try dsimp only at hS9); go_simp; (try with_reducible rfl)
          try simp only [Act.put, List.getElem_toArray, List.getElem_cons_succ, List.getElem_cons_zero, List.setIfInBounds_toArray, List.set_cons_zero, List.set_cons_succ]
          refine wpAnyH_take (i := 4) (v := ?_) rfl (by kernel_rfl) (by kernel_rfl) (by kernel_rfl) (fun _ _ _ h => h) (Or.inl ⟨by kernel_rfl, ?_⟩) (by assumption) ?_
          rotate_left
          · intro w9 hS9; (try dsimp only at hS9); go_simp; (try with_reducible rfl)
          try simp only [Act.put, List.getElem_toArray, List.getElem_cons_succ, List.getElem_cons_zero, List.setIfInBounds_toArray, List.set_cons_zero, List.set_cons_succ]
          refine wpAnyH_take (i := 5) (v := ?_) rfl (by kernel_rfl) (by kernel_rfl) (by kernel_rfl) (fun _ _ _ h => h) (Or.inl ⟨by kernel_rfl, ?_⟩) (by assumption) ?_
          rotate_left
          · intro w9 hS9; (try dsimp only at hS9); go_simp; (try with_reducible rfl)
          try simp only [Act.put, List.getElem_toArray, List.getElem_cons_succ, List.getElem_cons_zero, List.setIfInBounds_toArray, List.set_cons_zero, List.set_cons_succ]
          refine wpAnyH_take (i := 6) (v := ?_) rfl (by kernel_rfl) (by kernel_rfl) (by kernel_rfl) (fun _ _ _ h => h) (Or.inl ⟨by kernel_rfl, ?_⟩) (by assumption) ?_
          rotate_left
          · intro w9 hS9; (try dsimp only at hS9); go_simp; (try with_reducible rfl)
          try simp only [Act.put, List.getElem_toArray, List.getElem_cons_succ, List.getElem_cons_zero, List.setIfInBounds_toArray, List.set_cons_zero, List.set_cons_succ]
          refine wpAnyH_take (i := 7) (v := ?_) rfl (by kernel_rfl) (by kernel_rfl) (by kernel_rfl) (fun _ _ _ h => h) (Or.inl ⟨by kernel_rfl, ?_⟩) (by assumption) ?_
          rotate_left
          · intro w9 hS9; (try dsimp only at hS9); go_simp; (try with_reducible rfl)
          try simp only [Act.put, List.getElem_toArray, List.getElem_cons_succ, List.getElem_cons_zero, List.setIfInBounds_toArray, List.set_cons_zero, List.set_cons_succ]
          refine wpAnyH_take (i := 8) (v := ?_) rfl (by kernel_rfl) (by kernel_rfl) (by kernel_rfl) (fun _ _ _ h => h) (Or.inl ⟨by kernel_rfl, ?_⟩) (by assumption) ?_
          rotate_left
          · intro w9 hS9; (try dsimp only at hS9); go_simp; (try with_reducible rfl)
          try simp only [Act.put, List.getElem_toArray, List.getElem_cons_succ, List.getElem_cons_zero, List.setIfInBounds_toArray, List.set_cons_zero, List.set_cons_succ]
          refine wpAnyH_take (i := 9) (v := ?_) rfl (by kernel_rfl) (by kernel_rfl) (by kernel_rfl) (fun _ _ _ h => h) (Or.inl ⟨by kernel_rfl, ?_⟩) (by assumption) ?_
          rotate_left
          · intro w9 hS9; (try dsimp only at hS9); go_simp; (try with_reducible rfl)
          try simp only [Act.put, List.getElem_toArray, List.getElem_cons_succ, List.getElem_cons_zero, List.setIfInBounds_toArray, List.set_cons_zero, List.set_cons_succ]
          refine wpAnyH_take (i := 10) (v := ?_) rfl (by kernel_rfl) (by kernel_rfl) (by kernel_rfl) (fun _ _ _ h => h) (Or.inl ⟨by kernel_rfl, ?_⟩) (by assumption) ?_
          rotate_left
          · intro w9 hS9; (try dsimp only at hS9); go_simp; (try with_reducible rfl)
          try simp only [Act.put, List.getElem_toArray, List.getElem_cons_succ, List.getElem_cons_zero, List.setIfInBounds_toArray, List.set_cons_zero, List.set_cons_succ]
          refine wpAnyH_take (i := 11) (v := ?_) rfl (by kernel_rfl) (by kernel_rfl) (by kernel_rfl) (fun _ _ _ h => h) (Or.inl ⟨by kernel_rfl, ?_⟩) (by assumption) ?_
          rotate_left
          · intro w9 hS9; (try dsimp only at hS9); go_simp; (try with_reducible rfl)
          try simp only [Act.put, List.getElem_toArray, List.getElem_cons_succ, List.getElem_cons_zero, List.setIfInBounds_toArray, List.set_cons_zero, List.set_cons_succ]
          refine wpAnyH_take (i := 12) (v := ?_) rfl (by kernel_rfl) (by kernel_rfl) (by kernel_rfl) (fun _ _ _ h => h) (Or.inl ⟨by kernel_rfl, ?_⟩) (by assumption) ?_
          rotate_left
          · intro w9 hS9; (try dsimp only at hS9); go_simp; (try with_reducible rfl)
          try simp only [Act.put, List.getElem_toArray, List.getElem_cons_succ, List.getElem_cons_zero, List.setIfInBounds_toArray, List.set_cons_zero, List.set_cons_succ]
          refine wpAnyH_done (by kernel_rfl) ?_ _
          refine NormOnly.normal ?_
          obtain ⟨x0, x1, x2, x3, x4, x5, x6⟩ := hHeld2
          have hb01 : Below W.heap.size W w1 := bstep hb1
          clear e0 e1 e2 e3 e4 e5 t4 hb1 HN
          have hs1 := hb01.size
          have hb12 := bnew w1 (.cells #[.int .i64 (kk : Int), .int .i64 yf, .int .i64 yt.1, .slice A0 n0 c0, .slice A1 n1 c1, .int .i64 (at_ : Int), .int .i64 ((at_ : Int) + 1), .slice none 0 0] 86)
          have y0 : (w1.alloc (.cells #[.int .i64 (kk : Int), .int .i64 yf, .int .i64 yt.1, .slice A0 n0 c0, .slice A1 n1 c1, .int .i64 (at_ : Int), .int .i64 ((at_ : Int) + 1), .slice none 0 0] 86)).cell? ⟨Bx, 0, none⟩ = some (.int .i64 (kk : Int)) := cell_next x0 hb12
          have y6 : (w1.alloc (.cells #[.int .i64 (kk : Int), .int .i64 yf, .int .i64 yt.1, .slice A0 n0 c0, .slice A1 n1 c1, .int .i64 (at_ : Int), .int .i64 ((at_ : Int) + 1), .slice none 0 0] 86)).cell? ⟨0, kk * 5 + 4, none⟩ = some (.int .i64 (fk : Int)) := cell_next x6 hb12
          have hX2 : BlkIs (w1.alloc (.cells #[.int .i64 (kk : Int), .int .i64 yf, .int .i64 yt.1, .slice A0 n0 c0, .slice A1 n1 c1, .int .i64 (at_ : Int), .int .i64 ((at_ : Int) + 1), .slice none 0 0] 86)) w1.heap.size 86 #[.int .i64 (kk : Int), .int .i64 yf, .int .i64 yt.1, .slice A0 n0 c0, .slice A1 n1 c1, .int .i64 (at_ : Int), .int .i64 ((at_ : Int) + 1), .slice none 0 0] := blk_new _ _ _ _ rfl
          gi_wp2
          generalize (w1.alloc (.cells #[.int .i64 (kk : Int), .int .i64 yf, .int .i64 yt.1, .slice A0 n0 c0, .slice A1 n1 c1, .int .i64 (at_ : Int), .int .i64 ((at_ : Int) + 1), .slice none 0 0] 86)) = w2 at hb12 y0 y6 hX2 ⊢
          obtain ⟨i0, hi, hz0, hz1, hz2⟩ := info_parts infoSub
          have hbW2 : Below W.heap.size W w2 := bon hb01 hb12
          have hs2 := hbW2.size
          have hLI : LoopG w W (w.heap.size + 6) (w.heap.size + 1 + 1 + 1 + 1) w1.heap.size (at_, ⟨⟨(kk : Int), yf, yt, ym⟩, A0, n0, c0, A1, n1, c1⟩) S blk A2 c2 0 w2 := by
            refine ⟨?_, ?_, ⟨.slice none 0 0, ?_, World.ownsRow_nil _ _ _ _⟩, same_below hbW2, keeps_below hbW2, hBW.trans (hbW2.mono hsW)⟩
            · rw [Nat.sub_zero]; exact H2.out.next hbW2
            · rw [Nat.sub_zero, List.drop_zero]; exact own_below H3.out hbW2
            · exact hX2
          clear hX2 y0 y6 x0 x1 x2 x3 x4 x5 x6 hb12 hb01
          gi_loopw [9, 44] (fun _ i wr => ∃ q : Nat, q ≤ fk ∧ i = .int .i64 q ∧ Hid (LoopG w W (w.heap.size + 6) (w.heap.size + 1 + 1 + 1 + 1) w1.heap.size (at_, ⟨⟨(kk : Int), yf, yt, ym⟩, A0, n0, c0, A1, n1, c1⟩) S blk A2 c2 q wr)) (fun _ i _ => fk - (intOf i).toNat)
          case atStart => exact ⟨0, Nat.zero_le _, rfl, hLI⟩
          case round =>
            clear hLI
            obtain ⟨q, hq, rfl, hL⟩ := hrel
            obtain ⟨l1, l2, ⟨pv, l3, l4⟩, l5, l6, l7⟩ := hL.out
            by_cases hqf : q < fk
            · have hqi : (q : Int) < (fk : Int) := by omega
              obtain ⟨m, hm⟩ : ∃ m, S.length - q = m + 1 := ⟨S.length - q - 1, by omega⟩
              obtain ⟨p, _, hpS, hpg, hpd, hpt⟩ := loopG_parts (S := S) (blk := blk) (q := q) (by omega)
              rw [hm] at l1 l2
              obtain ⟨gw, rfl⟩ : ∃ gw, A2 = some ⟨gw, 0, none⟩ := by
                rcases l2.2 with h' | ⟨g', cap, cur, e', _⟩
                · have := h'.2; omega
                · injection e' with e'; exact ⟨g', e'⟩
              obtain ⟨x', S', hx', hS', hp2⟩ := stkG_mem _ _ H1.out p hpS
              rw [List.reverse_reverse] at hx' hS'
              obtain ⟨hDb, _, _, S'', hS'', hsub, _⟩ := H9.out p.1 x' hx'
              obtain rfl : S' = S'' := by rw [hS'] at hS''; exact Option.some.inj hS''
              have hsubr := hsub.same l5 (by show ¬ blk p.1 = _; omega)
              obtain ⟨Ap, cp, rfl, _⟩ := own_slice l4
              have d0 : wr.cell? ⟨w.heap.size + 1 + 1 + 1 + 1, 0, none⟩ = some (.slice (some ⟨gw, 0, none⟩) (m + 1) c2) := l1.cell 0
              have d1 : wr.cell? ⟨gw, m, none⟩ = some (ptrV (blk p.1)) := by
                have e9 : ((S.drop (q + 1)).reverse.map fun p => ptrV (blk p.1)).length = m := by rw [List.length_map, List.length_reverse, List.length_drop]; omega
                rw [l2.cellAt m (by omega), hpd, List.getElem?_append_right (by omega), e9, Nat.sub_self]
                rfl
              have d2 : wr.cell? ⟨w1.heap.size, 7, none⟩ = some (.slice Ap q cp) := l3.cell 7
              have d3 : wr.cell? ⟨blk p.1, 6, none⟩ = some (.int .i64 (p.2 : Int)) := by rw [hp2]; exact hsubr.cell 6
              have d4 : (m : Int) ≤ (c2 : Int) := by
                rcases l2.2 with h' | ⟨g', cap, cur, e', _, _, hcap, _⟩
                · have := h'.2; omega
                · injection e' with _ _ e3; omega
              have hgw : gw < W.heap.size := (H3.out.lt gw rfl).2
              have HPV := Lib.hid (fun k (hk : (Value.slice Ap q cp).ownBlock = some k) => (l4.lt k hk).1)
              have HPB := Lib.hid (own_ne l3 l4 (by decide))
              have HL1 := Lib.hid l1
              have HL2 := Lib.hid l2
              have HL3 := Lib.hid l3
              have hm60 : (m : Int) ≤ 60 := by omega
              have hmm : (m : Int) < (m : Int) + 1 := by omega
              have HL4 := Lib.hid l4
              have HL5 := Lib.hid l5
              have HL6 := Lib.hid l6
              have HL7 := Lib.hid l7
              have HPD := Lib.hid hpd
              have HPT := Lib.hid hpt
              have HPG := Lib.hid hpg
              have HP2 := Lib.hid hp2
              have HM := Lib.hid hm
              have HSR := Lib.hid hsubr
              have hbl : blk p.1 < W.heap.size := hsub.lt
              have hsr := l6.size
              clear hsub hsubr l1 l2 l3 l4 l5 l6 l7 hpd hpt hx' hS' hS'' hp2 hpg hpS hm
              unfold ptrV at d1
              gi_wp2
              refine region_round (fun W' => W'.cell? ⟨w.heap.size + 1 + 1 + 1 + 1, 0, none⟩ = some (.slice (some ⟨gw, 0, none⟩) (m + 1) c2) ∧ W'.cell? ⟨gw, m, none⟩ = some (.pointer (some ⟨blk p.1, 0, none⟩))) (by kernel_rfl) (by kernel_rfl) ⟨d0, d1⟩ ?_
              intro hHeld
              have a0 : (wr.alloc (.cells #[.pointer (some ⟨blk p.1, 0, none⟩)] 87)).cell? ⟨w.heap.size + 1 + 1 + 1 + 1, 0, none⟩ = some (.slice (some ⟨gw, 0, none⟩) (m + 1) c2) := cell_next d0 (bnew _ _)
              have a1 : (wr.alloc (.cells #[.pointer (some ⟨blk p.1, 0, none⟩)] 87)).cell? ⟨gw, m, none⟩ = some (.pointer (some ⟨blk p.1, 0, none⟩)) := cell_next d1 (bnew _ _)
              refine wpAnyH_take (i := 0) (v := ?_) rfl (by kernel_rfl) (by kernel_rfl) (by kernel_rfl) (fun _ _ _ h => h) (Or.inl ⟨by kernel_rfl, ?_⟩) (by assumption) ?_
              rotate_left
              · intro w9 hS9; (try dsimp only at hS9); go_simp; (try with_reducible rfl)
              try simp only [Act.put, List.getElem_toArray, List.getElem_cons_succ, List.getElem_cons_zero, List.setIfInBounds_toArray, List.set_cons_zero, List.set_cons_succ]
              refine wpAnyH_take (i := 1) (v := ?_) rfl (by kernel_rfl) (by kernel_rfl) (by kernel_rfl) (fun _ _ _ h => h) (Or.inl ⟨by kernel_rfl, ?_⟩) (by assumption) ?_
              rotate_left
              · intro w9 hS9; (try dsimp only at hS9); go_simp; (try with_reducible rfl)
              try simp only [Act.put, List.getElem_toArray, List.getElem_cons_succ, List.getElem_cons_zero, List.setIfInBounds_toArray, List.set_cons_zero, List.set_cons_succ]
              refine wpAnyH_take (i := 2) (v := ?_) rfl (by kernel_rfl) (by kernel_rfl) (by kernel_rfl) (fun _ _ _ h => h) (Or.inl ⟨by kernel_rfl, ?_⟩) (by assumption) ?_
              rotate_left
              · intro w9 hS9; (try dsimp only at hS9); go_simp; (try with_reducible rfl)
              try simp only [Act.put, List.getElem_toArray, List.getElem_cons_succ, List.getElem_cons_zero, List.setIfInBounds_toArray, List.set_cons_zero, List.set_cons_succ]
              refine wpAnyH_take (i := 3) (v := ?_) rfl (by kernel_rfl) (by kernel_rfl) (by kernel_rfl) (fun _ _ _ h => h) (Or.inl ⟨by kernel_rfl, ?_⟩) (by assumption) ?_
              rotate_left
              · intro w9 hS9; (try dsimp only at hS9); go_simp; (try with_reducible rfl)
              try simp only [Act.put, List.getElem_toArray, List.getElem_cons_succ, List.getElem_cons_zero, List.setIfInBounds_toArray, List.set_cons_zero, List.set_cons_succ]
              refine wpAnyH_take (i := 5) (v := ?_) rfl (by kernel_rfl) (by kernel_rfl) (by kernel_rfl) (fun _ _ _ h => h) (Or.inl ⟨by kernel_rfl, ?_⟩) (by assumption) ?_
              rotate_left
              · intro w9 hS9; (try dsimp only at hS9); go_simp; (try with_reducible rfl)
              try simp only [Act.put, List.getElem_toArray, List.getElem_cons_succ, List.getElem_cons_zero, List.setIfInBounds_toArray, List.set_cons_zero, List.set_cons_succ]
              refine wpAnyH_take (i := 6) (v := ?_) rfl (by kernel_rfl) (by kernel_rfl) (by kernel_rfl) (fun _ _ _ h => h) (Or.inl ⟨by kernel_rfl, ?_⟩) (by assumption) ?_
              rotate_left
              · intro w9 hS9; (try dsimp only at hS9); go_simp; (try with_reducible rfl)
              try simp only [Act.put, List.getElem_toArray, List.getElem_cons_succ, List.getElem_cons_zero, List.setIfInBounds_toArray, List.set_cons_zero, List.set_cons_succ]
              refine wpAnyH_take (i := 7) (v := ?_) rfl (by kernel_rfl) (by kernel_rfl) (by kernel_rfl) (fun _ _ _ h => h) (Or.inl ⟨by kernel_rfl, ?_⟩) (by assumption) ?_
              rotate_left
              · intro w9 hS9; (try dsimp only at hS9); go_simp; (try with_reducible rfl)
              try simp only [Act.put, List.getElem_toArray, List.getElem_cons_succ, List.getElem_cons_zero, List.setIfInBounds_toArray, List.set_cons_zero, List.set_cons_succ]
              refine wpAnyH_take (i := 8) (v := ?_) rfl (by kernel_rfl) (by kernel_rfl) (by kernel_rfl) (fun _ _ _ h => h) (Or.inl ⟨by kernel_rfl, ?_⟩) (by assumption) ?_
              rotate_left
              · intro w9 hS9; (try dsimp only at hS9); go_simp; (try with_reducible rfl)
              try simp only [Act.put, List.getElem_toArray, List.getElem_cons_succ, List.getElem_cons_zero, List.setIfInBounds_toArray, List.set_cons_zero, List.set_cons_succ]
              refine wpAnyH_ready (rs := [4, 9]) (by kernel_rfl) (by simp) ?_
              refine AllReadyH.cons rfl (fun K hK => ?_) (AllReadyH.cons rfl (fun K hK => ?_) AllReadyH.nil)
              · go_simp
                refine hK.out _ _ ⟨d0, d1⟩ (fun hHeld2 => ?_)
                clear hK K hHeld
                refine wpAnyH_ready (rs := [9]) (by kernel_rfl) (by simp) ?_
                refine AllReadyH.cons rfl (fun K hK => ?_) AllReadyH.nil
                go_simp
                refine hK.out _ _ ⟨a0, a1⟩ (fun hHeld3 => ?_)
                clear hK K hHeld2
                refine wpAnyH_ready (rs := [10]) (by kernel_rfl) (by simp) ?_
                refine AllReadyH.cons rfl (fun K hK => ?_) AllReadyH.nil
                refine step_append_sep rfl (Operand.tmp 53) (Operand.tmp 58) 78 rfl W.heap.size 87 i0 (.pointer none) 1 8 Tryd.underlying78 hi hz0 hz1 hz2 rfl (by decide) (.slice Ap q cp) q _ rfl (HL4.out.alloc _) ⟨wr.heap.size, 0, none⟩ 1 1 [.pointer (some ⟨blk p.1, 0, none⟩)] rfl rfl (one_new wr _ _ _ rfl) (fun u hu => by obtain rfl := List.mem_singleton.1 hu; rfl) (by unfold maxLen; omega) (by omega) (by simp; omega) (by omega) ?_
                intro g' cap' w3 hown3 hgrow3 _
                have hg3 : (wr.alloc (.cells #[.pointer (some ⟨blk p.1, 0, none⟩)] 87)).grownBy w3 (Value.slice Ap q cp).ownBlock := ⟨hgrow3.os, hgrow3.tape, hgrow3.output, hgrow3.size, hgrow3.block⟩
                have cw0 : w3.cell? ⟨w.heap.size + 1 + 1 + 1 + 1, 0, none⟩ = some (.slice (some ⟨gw, 0, none⟩) (m + 1) c2) := hg3.cell a0 (fun e => by have : W.heap.size ≤ w.heap.size + 1 + 1 + 1 + 1 := HPV.out _ e.symm; omega)
                have cw1 : w3.cell? ⟨gw, m, none⟩ = some (.pointer (some ⟨blk p.1, 0, none⟩)) := hg3.cell a1 (fun e => by have : W.heap.size ≤ gw := HPV.out _ e.symm; omega)
                refine hK.out _ _ ⟨cw0, cw1⟩ (fun hHeld5 => ?_)
                clear hK K
                have hS3 : Hid (Same (fun k => (Value.slice Ap q cp).ownBlock = some k) wr w3) := (same_alloc _ wr _).trans (same_grown hg3 (fun k e => e))
                have B3 := HL3.out.same hS3.out HPB.out
                have B1 := HL1.out.same hS3.out (fun e => by have := HPV.out _ e; omega)
                have B6 := HSR.out.same hS3.out (fun e => by have := HPV.out _ e; omega)
                have j7 : w3.cell? ⟨w1.heap.size, 7, none⟩ = some (.slice Ap q cp) := B3.cell 7
                have z7 : w3.frozen? ⟨w1.heap.size, 7, none⟩ = false := B3.frozen 7
                refine wpAnyH_take (i := 11) (v := ?_) rfl (by kernel_rfl) (by kernel_rfl) (by kernel_rfl) (fun _ _ _ h => h) (Or.inl ⟨by kernel_rfl, ?_⟩) (by assumption) ?_
                rotate_left
                · intro w9 hS9; (try dsimp only at hS9); go_simp; (try with_reducible rfl)
                try simp only [Act.put, List.getElem_toArray, List.getElem_cons_succ, List.getElem_cons_zero, List.setIfInBounds_toArray, List.set_cons_zero, List.set_cons_succ]
                refine wpAnyH_take (i := 12) (v := ?_) rfl (by kernel_rfl) (by kernel_rfl) (by kernel_rfl) (fun _ _ _ h => h) (Or.inl ⟨by kernel_rfl, ?_⟩) (by assumption) ?_
                rotate_left
                · intro w9 hS9; (try dsimp only at hS9); go_simp; (try with_reducible rfl)
                try simp only [Act.put, List.getElem_toArray, List.getElem_cons_succ, List.getElem_cons_zero, List.setIfInBounds_toArray, List.set_cons_zero, List.set_cons_succ]
                refine wpAnyH_ready (rs := [13]) (by kernel_rfl) (by simp) ?_
                refine AllReadyH.cons rfl (fun K hK => ?_) AllReadyH.nil
                go_simp
                have f0 : (w3.setCell ⟨w1.heap.size, 7, none⟩ (.slice (some ⟨g', 0, none⟩) (q + 1) cap')).cell? ⟨w.heap.size + 1 + 1 + 1 + 1, 0, none⟩ = some (.slice (some ⟨gw, 0, none⟩) (m + 1) c2) := (B1.far (g' := w1.heap.size) (by omega) 7 _).cell 0
                have f1 : (w3.setCell ⟨w1.heap.size, 7, none⟩ (.slice (some ⟨g', 0, none⟩) (q + 1) cap')).cell? ⟨gw, m, none⟩ = some (.pointer (some ⟨blk p.1, 0, none⟩)) := (World.cell?_setCell_far w3 ⟨w1.heap.size, 7, none⟩ ⟨gw, m, none⟩ _ (by show w1.heap.size ≠ gw; omega)).trans cw1
                refine hK.out _ _ ⟨f0, f1⟩ (fun hHeld6 => ?_)
                clear hK K
                refine wpAnyH_done (by kernel_rfl) ?_ _
                refine NormOnly.normal ?_
                have f3 : (w3.setCell ⟨w1.heap.size, 7, none⟩ (.slice (some ⟨g', 0, none⟩) (q + 1) cap')).cell? ⟨blk p.1, 6, none⟩ = some (.int .i64 (p.2 : Int)) := by
                  have := (B6.far (g' := w1.heap.size) (by omega) 7 (.slice (some ⟨g', 0, none⟩) (q + 1) cap')).cell 6
                  rw [this, HP2.out]; rfl
                have B3' := B3.set 7 (.slice (some ⟨g', 0, none⟩) (q + 1) cap')
                have f6 : (w3.setCell ⟨w1.heap.size, 7, none⟩ (.slice (some ⟨g', 0, none⟩) (q + 1) cap')).cell? ⟨w1.heap.size, 6, none⟩ = some (.int .i64 (endQ S (at_, ⟨⟨(kk : Int), yf, yt, ym⟩, A0, n0, c0, A1, n1, c1⟩) q : Int)) := B3'.cell 6
                have z6 := B3'.frozen 6
                have z0 := (B1.far (g' := w1.heap.size) (by omega) 7 (.slice (some ⟨g', 0, none⟩) (q + 1) cap')).frozen 0
                have HSTEP := Lib.hid (LoopG.step (x := (at_, ⟨⟨(kk : Int), yf, yt, ym⟩, A0, n0, c0, A1, n1, c1⟩)) HL1.out HL2.out HL3.out HL4.out HL5.out HL6.out HL7.out HM.out HPD.out HPT.out HPG.out hg3 hown3 (by omega) (by omega) hgw (by omega) (by omega))
                clear hHeld5 hHeld6 cw0 cw1 B1 B3 B3' B6 j7 z7 hown3 hgrow3 hg3 d0 d1 d2 d3
                gi_wp2
                go_roundw
                case rel => exact ⟨q + 1, by omega, by go_num, HSTEP.out⟩
                case measure => simp [intOf]; omega
              · go_simp
                refine hK.out _ _ ⟨a0, a1⟩ (fun hHeld2 => ?_)
                clear hK K hHeld
                refine wpAnyH_ready (rs := [4]) (by kernel_rfl) (by simp) ?_
                refine AllReadyH.cons rfl (fun K hK => ?_) AllReadyH.nil
                have d2' : (wr.alloc (.cells #[.pointer (some ⟨blk p.1, 0, none⟩)] 87)).cell? ⟨w1.heap.size, 7, none⟩ = some (.slice Ap q cp) := cell_next d2 (bnew _ _)
                go_simp
                refine hK.out _ _ ⟨a0, a1⟩ (fun hHeld3 => ?_)
                clear hK K hHeld2 d2'
                refine wpAnyH_ready (rs := [10]) (by kernel_rfl) (by simp) ?_
                refine AllReadyH.cons rfl (fun K hK => ?_) AllReadyH.nil
                refine step_append_sep rfl (Operand.tmp 53) (Operand.tmp 58) 78 rfl W.heap.size 87 i0 (.pointer none) 1 8 Tryd.underlying78 hi hz0 hz1 hz2 rfl (by decide) (.slice Ap q cp) q _ rfl (HL4.out.alloc _) ⟨wr.heap.size, 0, none⟩ 1 1 [.pointer (some ⟨blk p.1, 0, none⟩)] rfl rfl (one_new wr _ _ _ rfl) (fun u hu => by obtain rfl := List.mem_singleton.1 hu; rfl) (by unfold maxLen; omega) (by omega) (by simp; omega) (by omega) ?_
                intro g' cap' w3 hown3 hgrow3 _
                have hg3 : (wr.alloc (.cells #[.pointer (some ⟨blk p.1, 0, none⟩)] 87)).grownBy w3 (Value.slice Ap q cp).ownBlock := ⟨hgrow3.os, hgrow3.tape, hgrow3.output, hgrow3.size, hgrow3.block⟩
                have cw0 : w3.cell? ⟨w.heap.size + 1 + 1 + 1 + 1, 0, none⟩ = some (.slice (some ⟨gw, 0, none⟩) (m + 1) c2) := hg3.cell a0 (fun e => by have : W.heap.size ≤ w.heap.size + 1 + 1 + 1 + 1 := HPV.out _ e.symm; omega)
                have cw1 : w3.cell? ⟨gw, m, none⟩ = some (.pointer (some ⟨blk p.1, 0, none⟩)) := hg3.cell a1 (fun e => by have : W.heap.size ≤ gw := HPV.out _ e.symm; omega)
                refine hK.out _ _ ⟨cw0, cw1⟩ (fun hHeld5 => ?_)
                clear hK K
                have hS3 : Hid (Same (fun k => (Value.slice Ap q cp).ownBlock = some k) wr w3) := (same_alloc _ wr _).trans (same_grown hg3 (fun k e => e))
                have B3 := HL3.out.same hS3.out HPB.out
                have B1 := HL1.out.same hS3.out (fun e => by have := HPV.out _ e; omega)
                have B6 := HSR.out.same hS3.out (fun e => by have := HPV.out _ e; omega)
                have j7 : w3.cell? ⟨w1.heap.size, 7, none⟩ = some (.slice Ap q cp) := B3.cell 7
                have z7 : w3.frozen? ⟨w1.heap.size, 7, none⟩ = false := B3.frozen 7
                refine wpAnyH_take (i := 11) (v := ?_) rfl (by kernel_rfl) (by kernel_rfl) (by kernel_rfl) (fun _ _ _ h => h) (Or.inl ⟨by kernel_rfl, ?_⟩) (by assumption) ?_
                rotate_left
                · intro w9 hS9; (try dsimp only at hS9); go_simp; (try with_reducible rfl)
                try simp only [Act.put, List.getElem_toArray, List.getElem_cons_succ, List.getElem_cons_zero, List.setIfInBounds_toArray, List.set_cons_zero, List.set_cons_succ]
                refine wpAnyH_take (i := 12) (v := ?_) rfl (by kernel_rfl) (by kernel_rfl) (by kernel_rfl) (fun _ _ _ h => h) (Or.inl ⟨by kernel_rfl, ?_⟩) (by assumption) ?_
                rotate_left
                · intro w9 hS9; (try dsimp only at hS9); go_simp; (try with_reducible rfl)
                try simp only [Act.put, List.getElem_toArray, List.getElem_cons_succ, List.getElem_cons_zero, List.setIfInBounds_toArray, List.set_cons_zero, List.set_cons_succ]
                refine wpAnyH_ready (rs := [13]) (by kernel_rfl) (by simp) ?_
                refine AllReadyH.cons rfl (fun K hK => ?_) AllReadyH.nil
                go_simp
                have f0 : (w3.setCell ⟨w1.heap.size, 7, none⟩ (.slice (some ⟨g', 0, none⟩) (q + 1) cap')).cell? ⟨w.heap.size + 1 + 1 + 1 + 1, 0, none⟩ = some (.slice (some ⟨gw, 0, none⟩) (m + 1) c2) := (B1.far (g' := w1.heap.size) (by omega) 7 _).cell 0
                have f1 : (w3.setCell ⟨w1.heap.size, 7, none⟩ (.slice (some ⟨g', 0, none⟩) (q + 1) cap')).cell? ⟨gw, m, none⟩ = some (.pointer (some ⟨blk p.1, 0, none⟩)) := (World.cell?_setCell_far w3 ⟨w1.heap.size, 7, none⟩ ⟨gw, m, none⟩ _ (by show w1.heap.size ≠ gw; omega)).trans cw1
                refine hK.out _ _ ⟨f0, f1⟩ (fun hHeld6 => ?_)
                clear hK K
                refine wpAnyH_done (by kernel_rfl) ?_ _
                refine NormOnly.normal ?_
                have f3 : (w3.setCell ⟨w1.heap.size, 7, none⟩ (.slice (some ⟨g', 0, none⟩) (q + 1) cap')).cell? ⟨blk p.1, 6, none⟩ = some (.int .i64 (p.2 : Int)) := by
                  have := (B6.far (g' := w1.heap.size) (by omega) 7 (.slice (some ⟨g', 0, none⟩) (q + 1) cap')).cell 6
                  rw [this, HP2.out]; rfl
                have B3' := B3.set 7 (.slice (some ⟨g', 0, none⟩) (q + 1) cap')
                have f6 : (w3.setCell ⟨w1.heap.size, 7, none⟩ (.slice (some ⟨g', 0, none⟩) (q + 1) cap')).cell? ⟨w1.heap.size, 6, none⟩ = some (.int .i64 (endQ S (at_, ⟨⟨(kk : Int), yf, yt, ym⟩, A0, n0, c0, A1, n1, c1⟩) q : Int)) := B3'.cell 6
                have z6 := B3'.frozen 6
                have z0 := (B1.far (g' := w1.heap.size) (by omega) 7 (.slice (some ⟨g', 0, none⟩) (q + 1) cap')).frozen 0
                have HSTEP := Lib.hid (LoopG.step (x := (at_, ⟨⟨(kk : Int), yf, yt, ym⟩, A0, n0, c0, A1, n1, c1⟩)) HL1.out HL2.out HL3.out HL4.out HL5.out HL6.out HL7.out HM.out HPD.out HPT.out HPG.out hg3 hown3 (by omega) (by omega) hgw (by omega) (by omega))
                clear hHeld5 hHeld6 cw0 cw1 B1 B3 B3' B6 j7 z7 hown3 hgrow3 hg3 d0 d1 d2 d3
                gi_wp2
                go_roundw
                case rel => exact ⟨q + 1, by omega, by go_num, HSTEP.out⟩
                case measure => simp [intOf]; omega
            · have hqe : q = fk := by omega
              subst hqe
              have HL := hL
              have HL2 := Lib.hid l2
              have hS5 := Lib.hid l5
              have hr0 := H4.out.lt
              have m0 : wr.cell? ⟨w.heap.size + 1 + 1 + 1 + 1, 0, none⟩ = some (.slice A2 (S.length - q) c2) := l1.cell 0
              have hob : Hid ((Value.slice A2 (S.length - q) c2).ownBlock = (Value.slice A2 S.length c2).ownBlock) := own_block _ _ _ _ _
              have hwD := Lib.hid H3.out.lt
              obtain ⟨u, hu⟩ : ∃ u, cs[at_]? = some u := ⟨_, Array.getElem?_eq_getElem (by have := H5'.out; omega)⟩
              have HU := Lib.hid hu
              have HL1 := Lib.hid l1
              have hsr := l6.size
              have hati : (at_ : Int) < (n : Int) := by omega
              have hqS : q ≤ S.length := by omega
              clear l1 l2 l3 l4 l5 l6 l7 hL hu
              gi_wp2_with (gi_at_builtin; refine wpListIn_append_sep rfl (Operand.tmp 76) (Operand.tmp 78) 78 rfl (w.heap.size + 6) 87 i0 (.pointer none) 1 8 Tryd.underlying78 hi hz0 hz1 hz2 rfl (by decide) (.slice A2 (S.length - q) c2) (S.length - q) _ rfl (HL2.out.alloc _) ⟨wr.heap.size, 0, none⟩ 1 1 [.pointer (some ⟨w1.heap.size, 0, none⟩)] rfl rfl (one_new wr _ _ _ rfl) (fun u hu => by obtain rfl := List.mem_singleton.1 hu; rfl) (by unfold maxLen; omega) (by omega) (by simp; omega) (by omega) ?_; intro g' cap' w3 hown3 hgrow3 hsep3; have hS3 : Hid (Same (fun k => (Value.slice A2 S.length c2).ownBlock = some k) wr w3) := (same_alloc _ wr _).trans (same_grown hgrow3 (fun k e => by rw [← hob.out]; exact e)); have B1 := HL1.out.same hS3.out (fun e => by have := (hwD.out _ e).1; omega); have B4 := (H4.out.same hS5.out (by show ¬ _ = _; omega)).same hS3.out (fun e => by have := (hwD.out _ e).1; omega); have B5 := (H5.out.same hS5.out (by show ¬ _ = _; omega)).same hS3.out (fun e => by have := (hwD.out _ e).1; omega); have v0 : w3.cell? ⟨w.heap.size + 1 + 1 + 1 + 1, 0, none⟩ = some (.slice A2 (S.length - q) c2) := B1.cell 0; have z0 := B1.frozen 0; have v4 : (w3.setCell ⟨w.heap.size + 1 + 1 + 1 + 1, 0, none⟩ (.slice (some ⟨g', 0, none⟩) (S.length - q + 1) cap')).cell? ⟨w.heap.size + 1 + 1 + 1, 0, none⟩ = some (.slice (some ⟨w.heap.size + 1 + 1, 0, none⟩) n n) := (B4.far (g' := w.heap.size + 1 + 1 + 1 + 1) (by omega) 0 _).cell 0; have B5' := B5.far (g' := w.heap.size + 1 + 1 + 1 + 1) (by omega) 0 (.slice (some ⟨g', 0, none⟩) (S.length - q + 1) cap'); have v5 : (w3.setCell ⟨w.heap.size + 1 + 1 + 1 + 1, 0, none⟩ (.slice (some ⟨g', 0, none⟩) (S.length - q + 1) cap')).cell? ⟨w.heap.size + 1 + 1, at_, none⟩ = some u := (B5'.cell at_).trans HU.out; have z5 := B5'.frozen at_; clear B1 B4 B5 B5')
              have hg3 : (wr.alloc (.cells #[.pointer (some ⟨w1.heap.size, 0, none⟩)] 87)).grownBy w3 (Value.slice A2 (S.length - q) c2).ownBlock := ⟨hgrow3.os, hgrow3.tape, hgrow3.output, hgrow3.size, hgrow3.block⟩
              obtain ⟨k1, k2, k3, k4, k5⟩ := LoopG.done (B0 := W0.heap.size) (x := (at_, ⟨⟨(kk : Int), yf, yt, ym⟩, A0, n0, c0, A1, n1, c1⟩)) H1.out HV.out (by rw [HFK.out]; exact hqS) H3.out H4.out H5.out H5'.out H6.out H7.out H8.out H9.out hBW (by rw [HFK.out]; exact HL.out) (by rw [HFK.out]; exact hg3) (by rw [HFK.out]; exact hown3) (by rw [HFK.out]; exact hsep3) (by omega) hat (by omega) (by omega)
              rw [HFK.out] at k1 k2 k3 k4 k5
              have k6 := k5 hI5 (by omega) (by omega) (by omega)
              refine ⟨k1, ⟨k2, fun _ => k6⟩, ?_, k4, k6⟩
              rw [List.map_append]
              exact k3
    case done =>
      rintro D ys W hD rfl ⟨hI, hs6, _⟩ hK
      have hmap : (upto f n).map Subtype.val = upto (bk g n) n := by
        unfold upto
        rw [List.map_map]
        exact List.map_congr_left fun k _ => hf k
      rw [hmap] at hI
      have hBW := hI.below
      have hlenx := h.1
      have hxg : ∀ j, j < n → xs[j]? = some (g j).x ∧ InL w B (g j).A0 (g j).n0 (g j).x.t.2 ∧ InL w B (g j).A1 (g j).n1 (g j).x.m := fun j hj => by
        obtain ⟨_, _, _, _, h1, _, h2, h3⟩ := hg j hj
        exact ⟨h1, h2, h3⟩
      obtain ⟨d, wv, hpb, k2, ⟨A3, c3, rfl⟩, k4, k7, k8, ⟨cs, k5⟩, blk, pvs, hTr⟩ := hI.trees hlenx (fun j hj => (hxg j hj).1) h60
      have HP := Lib.hid hpb
      have HT := Lib.hid hTr
      have HXG := Lib.hid hxg
      have a4 := k4.cell 0
      have a2 := k2.cell 0
      have a7 := k7.cell 0
      have a8 := k8.cell 0
      have z7 := k7.frozen 0
      have z8 := k8.frozen 0
      simp at a4 a2 a7 a8
      clear hpb hTr hxg hI hmap
      gi_wp2
      refine wpIn_wide.2 ?_
      go_region
      gi_wp2
      obtain ⟨j1, j2, j3, j4⟩ := SubsR.yes (Lb := w.heap.size + 1) HP.out hBW k5 k7 k8 HT.out HXG.out hK (by omega) (by omega)
      refine ⟨by simp, .inl ⟨_, _, rfl, run_takeDeferred ?_, ?_⟩⟩
      · exact j1
      · refine ⟨.tuple #[.slice (some ⟨w.heap.size + 1 + 1, 0, none⟩) n n, .bool ((d : Int) == 1)], ?_, ?_⟩
        · have j2' : (((((W.setCell ⟨w.heap.size, 0, none⟩ (.slice (some ⟨w.heap.size + 1 + 1, 0, none⟩) n n)).setCell ⟨w.heap.size + 1, 0, none⟩ (.bool ((d : Int) == 1)))).drew).putObj D (.deferred none)).cell? ⟨w.heap.size, 0, none⟩ = some (.slice (some ⟨w.heap.size + 1 + 1, 0, none⟩) n n) := j2
          have j3' : (((((W.setCell ⟨w.heap.size, 0, none⟩ (.slice (some ⟨w.heap.size + 1 + 1, 0, none⟩) n n)).setCell ⟨w.heap.size + 1, 0, none⟩ (.bool ((d : Int) == 1)))).drew).putObj D (.deferred none)).cell? ⟨w.heap.size + 1, 0, none⟩ = some (.bool ((d : Int) == 1)) := j3
          simp [results, Tryd.f48, go_sem, j2', j3']
        · obtain ⟨v, e1, e2, e3⟩ := j4
          exact ⟨v, e1, ⟨e2.os, e2.tape, e2.output, e2.size, e2.block⟩, e3⟩
    case stop =>
      rintro D c pre W hD ⟨k, hk, rfl⟩ ⟨rfl, hI⟩ hK
      obtain ⟨hnone, k7, k8, hBW⟩ := hI
      have hmap : (upto f k).map Subtype.val = upto (bk g n) k := by
        unfold upto
        rw [List.map_map]
        exact List.map_congr_left fun k _ => hf k
      rw [hmap] at hnone
      have hpf := (conv h.1 (fun j hj => by obtain ⟨_, _, _, _, h1, _⟩ := hg j hj; exact h1) k hk).2 hnone
      gi_wp2
      refine ⟨by simp, .inl ⟨_, _, rfl, run_takeDeferred hK, ?_⟩⟩
      have c7 := cell_kept (k7.cell 0) (grownBy_putObj' _ D (.deferred none)) (fun r e => by cases e; exact ⟨_, hK, rfl⟩)
      have c8 := cell_kept (k8.cell 0) (grownBy_putObj' _ D (.deferred none)) (fun r e => by cases e; exact ⟨_, hK, rfl⟩)
      refine ⟨.tuple #[.slice none 0 0, .bool false], ?_, SubsR.no hpf (hBW.trans (belowK_b (w := w) (Nat.le_refl _) W D _ _ (by omega) hK rfl rfl))⟩
      simp at c7 c8
      simp [results, Tryd.f48, go_sem, c7, c8]
  · have r1 : (60 : Int) < (n : Int) := by omega
    have hpf := proofB_size (xs := xs) (by rw [h.1]; omega)
    gi_wp2
    refine ⟨.tuple #[.slice none 0 0, .bool false], ?_, SubsR.no hpf (bon (bnew _ _) (bnew _ _))⟩
    simp [results, Tryd.f48, go_sem]

theorem subs_c (A : Option Addr) (n c B : Nat) (xs : List N5) (w : World) (hT : TabN w) (h : InN5 w B A n xs) (hB : B ≤ w.heap.size) (hn : n ≤ 1048576) (he : totN5 xs ≤ 1048576) :
    Calls Tryd.prog 48 #[.slice A n c] w (SubsR w B n xs) := callsIn_wide.1 (subs_in A n c B xs w hT h hB hn he)

set_option maxRecDepth 100000 in
theorem isProof_c (A : Option Addr) (n c B : Nat) (xs : List N5) (w : World) (hT : TabN w) (h : InN5 w B A n xs) (hB : B ≤ w.heap.size) (hn : n ≤ 1048576) (he : totN5 xs ≤ 1048576) :
    Calls Tryd.prog 13 #[.slice A n c] w fun e w' => e = .returned (.bool (proofB xs)) ∧ Below w.heap.size w w' := by
  have HS := Lib.hid (subs_c A n c B xs w hT h hB hn he)
  go_enter Tryd.func13, Tryd.ntmps13
  go_wp2_with fail
  refine HS.out.mono ?_
  rintro e w1 ⟨v, rfl, hb, _⟩
  go_wp2_with fail
  go_ret
  exact ⟨rfl, hb⟩
end Go.Proofs.YtejgpooghengmaaDoor

