/-
  unfolded, at pairs of states, with the step in both policies. Conditions: at most 1000 items.
-/
import Derived.Test.YtpdgnmdjneakgaaUnfQM
import Derived.Test.YtpdgnmdjneakgaaBoundA
import Derived.Test.YtpdgnmdjneakgaaRepeat
import Derived.Test.YtpdgnmdjneakgaaPolS
import Derived.Test.YtpdgnmdjneakgaaRound
import Derived.Deep.RegionHeld3
namespace Go.Proofs.Ytpdgnmdjneakgaa
set_option linter.unusedVariables false
open Go.RowKit Go.Shelf Go.Deep
attribute [local go_sem] Oper.semAt_some

/-- What unfolded gives. -/
def UnfRQ (κ : Int) (st : Int → Nat → Int × Bool) (w : World) (e : Ending) (w' : World) : Prop :=
  ∃ L R v gs A c, UnfEnd st 0 L R ∧ e = .returned (.tuple #[.agg #[v], .slice A L.length c]) ∧ RowsP w' w.heap.size v gs R (fun k => (Value.slice A 0 0).ownBlock = some k) ∧ w'.ownsRow w.heap.size 52 2 (.slice A L.length c) L.length (L.flatMap (pv κ)) ∧ Below w.heap.size w w'

/-- The item's block, within a round. -/
structure ItemQ (κ : Int) (gx bL b : Nat) (x : Int) (A : Option Addr) (g : Nat) (W : World) : Prop where
  box : BlkIs W gx 52 #[.int .i64 (x / κ), .int .i64 (x % κ)]
  out : ¬ wb bL A (some b) gx
  ne : gx ≠ g
theorem ItemQ.fresh {κ : Int} {gx bL b : Nat} {x : Int} {A : Option Addr} {g : Nat} {W W' : World} (h : ItemQ κ gx bL b x A g W) (hb : Below W.heap.size W W') : ItemQ κ gx bL b x A g W' := ⟨h.box.next hb, h.out, h.ne⟩
theorem ItemQ.yes {κ : Int} {gx bL b : Nat} {x : Int} {A A' : Option Addr} {g j : Nat} {W W' : World} {v : Value} (h : ItemQ κ gx bL b x A g W) (ht : Turns (wb bL A (some b)) W W') (hn : ∀ k, wb bL A' (some b) k → wb bL A (some b) k ∨ W.heap.size ≤ k) : ItemQ κ gx bL b x A' g (W'.setCell ⟨g, j, none⟩ v) :=
  ⟨(ht.blk h.box h.out).far (fun e => h.ne e) j v, fun e => by
    rcases hn gx e with h' | h'
    · exact h.out h'
    · have := h.box.lt; omega, h.ne⟩

set_option maxRecDepth 100000 in
set_option maxHeartbeats 4000000 in
theorem unfoldedQ_in (κ : Int) (hκ : 0 < κ) (st : Int → Nat → Int × Bool) (N : Nat) (hst : Stays st N) (hN : N ≤ 1000) (hx0 : (0 : Int) ≤ 0 ∧ (0 : Int) < (N : Int)) (bq bk : Nat) (w : World)
    (HF0 : ∀ (W : World) (x : Int) (e : Nat), Below w.heap.size w W → 0 ≤ x → x < (N : Int) → e < 4 → Calls Try.prog 34 #[.agg #[.int .i64 (x / κ), .int .i64 (x % κ)], .int .i64 (e : Int), .pointer (some ⟨bq, 0, none⟩), .pointer (some ⟨bk, 0, none⟩)] W fun v w' => v = .returned (.tuple #[.agg #[.int .i64 ((st x e).1 / κ), .int .i64 ((st x e).1 % κ)], .bool (st x e).2]) ∧ Below W.heap.size W w') :
    CallsIn Fence.wide 5 Try.prog 33 #[.agg #[.int .i64 0, .int .i64 0], .func (.func 34) #[] #[.pointer (some ⟨bq, 0, none⟩), .pointer (some ⟨bk, 0, none⟩)]] w (UnfRQ κ st w) := by
  refine callsIn_of_wp_marks Try.func33 rfl trivial ?_ rfl
  simp only [Try.ntmps33, List.size_toArray, List.length_cons, List.length_nil, Nat.reduceAdd, Nat.reduceSub, Array.replicate_succ, Array.replicate_zero, List.push_toArray, List.append_toArray, List.nil_append, List.cons_append]
  obtain ⟨FV, hFV⟩ : ∃ FV : Value, FV = .func (.func 34) #[] #[.pointer (some ⟨bq, 0, none⟩), .pointer (some ⟨bk, 0, none⟩)] := ⟨_, rfl⟩
  have HF := Lib.hid HF0
  clear HF0
  have hB0 : Below w.heap.size w (((((w.alloc (.cells #[.int .i64 0, .int .i64 0] 52)).alloc (.cells #[.func (.func 34) #[] #[.pointer (some ⟨bq, 0, none⟩), .pointer (some ⟨bk, 0, none⟩)]] 69)).alloc (.cells #[.slice none 0 0] 26)).alloc (.cells #[.slice none 0 0] 26)).alloc (.cells #[.slice none 0 0, .map none] 82)) := bon (bon (bon (bon (bnew _ _) (bnew _ _)) (bnew _ _)) (bnew _ _)) (bnew _ _)
  have hsz : (((((w.alloc (.cells #[.int .i64 0, .int .i64 0] 52)).alloc (.cells #[.func (.func 34) #[] #[.pointer (some ⟨bq, 0, none⟩), .pointer (some ⟨bk, 0, none⟩)]] 69)).alloc (.cells #[.slice none 0 0] 26)).alloc (.cells #[.slice none 0 0] 26)).alloc (.cells #[.slice none 0 0, .map none] 82)).heap.size = w.heap.size + 5 := by simp
  have bx : BlkIs (((((w.alloc (.cells #[.int .i64 0, .int .i64 0] 52)).alloc (.cells #[.func (.func 34) #[] #[.pointer (some ⟨bq, 0, none⟩), .pointer (some ⟨bk, 0, none⟩)]] 69)).alloc (.cells #[.slice none 0 0] 26)).alloc (.cells #[.slice none 0 0] 26)).alloc (.cells #[.slice none 0 0, .map none] 82)) w.heap.size 52 #[.int .i64 0, .int .i64 0] := ((((blk_new _ _ _ _ rfl).next (bnew _ _)).next (bnew _ _)).next (bnew _ _)).next (bnew _ _)
  have b0 : BlkIs (((((w.alloc (.cells #[.int .i64 0, .int .i64 0] 52)).alloc (.cells #[.func (.func 34) #[] #[.pointer (some ⟨bq, 0, none⟩), .pointer (some ⟨bk, 0, none⟩)]] 69)).alloc (.cells #[.slice none 0 0] 26)).alloc (.cells #[.slice none 0 0] 26)).alloc (.cells #[.slice none 0 0, .map none] 82)) (w.heap.size + 1) 69 #[.func (.func 34) #[] #[.pointer (some ⟨bq, 0, none⟩), .pointer (some ⟨bk, 0, none⟩)]] := (((blk_new _ _ _ _ (by simp)).next (bnew _ _)).next (bnew _ _)).next (bnew _ _)
  have b1 : BlkIs (((((w.alloc (.cells #[.int .i64 0, .int .i64 0] 52)).alloc (.cells #[.func (.func 34) #[] #[.pointer (some ⟨bq, 0, none⟩), .pointer (some ⟨bk, 0, none⟩)]] 69)).alloc (.cells #[.slice none 0 0] 26)).alloc (.cells #[.slice none 0 0] 26)).alloc (.cells #[.slice none 0 0, .map none] 82)) (w.heap.size + 1 + 1) 26 #[.slice none 0 0] := ((blk_new _ _ _ _ (by simp)).next (bnew _ _)).next (bnew _ _)
  have b2 : BlkIs (((((w.alloc (.cells #[.int .i64 0, .int .i64 0] 52)).alloc (.cells #[.func (.func 34) #[] #[.pointer (some ⟨bq, 0, none⟩), .pointer (some ⟨bk, 0, none⟩)]] 69)).alloc (.cells #[.slice none 0 0] 26)).alloc (.cells #[.slice none 0 0] 26)).alloc (.cells #[.slice none 0 0, .map none] 82)) (w.heap.size + 1 + 1 + 1) 26 #[.slice none 0 0] := (blk_new _ _ _ _ (by simp)).next (bnew _ _)
  have b3 : BlkIs (((((w.alloc (.cells #[.int .i64 0, .int .i64 0] 52)).alloc (.cells #[.func (.func 34) #[] #[.pointer (some ⟨bq, 0, none⟩), .pointer (some ⟨bk, 0, none⟩)]] 69)).alloc (.cells #[.slice none 0 0] 26)).alloc (.cells #[.slice none 0 0] 26)).alloc (.cells #[.slice none 0 0, .map none] 82)) (w.heap.size + 1 + 1 + 1 + 1) 82 #[.slice none 0 0, .map none] := blk_new _ _ _ _ (by simp)
  obtain ⟨W4, hW4⟩ : ∃ W4, (((((w.alloc (.cells #[.int .i64 0, .int .i64 0] 52)).alloc (.cells #[.func (.func 34) #[] #[.pointer (some ⟨bq, 0, none⟩), .pointer (some ⟨bk, 0, none⟩)]] 69)).alloc (.cells #[.slice none 0 0] 26)).alloc (.cells #[.slice none 0 0] 26)).alloc (.cells #[.slice none 0 0, .map none] 82)) = W4 := ⟨_, rfl⟩
  rw [hW4] at hB0 hsz b0 b1 b2 b3 bx
  have q0 := bx.cell 0
  have q1 := bx.cell 1
  simp at q0 q1
  have hWL0 : WLQ κ W4 (w.heap.size + 1 + 1 + 1 + 1) w.heap.size (w.heap.size + 7) none 0 none [] := ⟨b3, by omega, World.ownsRow_nil _ _ _ _, (fun b e => by cases e), fun _ => rfl⟩
  have HADD := Lib.hid (addQ_first_c κ (w.heap.size + 1 + 1 + 1 + 1) w.heap.size (w.heap.size + 7) none 0 [] 0 0 0 (Int.zero_ediv _) (Int.zero_emod _) W4 hWL0 rfl ⟨hκ, by omega, by omega⟩ (by omega) (by omega))
  gi_wp2_with (refine ⟨trivial, ?_⟩; gi_at_call 45; (try rw [hW4]); refine (callsIn_wide.2 HADD.out).mono ?_; rintro e w1 ⟨A1, c1, b, rfl, hW1, ht1, hn1⟩)
  clear HADD hWL0 hW4 q0 q1 bx
  rw [addL_new (by simp), List.nil_append] at hW1
  have hs1 := ht1.size
  have hnb : ∀ k, k < w.heap.size + 4 → ¬ wb (w.heap.size + 1 + 1 + 1 + 1) A1 (some b) k := fun k hk e => by
    rcases hn1 k e with h | h <;> omega
  have hI0 : UnfIQ κ st 0 w FV (w.heap.size + 1) (w.heap.size + 1 + 1) (w.heap.size + 1 + 1 + 1) (w.heap.size + 1 + 1 + 1 + 1) (w.heap.size + 7) b ([0], 0) A1 c1 (.slice none 0 0) [] w1 := by
    have hbx := (hW1.num b rfl).2.2.lt
    refine ⟨⟨?_, ht1.blk b1 (by omega), ht1.blk b2 (by omega), hW1, RowsP.nil _ _ _, ?_, ⟨by omega, by omega, by omega, by omega, by omega, by omega, ?_⟩, ⟨hnb _ (by omega), hnb _ (by omega), hnb _ (by omega), by omega, by omega, by omega⟩⟩, Nat.zero_le _, rfl⟩
    · rw [hFV]; exact ht1.blk b0 (by omega)
    · exact hB0.trans ((ht1.below (B := w.heap.size) (fun k hk => by omega) (by omega)))
    · have hx := (hW1.num b rfl).2.2.lt
      have hm := hn1 b (.inr (.inr rfl))
      obtain ⟨hne, hne2⟩ := hW1.map_ne rfl
      obtain ⟨r, rfl⟩ : ∃ r, A1 = some ⟨r, 0, none⟩ := by
        rcases hW1.row.2 with h' | ⟨r, cap, cur, k1, _⟩
        · have := h'.2; simp at this
        · injection k1 with k1; exact ⟨r, k1⟩
      have hr1 := hn1 r (.inr (.inl rfl))
      have hr2 := (hW1.row.lt r rfl).2
      have hr3 := hW1.row_ne
      have hr4 : r ≠ b := fun e => hne2 (by rw [e]; rfl)
      have hr5 : r ≠ w.heap.size + 1 + 1 + 1 + 1 := fun e => hr3 (by rw [e]; rfl)
      omega
  obtain ⟨i0, hi0⟩ : ∃ i0 : Int, ((addL 0 []).idxOf 0 : Int) = i0 := ⟨_, rfl⟩
  rw [hi0]
  refine range_boundA (σ := List Int × Nat) (α := Int) rfl (by omega) (gf := 46) (bd := #[.pointer (some ⟨w.heap.size + 1 + 1 + 1 + 1, 0, none⟩)]) rfl trivial (enters_of Try.func46 (by kernel_rfl) rfl) (encs := fun x : Int => #[.agg #[.int .i64 (x / κ), .int .i64 (x % κ)]]) (fun _ => rfl)
    (fun s W => w1.heap.size ≤ W.heap.size ∧ ∃ A c v gs, UnfIQ κ st 0 w FV (w.heap.size + 1) (w.heap.size + 1 + 1) (w.heap.size + 1 + 1 + 1) (w.heap.size + 1 + 1 + 1 + 1) (w.heap.size + 7) b s A c v gs W)
    (fun _ _ => False) ?own (fun _ _ _ _ h _ _ => h) (s0 := ([0], 0)) ⟨Nat.le_refl _, A1, c1, _, _, hI0⟩
    (eachQ_rounds κ Fence.wide 4 trivial rfl (by omega) (w.heap.size + 1 + 1 + 1 + 1) _ (fun L k W h => by
      obtain ⟨_, A, c, v, gs, h⟩ := h
      refine ⟨h.2.1, ?_, _, _, A, c, some b, h.1.wl⟩
      have h1 := h.2.2
      have h2 := (unf_among hst hx0 k).len
      rw [h1] at h2
      exact Nat.le_trans h2 hN) [0])
    (fun y W => ∃ gx, y.2.2 = { tmps := #[.agg #[.int .i64 0, .int .i64 0], .func (.func 34) #[] #[.pointer (some ⟨bq, 0, none⟩), .pointer (some ⟨bk, 0, none⟩)], .pointer (some ⟨w.heap.size, 0, none⟩), .pointer (some ⟨w.heap.size + 1, 0, none⟩), .pointer (some ⟨w.heap.size + 1 + 1, 0, none⟩), .slice none 0 0, .pointer (some ⟨w.heap.size + 1 + 1 + 1, 0, none⟩), .pointer (some ⟨w.heap.size + 1 + 1 + 1 + 1, 0, none⟩), .pointer (some ⟨gx, 0, none⟩), undef, undef, undef, undef, .agg #[.int .i64 0, .int .i64 0], .int .i64 i0, .func (.func 46) #[.pointer (some ⟨w.heap.size + 1 + 1 + 1 + 1, 0, none⟩)] #[], .agg #[.int .i64 (y.2.1 / κ), .int .i64 (y.2.1 % κ)], undef, undef, undef, undef, undef, undef, undef, undef, undef, undef, undef, undef, undef, undef, undef, undef, undef, undef, undef, undef, undef, undef, undef, undef, undef, undef, undef, undef, undef, undef], defers := [] } ∧ w1.heap.size ≤ gx ∧ BlkIs W gx 52 #[.int .i64 (y.2.1 / κ), .int .i64 (y.2.1 % κ)] ∧ w1.heap.size ≤ W.heap.size ∧ ∃ A c v gs, UnfIQ κ st 0 w FV (w.heap.size + 1) (w.heap.size + 1 + 1) (w.heap.size + 1 + 1 + 1) (w.heap.size + 1 + 1 + 1 + 1) (w.heap.size + 7) b y.1 A c v gs W ∧ ¬ usedC (w.heap.size + 1) (w.heap.size + 1 + 1) (w.heap.size + 1 + 1 + 1) (w.heap.size + 1 + 1 + 1 + 1) b A v gs gx) ?ownY ?assign ?body ?done ?stop
  case own =>
    rintro s W W' row ⟨h1, A, c, v, gs, h⟩ hg hr
    exact ⟨Nat.le_trans h1 hg.size, A, c, v, gs, h.1.other hg (fun r e => ⟨by have := (hr r e).1; have := hI0.1.bs; omega, (hr r e).2⟩), h.2⟩
  case ownY =>
    rintro ⟨s, x, a'⟩ W W' row ⟨gx, h0, hgx, hbx, h1, A, c, v, gs, h, hu⟩ hg hr
    refine ⟨gx, h0, hgx, hbx.by_grown hg (fun e => ?_), Nat.le_trans h1 hg.size, A, c, v, gs, ⟨h.1.other hg (fun r e => ⟨by have := (hr r e).1; have := hI0.1.bs; omega, (hr r e).2⟩), h.2⟩, hu⟩
    obtain ⟨_, o, ho, hc⟩ := hr gx e
    unfold BlkIs at hbx
    rw [ho] at hbx
    obtain rfl := Option.some.inj hbx
    cases hc
  case assign =>
    intro l s x W K hI hx hK
    obtain ⟨h1, A, c, v, gs, h⟩ := hI
    have hC : UnfCQ κ w FV (w.heap.size + 1) (w.heap.size + 1 + 1) (w.heap.size + 1 + 1 + 1) (w.heap.size + 1 + 1 + 1 + 1) (w.heap.size + 7) b s.1 (unf st 0 s.2).2 A c v gs W := h.1
    gi_wp2
    refine hK _ _ (?B : Below W.heap.size W _) ?_
    case B => first | exact bnew _ _ | exact (bnew _ _).setCell (p := ⟨W.heap.size, 0, none⟩) (by simp) _
    refine ⟨W.heap.size, rfl, by omega, ?_, ?_, A, c, v, gs, ?_, fun hu => by have := hC.lt hu; omega⟩
    · exact blk_new _ _ _ _ rfl
    · simp; omega
    · exact ⟨hC.fresh (bnew _ _), h.2⟩
  case body =>
    rintro l ⟨L, k⟩ x a' W hl ⟨gx, ha', hgx, hbx, hW1W, A, c, v, gs, ⟨h, hle, hrun⟩, hu⟩ hx
    dsimp only at ha'
    subst ha'
    have hx' : L[k]? = some x := hx
    have hle' : k ≤ L.length := hle
    have hrun' : (unf st 0 k).1 = L := hrun
    have hAm := unf_among hst hx0 k
    rw [hrun'] at hAm
    have hxr := hAm.2 x (List.mem_of_getElem? hx')
    have hR4 := unf_rows hst hx0 k
    have hB5 := hI0.1.bs
    have hC : UnfCQ κ w FV (w.heap.size + 1) (w.heap.size + 1 + 1) (w.heap.size + 1 + 1 + 1) (w.heap.size + 1 + 1 + 1 + 1) (w.heap.size + 7) b L (unf st 0 k).2 A c v gs W := h
    have hWs := hC.below.size
    have hbT := bnew W (.cells #[.int .i64 (-1)] 2)
    have HREP := Lib.hid (repeat4_c W.heap.size (W.alloc (.cells #[.int .i64 (-1)] 2)) (by simp))
    have hbx2 : BlkIs W gx 52 #[.int .i64 (x / κ), .int .i64 (x % κ)] := hbx
    have hgxl := hbx2.lt
    clear h hle hrun hx hbx
    gi_wp2_with (refine ⟨trivial, ?_⟩; gi_at_call 47; refine (CallsIn.inRound l (callsIn_wide.2 HREP.out)).mono ?_; rintro e w2 ⟨g, rfl, hgw, hB, hb2⟩)
    have hbT2 : Below W.heap.size W w2 := bon hbT hb2
    have hgW : W.heap.size ≤ g := by simp at hgw; omega
    have hE0 : EvIQ κ st w FV (w.heap.size + 1) (w.heap.size + 1 + 1) (w.heap.size + 1 + 1 + 1) (w.heap.size + 1 + 1 + 1 + 1) (w.heap.size + 7) b w1.heap.size x L (unf st 0 k).2 v gs g W 0 A c w2 :=
      ⟨hC.fresh hbT2, hB, fun hu => by have := hC.lt hu; omega, hgW, keeps_freshQ hbT2, hWs⟩
    have hIt0 : ItemQ κ gx (w.heap.size + 1 + 1 + 1 + 1) b x A g w2 := ⟨hbx2.next hbT2, fun e => hu (.inr (.inr (.inr (.inl e)))), by omega⟩
    clear HREP hb2 hgw hB hbT hbx2 hu
    gi_loopw [10, 11, 12, 21] (fun _ _ _ i wr => ∃ (j : Nat) (A' : Option Addr) (c' : Nat), j ≤ 4 ∧ i = .int .i64 j ∧ EvIQ κ st w FV (w.heap.size + 1) (w.heap.size + 1 + 1) (w.heap.size + 1 + 1 + 1) (w.heap.size + 1 + 1 + 1 + 1) (w.heap.size + 7) b w1.heap.size x L (unf st 0 k).2 v gs g W j A' c' wr ∧ ItemQ κ gx (w.heap.size + 1 + 1 + 1 + 1) b x A' g wr) (fun _ _ _ i _ => 4 - (intOf i).toNat)
    case atStart => exact ⟨0, A, c, Nat.zero_le _, rfl, hE0, hIt0⟩
    case round =>
      clear hE0 hIt0 hbT2
      obtain ⟨j, A', c', hj, rfl, hE, hIt⟩ := hrel
      have hbx : wr.cell? ⟨w.heap.size + 1, 0, none⟩ = some FV := hE.core.box.cell 0
      rw [hFV] at hbx
      have y0 : wr.cell? ⟨gx, 0, none⟩ = some (.int .i64 (x / κ)) := hIt.box.cell 0
      have y1 : wr.cell? ⟨gx, 1, none⟩ = some (.int .i64 (x % κ)) := hIt.box.cell 1
      by_cases hlt : j < 4
      · have i1 : (j : Int) < 4 := by omega
        have HFj0 := HF.out wr x j hE.core.below hxr.1 hxr.2 hlt
        cases hv : (st x j).2 with
        | false =>
          rw [hv] at HFj0
          have HFj := Lib.hid HFj0
          have HE2 := Lib.hid (fun W9 (hb9 : Below wr.heap.size wr W9) => And.intro ((hE.fresh hb9).no hv) (hIt.fresh hb9))
          clear HFj0 hv hE hIt
          obtain ⟨z0, hz0⟩ : ∃ z0, (st x j).1 / κ = z0 := ⟨_, rfl⟩
          obtain ⟨z1, hz1⟩ : ∃ z1, (st x j).1 % κ = z1 := ⟨_, rfl⟩
          rw [hz0, hz1] at HFj
          clear hz0 hz1
          gi_wp2_with (refine ⟨trivial, ?_⟩; gi_at_call 34; refine (CallsIn.inRound l (callsIn_wide.2 HFj.out)).mono ?_; rintro e w3 ⟨rfl, hb3⟩)
          go_roundw
          case rel => exact ⟨j + 1, A', c', by omega, by go_num, HE2.out _ (bon hb3 (bnew _ _))⟩
          case measure => simp [intOf]; omega
        | true =>
          obtain ⟨hyr, hMlen⟩ : (0 ≤ (st x j).1 ∧ (st x j).1 ≤ 1000000) ∧ (evT st x L j).1.length ≤ 1000 := by
            have h1 := hst x j hxr.1 hxr.2 hlt hv
            have h2 := (evT_among hst hxr hAm j (by omega)).1.len
            omega
          have hr4 : ((evT st x L j).2.map ic).length = 4 := by rw [List.length_map]; exact (evT_among hst hxr hAm j (by omega)).2.2
          rw [hv] at HFj0
          have HFj := Lib.hid HFj0
          have HADD := Lib.hid (fun W9 (hb9 : Below wr.heap.size wr W9) => addQ_c κ (w.heap.size + 1 + 1 + 1 + 1) w.heap.size (w.heap.size + 7) A' c' b (evT st x L j).1 (st x j).1 _ _ rfl rfl W9 (hE.fresh hb9).core.wl ⟨hκ, hyr⟩ hMlen (hE.fresh hb9).core.below.size)
          have HY := Lib.hid (fun W9 (hb9 : Below wr.heap.size wr W9) W10 A2 c2 => (hE.fresh hb9).yes (A' := A2) (c' := c2) (W'' := W10) (by omega) hv)
          have HIY := Lib.hid (fun W9 (hb9 : Below wr.heap.size wr W9) W10 A2 v2 => (hIt.fresh hb9).yes (A' := A2) (W' := W10) (j := j) (v := v2))
          have HROW := Lib.hid (fun W9 (hb9 : Below wr.heap.size wr W9) W10 (ht : Turns (wb (w.heap.size + 1 + 1 + 1 + 1) A' (some b)) W9 W10) => ht.blk (hE.fresh hb9).row (fun hu => hE.out (.inr (.inr (.inr (.inl hu))))))
          obtain ⟨rw_, hrw⟩ : ∃ rw_, (evT st x L j).2.map ic = rw_ := ⟨_, rfl⟩
          rw [hrw] at HROW hr4
          clear HFj0 hrw
          obtain ⟨y, hy⟩ : ∃ y, (st x j).1 = y := ⟨_, rfl⟩
          rw [hy] at HFj HADD HY hyr
          obtain ⟨q, hq⟩ : ∃ q : Int, ((addL y (evT st x L j).1).idxOf y : Int) = q := ⟨_, rfl⟩
          rw [hq] at HADD HY
          obtain ⟨z0, hz0⟩ : ∃ z0, y / κ = z0 := ⟨_, rfl⟩
          obtain ⟨z1, hz1⟩ : ∃ z1, y % κ = z1 := ⟨_, rfl⟩
          rw [hz0, hz1] at HFj HADD
          clear hv hE hy hq hz0 hz1 hIt
          gi_wp2_with (first
            | (refine ⟨trivial, ?_⟩; gi_at_call 34; refine (CallsIn.inRound l (callsIn_wide.2 HFj.out)).mono ?_; rintro e w3 ⟨rfl, hb3⟩; have hb4 := bon hb3 (bnew w3 (.cells #[.int .i64 z0, .int .i64 z1] 52)); have hadd := Lib.hid (HADD.out _ hb4))
            | (refine ⟨trivial, ?_⟩; gi_at_call 45; refine (CallsIn.inRound l (callsIn_wide.2 hadd.out)).mono ?_; rintro e w4 ⟨A2, c2, rfl, hw4, ht4, hn4⟩; have hrow4 := HROW.out _ hb4 w4 ht4; have hcl := hrow4.cell j; have hfr := hrow4.frozen j; rw [List.getElem?_toArray, List.getElem?_eq_getElem (by omega)] at hcl))
          go_roundw
          case rel => exact ⟨j + 1, A2, c2, by omega, by go_num, HY.out _ hb4 w4 A2 c2 hw4 ht4 hn4, HIY.out _ hb4 w4 A2 _ ht4 hn4⟩
          case measure => simp [intOf]; omega
      · have hj4 : j = 4 := by omega
        subst hj4
        obtain ⟨j0, hi, hz0, hz1, hz2⟩ := info_parts infoRow
        have hown := hE.core.rows.own
        obtain ⟨Av, cv, rfl, _⟩ := own_slice hown
        have hp0 : wr.cell? ⟨w.heap.size + 1 + 1 + 1, 0, none⟩ = some (.slice Av (unf st 0 k).2.length cv) := hE.core.pol.cell 0
        have hRl := unf_len st 0 k
        have hLN := hAm.len
        have hbl := hE.core.below.size
        have hpv := hE.core.row_ne hE.core.pol (by decide)
        have HPOL := Lib.hid hE.core.pol
        have HEE := Lib.hid hE
        have hgsW : Hid (∀ k' ∈ gs, k' < W.heap.size) := fun k' hk' => (hC.rows.lt hk').2.1
        have hNX := Lib.hid (unf_next (st := st) (x0 := 0) (by rw [hrun']; exact hx'))
        obtain ⟨m, hm⟩ : ∃ m, (unf st 0 k).2.length = m := ⟨_, rfl⟩
        rw [hm] at hown hp0 hRl hpv HPOL
        have HM := Lib.hid hm
        clear hm hE hIt y0 y1
        gi_wp2_with (gi_at_builtin; refine wpListIn_append_sep rfl _ _ 24 rfl w.heap.size 29 j0 (.slice none 0 0) 1 24 Try.underlying24 hi hz0 hz1 hz2 rfl (by decide) _ _ _ rfl (hown.alloc _) ⟨wr.heap.size, 0, none⟩ 1 1 [.slice (some ⟨g, 0, none⟩) 4 4] rfl rfl (cell_one_new _ _ _) (by simp [Value.oneCell']) (by unfold maxLen; omega) (by omega) (by simp; omega) (by omega) ?_; intro g' cap' w5 hown5 hgrow5 hsep5; have hp5 := (HPOL.out.next (bnew wr (.cells #[.slice (some ⟨g, 0, none⟩) 4 4] 29))).by_grown hgrow5 hpv; have hp6 := hp5.cell 0; have hp7 := hp5.frozen 0; simp at hp6)
        have hm := HM.out
        subst hm
        have hre := HEE.out.rowed (by omega) hW1W hgsW.out hown5 hgrow5 hsep5
        subst hFV
        refine ⟨hre.2, ⟨(evT st x L 4).1, k + 1⟩, rfl, ?_, A', c', .slice (some ⟨g', 0, none⟩) ((unf st 0 k).2.length + 1) cap', gs ++ [g], ?_, ?_, ?_⟩
        · have := hre.2.size; omega
        · show UnfCQ κ _ _ _ _ _ _ _ _ (evT st x L 4).1 (unf st 0 (k + 1)).2 _ _ _ _ _
          rw [hNX.out]
          rw [hrun']
          exact hre.1
        · have h1 := (List.getElem?_eq_some_iff.1 hx').1
          have h2 := (evT_among hst hxr hAm 4 (Nat.le_refl _)).2.1.length_le
          show k + 1 ≤ (evT st x L 4).1.length
          omega
        · show (unf st 0 (k + 1)).1 = (evT st x L 4).1
          rw [hNX.out, hrun']
  case done =>
    rintro D ⟨L, k⟩ W hD hF ⟨_, A, c, v, gs, h, hle, hrun⟩ hK
    obtain ⟨Av, cv, rfl, _⟩ := own_slice h.rows.own
    have p0 : W.cell? ⟨w.heap.size + 1 + 1 + 1, 0, none⟩ = some (.slice Av (unf st 0 (L, k).2).2.length cv) := h.pol.cell 0
    have l0 : W.cell? ⟨w.heap.size + 1 + 1 + 1 + 1, 0, none⟩ = some (.slice A (L, k).1.length c) := h.wl.box.cell 0
    have r0 := h.res.cell 0
    have r1 := h.res.frozen 0
    have HH := Lib.hid h
    have hF' : Hid (k = L.length) := hF
    clear h
    gi_wp2
    refine wpIn_wide.2 ?_
    go_region
    gi_wp2
    subst hFV
    obtain rfl := hF'.out
    obtain ⟨j1, j2, j3, j4, j5⟩ := HH.out.leave hK (by have := hI0.1.bs; omega)
    refine ⟨by simp, .inl ⟨_, _, rfl, run_takeDeferred j1, ?_⟩⟩
    refine ⟨.tuple #[.agg #[.slice Av (unf st 0 L.length).2.length cv], .slice A L.length c], ?_, ?_⟩
    · simp [results, Try.f33, go_sem, j2]
    · exact ⟨L, (unf st 0 L.length).2, .slice Av (unf st 0 L.length).2.length cv, gs, A, c, ⟨L.length, Prod.ext hrun rfl, rfl⟩, rfl, j3, j4, j5⟩
  case stop =>
    intro D c W hD h
    exact h.elim
end Go.Proofs.Ytpdgnmdjneakgaa
