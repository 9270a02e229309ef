/-
  The model's search for a word that policies tell apart. Conditions: valid policies.
-/
import Derived.Test.YtopijecdhjnipaaFindP
import Derived.Test.YtopijecdhjnipaaBothA
import Derived.Test.YtopijecdhjnipaaOwn64
namespace Go.Proofs.Ytopijecdhjnipaa
set_option linter.unusedVariables false
set_option linter.unnecessarySimpa false
set_option linter.unusedSimpArgs false
open Go.RowKit

theorem wT_words {st : Int → Nat → Int × Bool} {x : Int} {wd : List Int} {Q : List (Int × List Int)} {k : Nat} (hQ : ∀ u ∈ Q, u.2.length ≤ k) (hw : wd.length < k) : ∀ j, ∀ u ∈ wT st x wd Q j, u.2.length ≤ k
  | 0, u, hu => hQ u hu
  | j + 1, u, hu => by
    have ih := wT_words (st := st) (x := x) hQ hw j
    rw [wT] at hu
    unfold wS at hu
    split at hu
    · rcases List.mem_append.1 hu with h | h
      · exact ih u h
      · simp at h; subst h; simp; omega
    · exact ih u hu
theorem wunf_words {st : Int → Nat → Int × Bool} : ∀ k, ∀ u ∈ wunf st k, u.2.length ≤ k
  | 0, u, hu => by simp [wunf] at hu; subst hu; simp
  | k + 1, u, hu => by
    have ih := wunf_words (st := st) k
    rcases Nat.lt_or_ge k (wunf st k).length with h | h
    · have e1 : (wunf st k)[k]? = some (wunf st k)[k] := List.getElem?_eq_getElem h
      rw [wunf_next e1] at hu
      exact wT_words (fun v hv => by have := ih v hv; omega) (by have := ih _ (List.getElem_mem h); omega) 4 u hu
    · rw [wunf_stop h] at hu
      have := ih u hu; omega
theorem stP_val {p q : List (List Int)} {x : Int} {e : Nat} (h1 : 0 ≤ nxP p (x / (q.length : Int)).toNat e) (h2 : 0 ≤ nxP q (x % (q.length : Int)).toNat e) : (stP p q x e).1 = nxP p (x / (q.length : Int)).toNat e * (q.length : Int) + nxP q (x % (q.length : Int)).toNat e := by
  unfold stP
  rw [stR_yes (by omega), stR_yes (by omega)]

/-- The cells of an item: the pair and the word. -/
def tri (κ : Int) (t : Int × (Value × List Int)) : List Value := [.int .i64 (t.1 / κ), .int .i64 (t.1 % κ), t.2.1]
theorem tri_at (κ : Int) : ∀ (T : List (Int × (Value × List Int))) (k : Nat) (t : Int × (Value × List Int)), T[k]? = some t → (T.flatMap (tri κ))[k * 3]? = some (.int .i64 (t.1 / κ)) ∧ (T.flatMap (tri κ))[k * 3 + 1]? = some (.int .i64 (t.1 % κ)) ∧ (T.flatMap (tri κ))[k * 3 + 2]? = some t.2.1
  | [], k, x, h => by simp at h
  | y :: L, 0, x, h => by
    obtain rfl : y = x := by simpa using h
    exact ⟨rfl, rfl, rfl⟩
  | y :: L, k + 1, x, h => by
    have ih := tri_at κ L k x (by simpa using h)
    have e1 : (k + 1) * 3 = k * 3 + 1 + 1 + 1 := by omega
    rw [e1]
    exact ih
/-- Which pairs have been seen. -/
def seenV (N : Nat) (M : List Int) : List Value := (List.range N).map fun y : Nat => Value.bool (decide ((y : Int) ∈ M))
theorem seenV_len (N : Nat) (M : List Int) : (seenV N M).length = N := by simp [seenV]
theorem seenV_at {N : Nat} {M : List Int} {y : Nat} (h : y < N) : (seenV N M)[y]? = some (.bool (decide ((y : Int) ∈ M))) := by simp [seenV, h]
theorem seenV_set {N : Nat} {M : List Int} {y : Nat} : (seenV N M).set y (.bool true) = seenV N (M ++ [(y : Int)]) := by
  apply List.ext_getElem?
  intro i
  by_cases e : y = i
  · subst e
    by_cases h : y < N
    · rw [List.getElem?_set_self (by rw [seenV_len]; exact h), seenV_at h]
      simp
    · rw [List.getElem?_eq_none (by rw [List.length_set, seenV_len]; omega), List.getElem?_eq_none (by rw [seenV_len]; omega)]
  · rw [List.getElem?_set_ne e]
    by_cases h : i < N
    · rw [seenV_at h, seenV_at h]
      have : ((i : Int) ∈ M ++ [(y : Int)]) ↔ (i : Int) ∈ M := by
        rw [List.mem_append, List.mem_singleton]
        exact ⟨fun k => k.elim id (fun k => absurd (Int.ofNat.inj k).symm e), .inl⟩
      simp only [this]
    · rw [List.getElem?_eq_none (by rw [seenV_len]; omega), List.getElem?_eq_none (by rw [seenV_len]; omega)]
/-- What the search holds in memory: the items with their words' values, the seen pairs. -/
structure FW (wc : World) (gs : Nat) (κ : Int) (N : Nat) (T : List (Int × (Value × List Int))) (v : Value) (W : World) : Prop where
  rows : RowsO W wc.heap.size (T.map Prod.snd)
  work : W.ownsRow wc.heap.size 71 3 v T.length (T.flatMap (tri κ))
  seen : W.ownsRow wc.heap.size 4 1 (.slice (some ⟨gs, 0, none⟩) N N) N (seenV N (T.map Prod.fst))
  below : Below wc.heap.size wc W
theorem own_ne_any {w : World} {lo lo' n n' z z' : Nat} {e e' : TypeId} {v v' : Value} {xs xs' : List Value} (h : w.ownsRow lo e z v n xs) (h' : w.ownsRow lo' e' z' v' n' xs') (he : e ≠ e') : ∀ k, v.ownBlock = some k → v'.ownBlock ≠ some k := fun k hk hk' => by
  rcases h.2 with ⟨e1, _⟩ | ⟨g, cap, cur, e1, _, h3, _⟩
  · rw [e1] at hk; cases hk
  rcases h'.2 with ⟨e2, _⟩ | ⟨g', cap', cur', e2, _, h4, _⟩
  · rw [e2] at hk'; cases hk'
  rw [e1] at hk
  rw [e2] at hk'
  obtain rfl : g = k := Option.some.inj hk
  obtain rfl : g' = g := Option.some.inj hk'
  rw [h3] at h4
  injection h4 with h4
  injection h4 with _ h4 _
  exact he h4
theorem own_sliceQ {w : World} {lo n z : Nat} {e : TypeId} {v : Value} {xs : List Value} (h : w.ownsRow lo e z v n xs) : ∃ A c, v = .slice A n c ∧ True := by
  rcases h.2 with ⟨h1, h2⟩ | ⟨g, cap, cur, h1, _⟩
  · exact ⟨none, 0, by rw [h1, h2], trivial⟩
  · exact ⟨_, _, h1, trivial⟩
section
variable {wc W W1 W3 : World} {gs N y : Nat} {κ : Int} {T : List (Int × (Value × List Int))} {v v' vw : Value} {wd : List Int} {o : Obj}
theorem FW.keep (h : FW wc gs κ N T v W) (hb : Below W.heap.size W W1) : FW wc gs κ N T v W1 := ⟨h.rows.keep hb, own_below h.work hb, own_below h.seen hb, bon h.below hb⟩
/-- A pair more, with its word. -/
theorem FW.put (h : FW wc gs κ N T v W) (hb : Below W.heap.size W W1) (hw : W1.ownsRow W.heap.size 2 1 vw wd.length (wd.map ic))
    (hgrow : ((W1.setCell ⟨gs, y, none⟩ (.bool true)).alloc o).grownBy W3 v.ownBlock) (hown : W3.ownsRow wc.heap.size 71 3 v' (T.length + 1) (T.flatMap (tri κ) ++ [.int .i64 ((y : Int) / κ), .int .i64 ((y : Int) % κ), vw])) :
    FW wc gs κ N (T ++ [((y : Int), (vw, wd))]) v' W3 := by
  have hlo := h.below.size
  have r1 := h.rows.snoc hb hw hlo
  have s1 := own_below h.seen hb
  have k1 := own_below h.work hb
  have r2 := r1.other (only_set (w := W1) (g := gs) (i := y) (x := .bool true)) (fun i p hp k hk e => own_ne_any (r1.own i p hp) s1 (by decide) k hk e)
  have s2 := (s1.stored y (.bool true)).1
  have k2 := k1.kept (only_set (w := W1) (g := gs) (i := y) (x := .bool true)) (by
    cases e : v.ownBlock with
    | none => exact .inl rfl
    | some k => exact .inr (fun e' => own_ne_any k1 s1 (by decide) k e e'.symm))
  have hal := bnew (W1.setCell ⟨gs, y, none⟩ (.bool true)) o
  have r3 := r2.keep hal
  have s3 := own_below s2 hal
  have k3 := own_below k2 hal
  have r4 := r3.other hgrow (fun i p hp k hk e => own_ne_any (r3.own i p hp) k3 (by decide) k hk e)
  have s4 := s3.kept hgrow (.inr (fun e => own_ne_any s3 k3 (by decide) gs rfl e.symm))
  refine ⟨by rw [List.map_append]; exact r4, ?_, ?_, ?_⟩
  · rw [List.length_append, List.flatMap_append]; exact hown
  · rw [List.map_append]
    rw [seenV_set] at s4
    exact s4
  · have hgs := (h.seen.lt gs rfl).1
    exact (bon ((bon h.below hb).setCell (p := ⟨gs, y, none⟩) hgs (.bool true)) hal).grown hgrow (Nat.le_trans (Nat.le_trans hlo hb.size) (by simpa using hal.size)) (fun k hk => (k3.lt k hk).1)
end
theorem infoBQ : (Try.prog.info? 4).map (fun i => (i.zero, i.size, i.bytes)) = some (some (.bool false), 1, 1) := by kernel_rfl
theorem infoPQ : (Try.prog.info? 71).map (fun i => (i.zero, i.size, i.bytes)) = some (some (.agg #[.int .i64 0, .int .i64 0, .slice none 0 0]), 3, 40) := by kernel_rfl
theorem cells3_new (w : World) (t : TypeId) (x0 x1 x2 : Value) {g : Nat} (hg : g = w.heap.size) : ∀ (j : Nat) (u : Value), [x0, x1, x2][j]? = some u → (w.alloc (.cells #[x0, x1, x2] t)).cell? ((⟨g, 0, none⟩ : Addr).add j) = some u := fun j u hj => by
  subst hg
  have hbn : BlkIs (w.alloc (.cells #[x0, x1, x2] t)) w.heap.size t #[x0, x1, x2] := blk_new _ _ _ _ rfl
  have he : (⟨w.heap.size, 0, none⟩ : Addr).add j = ⟨w.heap.size, j, none⟩ := by cases j <;> simp [Addr.add]
  rw [he, hbn.cell j]
  simpa using hj

set_option maxRecDepth 100000 in
set_option maxHeartbeats 8000000 in
theorem l10Find_c (b o : Nat) (A : Option Addr) (n c B : Nat) (xs : List (List Int)) (b' o' : Nat) (A' : Option Addr) (m c' : Nat) (ys : List (List Int)) (both : Bool) (w : World) (p0 : w.cell? ⟨b, o, none⟩ = some (.slice A n c)) (h : InLL w B A n xs)
    (p1 : w.cell? ⟨b', o', none⟩ = some (.slice A' m c')) (h' : InLL w B A' m ys) (hB : B ≤ w.heap.size) (ok : PolOk xs) (ok' : PolOk ys) :
    Calls Try.prog 34 #[.pointer (some ⟨b, o, none⟩), .pointer (some ⟨b', o', none⟩), .bool both] w fun e w' => ∃ A2 c2, e = .returned (.tuple #[.slice A2 ((findP xs ys both).getD []).length c2, .bool (findP xs ys both).isSome]) ∧ OwnL w' w.heap.size w'.heap.size A2 ((findP xs ys both).getD []).length c2 ((findP xs ys both).getD []) ∧ Below w.heap.size w w' := by
  obtain ⟨i0, hi, hz0, hz1, hz2⟩ := info_parts info64
  obtain ⟨i1, hi', hz0', hz1', hz2'⟩ := info_parts infoBQ
  obtain ⟨i2, hi'', hz0'', hz1'', hz2''⟩ := info_parts infoPQ
  have hxn : xs.length = n := h.1
  have hym : ys.length = m := h'.1
  have hn1 := ok.lo
  have hn2 := ok.hi
  have hm1 := ok'.lo
  have hm2 := ok'.hi
  obtain ⟨N, hN⟩ : ∃ N, n * m = N := ⟨_, rfl⟩
  have hN2 : N ≤ 144 := by rw [← hN]; exact Nat.mul_le_mul (show n ≤ 12 by omega) (show m ≤ 12 by omega)
  have hN1 : 0 < N := by rw [← hN]; exact Nat.mul_pos (by omega) (by omega)
  have hmul : (n : Int) * (m : Int) = (N : Int) := by rw [← hN, Int.natCast_mul]
  have hwm : IntKind.i64.wrap ((n : Int) * (m : Int)) = (N : Int) := by rw [hmul]; exact IntWalk.i64_in _ (by omega)
  have HX := Lib.hid h
  have HY := Lib.hid h'
  have HOK := Lib.hid ok.rect
  have HOK' := Lib.hid ok'.rect
  have HN := Lib.hid hN
  have hst : Stays (stP xs ys) N := by have := stP_stays ok.rect ok'.rect; rwa [hxn, hym, hN] at this
  obtain ⟨F, hF⟩ : ∃ F, findP xs ys both = F := ⟨_, rfl⟩
  have HF := Lib.hid hF
  rw [hF]
  clear h h' ok ok' hN hF
  go_enter Try.func34, Try.ntmps34
  go_upto_region 4 with (at_make; refine wpList_make_full _ rfl _ _ 69 rfl w.heap.size 4 i1 (.bool false) 1 Try.underlying69 hi' hz0' hz1' .i64 .i64 _ _ N rfl rfl rfl rfl (by rw [hz2']; omega) (by unfold maxLen; omega) (Nat.le_refl _) ?_; intro w1 hown hgrow)
  have hb1 := (Below.refl w.heap.size w).grown hgrow (Nat.le_refl _) (fun _ h => by cases h)
  clear hgrow
  obtain ⟨gs, hgs⟩ : ∃ gs, w.heap.size = gs := ⟨_, rfl⟩
  have HGS := Lib.hid hgs
  have hs0 : w1.ownsRow w.heap.size 4 1 (.slice (some ⟨gs, 0, none⟩) N N) N (seenV N []) := by
    have e : (seenV N []) = List.replicate N (.bool false) := by
      apply List.ext_getElem (by simp [seenV])
      intro i h1 h2
      simp [seenV]
    rw [e, ← hgs]
    have e2 := hown
    rw [show (Value.bool false).cells = #[Value.bool false] from rfl, toList_madeCells_one, Nat.mul_one] at e2
    exact e2
  rw [hgs]
  clear hown hgs
  have hb2 := bnew w1 (.cells #[] 2)
  have hb3 := bnew (w1.alloc (.cells #[] 2)) (.cells #[.int .i64 0, .int .i64 0, .slice (some ⟨w1.heap.size, 0, none⟩) 0 0] 71)
  have hF0 : FW w gs (m : Int) N [] (.slice none 0 0) w1 := ⟨⟨(fun i p hp => by cases hp), (fun i j p q _ hp => by cases hp)⟩, World.ownsRow_nil _ _ _ _, hs0, hb1⟩
  have s3 := own_below (own_below hs0 hb2) hb3
  have c0 := s3.cellAt 0 (by omega)
  rw [seenV_at hN1] at c0
  have f0 := s3.frozenAt 0
  have hI0 : FW w gs (m : Int) N [(0, (.slice (some ⟨w1.heap.size, 0, none⟩) 0 0, []))] (.slice (some ⟨w1.heap.size + 1, 0, none⟩) 1 1) (((w1.alloc (.cells #[] 2)).alloc (.cells #[.int .i64 0, .int .i64 0, .slice (some ⟨w1.heap.size, 0, none⟩) 0 0] 71)).setCell ⟨gs, 0, none⟩ (.bool true)) := by
    have hgs1 := (hs0.lt gs rfl)
    have r1 := (hF0.rows.snoc (v := .slice (some ⟨w1.heap.size, 0, none⟩) 0 0) (zs := []) hb2 (own_empty w1 _) hb1.size).keep hb3
    have k1 : ((w1.alloc (.cells #[] 2)).alloc (.cells #[.int .i64 0, .int .i64 0, .slice (some ⟨w1.heap.size, 0, none⟩) 0 0] 71)).ownsRow w.heap.size 71 3 (.slice (some ⟨w1.heap.size + 1, 0, none⟩) 1 1) 1 [.int .i64 0, .int .i64 0, .slice (some ⟨w1.heap.size, 0, none⟩) 0 0] :=
      ⟨rfl, .inr ⟨w1.heap.size + 1, 1, #[.int .i64 0, .int .i64 0, .slice (some ⟨w1.heap.size, 0, none⟩) 0 0], rfl, by have := hb1.size; omega, by have := heap_alloc_new (w1.alloc (.cells #[] 2)) (.cells #[.int .i64 0, .int .i64 0, .slice (some ⟨w1.heap.size, 0, none⟩) 0 0] 71); simpa using this, Nat.le_refl _, by unfold maxLen; omega, rfl, rfl⟩⟩
    have g1 := only_set (w := (w1.alloc (.cells #[] 2)).alloc (.cells #[.int .i64 0, .int .i64 0, .slice (some ⟨w1.heap.size, 0, none⟩) 0 0] 71)) (g := gs) (i := 0) (x := .bool true)
    refine ⟨r1.other g1 (fun i p hp k hk e => own_ne_any (r1.own i p hp) s3 (by decide) k hk e), ?_, ?_, (bon (bon hb1 hb2) hb3).setCell (p := ⟨gs, 0, none⟩) hgs1.1 _⟩
    · have e : ([((0 : Int), (Value.slice (some ⟨w1.heap.size, 0, none⟩) 0 0, ([] : List Int)))].flatMap (tri (m : Int))) = [.int .i64 0, .int .i64 0, .slice (some ⟨w1.heap.size, 0, none⟩) 0 0] := by simp [tri]
      rw [e]
      exact k1.kept g1 (.inr (fun e => by have e' : w1.heap.size + 1 = gs := Option.some.inj e; omega))
    · have := (s3.stored 0 (.bool true)).1
      rw [seenV_set (M := []) (y := 0)] at this
      exact this
  clear hF0 hs0 s3 hb1 hb2 hb3
  have i9 : (0 : Int) < (N : Int) := by omega
  go_upto_region 6 with fail
  clear c0 f0
  generalize ((w1.alloc (.cells #[] 2)).alloc (.cells #[.int .i64 0, .int .i64 0, .slice (some ⟨w1.heap.size, 0, none⟩) 0 0] 71)).setCell ⟨gs, 0, none⟩ (.bool true) = W1 at hI0 ⊢
  obtain ⟨v0, hv0⟩ : ∃ v0 : Value, .slice (some ⟨w1.heap.size + 1, 0, none⟩) 1 1 = v0 := ⟨_, rfl⟩
  generalize (.slice (some ⟨w1.heap.size, 0, none⟩) 0 0 : Value) = vw0 at hI0 ⊢
  rw [hv0] at hI0 ⊢
  clear hv0
  have HST := Lib.hid hst
  clear hst
  go_loopw [10, 11, 12, 13, 14, 15, 16] (fun v i _ _ _ _ _ wr => ∃ (k : Nat) (T : List (Int × (Value × List Int))), i = .int .i64 k ∧ Hid (T.map (fun t => (t.1, t.2.2)) = wunf (stP xs ys) k) ∧ Hid (∀ j u, j < k → (wunf (stP xs ys) k)[j]? = some u → ∀ e, e < 4 → hitB xs ys both u.1 e = false) ∧ k ≤ T.length ∧ FW w gs (m : Int) N T v wr) (fun _ i _ _ _ _ _ _ => N + 1 - (intOf i).toNat)
  case atStart => exact ⟨0, [(0, (vw0, []))], rfl, rfl, (fun j u hj => by omega), Nat.zero_le _, hI0⟩
  case round =>
    clear hI0
    rename World => wa
    obtain ⟨k, T, rfl, HT, HNO, hk, hM⟩ := hrel
    have hTl : T.length ≤ N := by
      have := wunf_len HOK.out HOK'.out k
      rw [← HT.out, List.length_map, hxn, hym, HN.out] at this
      exact this
    have hwk := hM.work
    obtain ⟨tl, htl⟩ : ∃ tl, T.length = tl := ⟨_, rfl⟩
    rw [htl] at hwk hTl hk
    obtain ⟨Av, cv, rfl, _⟩ := own_sliceQ hwk
    by_cases hlt : k < tl
    · obtain ⟨t, ht⟩ : ∃ t, T[k]? = some t := ⟨_, List.getElem?_eq_getElem (by omega)⟩
      obtain ⟨x, vw, wd⟩ := t
      have hwo0 : wa.ownsRow w.heap.size 2 1 vw wd.length (wd.map ic) := hM.rows.own k (vw, wd) (by rw [List.getElem?_map, ht]; rfl)
      obtain ⟨wl, hwl⟩ : ∃ wl, wd.length = wl := ⟨_, rfl⟩
      have HWL := Lib.hid hwl
      rw [hwl] at hwo0
      clear hwl
      obtain ⟨Aw, cw, rfl, _⟩ := own_slice hwo0
      clear hwo0
      obtain ⟨gw, rfl⟩ : ∃ r, Av = some ⟨r, 0, none⟩ := by
        rcases hwk.2 with h' | ⟨r, cap, cur, e1, _⟩
        · have := h'.2; omega
        · injection e1 with e1; exact ⟨r, e1⟩
      obtain ⟨t0, t1, t2⟩ := tri_at (m : Int) T k _ ht
      dsimp only at t0 t1 t2
      have hfl : (T.flatMap (tri (m : Int))).length = tl * 3 := hwk.1
      have c0 := (hwk.cellAt (k * 3) (by omega)).trans t0
      have c1 := (hwk.cellAt (k * 3 + 1) (by omega)).trans t1
      have c2 := (hwk.cellAt (k * 3 + 2) (by omega)).trans t2
      clear t0 t1 t2
      have hu : (wunf (stP xs ys) k)[k]? = some (x, wd) := by rw [← HT.out, List.getElem?_map, ht]; rfl
      have hAm := unf_among HST.out (x0 := 0) (by omega) k
      have hxr : 0 ≤ x ∧ x < (N : Int) := by
        refine hAm.2 x ?_
        rw [← wunf_fst]
        exact List.mem_map.2 ⟨_, List.mem_of_getElem? hu, rfl⟩
      have hwl := wunf_words (st := stP xs ys) k _ (List.mem_of_getElem? hu)
      have hwl2 : wd.length ≤ 144 := by have : wd.length ≤ k := hwl; omega
      have HU := Lib.hid hu
      have HAM := Lib.hid hAm
      have d1 : 0 ≤ x / (m : Int) := Int.ediv_nonneg hxr.1 (by omega)
      have d2 : x / (m : Int) < (n : Int) := Int.ediv_lt_of_lt_mul (by omega) (by rw [hmul]; exact hxr.2)
      have d3 : 0 ≤ x % (m : Int) := Int.emod_nonneg _ (by omega)
      have d4 : x % (m : Int) < (m : Int) := Int.emod_lt_of_pos _ (by omega)
      obtain ⟨s, hs⟩ : ∃ s : Nat, x / (m : Int) = s := ⟨(x / (m : Int)).toNat, by omega⟩
      obtain ⟨r, hr⟩ : ∃ r : Nat, x % (m : Int) = r := ⟨(x % (m : Int)).toNat, by omega⟩
      rw [hs] at c0 d2
      rw [hr] at c1 d4
      have HSR : Hid ((x / (ys.length : Int)).toNat = s ∧ (x % (ys.length : Int)).toNat = r) := by rw [hym, hs, hr]; exact ⟨Int.toNat_natCast _, Int.toNat_natCast _⟩
      clear hs hr d1 d3 hu hAm hwl
      have hb8 := bnew wa (.cells #[.int .i64 (s : Int), .int .i64 (r : Int), .slice Aw wl cw] 71)
      have hX8 : BlkIs (wa.alloc (.cells #[.int .i64 (s : Int), .int .i64 (r : Int), .slice Aw wl cw] 71)) wa.heap.size 71 #[.int .i64 (s : Int), .int .i64 (r : Int), .slice Aw wl cw] := blk_new _ _ _ _ rfl
      have hM8 := hM.keep hb8
      have hvx : (Value.slice (some ⟨gw, 0, none⟩) tl cv).ownBlock ≠ some wa.heap.size := fun e => by have := (hwk.lt _ e).2; omega
      have i3 : (k : Int) < (tl : Int) := by omega
      have HTK := Lib.hid ht
      clear hM ht hwk htl hfl
      go_upto_region 10 with fail
      clear c0 c1 c2
      generalize wa.alloc (.cells #[.int .i64 (s : Int), .int .i64 (r : Int), .slice Aw wl cw] 71) = W8 at hX8 hM8 ⊢
      generalize wa.heap.size = gx at hX8 hvx ⊢
      obtain ⟨v8, hv8⟩ : ∃ v8 : Value, .slice (some ⟨gw, 0, none⟩) tl cv = v8 := ⟨_, rfl⟩
      rw [hv8] at hvx hM8 ⊢
      clear hv8 hb8
      go_loopw [10, 13, 14, 15, 16] (fun v j _ _ _ wr => ∃ (e : Nat) (T' : List (Int × (Value × List Int))), j = .int .i64 e ∧ e ≤ 4 ∧ Hid (T'.map (fun t => (t.1, t.2.2)) = wT (stP xs ys) x wd (wunf (stP xs ys) k) e) ∧ Hid (∀ j, j < e → hitB xs ys both x j = false) ∧ Hid (T'[k]? = some (x, (.slice Aw wl cw, wd))) ∧ FW w gs (m : Int) N T' v wr ∧ BlkIs wr gx 71 #[.int .i64 (s : Int), .int .i64 (r : Int), .slice Aw wl cw] ∧ v.ownBlock ≠ some gx) (fun _ j _ _ _ _ => 4 - (intOf j).toNat)
      case atStart => exact ⟨0, T, rfl, by omega, HT, (fun j hj => by omega), HTK, hM8, hX8, hvx⟩
      case round =>
        clear hM8 hX8 hvx
        rename World => wi
        obtain ⟨e, T', rfl, he, HT', HNE, HTK', hM, hX, hvx⟩ := hrel
        have hfst : T'.map Prod.fst = (evT (stP xs ys) x (unf (stP xs ys) 0 k).1 e).1 := by
          rw [← wunf_fst, ← wT_fst (wd := wd), ← HT'.out, List.map_map]; rfl
        have hAe := evT_among HST.out hxr HAM.out e he
        rw [← hfst] at hAe
        have hTl' : T'.length ≤ N := by have := hAe.1.len; rwa [List.length_map] at this
        have hwk := hM.work
        obtain ⟨tl', htl'⟩ : ∃ tl, T'.length = tl := ⟨_, rfl⟩
        rw [htl'] at hwk hTl'
        obtain ⟨Av, cv, rfl, _⟩ := own_sliceQ hwk
        have HTL' := Lib.hid htl'
        clear htl' hAe hfst
        by_cases he4 : e < 4
        · obtain ⟨b1, off1, A3, c3, b2, off2, rfl, u0, rfl, u1⟩ := (HX.out.next hM.below hB).cell_atR HOK.out (s := s) (e := e) (by omega) he4
          obtain ⟨b3, off3, A4, c4, b4, off4, rfl, v0, rfl, v1⟩ := (HY.out.next hM.below hB).cell_atR HOK'.out (s := r) (e := e) (by omega) he4
          have r0 := cell_next p0 hM.below
          have r1 := cell_next p1 hM.below
          have x0 := hX.cell 0
          have x1 := hX.cell 1
          have x2 := hX.cell 2
          simp at x0 x1 x2
          have i4 : (s : Int) < (n : Int) := d2
          have i5 : (r : Int) < (m : Int) := d4
          have i6 : (e : Int) < 4 := by omega
          have hwo : wi.ownsRow w.heap.size 2 1 (.slice Aw wl cw) wl (wd.map ic) := by have := hM.rows.own k (.slice Aw wl cw, wd) (by rw [List.getElem?_map, HTK'.out]; rfl); rw [show ((Value.slice Aw wl cw, wd) : Value × List Int).2.length = wl from HWL.out] at this; exact this
          have hwl3 : wl ≤ 144 := by have := HWL.out; omega
          have HOWN := Lib.hid (fun W (hb : Below wi.heap.size wi W) => l00Own_c Aw wl cw wi.heap.size wd W ((OwnL.of_own hwo).inn.next hb (Nat.le_refl _)) hb.size (by omega))
          have HHIT : Hid (hitB xs ys both x e = ((decide (0 ≤ nxP xs s e) && decide (nxP ys r e < 0)) || (both && decide (nxP xs s e < 0) && decide (0 ≤ nxP ys r e)))) := by
            show hitB xs ys both x e = _
            unfold hitB; rw [HSR.out.1, HSR.out.2]
          have HSOK : Hid ((stP xs ys x e).2 = (decide (0 ≤ nxP xs s e) && decide (0 ≤ nxP ys r e))) := by
            show _ = _
            rw [stP_ok, HSR.out.1, HSR.out.2]
          have HSV : Hid (0 ≤ nxP xs s e → 0 ≤ nxP ys r e → (stP xs ys x e).1 = nxP xs s e * (m : Int) + nxP ys r e) := by
            intro h1 h2
            have := stP_val (p := xs) (q := ys) (x := x) (e := e) (by rw [HSR.out.1]; exact h1) (by rw [HSR.out.2]; exact h2)
            rw [HSR.out.1, HSR.out.2, hym] at this
            exact this
          have HSTE := Lib.hid (HST.out x e hxr.1 hxr.2 he4)
          have HPARTS : Hid (0 ≤ nxP xs s e → 0 ≤ nxP ys r e → (stP xs ys x e).1 / (m : Int) = nxP xs s e ∧ (stP xs ys x e).1 % (m : Int) = nxP ys r e) := by
            intro h1 h2
            have := stP_parts (p := xs) (q := ys) HOK'.out (x := x) (e := e) hxr.1 he4
            rw [HSR.out.1, HSR.out.2, stR_yes (by omega), stR_yes (by omega), hym] at this
            exact this
          have hamax : nxP xs s e ≤ (n : Int) - 1 ∧ nxP ys r e ≤ (m : Int) - 1 := by
            obtain ⟨_, _, _, _, _, h1⟩ := HOK.out.at_ (s := s) (e := e) (by omega) he4
            obtain ⟨_, _, _, _, _, h2⟩ := HOK'.out.at_ (s := r) (e := e) (by omega) he4
            omega
          generalize nxP xs s e = a at u1 HHIT HSOK HSV HPARTS hamax
          generalize nxP ys r e = bb at v1 HHIT HSOK HSV HPARTS hamax
          have HM := Lib.hid hM
          have HXX := Lib.hid hX
          have hbel := hM.below.size
          have HNOS : Hid (∀ (W : World), Below wi.heap.size wi W → ((stP xs ys x e).2 = false ∨ (stP xs ys x e).1 ∈ T'.map Prod.fst) → hitB xs ys both x e = false → Hid (T'.map (fun t => (t.1, t.2.2)) = wT (stP xs ys) x wd (wunf (stP xs ys) k) (e + 1)) ∧ Hid (∀ j, j < e + 1 → hitB xs ys both x j = false) ∧ FW w gs (m : Int) N T' (.slice Av tl' cv) W ∧ BlkIs W gx 71 #[.int .i64 (s : Int), .int .i64 (r : Int), .slice Aw wl cw]) := fun W hb hno hh => by
            refine ⟨?_, fun j hj => ?_, HM.out.keep hb, HXX.out.next hb⟩
            · show _ = _
              rw [wT, wS_no, HT'.out]
              rcases hno with h1 | h1
              · exact .inl h1
              · refine .inr ?_
                rw [← HT'.out, List.map_map]; exact h1
            · rcases Nat.lt_or_ge j e with h1 | h1
              · exact HNE.out j h1
              · rw [show j = e by omega]; exact hh
          clear hM hX hwo hwk
          by_cases ha : a < 0
          · by_cases hb9 : bb < 0
            · have ka : ¬ 0 ≤ a := by omega
              have ka2 : decide (0 ≤ a) = false := decide_eq_false ka
              have ka3 : decide (a < 0) = true := decide_eq_true (by omega)
              have ka4 : a < 0 := by omega
              have kb : ¬ 0 ≤ bb := by omega
              have kb3 : decide (0 ≤ bb) = false := decide_eq_false kb
              have kb2 : decide (bb < 0) = true := decide_eq_true (by omega)
              have kb4 : bb < 0 := by omega
              cases both with
              | false =>
                have HSF : Hid ((stP xs ys x e).2 = false) := by show _ = _; rw [HSOK.out]; simp [ka2, kb3]
                have HHF : Hid (hitB xs ys false x e = false) := by show _ = _; rw [HHIT.out]; simp [ka2, ka3, kb2, kb3]
                clear HHIT HSOK HSV HPARTS hamax
                go_wp2_with fail
                go_quiet (fail)
                go_wp2_with fail
                go_quiet (fail)
                go_wp2_with fail
                refine (HOWN.out _ (below_drewN (Below.refl wi.heap.size wi) _)).mono ?_
                rintro v9 w2 ⟨A2, c2, rfl, hoL, hb2⟩
                have o2 : w2.ownsRow wi.heap.size 2 1 (.slice A2 wl c2) wl (wd.map ic) := own_less hoL.2.1 (below_drewN (Below.refl wi.heap.size wi) _).size
                have hbW2 : Below wi.heap.size wi w2 := bon (below_drewN (Below.refl wi.heap.size wi) _) hb2
                have hs2 := hbW2.size
                clear hoL hb2
                go_wp2_with (at_builtin; refine wpList_append_sep rfl _ _ 35 rfl wi.heap.size 2 i0 (.int .i64 0) 1 8 Try.underlying35 hi hz0 hz1 hz2 rfl (by decide) _ _ _ rfl (o2.alloc _) ⟨w2.heap.size, 0, none⟩ 1 1 [.int .i64 (e : Int)] rfl rfl (cell_one_new _ _ _) (by simp [Value.oneCell']) (by unfold maxLen; omega) (by omega) (by simp; omega) (by omega) ?_; intro g4 cap4 w4 hown4 hgrow4 hsep4; have hbW4 : Below wi.heap.size wi w4 := (bon hbW2 (bnew w2 (.cells #[.int .i64 (e : Int)] 2))).grown hgrow4 (by simp; omega) (fun k hk => (o2.lt k hk).1))
                go_roundw
                case rel =>
                  obtain ⟨q1, q2, q3, q4⟩ := HNOS.out w4 hbW4 (.inl HSF.out) HHF.out
                  exact ⟨e + 1, T', by go_num, by omega, q1, q2, HTK', q3, q4, hvx⟩
                case measure => simp [intOf]; omega
              | true =>
                have HSF : Hid ((stP xs ys x e).2 = false) := by show _ = _; rw [HSOK.out]; simp [ka2, kb3]
                have HHF : Hid (hitB xs ys true x e = false) := by show _ = _; rw [HHIT.out]; simp [ka2, ka3, kb2, kb3]
                clear HHIT HSOK HSV HPARTS hamax
                go_wp2_with fail
                go_quiet (fail)
                go_wp2_with fail
                go_quiet (fail)
                go_wp2_with fail
                refine (HOWN.out _ (below_drewN (Below.refl wi.heap.size wi) _)).mono ?_
                rintro v9 w2 ⟨A2, c2, rfl, hoL, hb2⟩
                have o2 : w2.ownsRow wi.heap.size 2 1 (.slice A2 wl c2) wl (wd.map ic) := own_less hoL.2.1 (below_drewN (Below.refl wi.heap.size wi) _).size
                have hbW2 : Below wi.heap.size wi w2 := bon (below_drewN (Below.refl wi.heap.size wi) _) hb2
                have hs2 := hbW2.size
                clear hoL hb2
                go_wp2_with (at_builtin; refine wpList_append_sep rfl _ _ 35 rfl wi.heap.size 2 i0 (.int .i64 0) 1 8 Try.underlying35 hi hz0 hz1 hz2 rfl (by decide) _ _ _ rfl (o2.alloc _) ⟨w2.heap.size, 0, none⟩ 1 1 [.int .i64 (e : Int)] rfl rfl (cell_one_new _ _ _) (by simp [Value.oneCell']) (by unfold maxLen; omega) (by omega) (by simp; omega) (by omega) ?_; intro g4 cap4 w4 hown4 hgrow4 hsep4; have hbW4 : Below wi.heap.size wi w4 := (bon hbW2 (bnew w2 (.cells #[.int .i64 (e : Int)] 2))).grown hgrow4 (by simp; omega) (fun k hk => (o2.lt k hk).1))
                go_roundw
                case rel =>
                  obtain ⟨q1, q2, q3, q4⟩ := HNOS.out w4 hbW4 (.inl HSF.out) HHF.out
                  exact ⟨e + 1, T', by go_num, by omega, q1, q2, HTK', q3, q4, hvx⟩
                case measure => simp [intOf]; omega
            · have ka : ¬ 0 ≤ a := by omega
              have ka2 : decide (0 ≤ a) = false := decide_eq_false ka
              have ka3 : decide (a < 0) = true := decide_eq_true (by omega)
              have ka4 : a < 0 := by omega
              have kb : 0 ≤ bb := by omega
              have kb3 : decide (0 ≤ bb) = true := decide_eq_true kb
              have kb2 : decide (bb < 0) = false := decide_eq_false (by omega)
              have kb4 : ¬ bb < 0 := by omega
              cases both with
              | false =>
                have HSF : Hid ((stP xs ys x e).2 = false) := by show _ = _; rw [HSOK.out]; simp [ka2, kb3]
                have HHF : Hid (hitB xs ys false x e = false) := by show _ = _; rw [HHIT.out]; simp [ka2, ka3, kb2, kb3]
                clear HHIT HSOK HSV HPARTS hamax
                go_wp2_with fail
                go_quiet (fail)
                go_wp2_with fail
                go_quiet (fail)
                go_wp2_with fail
                refine (HOWN.out _ (below_drewN (Below.refl wi.heap.size wi) _)).mono ?_
                rintro v9 w2 ⟨A2, c2, rfl, hoL, hb2⟩
                have o2 : w2.ownsRow wi.heap.size 2 1 (.slice A2 wl c2) wl (wd.map ic) := own_less hoL.2.1 (below_drewN (Below.refl wi.heap.size wi) _).size
                have hbW2 : Below wi.heap.size wi w2 := bon (below_drewN (Below.refl wi.heap.size wi) _) hb2
                have hs2 := hbW2.size
                clear hoL hb2
                go_wp2_with (at_builtin; refine wpList_append_sep rfl _ _ 35 rfl wi.heap.size 2 i0 (.int .i64 0) 1 8 Try.underlying35 hi hz0 hz1 hz2 rfl (by decide) _ _ _ rfl (o2.alloc _) ⟨w2.heap.size, 0, none⟩ 1 1 [.int .i64 (e : Int)] rfl rfl (cell_one_new _ _ _) (by simp [Value.oneCell']) (by unfold maxLen; omega) (by omega) (by simp; omega) (by omega) ?_; intro g4 cap4 w4 hown4 hgrow4 hsep4; have hbW4 : Below wi.heap.size wi w4 := (bon hbW2 (bnew w2 (.cells #[.int .i64 (e : Int)] 2))).grown hgrow4 (by simp; omega) (fun k hk => (o2.lt k hk).1))
                go_roundw
                case rel =>
                  obtain ⟨q1, q2, q3, q4⟩ := HNOS.out w4 hbW4 (.inl HSF.out) HHF.out
                  exact ⟨e + 1, T', by go_num, by omega, q1, q2, HTK', q3, q4, hvx⟩
                case measure => simp [intOf]; omega
              | true =>
                have HFS : Hid (F = some (wd ++ [(e : Int)])) := by
                  show F = _
                  rw [← HF.out]
                  exact findP_at (i := k) (t := (x, wd)) (by rw [hxn, hym, HN.out]; omega) HU.out he4 (by rw [HHIT.out]; simp [ka2, ka3, kb2, kb3]) HNE.out HNO.out
                clear HNOS HHIT HSOK HSV HPARTS hamax
                go_wp2_with fail
                go_quiet (fail)
                go_wp2_with fail
                go_quiet (fail)
                go_wp2_with fail
                refine (HOWN.out _ (below_drewN (Below.refl wi.heap.size wi) _)).mono ?_
                rintro v9 w2 ⟨A2, c2, rfl, hoL, hb2⟩
                have o2 : w2.ownsRow wi.heap.size 2 1 (.slice A2 wl c2) wl (wd.map ic) := own_less hoL.2.1 (below_drewN (Below.refl wi.heap.size wi) _).size
                have hbW2 : Below wi.heap.size wi w2 := bon (below_drewN (Below.refl wi.heap.size wi) _) hb2
                have hs2 := hbW2.size
                clear hoL hb2
                go_wp2_with (at_builtin; refine wpList_append_sep rfl _ _ 35 rfl wi.heap.size 2 i0 (.int .i64 0) 1 8 Try.underlying35 hi hz0 hz1 hz2 rfl (by decide) _ _ _ rfl (o2.alloc _) ⟨w2.heap.size, 0, none⟩ 1 1 [.int .i64 (e : Int)] rfl rfl (cell_one_new _ _ _) (by simp [Value.oneCell']) (by unfold maxLen; omega) (by omega) (by simp; omega) (by omega) ?_; intro g4 cap4 w4 hown4 hgrow4 hsep4; have hbW4 : Below wi.heap.size wi w4 := (bon hbW2 (bnew w2 (.cells #[.int .i64 (e : Int)] 2))).grown hgrow4 (by simp; omega) (fun k hk => (o2.lt k hk).1))
                go_ret2
                have hFs := HFS.out
                subst hFs
                have e9 : ((some (wd ++ [(e : Int)])).getD []).length = wl + 1 := by have := HWL.out; simp [this]
                have h9 : w4.ownsRow wi.heap.size 2 1 (.slice (some ⟨g4, 0, none⟩) (wl + 1) cap4) (wl + 1) ((wd ++ [(e : Int)]).map ic) := by rw [List.map_append]; exact hown4
                refine ⟨some ⟨g4, 0, none⟩, cap4, ?_, ?_, bon HM.out.below hbW4⟩
                · rw [e9]; rfl
                · rw [e9]; exact (OwnL.of_own h9).less hbel
          · by_cases hb9 : bb < 0
            · have ka : 0 ≤ a := by omega
              have ka2 : decide (0 ≤ a) = true := decide_eq_true ka
              have ka3 : decide (a < 0) = false := decide_eq_false (by omega)
              have ka4 : ¬ a < 0 := by omega
              have kb : ¬ 0 ≤ bb := by omega
              have kb3 : decide (0 ≤ bb) = false := decide_eq_false kb
              have kb2 : decide (bb < 0) = true := decide_eq_true (by omega)
              have kb4 : bb < 0 := by omega
              have HFS : Hid (F = some (wd ++ [(e : Int)])) := by
                show F = _
                rw [← HF.out]
                exact findP_at (i := k) (t := (x, wd)) (by rw [hxn, hym, HN.out]; omega) HU.out he4 (by rw [HHIT.out]; simp [ka2, ka3, kb2, kb3]) HNE.out HNO.out
              clear HNOS HHIT HSOK HSV HPARTS hamax
              go_wp2_with fail
              go_quiet (fail)
              go_wp2_with fail
              go_quiet (fail)
              go_wp2_with fail
              refine (HOWN.out _ (below_drewN (Below.refl wi.heap.size wi) _)).mono ?_
              rintro v9 w2 ⟨A2, c2, rfl, hoL, hb2⟩
              have o2 : w2.ownsRow wi.heap.size 2 1 (.slice A2 wl c2) wl (wd.map ic) := own_less hoL.2.1 (below_drewN (Below.refl wi.heap.size wi) _).size
              have hbW2 : Below wi.heap.size wi w2 := bon (below_drewN (Below.refl wi.heap.size wi) _) hb2
              have hs2 := hbW2.size
              clear hoL hb2
              go_wp2_with (at_builtin; refine wpList_append_sep rfl _ _ 35 rfl wi.heap.size 2 i0 (.int .i64 0) 1 8 Try.underlying35 hi hz0 hz1 hz2 rfl (by decide) _ _ _ rfl (o2.alloc _) ⟨w2.heap.size, 0, none⟩ 1 1 [.int .i64 (e : Int)] rfl rfl (cell_one_new _ _ _) (by simp [Value.oneCell']) (by unfold maxLen; omega) (by omega) (by simp; omega) (by omega) ?_; intro g4 cap4 w4 hown4 hgrow4 hsep4; have hbW4 : Below wi.heap.size wi w4 := (bon hbW2 (bnew w2 (.cells #[.int .i64 (e : Int)] 2))).grown hgrow4 (by simp; omega) (fun k hk => (o2.lt k hk).1))
              go_ret2
              have hFs := HFS.out
              subst hFs
              have e9 : ((some (wd ++ [(e : Int)])).getD []).length = wl + 1 := by have := HWL.out; simp [this]
              have h9 : w4.ownsRow wi.heap.size 2 1 (.slice (some ⟨g4, 0, none⟩) (wl + 1) cap4) (wl + 1) ((wd ++ [(e : Int)]).map ic) := by rw [List.map_append]; exact hown4
              refine ⟨some ⟨g4, 0, none⟩, cap4, ?_, ?_, bon HM.out.below hbW4⟩
              · rw [e9]; rfl
              · rw [e9]; exact (OwnL.of_own h9).less hbel
            · have ka : 0 ≤ a := by omega
              have ka2 : decide (0 ≤ a) = true := decide_eq_true ka
              have ka3 : decide (a < 0) = false := decide_eq_false (by omega)
              have ka4 : ¬ a < 0 := by omega
              have kb : 0 ≤ bb := by omega
              have kb3 : decide (0 ≤ bb) = true := decide_eq_true kb
              have kb2 : decide (bb < 0) = false := decide_eq_false (by omega)
              have kb4 : ¬ bb < 0 := by omega
              cases both with
              | false =>
                have hv : (stP xs ys x e).2 = true := by rw [HSOK.out]; simp [ka2, kb3]
                obtain ⟨y0, y1⟩ := HSTE.out hv
                have hsv := HSV.out ka kb
                obtain ⟨y, hy⟩ : ∃ y : Nat, (stP xs ys x e).1 = y := ⟨(stP xs ys x e).1.toNat, by omega⟩
                have hyN : y < N := by omega
                have hpa := HPARTS.out ka kb
                have hm0 : 0 ≤ a * (m : Int) := Int.mul_nonneg ka (by omega)
                rw [hy] at hsv hpa
                have e6 : IntKind.i64.wrap (a * (m : Int)) = a * (m : Int) := IntWalk.i64_in _ (by omega)
                have e7 : IntKind.i64.wrap (a * (m : Int) + bb) = (y : Int) := by rw [← hsv]; exact IntWalk.i64_in _ (by omega)
                have i8 : (y : Int) < (N : Int) := by omega
                have HHF : Hid (hitB xs ys false x e = false) := by show _ = _; rw [HHIT.out]; simp [ka2, ka3, kb2, kb3]
                have HV := Lib.hid hv
                have HYY := Lib.hid hy
                have HPA := Lib.hid hpa
                clear hv hsv hpa y0 y1 hy hm0 HHIT HSOK HSV HPARTS HSTE hamax
                by_cases hmem : (y : Int) ∈ T'.map Prod.fst
                · have hdec : decide ((y : Int) ∈ T'.map Prod.fst) = true := decide_eq_true hmem
                  have HMEM := Lib.hid hmem
                  have HDEC := Lib.hid hdec
                  clear hmem hdec
                  go_wp2_with fail
                  go_quiet (fail)
                  go_wp2_with fail
                  go_quiet (fail)
                  go_wp2_with fail
                  refine (HOWN.out _ (below_drewN (Below.refl wi.heap.size wi) _)).mono ?_
                  rintro v9 w2 ⟨A2, c2, rfl, hoL, hb2⟩
                  have o2 : w2.ownsRow wi.heap.size 2 1 (.slice A2 wl c2) wl (wd.map ic) := own_less hoL.2.1 (below_drewN (Below.refl wi.heap.size wi) _).size
                  have hbW2 : Below wi.heap.size wi w2 := bon (below_drewN (Below.refl wi.heap.size wi) _) hb2
                  have hs2 := hbW2.size
                  clear hoL hb2
                  go_wp2_with (at_builtin; refine wpList_append_sep rfl _ _ 35 rfl wi.heap.size 2 i0 (.int .i64 0) 1 8 Try.underlying35 hi hz0 hz1 hz2 rfl (by decide) _ _ _ rfl (o2.alloc _) ⟨w2.heap.size, 0, none⟩ 1 1 [.int .i64 (e : Int)] rfl rfl (cell_one_new _ _ _) (by simp [Value.oneCell']) (by unfold maxLen; omega) (by omega) (by simp; omega) (by omega) ?_; intro g4 cap4 w4 hown4 hgrow4 hsep4; have hbW4 : Below wi.heap.size wi w4 := (bon hbW2 (bnew w2 (.cells #[.int .i64 (e : Int)] 2))).grown hgrow4 (by simp; omega) (fun k hk => (o2.lt k hk).1); have s4 := own_below HM.out.seen hbW4; have c9 := s4.cellAt y (by omega); rw [seenV_at hyN, HDEC.out] at c9; have f9 := s4.frozenAt y)
                  go_roundw
                  case rel =>
                    obtain ⟨q1, q2, q3, q4⟩ := HNOS.out w4 hbW4 (.inr (by rw [HYY.out]; exact HMEM.out)) HHF.out
                    exact ⟨e + 1, T', by go_num, by omega, q1, q2, HTK', q3, q4, hvx⟩
                  case measure => simp [intOf]; omega
                · have hdec : decide ((y : Int) ∈ T'.map Prod.fst) = false := decide_eq_false hmem
                  have HMEM := Lib.hid hmem
                  have HDEC := Lib.hid hdec
                  clear hmem hdec
                  go_wp2_with fail
                  go_quiet (fail)
                  go_wp2_with fail
                  go_quiet (fail)
                  go_wp2_with fail
                  refine (HOWN.out _ (below_drewN (Below.refl wi.heap.size wi) _)).mono ?_
                  rintro v9 w2 ⟨A2, c2, rfl, hoL, hb2⟩
                  have o2 : w2.ownsRow wi.heap.size 2 1 (.slice A2 wl c2) wl (wd.map ic) := own_less hoL.2.1 (below_drewN (Below.refl wi.heap.size wi) _).size
                  have hbW2 : Below wi.heap.size wi w2 := bon (below_drewN (Below.refl wi.heap.size wi) _) hb2
                  have hs2 := hbW2.size
                  clear hoL hb2
                  go_wp2_with (first | (at_builtin; refine wpList_append_sep rfl _ _ 35 rfl wi.heap.size 2 i0 (.int .i64 0) 1 8 Try.underlying35 hi hz0 hz1 hz2 rfl (by decide) _ _ _ rfl (o2.alloc _) ⟨w2.heap.size, 0, none⟩ 1 1 [.int .i64 (e : Int)] rfl rfl (cell_one_new _ _ _) (by simp [Value.oneCell']) (by unfold maxLen; omega) (by omega) (by simp; omega) (by omega) ?_; intro g4 cap4 w4 hown4 hgrow4 hsep4; have hbW4 : Below wi.heap.size wi w4 := (bon hbW2 (bnew w2 (.cells #[.int .i64 (e : Int)] 2))).grown hgrow4 (by simp; omega) (fun k hk => (o2.lt k hk).1); have s4 := own_below HM.out.seen hbW4; have c9 := s4.cellAt y (by omega); rw [seenV_at hyN, HDEC.out] at c9; have f9 := s4.frozenAt y; have k5 := (own_below HM.out.work hbW4).kept (only_set (w := w4) (g := gs) (i := y) (x := .bool true)) (.inr (fun e => own_ne_any s4 (own_below HM.out.work hbW4) (by decide) gs rfl e)); rw [HTL'.out] at k5; have hs4 := hbW4.size) | (at_builtin; refine wpList_append_sep rfl _ _ 72 rfl w.heap.size 71 i2 (.agg #[.int .i64 0, .int .i64 0, .slice none 0 0]) 3 40 Try.underlying72 hi'' hz0'' hz1'' hz2'' rfl (by decide) _ _ _ rfl (k5.alloc _) ⟨w4.heap.size, 0, none⟩ 1 1 [.int .i64 a, .int .i64 bb, .slice (some ⟨g4, 0, none⟩) (wl + 1) cap4] rfl rfl (cells3_new _ _ _ _ _ (by simp)) (by simp [Value.oneCell']) (by unfold maxLen; omega) (by omega) (by simp; omega) (by omega) ?_; intro g6 cap6 w6 hown6 hgrow6 hsep6))
                  go_roundw
                  case rel =>
                    have hxs := (HXX.out.next hbW4).far (g' := gs) (fun e => own_ne_blkQ s4 (HXX.out.next hbW4) (by decide) (congrArg some e.symm)) y (.bool true)
                    have hx6 := (hxs.next (bnew (w4.setCell ⟨gs, y, none⟩ (.bool true)) (.cells #[.int .i64 a, .int .i64 bb, .slice (some ⟨g4, 0, none⟩) (wl + 1) cap4] 71))).by_grown hgrow6 hvx
                    have hgl := (HXX.out.next hbW4).lt
                    have hput := HM.out.put (y := y) (vw := .slice (some ⟨g4, 0, none⟩) (wl + 1) cap4) (wd := wd ++ [(e : Int)]) hbW4 (by have := HWL.out; rw [List.length_append, this, List.map_append]; exact hown4) hgrow6 (by rw [HTL'.out, HPA.out.1, HPA.out.2]; exact hown6)
                    refine ⟨e + 1, T' ++ [((y : Int), (.slice (some ⟨g4, 0, none⟩) (wl + 1) cap4, wd ++ [(e : Int)]))], by go_num, by omega, ?_, ?_, ?_, hput, hx6, ?_⟩
                    · show _ = _
                      rw [wT, wS_yes HV.out (by rw [← HT'.out, List.map_map, HYY.out]; exact HMEM.out), List.map_append, HT'.out, HYY.out]; rfl
                    · intro j hj
                      rcases Nat.lt_or_ge j e with h1 | h1
                      · exact HNE.out j h1
                      · rw [show j = e by omega]; exact HHF.out
                    · show (T' ++ _)[k]? = _
                      rw [List.getElem?_append_left (List.getElem?_eq_some_iff.1 HTK'.out).1]; exact HTK'.out
                    · intro h9
                      obtain rfl : g6 = gx := Option.some.inj h9
                      rcases hsep6 with h' | h'
                      · exact hvx h'.symm
                      · simp at h'; omega
                  case measure => simp [intOf]; omega
              | true =>
                have hv : (stP xs ys x e).2 = true := by rw [HSOK.out]; simp [ka2, kb3]
                obtain ⟨y0, y1⟩ := HSTE.out hv
                have hsv := HSV.out ka kb
                obtain ⟨y, hy⟩ : ∃ y : Nat, (stP xs ys x e).1 = y := ⟨(stP xs ys x e).1.toNat, by omega⟩
                have hyN : y < N := by omega
                have hpa := HPARTS.out ka kb
                have hm0 : 0 ≤ a * (m : Int) := Int.mul_nonneg ka (by omega)
                rw [hy] at hsv hpa
                have e6 : IntKind.i64.wrap (a * (m : Int)) = a * (m : Int) := IntWalk.i64_in _ (by omega)
                have e7 : IntKind.i64.wrap (a * (m : Int) + bb) = (y : Int) := by rw [← hsv]; exact IntWalk.i64_in _ (by omega)
                have i8 : (y : Int) < (N : Int) := by omega
                have HHF : Hid (hitB xs ys true x e = false) := by show _ = _; rw [HHIT.out]; simp [ka2, ka3, kb2, kb3]
                have HV := Lib.hid hv
                have HYY := Lib.hid hy
                have HPA := Lib.hid hpa
                clear hv hsv hpa y0 y1 hy hm0 HHIT HSOK HSV HPARTS HSTE hamax
                by_cases hmem : (y : Int) ∈ T'.map Prod.fst
                · have hdec : decide ((y : Int) ∈ T'.map Prod.fst) = true := decide_eq_true hmem
                  have HMEM := Lib.hid hmem
                  have HDEC := Lib.hid hdec
                  clear hmem hdec
                  go_wp2_with fail
                  go_quiet (fail)
                  go_wp2_with fail
                  go_quiet (fail)
                  go_wp2_with fail
                  refine (HOWN.out _ (below_drewN (Below.refl wi.heap.size wi) _)).mono ?_
                  rintro v9 w2 ⟨A2, c2, rfl, hoL, hb2⟩
                  have o2 : w2.ownsRow wi.heap.size 2 1 (.slice A2 wl c2) wl (wd.map ic) := own_less hoL.2.1 (below_drewN (Below.refl wi.heap.size wi) _).size
                  have hbW2 : Below wi.heap.size wi w2 := bon (below_drewN (Below.refl wi.heap.size wi) _) hb2
                  have hs2 := hbW2.size
                  clear hoL hb2
                  go_wp2_with (at_builtin; refine wpList_append_sep rfl _ _ 35 rfl wi.heap.size 2 i0 (.int .i64 0) 1 8 Try.underlying35 hi hz0 hz1 hz2 rfl (by decide) _ _ _ rfl (o2.alloc _) ⟨w2.heap.size, 0, none⟩ 1 1 [.int .i64 (e : Int)] rfl rfl (cell_one_new _ _ _) (by simp [Value.oneCell']) (by unfold maxLen; omega) (by omega) (by simp; omega) (by omega) ?_; intro g4 cap4 w4 hown4 hgrow4 hsep4; have hbW4 : Below wi.heap.size wi w4 := (bon hbW2 (bnew w2 (.cells #[.int .i64 (e : Int)] 2))).grown hgrow4 (by simp; omega) (fun k hk => (o2.lt k hk).1); have s4 := own_below HM.out.seen hbW4; have c9 := s4.cellAt y (by omega); rw [seenV_at hyN, HDEC.out] at c9; have f9 := s4.frozenAt y)
                  go_roundw
                  case rel =>
                    obtain ⟨q1, q2, q3, q4⟩ := HNOS.out w4 hbW4 (.inr (by rw [HYY.out]; exact HMEM.out)) HHF.out
                    exact ⟨e + 1, T', by go_num, by omega, q1, q2, HTK', q3, q4, hvx⟩
                  case measure => simp [intOf]; omega
                · have hdec : decide ((y : Int) ∈ T'.map Prod.fst) = false := decide_eq_false hmem
                  have HMEM := Lib.hid hmem
                  have HDEC := Lib.hid hdec
                  clear hmem hdec
                  go_wp2_with fail
                  go_quiet (fail)
                  go_wp2_with fail
                  go_quiet (fail)
                  go_wp2_with fail
                  refine (HOWN.out _ (below_drewN (Below.refl wi.heap.size wi) _)).mono ?_
                  rintro v9 w2 ⟨A2, c2, rfl, hoL, hb2⟩
                  have o2 : w2.ownsRow wi.heap.size 2 1 (.slice A2 wl c2) wl (wd.map ic) := own_less hoL.2.1 (below_drewN (Below.refl wi.heap.size wi) _).size
                  have hbW2 : Below wi.heap.size wi w2 := bon (below_drewN (Below.refl wi.heap.size wi) _) hb2
                  have hs2 := hbW2.size
                  clear hoL hb2
                  go_wp2_with (first | (at_builtin; refine wpList_append_sep rfl _ _ 35 rfl wi.heap.size 2 i0 (.int .i64 0) 1 8 Try.underlying35 hi hz0 hz1 hz2 rfl (by decide) _ _ _ rfl (o2.alloc _) ⟨w2.heap.size, 0, none⟩ 1 1 [.int .i64 (e : Int)] rfl rfl (cell_one_new _ _ _) (by simp [Value.oneCell']) (by unfold maxLen; omega) (by omega) (by simp; omega) (by omega) ?_; intro g4 cap4 w4 hown4 hgrow4 hsep4; have hbW4 : Below wi.heap.size wi w4 := (bon hbW2 (bnew w2 (.cells #[.int .i64 (e : Int)] 2))).grown hgrow4 (by simp; omega) (fun k hk => (o2.lt k hk).1); have s4 := own_below HM.out.seen hbW4; have c9 := s4.cellAt y (by omega); rw [seenV_at hyN, HDEC.out] at c9; have f9 := s4.frozenAt y; have k5 := (own_below HM.out.work hbW4).kept (only_set (w := w4) (g := gs) (i := y) (x := .bool true)) (.inr (fun e => own_ne_any s4 (own_below HM.out.work hbW4) (by decide) gs rfl e)); rw [HTL'.out] at k5; have hs4 := hbW4.size) | (at_builtin; refine wpList_append_sep rfl _ _ 72 rfl w.heap.size 71 i2 (.agg #[.int .i64 0, .int .i64 0, .slice none 0 0]) 3 40 Try.underlying72 hi'' hz0'' hz1'' hz2'' rfl (by decide) _ _ _ rfl (k5.alloc _) ⟨w4.heap.size, 0, none⟩ 1 1 [.int .i64 a, .int .i64 bb, .slice (some ⟨g4, 0, none⟩) (wl + 1) cap4] rfl rfl (cells3_new _ _ _ _ _ (by simp)) (by simp [Value.oneCell']) (by unfold maxLen; omega) (by omega) (by simp; omega) (by omega) ?_; intro g6 cap6 w6 hown6 hgrow6 hsep6))
                  go_roundw
                  case rel =>
                    have hxs := (HXX.out.next hbW4).far (g' := gs) (fun e => own_ne_blkQ s4 (HXX.out.next hbW4) (by decide) (congrArg some e.symm)) y (.bool true)
                    have hx6 := (hxs.next (bnew (w4.setCell ⟨gs, y, none⟩ (.bool true)) (.cells #[.int .i64 a, .int .i64 bb, .slice (some ⟨g4, 0, none⟩) (wl + 1) cap4] 71))).by_grown hgrow6 hvx
                    have hgl := (HXX.out.next hbW4).lt
                    have hput := HM.out.put (y := y) (vw := .slice (some ⟨g4, 0, none⟩) (wl + 1) cap4) (wd := wd ++ [(e : Int)]) hbW4 (by have := HWL.out; rw [List.length_append, this, List.map_append]; exact hown4) hgrow6 (by rw [HTL'.out, HPA.out.1, HPA.out.2]; exact hown6)
                    refine ⟨e + 1, T' ++ [((y : Int), (.slice (some ⟨g4, 0, none⟩) (wl + 1) cap4, wd ++ [(e : Int)]))], by go_num, by omega, ?_, ?_, ?_, hput, hx6, ?_⟩
                    · show _ = _
                      rw [wT, wS_yes HV.out (by rw [← HT'.out, List.map_map, HYY.out]; exact HMEM.out), List.map_append, HT'.out, HYY.out]; rfl
                    · intro j hj
                      rcases Nat.lt_or_ge j e with h1 | h1
                      · exact HNE.out j h1
                      · rw [show j = e by omega]; exact HHF.out
                    · show (T' ++ _)[k]? = _
                      rw [List.getElem?_append_left (List.getElem?_eq_some_iff.1 HTK'.out).1]; exact HTK'.out
                    · intro h9
                      obtain rfl : g6 = gx := Option.some.inj h9
                      rcases hsep6 with h' | h'
                      · exact hvx h'.symm
                      · simp at h'; omega
                  case measure => simp [intOf]; omega
        · obtain rfl : e = 4 := by omega
          have HNX : Hid (T'.map (fun t => (t.1, t.2.2)) = wunf (stP xs ys) (k + 1)) := by
            show _ = _
            rw [wunf_next HU.out]; exact HT'.out
          have HNB : Hid (∀ j u, j < k + 1 → (wunf (stP xs ys) (k + 1))[j]? = some u → ∀ e, e < 4 → hitB xs ys both u.1 e = false) := by
            intro j u hj hu
            obtain ⟨z, hz⟩ := wunf_pre (st := stP xs ys) k 1
            rw [← hz, List.getElem?_append_left (by have := (List.getElem?_eq_some_iff.1 HU.out).1; omega)] at hu
            rcases Nat.lt_or_ge j k with h1 | h1
            · exact HNO.out j u h1 hu
            · rw [show j = k by omega, HU.out] at hu
              obtain rfl := Option.some.inj hu
              exact fun e he => HNE.out e he
          have hkl : k + 1 ≤ T'.length := by have := (List.getElem?_eq_some_iff.1 HTK'.out).1; omega
          have HM := Lib.hid hM
          clear hM hX
          go_wp2_with fail
          go_roundw
          case rel => exact ⟨k + 1, T', by go_num, HNX, HNB, hkl, HM.out⟩
          case measure => simp [intOf]; omega
    · obtain rfl : k = tl := by omega
      have HNF : Hid (F = none) := by
        show F = none
        rw [← HF.out]
        refine findP_none (i := k) (by rw [hxn, hym, HN.out]; exact hTl) ?_ HNO.out
        rw [← HT.out, List.length_map]; omega
      have hbel := hM.below
      have i3 : ¬ (k : Int) < (k : Int) := by omega
      clear hM hwk htl
      go_wp2_with fail
      go_ret2
      have hnone := HNF.out
      subst hnone
      exact ⟨none, 0, rfl, own_nil _ _, hbel⟩
end Go.Proofs.Ytopijecdhjnipaa
