/-
  The marks that the law writes into the elements of a body and into a program; the copy of a program whose elements' rows lie apart. Conditions: at most 2^20 elements, terms and coefficients.
-/
import Derived.Test.YthgegomccbpgeaaDoorStmtM
import Derived.Test.YthgegomccbpgeaaDoorPgmK
namespace Go.Proofs.YthgegomccbpgeaaDoor
set_option linter.unusedVariables false
open Go.RowKit

/-- The row of the elements, whose headers are as they were. -/
def HdM (w : World) (lo : Nat) (A : Option Addr) (n c : Nat) (xs : List Value) : Prop :=
  ∃ ys, w.ownsRow lo 56 8 (.slice A n c) n ys ∧ ∀ i, ys[i * 8 + 4]? = xs[i * 8 + 4]? ∧ ys[i * 8 + 6]? = xs[i * 8 + 6]? ∧ ys[i * 8 + 7]? = xs[i * 8 + 7]?
theorem HdM.set {w : World} {lo g n c : Nat} {xs : List Value} (h : HdM w lo (some ⟨g, 0, none⟩) n c xs) (o : Nat) (ho : ∀ i, o ≠ i * 8 + 4 ∧ o ≠ i * 8 + 6 ∧ o ≠ i * 8 + 7) (v : Value) : HdM (w.setCell ⟨g, o, none⟩ v) lo (some ⟨g, 0, none⟩) n c xs := by
  obtain ⟨ys, h1, h2⟩ := h
  refine ⟨_, (h1.stored o v).1, fun i => ?_⟩
  obtain ⟨a, b, d⟩ := h2 i
  obtain ⟨n1, n2, n3⟩ := ho i
  rw [List.getElem?_set_ne (by omega), List.getElem?_set_ne (by omega), List.getElem?_set_ne (by omega)]
  exact ⟨a, b, d⟩
theorem HdM.out {w w' : World} {lo g n c lo' hi' : Nat} {xs : List Value} (h : HdM w lo (some ⟨g, 0, none⟩) n c xs) (ho : Out lo' hi' w w') (hg : g < lo' ∨ hi' ≤ g) : HdM w' lo (some ⟨g, 0, none⟩) n c xs := by
  obtain ⟨ys, h1, h2⟩ := h
  refine ⟨ys, ⟨h1.1, ?_⟩, h2⟩
  rcases h1.2 with h' | ⟨g', cap, cur, k1, k2, k3, k4⟩
  · exact .inl h'
  · refine .inr ⟨g', cap, cur, k1, k2, ?_, k4⟩
    have e : g = g' := by injection k1 with e1; injection e1 with e2; injection e2
    subst e
    have hlt : g < w.heap.size := (h1.lt g rfl).2
    rw [ho.block g (by omega) (by omega)]
    exact k3
theorem HdM.cell {w : World} {lo g n c : Nat} {xs : List Value} (h : HdM w lo (some ⟨g, 0, none⟩) n c xs) (o : Nat) (ho : o < n * 8) : (∃ u, w.cell? ⟨g, o, none⟩ = some u) ∧ w.frozen? ⟨g, o, none⟩ = false := by
  obtain ⟨ys, h1, h2⟩ := h
  have hl := h1.1
  refine ⟨⟨ys[o]'(by omega), ?_⟩, h1.frozenAt o⟩
  rw [h1.cellAt o (by omega), List.getElem?_eq_getElem (by omega)]
theorem HdM.head {w : World} {lo g n c : Nat} {xs : List Value} (h : HdM w lo (some ⟨g, 0, none⟩) n c xs) (i : Nat) (hi : i < n) : w.cell? ⟨g, i * 8 + 4, none⟩ = xs[i * 8 + 4]? ∧ w.cell? ⟨g, i * 8 + 6, none⟩ = xs[i * 8 + 6]? ∧ w.cell? ⟨g, i * 8 + 7, none⟩ = xs[i * 8 + 7]? := by
  obtain ⟨ys, h1, h2⟩ := h
  obtain ⟨a, b, d⟩ := h2 i
  have hl := h1.1
  rw [h1.cellAt _ (by omega), h1.cellAt _ (by omega), h1.cellAt _ (by omega)]
  exact ⟨a, b, d⟩
/-- An element's rows. -/
def RowsM (w : World) (xs : List Value) (f : Nat → Nat) (j : Nat) (t : S8) : Prop := ∃ As ns cs Ai ni ci Af nf cf m1 m2, (xs[j * 8 + 4]? = some (.slice As ns cs) ∧ xs[j * 8 + 6]? = some (.slice Ai ni ci) ∧ xs[j * 8 + 7]? = some (.slice Af nf cf)) ∧
  OwnL w (f j) m1 As ns cs t.s.2 ∧ OwnL w m1 m2 Ai ni ci t.i.2 ∧ OwnTS w m2 (f (j + 1)) Af nf cf t.f ∧ f j ≤ m1 ∧ m1 ≤ m2 ∧ m2 ≤ f (j + 1)
theorem RowsM.out {w w' : World} {xs : List Value} {f : Nat → Nat} {j lo' hi' : Nat} {t : S8} (h : RowsM w xs f j t) (ho : Out lo' hi' w w') (hd : hi' ≤ f j ∨ f (j + 1) ≤ lo') : RowsM w' xs f j t := by
  obtain ⟨As, ns, cs, Ai, ni, ci, Af, nf, cf, m1, m2, q, k1, k2, k3, e1, e2, e3⟩ := h
  exact ⟨As, ns, cs, Ai, ni, ci, Af, nf, cf, m1, m2, q, k1.out ho (by omega), k2.out ho (by omega), k3.out ho (by omega), e1, e2, e3⟩

set_option maxRecDepth 100000 in
set_option maxHeartbeats 8000000 in
theorem markStmtS_w (lo hi : Nat) (A : Option Addr) (n c : Nat) (ts : List S8) (k0 : Int) (w : World) (h : OwnSM w lo hi A n c ts) (hn : n ≤ 1048576) (he : totS ts ≤ 1048576) (hk1 : 0 ≤ k0) (hk2 : k0 ≤ 10000000) :
    Calls Tryd.prog 26 #[.slice A n c, .int .i64 k0] w fun e w' => e = .returned (.int .i64 (k0 + ((5 * n + totS ts : Nat) : Int))) ∧ Out lo hi w w' := by
  obtain ⟨h1, h2, xs, f, h3, h4, h5, h6, h7, h8⟩ := h
  have hlen := Lib.hid h1
  have H4 := Lib.hid h4
  have H6 := Lib.hid h6
  have HR0 : Hid (HdM w lo A n c xs ∧ ∀ j t, 0 ≤ j → ts[j]? = some t → RowsM w xs f j t) := ⟨⟨xs, h3, fun i => ⟨rfl, rfl, rfl⟩⟩, fun j t _ hj => by
    obtain ⟨As, ns, cs, Ai, ni, ci, Af, nf, cf, m1, m2, q, k⟩ := h8 j t hj
    exact ⟨As, ns, cs, Ai, ni, ci, Af, nf, cf, m1, m2, ⟨q.2.2.2.2.1, q.2.2.2.2.2.2.1, q.2.2.2.2.2.2.2⟩, k⟩⟩
  clear h1 h3 h4 h6 h8
  go_enter Tryd.func26, Tryd.ntmps26
  go_wp2_with fail
  go_loopw [1, 5] (fun kv i wr => ∃ j : Nat, j ≤ n ∧ i = .int .i64 j ∧ kv = .int .i64 (k0 + ((5 * j + totS (ts.take j) : Nat) : Int)) ∧ Hid (HdM wr lo A n c xs ∧ ∀ i t, j ≤ i → ts[i]? = some t → RowsM wr xs f i t) ∧ Out lo hi w wr) (fun _ i _ => n - (intOf i).toNat)
  case atStart => exact ⟨0, Nat.zero_le _, rfl, by simp [totS], HR0, Out.refl _ _ _⟩
  case round =>
    clear HR0
    obtain ⟨j, hj, rfl, rfl, hR, hout⟩ := hrel
    by_cases hlt : j < n
    · obtain ⟨hd, hrest⟩ := hR.out
      obtain ⟨t, ht⟩ : ∃ t, ts[j]? = some t := ⟨_, List.getElem?_eq_getElem (by have := hlen.out; omega)⟩
      obtain ⟨As, ns, cs, Ai, ni, ci, Af, nf, cf, m1, m2, ⟨q4, q6, q7⟩, o1, o2, o3, e1, e2, e3⟩ := hrest j t (Nat.le_refl _) ht
      obtain ⟨g, rfl⟩ : ∃ g, A = some ⟨g, 0, none⟩ := by
        obtain ⟨ys, hr, _⟩ := hd
        rcases hr.2 with h' | ⟨g, cap, cur, k1, _⟩
        · have := h'.2; omega
        · injection k1 with k1; exact ⟨g, k1⟩
      have hg0 : g < f 0 := H4.out g rfl
      have hlg : lo ≤ g := by obtain ⟨ys, hr, _⟩ := hd; exact (hr.lt g rfl).1
      have hfj : f 0 ≤ f j := mono_le H6.out (Nat.zero_le _) (by omega)
      have hfn : f (j + 1) ≤ f n := mono_le H6.out (by omega) (Nat.le_refl _)
      have hmem := totS_mem (List.mem_of_getElem? ht)
      have hts := totS_succ ht
      have htk := totS_take ts j
      have htk1 := totS_take ts (j + 1)
      have htt : t.tot = ns + (ni + (nf + totT t.f)) := by unfold S8.tot; rw [o1.1, o2.1, o3.1]
      obtain ⟨K, hK⟩ : ∃ K : Int, K = k0 + ((5 * j + totS (ts.take j) : Nat) : Int) := ⟨_, rfl⟩
      have hKn : K + 5 + (ns : Int) + (ni : Int) + ((nf + totT t.f : Nat) : Int) = k0 + ((5 * (j + 1) + totS (ts.take (j + 1)) : Nat) : Int) := by rw [hts, htt, hK]; omega
      have hK1 : 0 ≤ K := by omega
      have hK2 : K ≤ 30000000 := by omega
      rw [← hK]
      obtain ⟨a4, a6, a7⟩ := hd.head j hlt
      rw [q4] at a4
      obtain ⟨⟨u0, c0⟩, z0⟩ := hd.cell (j * 8) (by omega)
      obtain ⟨⟨u1, c1⟩, z1⟩ := hd.cell (j * 8 + 1) (by omega)
      obtain ⟨⟨u2, c2⟩, z2⟩ := hd.cell (j * 8 + 2) (by omega)
      obtain ⟨⟨u3, c3⟩, z3⟩ := hd.cell (j * 8 + 3) (by omega)
      have HD1 : Hid (∀ v0 v1 v2 v3, HdM ((((wr.setCell ⟨g, j * 8, none⟩ v0).setCell ⟨g, j * 8 + 1, none⟩ v1).setCell ⟨g, j * 8 + 2, none⟩ v2).setCell ⟨g, j * 8 + 3, none⟩ v3) lo (some ⟨g, 0, none⟩) n c xs) := fun v0 v1 v2 v3 => (((hd.set (j * 8) (fun i => by omega) v0).set (j * 8 + 1) (fun i => by omega) v1).set (j * 8 + 2) (fun i => by omega) v2).set (j * 8 + 3) (fun i => by omega) v3
      have HO1 : Hid (∀ v0 v1 v2 v3, Out g (g + 1) wr ((((wr.setCell ⟨g, j * 8, none⟩ v0).setCell ⟨g, j * 8 + 1, none⟩ v1).setCell ⟨g, j * 8 + 2, none⟩ v2).setCell ⟨g, j * 8 + 3, none⟩ v3)) := fun v0 v1 v2 v3 => out_set (out_set (out_set (out_set (Out.refl _ _ _) (by omega)) (by omega)) (by omega)) (by omega)
      have HM1 := Lib.hid (fun (W : World) (kk : Int) (ho : Out g (g + 1) wr W) (h0 : 0 ≤ kk) (h1 : kk ≤ 100000000) => markInt64S_k (f j) m1 As ns cs t.s.2 kk W (o1.out ho (by omega)) (by omega) h0 (by omega))
      have HQ := Lib.hid (And.intro q6 q7)
      have HREST := Lib.hid hrest
      have HOW := Lib.hid (And.intro o2 o3)
      clear hd hrest hR o1 o2 o3 q4 q6 q7 a6 a7 ht hts htt hmem htk
      go_wp2_with fail
      refine (HM1.out _ _ (HO1.out _ _ _ _) (by omega) (by omega)).mono ?_
      rintro e9 w2 ⟨rfl, _, ho1⟩
      have hd2 := (HD1.out _ _ _ _).out ho1 (.inl (by omega))
      have hoA := ((HO1.out _ _ _ _).wide (lo' := lo) (hi' := f n) hlg (by omega)).trans (ho1.wide (lo' := lo) (hi' := f n) (by omega) (by omega))
      have hs2 := ho1.size
      have hsA := hoA.size
      have HO2 := Lib.hid (And.intro ((HOW.out.1.out (HO1.out _ _ _ _) (by omega)).out ho1 (by omega)) ((HOW.out.2.out (HO1.out _ _ _ _) (by omega)).out ho1 (by omega)))
      have HR2 : Hid (∀ i t, j + 1 ≤ i → ts[i]? = some t → RowsM w2 xs f i t) := fun i t hi ht => by
        have hfi : f (j + 1) ≤ f i := mono_le H6.out (by omega) (by have := (List.getElem?_eq_some_iff.1 ht).1; have := hlen.out; omega)
        exact ((HREST.out i t (by omega) ht).out (HO1.out _ _ _ _) (by omega)).out ho1 (by omega)
      obtain ⟨b4, b6, b7⟩ := hd2.head j hlt
      rw [HQ.out.1] at b6
      obtain ⟨⟨u5, c5⟩, z5⟩ := hd2.cell (j * 8 + 5) (by omega)
      have HD3 : Hid (∀ v, HdM (w2.setCell ⟨g, j * 8 + 5, none⟩ v) lo (some ⟨g, 0, none⟩) n c xs) := fun v => hd2.set (j * 8 + 5) (fun i => by omega) v
      have HO3 : Hid (∀ v, Out g (g + 1) w2 (w2.setCell ⟨g, j * 8 + 5, none⟩ v)) := fun v => out_set (Out.refl _ _ _) (by omega)
      have HM2 := Lib.hid (fun (W : World) (kk : Int) (ho : Out g (g + 1) w2 W) (h0 : 0 ≤ kk) (h1 : kk ≤ 100000000) => markInt64S_k m1 m2 Ai ni ci t.i.2 kk W (HO2.out.1.out ho (by omega)) (by omega) h0 (by omega))
      have HOA := Lib.hid hoA
      clear b4 b7 hd2 HM1 HD1 HREST HOW ho1 hoA a4 z0 c0 z1 c1 z2 c2 z3 c3 HO1
      go_wp2_with fail
      refine (HM2.out _ _ (HO3.out _) (by omega) (by omega)).mono ?_
      rintro e9 w3 ⟨rfl, _, ho3⟩
      have hd3 := (HD3.out _).out ho3 (.inl (by omega))
      have hoB := (HOA.out.trans ((HO3.out _).wide (lo' := lo) (hi' := f n) hlg (by omega))).trans (ho3.wide (lo' := lo) (hi' := f n) (by omega) (by omega))
      have hs3 := ho3.size
      have HO4 := Lib.hid ((HO2.out.2.out (HO3.out _) (by omega)).out ho3 (by omega))
      have HR3 : Hid (∀ i t, j + 1 ≤ i → ts[i]? = some t → RowsM w3 xs f i t) := fun i t hi ht => by
        have hfi : f (j + 1) ≤ f i := mono_le H6.out (by omega) (by have := (List.getElem?_eq_some_iff.1 ht).1; have := hlen.out; omega)
        exact ((HR2.out i t hi ht).out (HO3.out _) (by omega)).out ho3 (by omega)
      obtain ⟨b4, b6', b7⟩ := hd3.head j hlt
      rw [HQ.out.2] at b7
      have HM3 := Lib.hid (fun (kk : Int) (h0 : 0 ≤ kk) (h1 : kk ≤ 100000000) => markTermS_w m2 (f (j + 1)) Af nf cf t.f kk w3 HO4.out (by omega) (by omega) h0 h1)
      have HOB := Lib.hid hoB
      have HD4 := Lib.hid hd3
      clear b4 b6' b6 hd3 HM2 HD3 HR2 HO2 ho3 hoB z5 c5 HOA HO3
      go_wp2_with fail
      refine (HM3.out _ (by omega) (by omega)).mono ?_
      rintro e9 w4 ⟨rfl, _, ho4⟩
      have hs4 := ho4.size
      go_wp2_with fail
      go_roundw
      case rel =>
        refine ⟨j + 1, by omega, by go_num, congrArg (Value.int .i64) (by omega), ⟨HD4.out.out ho4 (.inl (by omega)), fun i t hi ht => ?_⟩, hout.trans ((HOB.out.trans (ho4.wide (lo' := lo) (hi' := f n) (by omega) (by omega))).wide (Nat.le_refl _) h7)⟩
        have hfi : f (j + 1) ≤ f i := mono_le H6.out (by omega) (by have := (List.getElem?_eq_some_iff.1 ht).1; have := hlen.out; omega)
        exact (HR3.out i t hi ht).out ho4 (by omega)
      case measure => simp [intOf]; omega
    · have e1 : j = n := by omega
      subst e1
      have e2 : totS (ts.take j) = totS ts := by rw [List.take_of_length_le (by have := hlen.out; omega)]
      rw [e2]
      clear e2
      go_wp2_with fail
      go_ret
      exact ⟨rfl, hout⟩

set_option maxRecDepth 100000 in
set_option maxHeartbeats 4000000 in
theorem toProgram_m (A : Option Addr) (n c : Nat) (ts : List (Int × List Int)) (D : Option Addr) (m d : Nat) (xs : List S8) (E : Option Addr) (q e' B : Nat) (us : List (Int × List Int)) (w : World) (h : PIn w B A n ts D m xs E q us) (hB : B ≤ w.heap.size)
    (hn : progN n ts m xs q us ≤ 1048576) :
    Calls Tryd.prog 6 #[.agg #[.slice A n c, .slice D m d, .slice E q e']] w fun e w' => ∃ g1 g2 g3 m1 m2, e = .returned (.agg #[.slice (some ⟨g1, 0, none⟩) n n, .slice (some ⟨g2, 0, none⟩) m m, .slice (some ⟨g3, 0, none⟩) q q]) ∧
      OwnTS w' w.heap.size m1 (some ⟨g1, 0, none⟩) n n ts ∧ OwnSM w' m1 m2 (some ⟨g2, 0, none⟩) m m xs ∧ OwnTS w' m2 w'.heap.size (some ⟨g3, 0, none⟩) q q us ∧ (w.heap.size ≤ m1 ∧ m1 ≤ m2 ∧ m2 ≤ w'.heap.size) ∧ Below w.heap.size w w' := by
  unfold progN at hn
  have hb0 : Below w.heap.size w (((w.alloc (.cells #[.slice A n c, .slice D m d, .slice E q e'] 25)).alloc (.cells #[.slice none 0 0, .slice none 0 0, .slice none 0 0] 32)).alloc (.cells #[.slice none 0 0, .slice none 0 0, .slice none 0 0] 32)) := bon (bon (bnew _ _) (bnew _ _)) (bnew _ _)
  have hsz : (((w.alloc (.cells #[.slice A n c, .slice D m d, .slice E q e'] 25)).alloc (.cells #[.slice none 0 0, .slice none 0 0, .slice none 0 0] 32)).alloc (.cells #[.slice none 0 0, .slice none 0 0, .slice none 0 0] 32)).heap.size = w.heap.size + 3 := by simp
  have H1 := Lib.hid (h.1.next hb0 hB)
  have H2 := Lib.hid (h.2.1.next hb0 hB)
  have H3 := Lib.hid (h.2.2.next hb0 hB)
  clear h
  have hP : BlkIs (((w.alloc (.cells #[.slice A n c, .slice D m d, .slice E q e'] 25)).alloc (.cells #[.slice none 0 0, .slice none 0 0, .slice none 0 0] 32)).alloc (.cells #[.slice none 0 0, .slice none 0 0, .slice none 0 0] 32)) w.heap.size 25 #[.slice A n c, .slice D m d, .slice E q e'] := ((blk_new w _ _ _ rfl).next (bnew _ _)).next (bnew _ _)
  have hR : BlkIs (((w.alloc (.cells #[.slice A n c, .slice D m d, .slice E q e'] 25)).alloc (.cells #[.slice none 0 0, .slice none 0 0, .slice none 0 0] 32)).alloc (.cells #[.slice none 0 0, .slice none 0 0, .slice none 0 0] 32)) (w.heap.size + 1) 32 #[.slice none 0 0, .slice none 0 0, .slice none 0 0] := (blk_new _ _ _ _ (by simp)).next (bnew _ _)
  have hO : BlkIs (((w.alloc (.cells #[.slice A n c, .slice D m d, .slice E q e'] 25)).alloc (.cells #[.slice none 0 0, .slice none 0 0, .slice none 0 0] 32)).alloc (.cells #[.slice none 0 0, .slice none 0 0, .slice none 0 0] 32)) (w.heap.size + 1 + 1) 32 #[.slice none 0 0, .slice none 0 0, .slice none 0 0] := blk_new _ _ _ _ (by simp)
  go_enter Tryd.func6, Tryd.ntmps6
  go_wp2_with fail
  generalize ((w.alloc (.cells #[.slice A n c, .slice D m d, .slice E q e'] 25)).alloc (.cells #[.slice none 0 0, .slice none 0 0, .slice none 0 0] 32)).alloc (.cells #[.slice none 0 0, .slice none 0 0, .slice none 0 0] 32) = W at hb0 hsz H1 H2 H3 hP hR hO ⊢
  refine (toTermS_k A n c B ts W H1.out (by omega) (by omega) (by omega)).mono ?_
  rintro e w1 ⟨g1, rfl, o1, hb1⟩
  have hs1 := hb1.size
  have hP1 := hP.next hb1
  have hR1 := hR.next hb1
  have hO1 := hO.next hb1
  have p1 := hP1.cell 1
  have o0 := hO1.cell 0
  have f0 := hO1.frozen 0
  simp at p1 o0
  go_wp2_with fail
  have hset : Out (w.heap.size + 1) (w.heap.size + 3) w1 (w1.setCell ⟨w.heap.size + 1 + 1, 0, none⟩ (.slice (some ⟨g1, 0, none⟩) n n)) := out_set (Out.refl _ _ _) (by omega)
  have hP2 := hP1.far (g' := w.heap.size + 1 + 1) (by omega) 0 (.slice (some ⟨g1, 0, none⟩) n n)
  have hR2 := hR1.far (g' := w.heap.size + 1 + 1) (by omega) 0 (.slice (some ⟨g1, 0, none⟩) n n)
  have hO2 := hO1.set 0 (.slice (some ⟨g1, 0, none⟩) n n)
  simp at hO2
  clear p1 o0 f0 hP1 hR1 hO1 hP hR hO
  generalize w1.setCell ⟨w.heap.size + 1 + 1, 0, none⟩ (.slice (some ⟨g1, 0, none⟩) n n) = w2 at hset hP2 hR2 hO2 ⊢
  have hs2 := hset.size
  have o12 := o1.out hset (by omega)
  have hb02 : Below w.heap.size w w2 := (hb0.trans (hb1.mono (by omega))).trans (hset.below (by omega) (by omega))
  have H22 := Lib.hid ((H2.out.next hb1 (by omega)).next (hset.below (Nat.le_succ _) (by omega)) hB)
  have H32 := Lib.hid ((H3.out.next hb1 (by omega)).next (hset.below (Nat.le_succ _) (by omega)) hB)
  refine (toStmtS_m D m d B xs w2 H22.out (by omega) (by omega) (by omega)).mono ?_
  rintro e w3 ⟨g2, rfl, o2, hb3⟩
  have hs3 := hb3.size
  have hP3 := hP2.next hb3
  have hR3 := hR2.next hb3
  have hO3 := hO2.next hb3
  have p2 := hP3.cell 2
  have o1' := hO3.cell 1
  have f1 := hO3.frozen 1
  simp at p2 o1'
  have o13 := o12.next hb3
  have hb03 := hb02.trans (hb3.mono hb02.size)
  go_wp2_with fail
  have hset3 : Out (w.heap.size + 1) (w.heap.size + 3) w3 (w3.setCell ⟨w.heap.size + 1 + 1, 1, none⟩ (.slice (some ⟨g2, 0, none⟩) m m)) := out_set (Out.refl _ _ _) (by omega)
  have hR4 := hR3.far (g' := w.heap.size + 1 + 1) (by omega) 1 (.slice (some ⟨g2, 0, none⟩) m m)
  have hO4 := hO3.set 1 (.slice (some ⟨g2, 0, none⟩) m m)
  simp at hO4
  clear p2 o1' f1 hP3 hR3 hO3 hP2 hR2 hO2
  generalize w3.setCell ⟨w.heap.size + 1 + 1, 1, none⟩ (.slice (some ⟨g2, 0, none⟩) m m) = w4 at hset3 hR4 hO4 ⊢
  have hs4 := hset3.size
  have o14 := o13.out hset3 (by omega)
  have o24 := o2.out hset3 (by omega)
  have hb04 : Below w.heap.size w w4 := hb03.trans (hset3.below (by omega) (by omega))
  have H34 := Lib.hid ((H32.out.next hb3 (by omega)).next (hset3.below (Nat.le_succ _) (by omega)) hB)
  refine (toTermS_k E q e' B us w4 H34.out (by omega) (by omega) (by omega)).mono ?_
  rintro e w5 ⟨g3, rfl, o3, hb5⟩
  have hs5 := hb5.size
  have hR5 := hR4.next hb5
  have hO5 := hO4.next hb5
  have r0 := hR5.cell 0
  have r1 := hR5.cell 1
  have r2 := hR5.cell 2
  have q0 := hO5.cell 0
  have q1 := hO5.cell 1
  have q2 := hO5.cell 2
  have f2 := hO5.frozen 2
  have k0 := hR5.frozen 0
  have k1 := hR5.frozen 1
  have k2 := hR5.frozen 2
  simp at r0 r1 r2 q0 q1 q2
  have o15 := o14.next hb5
  have o25 := o24.next hb5
  have hb05 := hb04.trans (hb5.mono hb04.size)
  go_wp2_with fail
  refine bodyPost_ret (v := .agg #[.slice (some ⟨g1, 0, none⟩) n n, .slice (some ⟨g2, 0, none⟩) m m, .slice (some ⟨g3, 0, none⟩) q q]) (by simp [results, Tryd.results6, go_sem, r0, r1, r2]) rfl ?_
  have ho : Out (w.heap.size + 1) (w.heap.size + 3) w5 ((((w5.setCell ⟨w.heap.size + 1 + 1, 2, none⟩ (.slice (some ⟨g3, 0, none⟩) q q)).setCell ⟨w.heap.size + 1, 0, none⟩ (.slice (some ⟨g1, 0, none⟩) n n)).setCell ⟨w.heap.size + 1, 1, none⟩ (.slice (some ⟨g2, 0, none⟩) m m)).setCell ⟨w.heap.size + 1, 2, none⟩ (.slice (some ⟨g3, 0, none⟩) q q)) :=
    out_set (out_set (out_set (out_set (Out.refl _ _ _) (by omega)) (by omega)) (by omega)) (by omega)
  have hso := ho.size
  refine ⟨g1, g2, g3, w2.heap.size, w4.heap.size, rfl, ?_, ?_, ?_, ⟨by omega, by omega, by omega⟩, hb05.trans (ho.below (by omega) (by omega))⟩
  · exact ((o15.out ho (by omega)).less (by omega)).wide (by omega) (by omega)
  · exact (o25.out ho (by omega)).wide (by omega) (by omega)
  · exact ((o3.out ho (by omega)).less (by omega)).wide hso (Nat.le_refl _)

end Go.Proofs.YthgegomccbpgeaaDoor
