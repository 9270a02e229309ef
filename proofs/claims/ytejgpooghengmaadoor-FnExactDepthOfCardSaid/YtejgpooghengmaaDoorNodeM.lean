/-
  Lists of Node in memory of one's own, each element's rows apart from the others'; the law's copy; the marks that the law writes and reads again. Conditions: at most 2^20 elements and numbers. (printed by gen_list.py)
-/
import Derived.Test.YtejgpooghengmaaDoorNode
import Derived.Test.YtejgpooghengmaaDoorTermsC
import Derived.Test.YtejgpooghengmaaDoorMono
import Derived.Test.YtejgpooghengmaaDoorMarkTS
namespace Go.Proofs.YtejgpooghengmaaDoor
set_option linter.unusedVariables false
open Go.RowKit

/-- What lies at the places from f on, element by element. -/
def PartN5 (w : World) (xs : List Value) (f : Nat → Nat) (j : Nat) (t : N5) : Prop := ∃ A0 n0 c0 A1 n1 c1 m1, (xs[j * 5]? = some (.int .i64 t.k) ∧ xs[j * 5 + 1]? = some (.int .i64 t.f) ∧ xs[j * 5 + 2]? = some (.int .i64 t.t.1) ∧ xs[j * 5 + 3]? = some (.slice A0 n0 c0) ∧ xs[j * 5 + 4]? = some (.slice A1 n1 c1)) ∧
  OwnL w (f j) m1 A0 n0 c0 t.t.2 ∧ OwnL w m1 (f (j + 1)) A1 n1 c1 t.m ∧ f j ≤ m1 ∧ m1 ≤ f (j + 1)
def OwnN5 (w : World) (lo hi : Nat) (A : Option Addr) (n c : Nat) (ts : List N5) : Prop :=
  ts.length = n ∧ hi ≤ w.heap.size ∧ ∃ (xs : List Value) (f : Nat → Nat), w.ownsRow lo 76 5 (.slice A n c) n xs ∧ (∀ k, (Value.slice A n c).ownBlock = some k → k < hi ∧ (k < f 0 ∨ f n ≤ k)) ∧ lo ≤ f 0 ∧ (∀ i, i < n → f i ≤ f (i + 1)) ∧ f n ≤ hi ∧ ∀ j t, ts[j]? = some t → PartN5 w xs f j t
theorem PartN5.next {w w' : World} {xs : List Value} {f : Nat → Nat} {j : Nat} {t : N5} (h : PartN5 w xs f j t) (hb : Below w.heap.size w w') : PartN5 w' xs f j t := by
  obtain ⟨A0, n0, c0, A1, n1, c1, m1, q, k0, k1, e⟩ := h
  exact ⟨A0, n0, c0, A1, n1, c1, m1, q, k0.next hb, k1.next hb, e⟩
theorem PartN5.out {w w' : World} {xs : List Value} {f : Nat → Nat} {j lo' hi' : Nat} {t : N5} (h : PartN5 w xs f j t) (ho : Out lo' hi' w w') (hd : hi' ≤ f j ∨ f (j + 1) ≤ lo') : PartN5 w' xs f j t := by
  obtain ⟨A0, n0, c0, A1, n1, c1, m1, q, k0, k1, e0, e1⟩ := h
  exact ⟨A0, n0, c0, A1, n1, c1, m1, q, k0.out ho (by omega), k1.out ho (by omega), e0, e1⟩
section
variable {w w' : World} {lo hi lo' hi' : Nat} {A : Option Addr} {n c : Nat} {ts : List N5}
theorem row_outN5 {g : Nat} {xs : List Value} (h3 : w.ownsRow lo 76 5 (.slice (some ⟨g, 0, none⟩) n c) n xs) (ho : Out lo' hi' w w') (hg : g < lo' ∨ hi' ≤ g) : w'.ownsRow lo 76 5 (.slice (some ⟨g, 0, none⟩) n c) n xs := by
  refine ⟨h3.1, ?_⟩
  rcases h3.2 with h' | ⟨g', cap, cur, k1, k2, k3, k4⟩
  · exact .inl h'
  · refine .inr ⟨g', cap, cur, k1, k2, ?_, k4⟩
    have e : g = g' := by injection k1 with e1; injection e1 with e2; injection e2
    subst e
    have hlt : g < w.heap.size := (h3.lt g rfl).2
    rw [ho.block g (by omega) (by omega)]
    exact k3
theorem OwnN5.next (h : OwnN5 w lo hi A n c ts) (hb : Below w.heap.size w w') : OwnN5 w' lo hi A n c ts := by
  obtain ⟨h1, h2, xs, f, h3, h4, h5, h6, h7, h8⟩ := h
  exact ⟨h1, Nat.le_trans h2 hb.size, xs, f, own_below h3 hb, h4, h5, h6, h7, fun j t hj => (h8 j t hj).next hb⟩
theorem OwnN5.out (h : OwnN5 w lo hi A n c ts) (ho : Out lo' hi' w w') (hd : hi' ≤ lo ∨ hi ≤ lo') : OwnN5 w' lo hi A n c ts := by
  obtain ⟨h1, h2, xs, f, h3, h4, h5, h6, h7, h8⟩ := h
  have hf : f 0 ≤ f n := mono_le h6 (Nat.zero_le _) (Nat.le_refl _)
  refine ⟨h1, Nat.le_trans h2 ho.size, xs, f, ⟨h3.1, ?_⟩, h4, h5, h6, h7, fun j t hj => ?_⟩
  · rcases h3.2 with h' | ⟨g, cap, cur, k1, k2, k3, k4⟩
    · exact .inl h'
    · refine .inr ⟨g, cap, cur, k1, k2, ?_, k4⟩
      have hg := (h4 g (by rw [k1]; rfl)).1
      have hgl := (h3.lt g (by rw [k1]; rfl)).1
      rw [ho.block g (by omega) (by omega)]
      exact k3
  · have hjl : j < ts.length := (List.getElem?_eq_some_iff.1 hj).1
    have ha : f 0 ≤ f j := mono_le h6 (Nat.zero_le _) (by omega)
    have hb : f (j + 1) ≤ f n := mono_le h6 (by omega) (Nat.le_refl _)
    exact (h8 j t hj).out ho (by omega)
theorem OwnN5.less (h : OwnN5 w lo hi A n c ts) (hl : lo' ≤ lo) : OwnN5 w lo' hi A n c ts := by
  obtain ⟨h1, h2, xs, f, h3, h4, h5, h6⟩ := h
  exact ⟨h1, h2, xs, f, own_less h3 hl, h4, by omega, h6⟩
theorem OwnN5.wide (h : OwnN5 w lo hi A n c ts) (hl : hi ≤ hi') (hs : hi' ≤ w.heap.size) : OwnN5 w lo hi' A n c ts := by
  obtain ⟨h1, h2, xs, f, h3, h4, h5, h6, h7, h8⟩ := h
  exact ⟨h1, hs, xs, f, h3, fun k hk => ⟨by have := (h4 k hk).1; omega, (h4 k hk).2⟩, h5, h6, by omega, h8⟩
theorem OwnN5.inn (h : OwnN5 w lo hi A n c ts) : InN5 w hi A n ts := by
  obtain ⟨h1, h2, xs, f, h3, h4, h5, h6, h7, h8⟩ := h
  refine ⟨h1, fun j t hj => ?_⟩
  have hjl : j < ts.length := (List.getElem?_eq_some_iff.1 hj).1
  have hb : f (j + 1) ≤ f n := mono_le h6 (by omega) (Nat.le_refl _)
  have hxl := h3.1
  obtain ⟨g, rfl⟩ : ∃ g, A = some ⟨g, 0, none⟩ := by
    rcases h3.2 with h' | ⟨g, cap, cur, k1, _⟩
    · have := h'.2; omega
    · injection k1 with k1; exact ⟨g, k1⟩
  obtain ⟨A0, n0, c0, A1, n1, c1, m1, ⟨q0, q1, q2, q3, q4⟩, k0, k1, e0, e1⟩ := h8 j t hj
  refine ⟨g, 0, rfl, (h4 g rfl).1, A0, n0, c0, A1, n1, c1, ?_, ?_, ?_, ?_, ?_, (k0.inn).more (by omega), (k1.inn).more (by omega)⟩ <;> rw [Nat.zero_add]
  · exact (h3.cellAt (j * 5) (by omega)).trans q0
  · exact (h3.cellAt (j * 5 + 1) (by omega)).trans q1
  · exact (h3.cellAt (j * 5 + 2) (by omega)).trans q2
  · exact (h3.cellAt (j * 5 + 3) (by omega)).trans q3
  · exact (h3.cellAt (j * 5 + 4) (by omega)).trans q4
theorem OwnN5.all (h : OwnN5 w lo hi A n c ts) : InN5 w w.heap.size A n ts := h.inn.more h.2.1
end

set_option maxRecDepth 100000 in
set_option maxHeartbeats 4000000 in
theorem toNode_m (x : N5) (A0 : Option Addr) (n0 c0 : Nat) (A1 : Option Addr) (n1 c1 : Nat) (B : Nat) (w : World) (h0 : InL w B A0 n0 x.t.2) (h1 : InL w B A1 n1 x.m) (hB : B ≤ w.heap.size) (hn0 : n0 ≤ 1048576) (hn1 : n1 ≤ 1048576) :
    Calls Tryd.prog 47 #[.agg #[.int .i64 x.k, .int .i64 x.f, .int .i64 x.t.1, .slice A0 n0 c0, .slice A1 n1 c1]] w fun e w' => ∃ a0 a1 m1, e = .returned (.agg #[.int .i64 x.k, .int .i64 x.f, .int .i64 x.t.1, .slice (some ⟨a0, 0, none⟩) n0 n0, .slice (some ⟨a1, 0, none⟩) n1 n1]) ∧
      OwnL w' w.heap.size m1 (some ⟨a0, 0, none⟩) n0 n0 x.t.2 ∧ OwnL w' m1 w'.heap.size (some ⟨a1, 0, none⟩) n1 n1 x.m ∧ (w.heap.size ≤ m1 ∧ m1 ≤ w'.heap.size) ∧ Below w.heap.size w w' := by
  have hb0 : Below w.heap.size w (((w.alloc (.cells #[.int .i64 x.k, .int .i64 x.f, .int .i64 x.t.1, .slice A0 n0 c0, .slice A1 n1 c1] 74)).alloc (.cells #[.int .i64 0, .int .i64 0, .int .i64 0, .slice none 0 0, .slice none 0 0] 76)).alloc (.cells #[.int .i64 x.k, .int .i64 x.f, .int .i64 0, .slice none 0 0, .slice none 0 0] 76)) := bon (bon (bnew _ _) (bnew _ _)) (bnew _ _)
  have hsz : (((w.alloc (.cells #[.int .i64 x.k, .int .i64 x.f, .int .i64 x.t.1, .slice A0 n0 c0, .slice A1 n1 c1] 74)).alloc (.cells #[.int .i64 0, .int .i64 0, .int .i64 0, .slice none 0 0, .slice none 0 0] 76)).alloc (.cells #[.int .i64 x.k, .int .i64 x.f, .int .i64 0, .slice none 0 0, .slice none 0 0] 76)).heap.size = w.heap.size + 3 := by simp
  have hP : BlkIs (((w.alloc (.cells #[.int .i64 x.k, .int .i64 x.f, .int .i64 x.t.1, .slice A0 n0 c0, .slice A1 n1 c1] 74)).alloc (.cells #[.int .i64 0, .int .i64 0, .int .i64 0, .slice none 0 0, .slice none 0 0] 76)).alloc (.cells #[.int .i64 x.k, .int .i64 x.f, .int .i64 0, .slice none 0 0, .slice none 0 0] 76)) w.heap.size 74 #[.int .i64 x.k, .int .i64 x.f, .int .i64 x.t.1, .slice A0 n0 c0, .slice A1 n1 c1] := ((blk_new w _ _ _ rfl).next (bnew _ _)).next (bnew _ _)
  have hR : BlkIs (((w.alloc (.cells #[.int .i64 x.k, .int .i64 x.f, .int .i64 x.t.1, .slice A0 n0 c0, .slice A1 n1 c1] 74)).alloc (.cells #[.int .i64 0, .int .i64 0, .int .i64 0, .slice none 0 0, .slice none 0 0] 76)).alloc (.cells #[.int .i64 x.k, .int .i64 x.f, .int .i64 0, .slice none 0 0, .slice none 0 0] 76)) (w.heap.size + 1) 76 #[.int .i64 0, .int .i64 0, .int .i64 0, .slice none 0 0, .slice none 0 0] := (blk_new _ _ _ _ (by simp)).next (bnew _ _)
  have hO : BlkIs (((w.alloc (.cells #[.int .i64 x.k, .int .i64 x.f, .int .i64 x.t.1, .slice A0 n0 c0, .slice A1 n1 c1] 74)).alloc (.cells #[.int .i64 0, .int .i64 0, .int .i64 0, .slice none 0 0, .slice none 0 0] 76)).alloc (.cells #[.int .i64 x.k, .int .i64 x.f, .int .i64 0, .slice none 0 0, .slice none 0 0] 76)) (w.heap.size + 1 + 1) 76 #[.int .i64 x.k, .int .i64 x.f, .int .i64 0, .slice none 0 0, .slice none 0 0] := blk_new _ _ _ _ (by simp)
  have H0 := Lib.hid (h0.next hb0 hB)
  have H1 := Lib.hid (h1.next hb0 hB)
  clear h0 h1
  go_enter Tryd.func47, Tryd.ntmps47
  go_wp2_with fail
  generalize (((w.alloc (.cells #[.int .i64 x.k, .int .i64 x.f, .int .i64 x.t.1, .slice A0 n0 c0, .slice A1 n1 c1] 74)).alloc (.cells #[.int .i64 0, .int .i64 0, .int .i64 0, .slice none 0 0, .slice none 0 0] 76)).alloc (.cells #[.int .i64 x.k, .int .i64 x.f, .int .i64 0, .slice none 0 0, .slice none 0 0] 76)) = W0 at hb0 hsz H0 H1 hP hR hO ⊢
  have hsB := hb0.size
  refine (toTerm_k x.t.1 A0 n0 c0 B x.t.2 W0 H0.out (by omega) hn0).mono ?_
  rintro e v0 ⟨a0, rfl, ho0, hv0⟩
  have hs0 := hv0.size
  replace hP := hP.next hv0
  replace hR := hR.next hv0
  replace hO := hO.next hv0
  replace hb0 := bon hb0 hv0
  replace H1 := Lib.hid (H1.out.next hv0 (by omega))
  have p4 := hP.cell 4
  have o2 := hO.cell 2
  have f2 := hO.frozen 2
  have o3 := hO.cell 3
  have f3 := hO.frozen 3
  simp at p4 o2 o3
  go_wp2_with fail
  have hst : Out (w.heap.size + 1) (w.heap.size + 3) v0 ((v0.setCell ⟨w.heap.size + 1 + 1, 2, none⟩ (.int .i64 x.t.1)).setCell ⟨w.heap.size + 1 + 1, 3, none⟩ (.slice (some ⟨a0, 0, none⟩) n0 n0)) := out_set (out_set (Out.refl _ _ _) (by omega)) (by omega)
  replace hP := hP.far (g' := w.heap.size + 1 + 1) (by omega) 2 (.int .i64 x.t.1)
  replace hR := hR.far (g' := w.heap.size + 1 + 1) (by omega) 2 (.int .i64 x.t.1)
  replace hO := hO.set 2 (.int .i64 x.t.1)
  replace hP := hP.far (g' := w.heap.size + 1 + 1) (by omega) 3 (.slice (some ⟨a0, 0, none⟩) n0 n0)
  replace hR := hR.far (g' := w.heap.size + 1 + 1) (by omega) 3 (.slice (some ⟨a0, 0, none⟩) n0 n0)
  replace hO := hO.set 3 (.slice (some ⟨a0, 0, none⟩) n0 n0)
  simp at hO
  clear p4 o2 o3 f2 f3
  replace H1 := Lib.hid (H1.out.next (hst.below (Nat.le_succ _) (by omega)) hB)
  replace ho0 := ho0.out hst (by omega)
  replace hb0 := hb0.trans (hst.below (Nat.le_succ _) (by omega))
  have hso0 := hst.size
  generalize ((v0.setCell ⟨w.heap.size + 1 + 1, 2, none⟩ (.int .i64 x.t.1)).setCell ⟨w.heap.size + 1 + 1, 3, none⟩ (.slice (some ⟨a0, 0, none⟩) n0 n0)) = W1 at hst hP hR hO hb0 hso0 H1 ho0 ⊢
  clear hst
  refine (toInt64S_k A1 n1 c1 B x.m W1 H1.out (by omega) hn1).mono ?_
  rintro e v1 ⟨a1, rfl, ho1, hv1⟩
  have hs1 := hv1.size
  replace hP := hP.next hv1
  replace hR := hR.next hv1
  replace hO := hO.next hv1
  replace hb0 := bon hb0 hv1
  replace ho0 := ho0.next hv1
  have q0 := hO.cell 0
  have q1 := hO.cell 1
  have q2 := hO.cell 2
  have q3 := hO.cell 3
  have q4 := hO.cell 4
  have k4 := hO.frozen 4
  have r0 := hR.cell 0
  have u0 := hR.frozen 0
  have r1 := hR.cell 1
  have u1 := hR.frozen 1
  have r2 := hR.cell 2
  have u2 := hR.frozen 2
  have r3 := hR.cell 3
  have u3 := hR.frozen 3
  have r4 := hR.cell 4
  have u4 := hR.frozen 4
  simp at q0 q1 q2 q3 q4 r0 r1 r2 r3 r4
  clear hP hR hO
  go_wp2_with fail
  refine bodyPost_ret (v := .agg #[.int .i64 x.k, .int .i64 x.f, .int .i64 x.t.1, .slice (some ⟨a0, 0, none⟩) n0 n0, .slice (some ⟨a1, 0, none⟩) n1 n1]) (by simp [results, Tryd.results47, go_sem, r0, r1, r2, r3, r4]) rfl ?_
  have ho : Out (w.heap.size + 1) (w.heap.size + 3) v1 ((((((v1.setCell ⟨w.heap.size + 1 + 1, 4, none⟩ (.slice (some ⟨a1, 0, none⟩) n1 n1)).setCell ⟨w.heap.size + 1, 0, none⟩ (.int .i64 x.k)).setCell ⟨w.heap.size + 1, 1, none⟩ (.int .i64 x.f)).setCell ⟨w.heap.size + 1, 2, none⟩ (.int .i64 x.t.1)).setCell ⟨w.heap.size + 1, 3, none⟩ (.slice (some ⟨a0, 0, none⟩) n0 n0)).setCell ⟨w.heap.size + 1, 4, none⟩ (.slice (some ⟨a1, 0, none⟩) n1 n1)) := out_set (out_set (out_set (out_set (out_set (out_set (Out.refl _ _ _) (by omega)) (by omega)) (by omega)) (by omega)) (by omega)) (by omega)
  have hso := ho.size
  refine ⟨a0, a1, W1.heap.size, rfl, ?_, ?_, ⟨by omega, by omega⟩, hb0.trans (ho.below (Nat.le_succ _) (by omega))⟩
  · exact ((ho0.out ho (by omega)).less (by omega)).wide (by omega) (by omega)
  · exact ((ho1.out ho (by omega)).less (by omega)).wide (by omega) (Nat.le_refl _)

theorem infoNode : (Tryd.prog.info? 76).map (fun i => (i.zero, i.size, i.bytes)) = some (some (.agg #[.int .i64 0, .int .i64 0, .int .i64 0, .slice none 0 0, .slice none 0 0]), 5, 72) := by kernel_rfl
/-- What the copy holds when k elements have been laid. -/
def LaidN5 (wr : World) (B n k : Nat) (ts : List N5) : Prop :=
  ∃ (xs : List Value) (f : Nat → Nat), wr.ownsRow B 76 5 (.slice (some ⟨B, 0, none⟩) n n) n xs ∧ B + 1 ≤ f 0 ∧ (∀ i, i < k → f i ≤ f (i + 1)) ∧ f k ≤ wr.heap.size ∧ ∀ j, j < k → ∀ t, ts[j]? = some t → PartN5 wr xs f j t
theorem laidN5_own {wr : World} {B n : Nat} {ts : List N5} (h : LaidN5 wr B n n ts) (hl : ts.length = n) (hB : B < wr.heap.size) : OwnN5 wr B wr.heap.size (some ⟨B, 0, none⟩) n n ts := by
  obtain ⟨xs, f, h1, h2, h3, h4, h5⟩ := h
  exact ⟨hl, Nat.le_refl _, xs, f, h1, fun k hk => by have hk' : some B = some k := hk; injection hk' with hk'; omega, by omega, h3, h4, fun j t hj => h5 j (by have := (List.getElem?_eq_some_iff.1 hj).1; omega) t hj⟩
theorem laidN5_step {wr w1 : World} {B n k : Nat} {ts : List N5} {t : N5} {A0 : Option Addr} {n0 c0 : Nat} {A1 : Option Addr} {n1 c1 : Nat} (h : LaidN5 wr B n k ts) (ht : ts[k]? = some t) (hk : k < n) (hB : B < wr.heap.size)
    (hb : Below wr.heap.size wr w1) {m1 : Nat} (o0 : OwnL w1 wr.heap.size m1 A0 n0 c0 t.t.2) (o1 : OwnL w1 m1 w1.heap.size A1 n1 c1 t.m) (hm : wr.heap.size ≤ m1 ∧ m1 ≤ w1.heap.size) :
    LaidN5 (((((w1.setCell ⟨B, k * 5, none⟩ (.int .i64 t.k)).setCell ⟨B, k * 5 + 1, none⟩ (.int .i64 t.f)).setCell ⟨B, k * 5 + 2, none⟩ (.int .i64 t.t.1)).setCell ⟨B, k * 5 + 3, none⟩ (.slice A0 n0 c0)).setCell ⟨B, k * 5 + 4, none⟩ (.slice A1 n1 c1)) B n (k + 1) ts := by
  obtain ⟨xs, f, h1, hf0, hf1, hf2, h2⟩ := h
  obtain ⟨hm0, hm1⟩ := hm
  have h1' := own_below h1 hb
  have s0 := (h1'.stored (k * 5) (.int .i64 t.k)).1
  have s1 := (s0.stored (k * 5 + 1) (.int .i64 t.f)).1
  have s2 := (s1.stored (k * 5 + 2) (.int .i64 t.t.1)).1
  have s3 := (s2.stored (k * 5 + 3) (.slice A0 n0 c0)).1
  have s4 := (s3.stored (k * 5 + 4) (.slice A1 n1 c1)).1
  have hxl : xs.length = n * 5 := h1.1
  have ho : Out B (B + 1) w1 (((((w1.setCell ⟨B, k * 5, none⟩ (.int .i64 t.k)).setCell ⟨B, k * 5 + 1, none⟩ (.int .i64 t.f)).setCell ⟨B, k * 5 + 2, none⟩ (.int .i64 t.t.1)).setCell ⟨B, k * 5 + 3, none⟩ (.slice A0 n0 c0)).setCell ⟨B, k * 5 + 4, none⟩ (.slice A1 n1 c1)) := out_set (out_set (out_set (out_set (out_set (Out.refl _ _ _) (by omega)) (by omega)) (by omega)) (by omega)) (by omega)
  generalize (((((w1.setCell ⟨B, k * 5, none⟩ (.int .i64 t.k)).setCell ⟨B, k * 5 + 1, none⟩ (.int .i64 t.f)).setCell ⟨B, k * 5 + 2, none⟩ (.int .i64 t.t.1)).setCell ⟨B, k * 5 + 3, none⟩ (.slice A0 n0 c0)).setCell ⟨B, k * 5 + 4, none⟩ (.slice A1 n1 c1)) = w9 at s4 ho ⊢
  clear s0 s1 s2 s3
  have hos := ho.size
  have hbs := hb.size
  obtain ⟨F, hF1, hF2⟩ : ∃ F : Nat → Nat, (∀ i, i ≤ k → F i = f i) ∧ F (k + 1) = w1.heap.size := ⟨fun i => if i ≤ k then f i else w1.heap.size, fun i hi => if_pos hi, if_neg (by omega)⟩
  refine ⟨_, F, s4, by rw [hF1 0 (by omega)]; exact hf0, fun i hi => ?_, by rw [hF2]; omega, fun j hj u hu => ?_⟩
  · by_cases hi2 : i + 1 ≤ k
    · rw [hF1 i (by omega), hF1 _ hi2]; exact hf1 i (by omega)
    · have hik : i = k := by omega
      subst hik
      rw [hF1 _ (Nat.le_refl _), hF2]; omega
  by_cases e1 : j = k
  · subst e1
    rw [ht] at hu
    obtain rfl := Option.some.inj hu
    unfold PartN5
    rw [hF1 _ (Nat.le_refl _), hF2]
    refine ⟨A0, n0, c0, A1, n1, c1, m1, ⟨?_, ?_, ?_, ?_, ?_⟩, (o0.out ho (by omega)).less (by omega), o1.out ho (by omega), by omega, by omega⟩
    · rw [List.getElem?_set_ne (by omega), List.getElem?_set_ne (by omega), List.getElem?_set_ne (by omega), List.getElem?_set_ne (by omega), List.getElem?_set_self (by (try simp only [List.length_set]); omega)]
    · rw [List.getElem?_set_ne (by omega), List.getElem?_set_ne (by omega), List.getElem?_set_ne (by omega), List.getElem?_set_self (by (try simp only [List.length_set]); omega)]
    · rw [List.getElem?_set_ne (by omega), List.getElem?_set_ne (by omega), List.getElem?_set_self (by (try simp only [List.length_set]); omega)]
    · rw [List.getElem?_set_ne (by omega), List.getElem?_set_self (by (try simp only [List.length_set]); omega)]
    · rw [List.getElem?_set_self (by (try simp only [List.length_set]); omega)]
  · obtain ⟨A0', n0', c0', A1', n1', c1', nm1, ⟨q0, q1, q2, q3, q4⟩, k0, k1, e0, e1⟩ := h2 j (by omega) u hu
    have hfj : f 0 ≤ f j := mono_le hf1 (by omega) (by omega)
    unfold PartN5
    rw [hF1 _ (by omega), hF1 _ (by omega)]
    refine ⟨A0', n0', c0', A1', n1', c1', nm1, ⟨?_, ?_, ?_, ?_, ?_⟩, (k0.next hb).out ho (by omega), (k1.next hb).out ho (by omega), e0, e1⟩
    · rw [List.getElem?_set_ne (by omega), List.getElem?_set_ne (by omega), List.getElem?_set_ne (by omega), List.getElem?_set_ne (by omega), List.getElem?_set_ne (by omega)]; exact q0
    · rw [List.getElem?_set_ne (by omega), List.getElem?_set_ne (by omega), List.getElem?_set_ne (by omega), List.getElem?_set_ne (by omega), List.getElem?_set_ne (by omega)]; exact q1
    · rw [List.getElem?_set_ne (by omega), List.getElem?_set_ne (by omega), List.getElem?_set_ne (by omega), List.getElem?_set_ne (by omega), List.getElem?_set_ne (by omega)]; exact q2
    · rw [List.getElem?_set_ne (by omega), List.getElem?_set_ne (by omega), List.getElem?_set_ne (by omega), List.getElem?_set_ne (by omega), List.getElem?_set_ne (by omega)]; exact q3
    · rw [List.getElem?_set_ne (by omega), List.getElem?_set_ne (by omega), List.getElem?_set_ne (by omega), List.getElem?_set_ne (by omega), List.getElem?_set_ne (by omega)]; exact q4

set_option maxRecDepth 100000 in
set_option maxHeartbeats 4000000 in
theorem toNodeS_m (A : Option Addr) (n c B : Nat) (ts : List N5) (w : World) (h : InN5 w B A n ts) (hB : B ≤ w.heap.size) (hn : n ≤ 1048576) (he : totN5 ts ≤ 1048576) :
    Calls Tryd.prog 12 #[.slice A n c] w fun e w' => ∃ g, e = .returned (.slice (some ⟨g, 0, none⟩) n n) ∧ OwnN5 w' w.heap.size w'.heap.size (some ⟨g, 0, none⟩) n n ts ∧ Below w.heap.size w w' := by
  obtain ⟨i0, hi, hz0, hz1, hz2⟩ := info_parts infoNode
  go_enter Tryd.func12, Tryd.ntmps12
  go_wp2_with (at_make; refine wpList_make_full _ rfl _ _ 25 rfl w.heap.size 76 i0 (.agg #[.int .i64 0, .int .i64 0, .int .i64 0, .slice none 0 0, .slice none 0 0]) 5 Tryd.underlying25 hi hz0 hz1 .i64 .i64 _ _ n rfl rfl rfl rfl (by rw [hz2]; omega) (by unfold maxLen; omega) (Nat.le_refl _) ?_; intro w1 hown hgrow)
  have hb1 := (Below.refl w.heap.size w).grown hgrow (Nat.le_refl _) (fun _ h => by cases h)
  have hlt0 : w.heap.size < w1.heap.size := (hown.lt w.heap.size rfl).2
  have hl0 : LaidN5 w1 w.heap.size n 0 ts := ⟨_, fun _ => w.heap.size + 1, hown, Nat.le_refl _, fun i hi => by omega, hlt0, fun j hj => by omega⟩
  clear hgrow hown
  go_loopw [4] (fun i wr => ∃ k : Nat, k ≤ n ∧ i = .int .i64 k ∧ LaidN5 wr w.heap.size n k ts ∧ w.heap.size < wr.heap.size ∧ Below w.heap.size w wr) (fun i _ => n - (intOf i).toNat)
  case atStart => exact ⟨0, Nat.zero_le _, rfl, hl0, hlt0, hb1⟩
  case round =>
    clear hl0 hlt0 hb1
    obtain ⟨k, hk, rfl, hl, hlt0, hbel⟩ := hrel
    by_cases hlt : k < n
    · obtain ⟨b, off, t, rfl, hb, ht, A0, n0, c0, A1, n1, c1, q0, q1, q2, q3, q4, k0, k1⟩ := (h.next hbel hB).at_ hlt
      have hmx := totN5_mem (List.mem_of_getElem? ht)
      unfold N5.tot at hmx
      rw [k0.1, k1.1] at hmx
      have HI := Lib.hid (toNode_m t A0 n0 c0 A1 n1 c1 B wr k0 k1 (by omega) (by omega) (by omega))
      have HT := Lib.hid ht
      clear k0 k1 ht
      go_wp2_with fail
      refine HI.out.mono ?_
      rintro e w2 ⟨a0, a1, m1, rfl, o0, o1, hmm, hb2⟩
      have HL := Lib.hid (laidN5_step hl HT.out hlt hlt0 hb2 o0 o1 hmm)
      have hs2 := hb2.size
      obtain ⟨xs, _, hox, _⟩ := hl
      have hox2 := own_below hox hb2
      have hxl : xs.length = n * 5 := hox.1
      have c0 := hox2.cellAt (k * 5) (by omega)
      have c1 := hox2.cellAt (k * 5 + 1) (by omega)
      have c2 := hox2.cellAt (k * 5 + 2) (by omega)
      have c3 := hox2.cellAt (k * 5 + 3) (by omega)
      have c4 := hox2.cellAt (k * 5 + 4) (by omega)
      rw [List.getElem?_eq_getElem (by omega)] at c0 c1 c2 c3 c4
      have f0 := hox2.frozenAt (k * 5)
      have f1 := hox2.frozenAt (k * 5 + 1)
      have f2 := hox2.frozenAt (k * 5 + 2)
      have f3 := hox2.frozenAt (k * 5 + 3)
      have f4 := hox2.frozenAt (k * 5 + 4)
      have hb3 := ((((((hbel.trans (hb2.mono (by omega))).setCell (p := ⟨w.heap.size, k * 5, none⟩) (Nat.le_refl _) (.int .i64 t.k)).setCell (p := ⟨w.heap.size, k * 5 + 1, none⟩) (Nat.le_refl _) (.int .i64 t.f)).setCell (p := ⟨w.heap.size, k * 5 + 2, none⟩) (Nat.le_refl _) (.int .i64 t.t.1)).setCell (p := ⟨w.heap.size, k * 5 + 3, none⟩) (Nat.le_refl _) (.slice (some ⟨a0, 0, none⟩) n0 n0)).setCell (p := ⟨w.heap.size, k * 5 + 4, none⟩) (Nat.le_refl _) (.slice (some ⟨a1, 0, none⟩) n1 n1))
      clear hox hox2 o0 o1 q0 q1 q2 q3 q4
      go_wp2_with fail
      go_roundw
      case rel => exact ⟨k + 1, by omega, by go_num, HL.out, by simp; omega, hb3⟩
      case measure => simp [intOf]; omega
    · have e : k = n := by omega
      subst e
      go_wp2_with fail
      go_ret
      exact ⟨_, rfl, laidN5_own hl h.1 hlt0, hbel⟩

/-- The marks of an element, from k on. -/
def mkN5 (k : Int) (t : N5) : N5 := ⟨k, k + 1, (k + 1 + 1, rise (k + 1 + 1 + 1) t.t.2.length), rise (k + 1 + 1 + 1 + (t.t.2.length : Nat)) t.m.length⟩
def riseN5 : Int → List N5 → List N5
  | _, [] => []
  | k, t :: ts => mkN5 k t :: riseN5 (k + (3 + t.tot : Nat)) ts
theorem totN5_cons (t : N5) (ts : List N5) : totN5 (t :: ts) = t.tot + totN5 ts := by simp [totN5]
theorem riseN5_len : ∀ (k : Int) (ts : List N5), (riseN5 k ts).length = ts.length
  | _, [] => rfl
  | k, t :: ts => by rw [riseN5, List.length_cons, riseN5_len, List.length_cons]
theorem riseN5_at : ∀ (k : Int) (ts : List N5) (j : Nat) (t : N5), ts[j]? = some t → (riseN5 k ts)[j]? = some (mkN5 (k + ((3 * j + totN5 (ts.take j) : Nat) : Int)) t)
  | _, [], j, t, h => by simp at h
  | k, u :: ts, 0, t, h => by
    obtain rfl : u = t := by simpa using h
    simp [riseN5, totN5]
  | k, u :: ts, j + 1, t, h => by
    have h' : ts[j]? = some t := by simpa using h
    rw [riseN5, List.getElem?_cons_succ, riseN5_at _ ts j t h', List.take_succ_cons, totN5_cons]
    congr 2
    omega
def mixN5 (k : Int) (ts : List N5) (j : Nat) : List N5 := (riseN5 k ts).take j ++ ts.drop j
theorem mixN5_zero (k : Int) (ts : List N5) : mixN5 k ts 0 = ts := by simp [mixN5]
theorem mixN5_end (k : Int) (ts : List N5) : mixN5 k ts ts.length = riseN5 k ts := by
  unfold mixN5
  rw [List.drop_length, List.append_nil, List.take_of_length_le (by rw [riseN5_len]; exact Nat.le_refl _)]
theorem mixN5_at (k : Int) {ts : List N5} {j : Nat} {t : N5} (h : ts[j]? = some t) : (mixN5 k ts j)[j]? = some t := by
  have hl := (List.getElem?_eq_some_iff.1 h).1
  unfold mixN5
  rw [List.getElem?_append_right (by rw [List.length_take, riseN5_len]; omega), List.length_take, riseN5_len, List.getElem?_drop, show j + (j - min j ts.length) = j by omega]
  exact h
theorem mixN5_next (k : Int) {ts : List N5} {j : Nat} {t : N5} (h : ts[j]? = some t) : mixN5 k ts (j + 1) = (mixN5 k ts j).set j (mkN5 (k + ((3 * j + totN5 (ts.take j) : Nat) : Int)) t) := by
  have hl := (List.getElem?_eq_some_iff.1 h).1
  have hr := riseN5_at k ts j t h
  unfold mixN5
  rw [List.take_add_one, hr, List.set_append_right _ _ (by rw [List.length_take, riseN5_len]; omega), List.length_take, riseN5_len, show j - min j ts.length = 0 by omega]
  have hd : ts.drop j = t :: ts.drop (j + 1) := by
    rw [List.drop_eq_getElem_cons hl]
    congr 1
    rw [List.getElem?_eq_getElem hl] at h
    exact Option.some.inj h
  rw [hd]
  simp

set_option maxRecDepth 100000 in
set_option maxHeartbeats 4000000 in
theorem markNodeS_o (lo hi : Nat) (A : Option Addr) (n c : Nat) (ts : List N5) (k0 : Int) (w : World) (h : OwnN5 w lo hi A n c ts) (hn : n ≤ 1048576) (he : totN5 ts ≤ 1048576) (hk1 : 0 ≤ k0) (hk2 : k0 ≤ 100000000) :
    Calls Tryd.prog 17 #[.slice A n c, .int .i64 k0] w fun e w' => e = .returned (.int .i64 (k0 + ((3 * n + totN5 ts : Nat) : Int))) ∧ OwnN5 w' lo hi A n c (riseN5 k0 ts) ∧ Out lo hi w w' := by
  have hlen := Lib.hid h.1
  have HR0 : Hid (OwnN5 w lo hi A n c (mixN5 k0 ts 0)) := by show OwnN5 w lo hi A n c (mixN5 k0 ts 0); rw [mixN5_zero]; exact h
  clear h
  go_enter Tryd.func17, Tryd.ntmps17
  go_wp2_with fail
  go_loopw [1, 5] (fun kv i wr => ∃ j : Nat, j ≤ n ∧ i = .int .i64 j ∧ kv = .int .i64 (k0 + ((3 * j + totN5 (ts.take j) : Nat) : Int)) ∧ Hid (OwnN5 wr lo hi A n c (mixN5 k0 ts j)) ∧ Out lo hi w wr) (fun _ i _ => n - (intOf i).toNat)
  case atStart => exact ⟨0, Nat.zero_le _, rfl, by simp [totN5], HR0, Out.refl _ _ _⟩
  case round =>
    clear HR0
    obtain ⟨j, hj, rfl, rfl, hR, hout⟩ := hrel
    by_cases hlt : j < n
    · obtain ⟨h1, h2, xs, f, h3, h4, h5, h6, h7, h8⟩ := hR.out
      obtain ⟨t, ht⟩ : ∃ t, ts[j]? = some t := ⟨_, List.getElem?_eq_getElem (by have := hlen.out; omega)⟩
      obtain ⟨A0, n0, c0, A1, n1, c1, m1, ⟨q0, q1, q2, q3, q4⟩, o0, o1, e0, e1⟩ := h8 j t (mixN5_at k0 ht)
      have hxl := h3.1
      obtain ⟨g, rfl⟩ : ∃ g, A = some ⟨g, 0, none⟩ := by
        rcases h3.2 with h' | ⟨g, cap, cur, k1, _⟩
        · have := h'.2; omega
        · injection k1 with k1; exact ⟨g, k1⟩
      obtain ⟨hg1, hg2⟩ := h4 g rfl
      have hlg := (h3.lt g rfl).1
      have hfj : f 0 ≤ f j := mono_le h6 (Nat.zero_le _) (by omega)
      have hfn : f (j + 1) ≤ f n := mono_le h6 (by omega) (Nat.le_refl _)
      have hmem := totN5_mem (List.mem_of_getElem? ht)
      have hts := totN5_succ ht
      have htk := totN5_take ts j
      have htt : t.tot = n0 + n1 := by unfold N5.tot; rw [o0.1, o1.1]
      have hnext := mixN5_next k0 ht
      obtain ⟨K, hK⟩ : ∃ K : Int, K = k0 + ((3 * j + totN5 (ts.take j) : Nat) : Int) := ⟨_, rfl⟩
      have hKn : K + 3 + (n0 : Int) + (n1 : Int) = k0 + ((3 * (j + 1) + totN5 (ts.take (j + 1)) : Nat) : Int) := by rw [hts, htt, hK]; omega
      have hK1 : 0 ≤ K := by omega
      have hK2 : K ≤ 110000000 := by omega
      rw [← hK] at hnext ⊢
      have s0 := (h3.stored (j * 5) (.int .i64 (K))).1
      have s1 := (s0.stored (j * 5 + 1) (.int .i64 (K + 1))).1
      have s2 := (s1.stored (j * 5 + 2) (.int .i64 (K + 1 + 1))).1
      have cl0 := h3.cellAt (j * 5) (by omega)
      have cl1 := h3.cellAt (j * 5 + 1) (by omega)
      have cl2 := h3.cellAt (j * 5 + 2) (by omega)
      have cl3 := h3.cellAt (j * 5 + 3) (by omega)
      have cl4 := h3.cellAt (j * 5 + 4) (by omega)
      rw [q0] at cl0
      rw [q1] at cl1
      rw [q2] at cl2
      rw [q3] at cl3
      rw [q4] at cl4
      have z0 := h3.frozenAt (j * 5)
      have z1 := h3.frozenAt (j * 5 + 1)
      have z2 := h3.frozenAt (j * 5 + 2)
      have ho : Out g (g + 1) wr (((wr.setCell ⟨g, j * 5, none⟩ (.int .i64 (K))).setCell ⟨g, j * 5 + 1, none⟩ (.int .i64 (K + 1))).setCell ⟨g, j * 5 + 2, none⟩ (.int .i64 (K + 1 + 1))) := out_set (out_set (out_set (Out.refl _ _ _) (by omega)) (by omega)) (by omega)
      have y0 := s2.cellAt (j * 5 + 3) (by omega)
      rw [List.getElem?_set_ne (by omega), List.getElem?_set_ne (by omega), List.getElem?_set_ne (by omega), q3] at y0
      have y1 := s2.cellAt (j * 5 + 4) (by omega)
      rw [List.getElem?_set_ne (by omega), List.getElem?_set_ne (by omega), List.getElem?_set_ne (by omega), q4] at y1
      have O0 := o0.out ho (by omega)
      have O1 := Lib.hid (o1.out ho (by omega))
      have H8 := Lib.hid (fun i u (hi : i ≠ j) (hu : (mixN5 k0 ts j)[i]? = some u) => (h8 i u hu).out ho (by
        have hil : i < n := by have := (List.getElem?_eq_some_iff.1 hu).1; omega
        have a1 : f 0 ≤ f i := mono_le h6 (Nat.zero_le _) (by omega)
        have a2 : f (i + 1) ≤ f n := mono_le h6 (by omega) (Nat.le_refl _)
        omega))
      have HRW := Lib.hid s2
      have H6 := Lib.hid h6
      have H4 := Lib.hid h4
      have HX := Lib.hid (And.intro h1 hxl)
      have HNX := Lib.hid hnext
      have HQ := Lib.hid (And.intro q3 (And.intro q4 trivial))
      have hnn : n0 ≤ 1048576 ∧ n1 ≤ 1048576 := by omega
      obtain ⟨hnn0, hnn1⟩ := hnn
      have HKN := Lib.hid hKn
      have HM0 := Lib.hid (markInt64S_k (f j) m1 A0 n0 c0 t.t.2 (K + 1 + 1 + 1) _ O0 (by omega) (by omega) (by omega))
      have hho := ho.size
      have HO := Lib.hid ho
      have HTL := Lib.hid (And.intro o0.1 (And.intro o1.1 trivial))
      clear s0 s1 s2 hR h1 h3 h4 h6 h8 o0 o1 q0 q1 q2 q3 q4 cl3 cl4 ht hts hnext hxl O0 ho hmem htt hK hKn
      go_wp2_with fail
      refine HM0.out.mono ?_
      rintro e9 u0 ⟨rfl, r0, t0⟩
      have tz0 := t0.size
      replace r0 := Lib.hid r0
      replace O1 := Lib.hid (O1.out.out t0 (by omega))
      replace y1 := t0.cell y1 (by omega)
      replace HRW := Lib.hid (row_outN5 HRW.out t0 (by omega))
      replace H8 := Lib.hid (fun i u (hi : i ≠ j) (hu : (mixN5 k0 ts j)[i]? = some u) => (H8.out i u hi hu).out t0 (by
        have hil : i < n := by have := (List.getElem?_eq_some_iff.1 hu).1; have := HX.out.1; omega
        rcases Nat.lt_or_ge i j with hij | hij
        · have : f (i + 1) ≤ f j := mono_le H6.out (by omega) (by omega)
          omega
        · have : f (j + 1) ≤ f i := mono_le H6.out (by omega) (by omega)
          omega))
      replace HO := Lib.hid ((HO.out.wide (lo' := lo) (hi' := hi) hlg (by omega)).trans (t0.wide (lo' := lo) (hi' := hi) (by omega) (by omega)))
      clear t0 HM0
      go_wp2_with fail
      refine (markInt64S_k m1 (f (j + 1)) A1 n1 c1 t.m (K + 1 + 1 + 1 + (n0 : Int)) _ O1.out (by omega) (by omega) (by omega)).mono ?_
      rintro e9 u1 ⟨rfl, r1, t1⟩
      have tz1 := t1.size
      replace r0 := Lib.hid (r0.out.out t1 (by omega))
      replace r1 := Lib.hid r1
      replace HRW := Lib.hid (row_outN5 HRW.out t1 (by omega))
      replace H8 := Lib.hid (fun i u (hi : i ≠ j) (hu : (mixN5 k0 ts j)[i]? = some u) => (H8.out i u hi hu).out t1 (by
        have hil : i < n := by have := (List.getElem?_eq_some_iff.1 hu).1; have := HX.out.1; omega
        rcases Nat.lt_or_ge i j with hij | hij
        · have : f (i + 1) ≤ f j := mono_le H6.out (by omega) (by omega)
          omega
        · have : f (j + 1) ≤ f i := mono_le H6.out (by omega) (by omega)
          omega))
      replace HO := Lib.hid (HO.out.trans (t1.wide (lo' := lo) (hi' := hi) (by omega) (by omega)))
      clear t1 
      go_wp2_with fail
      go_roundw
      case rel =>
        refine ⟨j + 1, by omega, by go_num, congrArg (Value.int .i64) (by have := HKN.out; omega), ?_, hout.trans HO.out⟩
        show OwnN5 _ lo hi (some ⟨g, 0, none⟩) n c (mixN5 k0 ts (j + 1))
        rw [HNX.out]
        have hxl := HX.out.2
        refine ⟨by rw [List.length_set]; exact HX.out.1, by omega, _, f, HRW.out, H4.out, h5, H6.out, h7, fun i u hu => ?_⟩
        by_cases e1 : i = j
        · subst e1
          rw [List.getElem?_set_self (by have := HX.out.1; omega)] at hu
          obtain rfl := Option.some.inj hu
          obtain ⟨l0, l1, _⟩ := HTL.out
          refine ⟨A0, n0, c0, A1, n1, c1, m1, ⟨?_, ?_, ?_, ?_, ?_⟩, ?_, ?_, e0, e1⟩
          · rw [List.getElem?_set_ne (by omega), List.getElem?_set_ne (by omega), List.getElem?_set_self (by (try simp only [List.length_set]); omega)]; rfl
          · rw [List.getElem?_set_ne (by omega), List.getElem?_set_self (by (try simp only [List.length_set]); omega)]; rfl
          · rw [List.getElem?_set_self (by (try simp only [List.length_set]); omega)]; rfl
          · rw [List.getElem?_set_ne (by omega), List.getElem?_set_ne (by omega), List.getElem?_set_ne (by omega)]; exact HQ.out.1
          · rw [List.getElem?_set_ne (by omega), List.getElem?_set_ne (by omega), List.getElem?_set_ne (by omega)]; exact HQ.out.2.1
          · have h9 := r0.out
            unfold mkN5
            simp only [l0]
            exact h9
          · have h9 := r1.out
            unfold mkN5
            simp only [l0, l1]
            exact h9
        · rw [List.getElem?_set_ne (fun h => e1 h.symm)] at hu
          obtain ⟨A0', n0', c0', A1', n1', c1', nm1, ⟨q0, q1, q2, q3, q4⟩, k0, k1, ee⟩ := H8.out i u e1 hu
          refine ⟨A0', n0', c0', A1', n1', c1', nm1, ⟨?_, ?_, ?_, ?_, ?_⟩, k0, k1, ee⟩
          · rw [List.getElem?_set_ne (by omega), List.getElem?_set_ne (by omega), List.getElem?_set_ne (by omega)]; exact q0
          · rw [List.getElem?_set_ne (by omega), List.getElem?_set_ne (by omega), List.getElem?_set_ne (by omega)]; exact q1
          · rw [List.getElem?_set_ne (by omega), List.getElem?_set_ne (by omega), List.getElem?_set_ne (by omega)]; exact q2
          · rw [List.getElem?_set_ne (by omega), List.getElem?_set_ne (by omega), List.getElem?_set_ne (by omega)]; exact q3
          · rw [List.getElem?_set_ne (by omega), List.getElem?_set_ne (by omega), List.getElem?_set_ne (by omega)]; exact q4
      case measure => simp [intOf]; omega
    · have e1 : j = n := by omega
      subst e1
      have e2 : totN5 (ts.take j) = totN5 ts := by rw [List.take_of_length_le (by have := hlen.out; omega)]
      have HF : Hid (OwnN5 wr lo hi A j c (riseN5 k0 ts)) := by show OwnN5 wr lo hi A j c (riseN5 k0 ts); have := hR.out; rw [← mixN5_end]; rw [← hlen.out] at this ⊢; exact this
      rw [e2]
      clear e2 hR
      go_wp2_with fail
      go_ret
      exact ⟨rfl, HF.out, hout⟩

set_option maxRecDepth 100000 in
set_option maxHeartbeats 4000000 in
theorem heldNodeS_k (A : Option Addr) (n c B : Nat) (ts : List N5) (kb : Int) (w : World) (h : InN5 w B A n (riseN5 kb ts)) (hB : B ≤ w.heap.size) (hn : n ≤ 1048576) (he : totN5 ts ≤ 1048576) (hk1 : 0 ≤ kb) (hk2 : kb ≤ 100000000) :
    Calls Tryd.prog 18 #[.slice A n c, .int .i64 kb] w fun e w' => e = .returned (.int .i64 (kb + ((3 * n + totN5 ts : Nat) : Int))) ∧ Below w.heap.size w w' := by
  have hlen : Hid (ts.length = n) := by show ts.length = n; rw [← riseN5_len kb ts]; exact h.1
  go_enter Tryd.func18, Tryd.ntmps18
  go_wp2_with fail
  go_loopw [1, 5] (fun kv i wr => ∃ j : Nat, j ≤ n ∧ i = .int .i64 j ∧ kv = .int .i64 (kb + ((3 * j + totN5 (ts.take j) : Nat) : Int)) ∧ Below w.heap.size w wr) (fun _ i _ => n - (intOf i).toNat)
  case atStart => exact ⟨0, Nat.zero_le _, rfl, by simp [totN5], Below.refl _ _⟩
  case round =>
    obtain ⟨j, hj, rfl, rfl, hbel⟩ := hrel
    have hsz := hbel.size
    by_cases hlt : j < n
    · obtain ⟨t, ht⟩ : ∃ t, ts[j]? = some t := ⟨_, List.getElem?_eq_getElem (by have := hlen.out; omega)⟩
      obtain ⟨b, off, u, rfl, hb, hu, A0, n0, c0, A1, n1, c1, q0, q1, q2, q3, q4, k0, k1⟩ := (h.next hbel hB).at_ hlt
      have hr := riseN5_at kb ts j t ht
      rw [hu] at hr
      obtain rfl := Option.some.inj hr
      have hmem := totN5_mem (List.mem_of_getElem? ht)
      have hts := totN5_succ ht
      have htk := totN5_take ts j
      unfold mkN5 at q0 q1 q2 k0 k1
      simp only at q0 q1 q2 k0 k1
      have l0 : t.t.2.length = n0 := by have := k0.1; rw [rise_len] at this; exact this
      have l1 : t.m.length = n1 := by have := k1.1; rw [rise_len] at this; exact this
      have htt : t.tot = n0 + n1 := by unfold N5.tot; rw [l0, l1]
      simp only [l0, l1] at k0 k1
      obtain ⟨K, hK⟩ : ∃ K : Int, K = kb + ((3 * j + totN5 (ts.take j) : Nat) : Int) := ⟨_, rfl⟩
      have hKn : K + 3 + (n0 : Int) + (n1 : Int) = kb + ((3 * (j + 1) + totN5 (ts.take (j + 1)) : Nat) : Int) := by rw [hts, htt, hK]; omega
      rw [← hK] at q0 q1 q2 k0 k1 ⊢
      have hK1 : 0 ≤ K := by omega
      have hK2 : K ≤ 110000000 := by omega
      have b0 : (K != K) = false := by simp
      have b1 : (K + 1 != K + 1) = false := by simp
      have b2 : (K + 1 + 1 != K + 1 + 1) = false := by simp
      have d0 : ¬ K + 1 + 1 + 1 + (n0 : Int) < 0 := by omega
      have HH0 := Lib.hid (fun (W : World) (hb : Below wr.heap.size wr W) => heldInt64S_k A0 n0 c0 B (K + 1 + 1 + 1) W (k0.next hb (by omega)) (by omega) (by omega) (by omega))
      have d1 : ¬ K + 1 + 1 + 1 + (n0 : Int) + (n1 : Int) < 0 := by omega
      have HH1 := Lib.hid (fun (W : World) (hb : Below wr.heap.size wr W) => heldInt64S_k A1 n1 c1 B (K + 1 + 1 + 1 + (n0 : Int)) W (k1.next hb (by omega)) (by omega) (by omega) (by omega))
      have HKN := Lib.hid hKn
      clear k0 l0 k1 l1 hu hr ht hts htt hK hKn hmem
      go_wp2_with fail
      have hbx := Below.refl wr.heap.size wr
      refine (HH0.out _ hbx).mono ?_
      rintro e1 w2 ⟨rfl, hb2⟩
      replace hbx := bon hbx hb2
      replace q4 := cell_next q4 hbx
      go_wp2_with fail
      refine (HH1.out _ hbx).mono ?_
      rintro e1 w3 ⟨rfl, hb3⟩
      replace hbx := bon hbx hb3
      go_wp2_with fail
      go_roundw
      case rel => exact ⟨j + 1, by omega, by go_num, congrArg (Value.int .i64) (by have := HKN.out; omega), bon hbel hbx⟩
      case measure => simp [intOf]; omega
    · have e1 : j = n := by omega
      subst e1
      have e2 : totN5 (ts.take j) = totN5 ts := by rw [List.take_of_length_le (by have := hlen.out; omega)]
      rw [e2]
      clear e2
      go_wp2_with fail
      go_ret
      exact ⟨rfl, hbel⟩
end Go.Proofs.YtejgpooghengmaaDoor
