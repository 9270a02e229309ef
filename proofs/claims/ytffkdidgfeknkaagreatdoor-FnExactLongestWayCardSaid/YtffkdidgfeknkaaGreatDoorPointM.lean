/-
  Lists of Point in memory of one's own, each element's rows apart from the others'; the law's copy; the marks that the law writes and reads again. Conditions: at most 2^20 elements and numbers.
-/
import Derived.Test.YtffkdidgfeknkaaGreatDoorPoint
import Derived.Test.YtffkdidgfeknkaaGreatDoorTermsC
import Derived.Test.YtffkdidgfeknkaaGreatDoorMono
import Derived.Test.YtffkdidgfeknkaaGreatDoorMarkTS
import Derived.Test.YtffkdidgfeknkaaGreatDoorBunA
namespace Go.Proofs.YtffkdidgfeknkaaGreatDoor
set_option linter.unusedVariables false
open Go.RowKit

/-- What lies at the places from f on, element by element. -/
def PartP2 (w : World) (xs : List Value) (f : Nat → Nat) (j : Nat) (t : P2) : Prop := ∃ A0 n0 c0 , (xs[j * 2]? = some (.int .i64 t.a) ∧ xs[j * 2 + 1]? = some (.slice A0 n0 c0)) ∧
  OwnTS w (f j) (f (j + 1)) A0 n0 c0 t.s ∧ f j ≤ f (j + 1)
def OwnP2 (w : World) (lo hi : Nat) (A : Option Addr) (n c : Nat) (ts : List P2) : Prop :=
  ts.length = n ∧ hi ≤ w.heap.size ∧ ∃ (xs : List Value) (f : Nat → Nat), w.ownsRow lo 56 2 (.slice A n c) n xs ∧ (∀ k, (Value.slice A n c).ownBlock = some k → k < hi ∧ (k < f 0 ∨ f n ≤ k)) ∧ lo ≤ f 0 ∧ (∀ i, i < n → f i ≤ f (i + 1)) ∧ f n ≤ hi ∧ ∀ j t, ts[j]? = some t → PartP2 w xs f j t
theorem PartP2.next {w w' : World} {xs : List Value} {f : Nat → Nat} {j : Nat} {t : P2} (h : PartP2 w xs f j t) (hb : Below w.heap.size w w') : PartP2 w' xs f j t := by
  obtain ⟨A0, n0, c0, q, k0, e⟩ := h
  exact ⟨A0, n0, c0, q, k0.next hb, e⟩
theorem PartP2.out {w w' : World} {xs : List Value} {f : Nat → Nat} {j lo' hi' : Nat} {t : P2} (h : PartP2 w xs f j t) (ho : Out lo' hi' w w') (hd : hi' ≤ f j ∨ f (j + 1) ≤ lo') : PartP2 w' xs f j t := by
  obtain ⟨A0, n0, c0, q, k0, e0⟩ := h
  exact ⟨A0, n0, c0, q, k0.out ho (by omega), e0⟩
section
variable {w w' : World} {lo hi lo' hi' : Nat} {A : Option Addr} {n c : Nat} {ts : List P2}
theorem row_outP2 {g : Nat} {xs : List Value} (h3 : w.ownsRow lo 56 2 (.slice (some ⟨g, 0, none⟩) n c) n xs) (ho : Out lo' hi' w w') (hg : g < lo' ∨ hi' ≤ g) : w'.ownsRow lo 56 2 (.slice (some ⟨g, 0, none⟩) n c) n xs := by
  refine ⟨h3.1, ?_⟩
  rcases h3.2 with h' | ⟨g', cap, cur, k1, k2, k3, k4⟩
  · exact .inl h'
  · refine .inr ⟨g', cap, cur, k1, k2, ?_, k4⟩
    have e : g = g' := by injection k1 with e1; injection e1 with e2; injection e2
    subst e
    have hlt : g < w.heap.size := (h3.lt g rfl).2
    rw [ho.block g (by omega) (by omega)]
    exact k3
theorem OwnP2.next (h : OwnP2 w lo hi A n c ts) (hb : Below w.heap.size w w') : OwnP2 w' lo hi A n c ts := by
  obtain ⟨h1, h2, xs, f, h3, h4, h5, h6, h7, h8⟩ := h
  exact ⟨h1, Nat.le_trans h2 hb.size, xs, f, own_below h3 hb, h4, h5, h6, h7, fun j t hj => (h8 j t hj).next hb⟩
theorem OwnP2.out (h : OwnP2 w lo hi A n c ts) (ho : Out lo' hi' w w') (hd : hi' ≤ lo ∨ hi ≤ lo') : OwnP2 w' lo hi A n c ts := by
  obtain ⟨h1, h2, xs, f, h3, h4, h5, h6, h7, h8⟩ := h
  have hf : f 0 ≤ f n := mono_le h6 (Nat.zero_le _) (Nat.le_refl _)
  refine ⟨h1, Nat.le_trans h2 ho.size, xs, f, ⟨h3.1, ?_⟩, h4, h5, h6, h7, fun j t hj => ?_⟩
  · rcases h3.2 with h' | ⟨g, cap, cur, k1, k2, k3, k4⟩
    · exact .inl h'
    · refine .inr ⟨g, cap, cur, k1, k2, ?_, k4⟩
      have hg := (h4 g (by rw [k1]; rfl)).1
      have hgl := (h3.lt g (by rw [k1]; rfl)).1
      rw [ho.block g (by omega) (by omega)]
      exact k3
  · have hjl : j < ts.length := (List.getElem?_eq_some_iff.1 hj).1
    have ha : f 0 ≤ f j := mono_le h6 (Nat.zero_le _) (by omega)
    have hb : f (j + 1) ≤ f n := mono_le h6 (by omega) (Nat.le_refl _)
    exact (h8 j t hj).out ho (by omega)
theorem OwnP2.less (h : OwnP2 w lo hi A n c ts) (hl : lo' ≤ lo) : OwnP2 w lo' hi A n c ts := by
  obtain ⟨h1, h2, xs, f, h3, h4, h5, h6⟩ := h
  exact ⟨h1, h2, xs, f, own_less h3 hl, h4, by omega, h6⟩
theorem OwnP2.wide (h : OwnP2 w lo hi A n c ts) (hl : hi ≤ hi') (hs : hi' ≤ w.heap.size) : OwnP2 w lo hi' A n c ts := by
  obtain ⟨h1, h2, xs, f, h3, h4, h5, h6, h7, h8⟩ := h
  exact ⟨h1, hs, xs, f, h3, fun k hk => ⟨by have := (h4 k hk).1; omega, (h4 k hk).2⟩, h5, h6, by omega, h8⟩
theorem OwnP2.inn (h : OwnP2 w lo hi A n c ts) : InP2 w hi A n ts := by
  obtain ⟨h1, h2, xs, f, h3, h4, h5, h6, h7, h8⟩ := h
  refine ⟨h1, fun j t hj => ?_⟩
  have hjl : j < ts.length := (List.getElem?_eq_some_iff.1 hj).1
  have hb : f (j + 1) ≤ f n := mono_le h6 (by omega) (Nat.le_refl _)
  have hxl := h3.1
  obtain ⟨g, rfl⟩ : ∃ g, A = some ⟨g, 0, none⟩ := by
    rcases h3.2 with h' | ⟨g, cap, cur, k1, _⟩
    · have := h'.2; omega
    · injection k1 with k1; exact ⟨g, k1⟩
  obtain ⟨A0, n0, c0, ⟨q0, q1⟩, k0, e0⟩ := h8 j t hj
  refine ⟨g, 0, rfl, (h4 g rfl).1, A0, n0, c0, ?_, ?_, (k0.inn).more (by omega)⟩ <;> rw [Nat.zero_add]
  · exact (h3.cellAt (j * 2) (by omega)).trans q0
  · exact (h3.cellAt (j * 2 + 1) (by omega)).trans q1
theorem OwnP2.all (h : OwnP2 w lo hi A n c ts) : InP2 w w.heap.size A n ts := h.inn.more h.2.1
end

set_option maxRecDepth 100000 in
set_option maxHeartbeats 4000000 in
theorem toPoint_m (x : P2) (A0 : Option Addr) (n0 c0 : Nat) (B : Nat) (w : World) (h0 : InTS w B A0 n0 x.s) (hB : B ≤ w.heap.size) (hn0 : n0 ≤ 1048576) (he0 : totT x.s ≤ 1048576) :
    Calls Tryz.prog 56 #[.agg #[.int .i64 x.a, .slice A0 n0 c0]] w fun e w' => ∃ a0 , e = .returned (.agg #[.int .i64 x.a, .slice (some ⟨a0, 0, none⟩) n0 n0]) ∧
      OwnTS w' w.heap.size w'.heap.size (some ⟨a0, 0, none⟩) n0 n0 x.s ∧ (w.heap.size ≤ w'.heap.size) ∧ Below w.heap.size w w' := by
  have hb0 : Below w.heap.size w (((w.alloc (.cells #[.int .i64 x.a, .slice A0 n0 c0] 84)).alloc (.cells #[.int .i64 0, .slice none 0 0] 56)).alloc (.cells #[.int .i64 x.a, .slice none 0 0] 56)) := bon (bon (bnew _ _) (bnew _ _)) (bnew _ _)
  have hsz : (((w.alloc (.cells #[.int .i64 x.a, .slice A0 n0 c0] 84)).alloc (.cells #[.int .i64 0, .slice none 0 0] 56)).alloc (.cells #[.int .i64 x.a, .slice none 0 0] 56)).heap.size = w.heap.size + 3 := by simp
  have hP : BlkIs (((w.alloc (.cells #[.int .i64 x.a, .slice A0 n0 c0] 84)).alloc (.cells #[.int .i64 0, .slice none 0 0] 56)).alloc (.cells #[.int .i64 x.a, .slice none 0 0] 56)) w.heap.size 84 #[.int .i64 x.a, .slice A0 n0 c0] := ((blk_new w _ _ _ rfl).next (bnew _ _)).next (bnew _ _)
  have hR : BlkIs (((w.alloc (.cells #[.int .i64 x.a, .slice A0 n0 c0] 84)).alloc (.cells #[.int .i64 0, .slice none 0 0] 56)).alloc (.cells #[.int .i64 x.a, .slice none 0 0] 56)) (w.heap.size + 1) 56 #[.int .i64 0, .slice none 0 0] := (blk_new _ _ _ _ (by simp)).next (bnew _ _)
  have hO : BlkIs (((w.alloc (.cells #[.int .i64 x.a, .slice A0 n0 c0] 84)).alloc (.cells #[.int .i64 0, .slice none 0 0] 56)).alloc (.cells #[.int .i64 x.a, .slice none 0 0] 56)) (w.heap.size + 1 + 1) 56 #[.int .i64 x.a, .slice none 0 0] := blk_new _ _ _ _ (by simp)
  have H0 := Lib.hid (h0.next hb0 hB)
  clear h0
  go_enter Tryz.func56, Tryz.ntmps56
  go_wp2_with fail
  generalize (((w.alloc (.cells #[.int .i64 x.a, .slice A0 n0 c0] 84)).alloc (.cells #[.int .i64 0, .slice none 0 0] 56)).alloc (.cells #[.int .i64 x.a, .slice none 0 0] 56)) = W0 at hb0 hsz H0 hP hR hO ⊢
  have hsB := hb0.size
  refine (toTermS_k A0 n0 c0 B x.s W0 H0.out (by omega) hn0 he0).mono ?_
  rintro e v0 ⟨a0, rfl, ho0, hv0⟩
  have hs0 := hv0.size
  replace hP := hP.next hv0
  replace hR := hR.next hv0
  replace hO := hO.next hv0
  replace hb0 := bon hb0 hv0
  have q0 := hO.cell 0
  have q1 := hO.cell 1
  have k1 := hO.frozen 1
  have r0 := hR.cell 0
  have u0 := hR.frozen 0
  have r1 := hR.cell 1
  have u1 := hR.frozen 1
  simp at q0 q1 r0 r1
  clear hP hR hO
  go_wp2_with fail
  refine bodyPost_ret (v := .agg #[.int .i64 x.a, .slice (some ⟨a0, 0, none⟩) n0 n0]) (by simp [results, Tryz.results56, go_sem, r0, r1]) rfl ?_
  have ho : Out (w.heap.size + 1) (w.heap.size + 3) v0 (((v0.setCell ⟨w.heap.size + 1 + 1, 1, none⟩ (.slice (some ⟨a0, 0, none⟩) n0 n0)).setCell ⟨w.heap.size + 1, 0, none⟩ (.int .i64 x.a)).setCell ⟨w.heap.size + 1, 1, none⟩ (.slice (some ⟨a0, 0, none⟩) n0 n0)) := out_set (out_set (out_set (Out.refl _ _ _) (by omega)) (by omega)) (by omega)
  have hso := ho.size
  refine ⟨a0, rfl, ?_, by omega, hb0.trans (ho.below (Nat.le_succ _) (by omega))⟩
  · exact ((ho0.out ho (by omega)).less (by omega)).wide (by omega) (Nat.le_refl _)

theorem infoPoint : (Tryz.prog.info? 56).map (fun i => (i.zero, i.size, i.bytes)) = some (some (.agg #[.int .i64 0, .slice none 0 0]), 2, 32) := by kernel_rfl
/-- What the copy holds when k elements have been laid. -/
def LaidP2 (wr : World) (B n k : Nat) (ts : List P2) : Prop :=
  ∃ (xs : List Value) (f : Nat → Nat), wr.ownsRow B 56 2 (.slice (some ⟨B, 0, none⟩) n n) n xs ∧ B + 1 ≤ f 0 ∧ (∀ i, i < k → f i ≤ f (i + 1)) ∧ f k ≤ wr.heap.size ∧ ∀ j, j < k → ∀ t, ts[j]? = some t → PartP2 wr xs f j t
theorem laidP2_own {wr : World} {B n : Nat} {ts : List P2} (h : LaidP2 wr B n n ts) (hl : ts.length = n) (hB : B < wr.heap.size) : OwnP2 wr B wr.heap.size (some ⟨B, 0, none⟩) n n ts := by
  obtain ⟨xs, f, h1, h2, h3, h4, h5⟩ := h
  exact ⟨hl, Nat.le_refl _, xs, f, h1, fun k hk => by have hk' : some B = some k := hk; injection hk' with hk'; omega, by omega, h3, h4, fun j t hj => h5 j (by have := (List.getElem?_eq_some_iff.1 hj).1; omega) t hj⟩
theorem laidP2_step {wr w1 : World} {B n k : Nat} {ts : List P2} {t : P2} {A0 : Option Addr} {n0 c0 : Nat} (h : LaidP2 wr B n k ts) (ht : ts[k]? = some t) (hk : k < n) (hB : B < wr.heap.size)
    (hb : Below wr.heap.size wr w1)  (o0 : OwnTS w1 wr.heap.size w1.heap.size A0 n0 c0 t.s) (hm : wr.heap.size ≤ w1.heap.size) :
    LaidP2 ((w1.setCell ⟨B, k * 2, none⟩ (.int .i64 t.a)).setCell ⟨B, k * 2 + 1, none⟩ (.slice A0 n0 c0)) B n (k + 1) ts := by
  obtain ⟨xs, f, h1, hf0, hf1, hf2, h2⟩ := h
  have hm0 := hm
  have h1' := own_below h1 hb
  have s0 := (h1'.stored (k * 2) (.int .i64 t.a)).1
  have s1 := (s0.stored (k * 2 + 1) (.slice A0 n0 c0)).1
  have hxl : xs.length = n * 2 := h1.1
  have ho : Out B (B + 1) w1 ((w1.setCell ⟨B, k * 2, none⟩ (.int .i64 t.a)).setCell ⟨B, k * 2 + 1, none⟩ (.slice A0 n0 c0)) := out_set (out_set (Out.refl _ _ _) (by omega)) (by omega)
  generalize ((w1.setCell ⟨B, k * 2, none⟩ (.int .i64 t.a)).setCell ⟨B, k * 2 + 1, none⟩ (.slice A0 n0 c0)) = w9 at s1 ho ⊢
  clear s0
  have hos := ho.size
  have hbs := hb.size
  obtain ⟨F, hF1, hF2⟩ : ∃ F : Nat → Nat, (∀ i, i ≤ k → F i = f i) ∧ F (k + 1) = w1.heap.size := ⟨fun i => if i ≤ k then f i else w1.heap.size, fun i hi => if_pos hi, if_neg (by omega)⟩
  refine ⟨_, F, s1, by rw [hF1 0 (by omega)]; exact hf0, fun i hi => ?_, by rw [hF2]; omega, fun j hj u hu => ?_⟩
  · by_cases hi2 : i + 1 ≤ k
    · rw [hF1 i (by omega), hF1 _ hi2]; exact hf1 i (by omega)
    · have hik : i = k := by omega
      subst hik
      rw [hF1 _ (Nat.le_refl _), hF2]; omega
  by_cases e1 : j = k
  · subst e1
    rw [ht] at hu
    obtain rfl := Option.some.inj hu
    unfold PartP2
    rw [hF1 _ (Nat.le_refl _), hF2]
    refine ⟨A0, n0, c0, ⟨?_, ?_⟩, (o0.out ho (by omega)).less (by omega), by omega⟩
    · rw [List.getElem?_set_ne (by omega), List.getElem?_set_self (by (try simp only [List.length_set]); omega)]
    · rw [List.getElem?_set_self (by (try simp only [List.length_set]); omega)]
  · obtain ⟨A0', n0', c0', ⟨q0, q1⟩, k0, e0⟩ := h2 j (by omega) u hu
    have hfj : f 0 ≤ f j := mono_le hf1 (by omega) (by omega)
    unfold PartP2
    rw [hF1 _ (by omega), hF1 _ (by omega)]
    refine ⟨A0', n0', c0', ⟨?_, ?_⟩, (k0.next hb).out ho (by omega), e0⟩
    · rw [List.getElem?_set_ne (by omega), List.getElem?_set_ne (by omega)]; exact q0
    · rw [List.getElem?_set_ne (by omega), List.getElem?_set_ne (by omega)]; exact q1

set_option maxRecDepth 100000 in
set_option maxHeartbeats 4000000 in
theorem toPointS_m (A : Option Addr) (n c B : Nat) (ts : List P2) (w : World) (h : InP2 w B A n ts) (hB : B ≤ w.heap.size) (hn : n ≤ 1048576) (he : totP2 ts ≤ 1048576) :
    Calls Tryz.prog 26 #[.slice A n c] w fun e w' => ∃ g, e = .returned (.slice (some ⟨g, 0, none⟩) n n) ∧ OwnP2 w' w.heap.size w'.heap.size (some ⟨g, 0, none⟩) n n ts ∧ Below w.heap.size w w' := by
  obtain ⟨i0, hi, hz0, hz1, hz2⟩ := info_parts infoPoint
  go_enter Tryz.func26, Tryz.ntmps26
  go_wp2_with (at_make; refine wpList_make_full _ rfl _ _ 33 rfl w.heap.size 56 i0 (.agg #[.int .i64 0, .slice none 0 0]) 2 Tryz.underlying33 hi hz0 hz1 .i64 .i64 _ _ n rfl rfl rfl rfl (by rw [hz2]; omega) (by unfold maxLen; omega) (Nat.le_refl _) ?_; intro w1 hown hgrow)
  have hb1 := (Below.refl w.heap.size w).grown hgrow (Nat.le_refl _) (fun _ h => by cases h)
  have hlt0 : w.heap.size < w1.heap.size := (hown.lt w.heap.size rfl).2
  have hl0 : LaidP2 w1 w.heap.size n 0 ts := ⟨_, fun _ => w.heap.size + 1, hown, Nat.le_refl _, fun i hi => by omega, hlt0, fun j hj => by omega⟩
  clear hgrow hown
  go_loopw [4] (fun i wr => ∃ k : Nat, k ≤ n ∧ i = .int .i64 k ∧ LaidP2 wr w.heap.size n k ts ∧ w.heap.size < wr.heap.size ∧ Below w.heap.size w wr) (fun i _ => n - (intOf i).toNat)
  case atStart => exact ⟨0, Nat.zero_le _, rfl, hl0, hlt0, hb1⟩
  case round =>
    clear hl0 hlt0 hb1
    obtain ⟨k, hk, rfl, hl, hlt0, hbel⟩ := hrel
    by_cases hlt : k < n
    · obtain ⟨b, off, t, rfl, hb, ht, A0, n0, c0, q0, q1, k0⟩ := (h.next hbel hB).at_ hlt
      have hmx := totP2_mem (List.mem_of_getElem? ht)
      unfold P2.tot at hmx
      rw [k0.1] at hmx
      have HI := Lib.hid (toPoint_m t A0 n0 c0 B wr k0 (by omega) (by omega) (by omega))
      have HT := Lib.hid ht
      clear k0 ht
      go_wp2_with fail
      refine HI.out.mono ?_
      rintro e w2 ⟨a0, rfl, o0, hmm, hb2⟩
      have HL := Lib.hid (laidP2_step hl HT.out hlt hlt0 hb2 o0 hmm)
      have hs2 := hb2.size
      obtain ⟨xs, _, hox, _⟩ := hl
      have hox2 := own_below hox hb2
      have hxl : xs.length = n * 2 := hox.1
      have c0 := hox2.cellAt (k * 2) (by omega)
      have c1 := hox2.cellAt (k * 2 + 1) (by omega)
      rw [List.getElem?_eq_getElem (by omega)] at c0 c1
      have f0 := hox2.frozenAt (k * 2)
      have f1 := hox2.frozenAt (k * 2 + 1)
      have hb3 := (((hbel.trans (hb2.mono (by omega))).setCell (p := ⟨w.heap.size, k * 2, none⟩) (Nat.le_refl _) (.int .i64 t.a)).setCell (p := ⟨w.heap.size, k * 2 + 1, none⟩) (Nat.le_refl _) (.slice (some ⟨a0, 0, none⟩) n0 n0))
      clear hox hox2 o0 q0 q1
      go_wp2_with fail
      go_roundw
      case rel => exact ⟨k + 1, by omega, by go_num, HL.out, by simp; omega, hb3⟩
      case measure => simp [intOf]; omega
    · have e : k = n := by omega
      subst e
      go_wp2_with fail
      go_ret
      exact ⟨_, rfl, laidP2_own hl h.1 hlt0, hbel⟩

/-- The marks of an element, from k on. -/
def mkP2 (k : Int) (t : P2) : P2 := ⟨k, riseT (k + 1) t.s⟩
def riseP2 : Int → List P2 → List P2
  | _, [] => []
  | k, t :: ts => mkP2 k t :: riseP2 (k + (1 + t.tot : Nat)) ts
theorem totP2_cons (t : P2) (ts : List P2) : totP2 (t :: ts) = t.tot + totP2 ts := by simp [totP2]
theorem riseP2_len : ∀ (k : Int) (ts : List P2), (riseP2 k ts).length = ts.length
  | _, [] => rfl
  | k, t :: ts => by rw [riseP2, List.length_cons, riseP2_len, List.length_cons]
theorem riseP2_at : ∀ (k : Int) (ts : List P2) (j : Nat) (t : P2), ts[j]? = some t → (riseP2 k ts)[j]? = some (mkP2 (k + ((1 * j + totP2 (ts.take j) : Nat) : Int)) t)
  | _, [], j, t, h => by simp at h
  | k, u :: ts, 0, t, h => by
    obtain rfl : u = t := by simpa using h
    simp [riseP2, totP2]
  | k, u :: ts, j + 1, t, h => by
    have h' : ts[j]? = some t := by simpa using h
    rw [riseP2, List.getElem?_cons_succ, riseP2_at _ ts j t h', List.take_succ_cons, totP2_cons]
    congr 2
    omega
def mixP2 (k : Int) (ts : List P2) (j : Nat) : List P2 := (riseP2 k ts).take j ++ ts.drop j
theorem mixP2_zero (k : Int) (ts : List P2) : mixP2 k ts 0 = ts := by simp [mixP2]
theorem mixP2_end (k : Int) (ts : List P2) : mixP2 k ts ts.length = riseP2 k ts := by
  unfold mixP2
  rw [List.drop_length, List.append_nil, List.take_of_length_le (by rw [riseP2_len]; exact Nat.le_refl _)]
theorem mixP2_at (k : Int) {ts : List P2} {j : Nat} {t : P2} (h : ts[j]? = some t) : (mixP2 k ts j)[j]? = some t := by
  have hl := (List.getElem?_eq_some_iff.1 h).1
  unfold mixP2
  rw [List.getElem?_append_right (by rw [List.length_take, riseP2_len]; omega), List.length_take, riseP2_len, List.getElem?_drop, show j + (j - min j ts.length) = j by omega]
  exact h
theorem mixP2_next (k : Int) {ts : List P2} {j : Nat} {t : P2} (h : ts[j]? = some t) : mixP2 k ts (j + 1) = (mixP2 k ts j).set j (mkP2 (k + ((1 * j + totP2 (ts.take j) : Nat) : Int)) t) := by
  have hl := (List.getElem?_eq_some_iff.1 h).1
  have hr := riseP2_at k ts j t h
  unfold mixP2
  rw [List.take_add_one, hr, List.set_append_right _ _ (by rw [List.length_take, riseP2_len]; omega), List.length_take, riseP2_len, show j - min j ts.length = 0 by omega]
  have hd : ts.drop j = t :: ts.drop (j + 1) := by
    rw [List.drop_eq_getElem_cons hl]
    congr 1
    rw [List.getElem?_eq_getElem hl] at h
    exact Option.some.inj h
  rw [hd]
  simp

set_option maxRecDepth 100000 in
set_option maxHeartbeats 4000000 in
theorem markPointS_o (lo hi : Nat) (A : Option Addr) (n c : Nat) (ts : List P2) (k0 : Int) (w : World) (h : OwnP2 w lo hi A n c ts) (hn : n ≤ 1048576) (he : totP2 ts ≤ 1048576) (hk1 : 0 ≤ k0) (hk2 : k0 ≤ 50000000) :
    Calls Tryz.prog 34 #[.slice A n c, .int .i64 k0] w fun e w' => e = .returned (.int .i64 (k0 + ((1 * n + totP2 ts : Nat) : Int))) ∧ OwnP2 w' lo hi A n c (riseP2 k0 ts) ∧ Out lo hi w w' := by
  have hlen := Lib.hid h.1
  have HR0 : Hid (OwnP2 w lo hi A n c (mixP2 k0 ts 0)) := by show OwnP2 w lo hi A n c (mixP2 k0 ts 0); rw [mixP2_zero]; exact h
  clear h
  go_enter Tryz.func34, Tryz.ntmps34
  go_wp2_with fail
  go_loopw [1, 5] (fun kv i wr => ∃ j : Nat, j ≤ n ∧ i = .int .i64 j ∧ kv = .int .i64 (k0 + ((1 * j + totP2 (ts.take j) : Nat) : Int)) ∧ Hid (OwnP2 wr lo hi A n c (mixP2 k0 ts j)) ∧ Out lo hi w wr) (fun _ i _ => n - (intOf i).toNat)
  case atStart => exact ⟨0, Nat.zero_le _, rfl, by simp [totP2], HR0, Out.refl _ _ _⟩
  case round =>
    clear HR0
    obtain ⟨j, hj, rfl, rfl, hR, hout⟩ := hrel
    by_cases hlt : j < n
    · obtain ⟨h1, h2, xs, f, h3, h4, h5, h6, h7, h8⟩ := hR.out
      obtain ⟨t, ht⟩ : ∃ t, ts[j]? = some t := ⟨_, List.getElem?_eq_getElem (by have := hlen.out; omega)⟩
      obtain ⟨A0, n0, c0, ⟨q0, q1⟩, o0, e0⟩ := h8 j t (mixP2_at k0 ht)
      have hxl := h3.1
      obtain ⟨g, rfl⟩ : ∃ g, A = some ⟨g, 0, none⟩ := by
        rcases h3.2 with h' | ⟨g, cap, cur, k1, _⟩
        · have := h'.2; omega
        · injection k1 with k1; exact ⟨g, k1⟩
      obtain ⟨hg1, hg2⟩ := h4 g rfl
      have hlg := (h3.lt g rfl).1
      have hfj : f 0 ≤ f j := mono_le h6 (Nat.zero_le _) (by omega)
      have hfn : f (j + 1) ≤ f n := mono_le h6 (by omega) (Nat.le_refl _)
      have hmem := totP2_mem (List.mem_of_getElem? ht)
      have hts := totP2_succ ht
      have htk := totP2_take ts j
      have htt : t.tot = n0 + totT t.s := by unfold P2.tot; rw [o0.1]
      have hnext := mixP2_next k0 ht
      obtain ⟨K, hK⟩ : ∃ K : Int, K = k0 + ((1 * j + totP2 (ts.take j) : Nat) : Int) := ⟨_, rfl⟩
      have hKn : K + 1 + ((n0 + totT t.s : Nat) : Int) = k0 + ((1 * (j + 1) + totP2 (ts.take (j + 1)) : Nat) : Int) := by rw [hts, htt, hK]; omega
      have hK1 : 0 ≤ K := by omega
      have hK2 : K ≤ 60000000 := by omega
      rw [← hK] at hnext ⊢
      have s0 := (h3.stored (j * 2) (.int .i64 (K))).1
      have cl0 := h3.cellAt (j * 2) (by omega)
      have cl1 := h3.cellAt (j * 2 + 1) (by omega)
      rw [q0] at cl0
      rw [q1] at cl1
      have z0 := h3.frozenAt (j * 2)
      have ho : Out g (g + 1) wr (wr.setCell ⟨g, j * 2, none⟩ (.int .i64 (K))) := out_set (Out.refl _ _ _) (by omega)
      have y0 := s0.cellAt (j * 2 + 1) (by omega)
      rw [List.getElem?_set_ne (by omega), q1] at y0
      have O0 := o0.out ho (by omega)
      have H8 := Lib.hid (fun i u (hi : i ≠ j) (hu : (mixP2 k0 ts j)[i]? = some u) => (h8 i u hu).out ho (by
        have hil : i < n := by have := (List.getElem?_eq_some_iff.1 hu).1; omega
        have a1 : f 0 ≤ f i := mono_le h6 (Nat.zero_le _) (by omega)
        have a2 : f (i + 1) ≤ f n := mono_le h6 (by omega) (Nat.le_refl _)
        omega))
      have HRW := Lib.hid s0
      have H6 := Lib.hid h6
      have H4 := Lib.hid h4
      have HX := Lib.hid (And.intro h1 hxl)
      have HNX := Lib.hid hnext
      have HQ := Lib.hid (And.intro q1 trivial)
      have hnn0 : n0 ≤ 1048576 := by omega
      have hnn1 : totT t.s ≤ 1048576 := by omega
      have HKN := Lib.hid hKn
      have HM0 := Lib.hid (markTermS_o (f j) (f (j + 1)) A0 n0 c0 t.s (K + 1) _ O0 (by omega) (by omega) (by omega) (by omega))
      have hho := ho.size
      have HO := Lib.hid ho
      have HTL := Lib.hid (And.intro o0.1 trivial)
      clear s0 hR h1 h3 h4 h6 h8 o0 q0 q1 cl1 ht hts hnext hxl O0 ho hmem htt hK hKn
      go_wp2_with fail
      refine HM0.out.mono ?_
      rintro e9 u0 ⟨rfl, r0, t0⟩
      have tz0 := t0.size
      replace r0 := Lib.hid r0
      replace HRW := Lib.hid (row_outP2 HRW.out t0 (by omega))
      replace H8 := Lib.hid (fun i u (hi : i ≠ j) (hu : (mixP2 k0 ts j)[i]? = some u) => (H8.out i u hi hu).out t0 (by
        have hil : i < n := by have := (List.getElem?_eq_some_iff.1 hu).1; have := HX.out.1; omega
        rcases Nat.lt_or_ge i j with hij | hij
        · have : f (i + 1) ≤ f j := mono_le H6.out (by omega) (by omega)
          omega
        · have : f (j + 1) ≤ f i := mono_le H6.out (by omega) (by omega)
          omega))
      replace HO := Lib.hid ((HO.out.wide (lo' := lo) (hi' := hi) hlg (by omega)).trans (t0.wide (lo' := lo) (hi' := hi) (by omega) (by omega)))
      clear t0 HM0
      go_wp2_with fail
      go_roundw
      case rel =>
        refine ⟨j + 1, by omega, by go_num, congrArg (Value.int .i64) (by have := HKN.out; omega), ?_, hout.trans HO.out⟩
        show OwnP2 _ lo hi (some ⟨g, 0, none⟩) n c (mixP2 k0 ts (j + 1))
        rw [HNX.out]
        have hxl := HX.out.2
        refine ⟨by rw [List.length_set]; exact HX.out.1, by omega, _, f, HRW.out, H4.out, h5, H6.out, h7, fun i u hu => ?_⟩
        by_cases e1 : i = j
        · subst e1
          rw [List.getElem?_set_self (by have := HX.out.1; omega)] at hu
          obtain rfl := Option.some.inj hu
          obtain ⟨l0, _⟩ := HTL.out
          refine ⟨A0, n0, c0, ⟨?_, ?_⟩, ?_, e0⟩
          · rw [List.getElem?_set_self (by (try simp only [List.length_set]); omega)]; rfl
          · rw [List.getElem?_set_ne (by omega)]; exact HQ.out.1
          · have h9 := r0.out
            exact h9
        · rw [List.getElem?_set_ne (fun h => e1 h.symm)] at hu
          obtain ⟨A0', n0', c0', ⟨q0, q1⟩, k0, ee⟩ := H8.out i u e1 hu
          refine ⟨A0', n0', c0', ⟨?_, ?_⟩, k0, ee⟩
          · rw [List.getElem?_set_ne (by omega)]; exact q0
          · rw [List.getElem?_set_ne (by omega)]; exact q1
      case measure => simp [intOf]; omega
    · have e1 : j = n := by omega
      subst e1
      have e2 : totP2 (ts.take j) = totP2 ts := by rw [List.take_of_length_le (by have := hlen.out; omega)]
      have HF : Hid (OwnP2 wr lo hi A j c (riseP2 k0 ts)) := by show OwnP2 wr lo hi A j c (riseP2 k0 ts); have := hR.out; rw [← mixP2_end]; rw [← hlen.out] at this ⊢; exact this
      rw [e2]
      clear e2 hR
      go_wp2_with fail
      go_ret
      exact ⟨rfl, HF.out, hout⟩

end Go.Proofs.YtffkdidgfeknkaaGreatDoor
