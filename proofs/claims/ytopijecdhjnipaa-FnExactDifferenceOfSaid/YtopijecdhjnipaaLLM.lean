/-
  Lists of lists of numbers in memory of one's own, each row apart from the others; the law's copy; the marks that the law writes and reads again. Conditions: at most 2^20 rows and numbers.
-/
import Derived.Test.YtopijecdhjnipaaLL
import Derived.Test.YtopijecdhjnipaaTermsC
import Derived.Test.YtopijecdhjnipaaMono
import Derived.Test.YtopijecdhjnipaaTermK
namespace Go.Proofs.Ytopijecdhjnipaa
set_option linter.unusedVariables false
open Go.RowKit

/-- What lies at the places from f on, row by row. -/
def PartLL (w : World) (xs : List Value) (f : Nat → Nat) (j : Nat) (t : List Int) : Prop := ∃ A0 n0 c0, xs[j]? = some (.slice A0 n0 c0) ∧ OwnL w (f j) (f (j + 1)) A0 n0 c0 t
def OwnLL (w : World) (lo hi : Nat) (A : Option Addr) (n c : Nat) (ts : List (List Int)) : Prop :=
  ts.length = n ∧ hi ≤ w.heap.size ∧ ∃ (xs : List Value) (f : Nat → Nat), w.ownsRow lo 35 1 (.slice A n c) n xs ∧ (∀ k, (Value.slice A n c).ownBlock = some k → k < hi ∧ (k < f 0 ∨ f n ≤ k)) ∧ lo ≤ f 0 ∧ (∀ i, i < n → f i ≤ f (i + 1)) ∧ f n ≤ hi ∧ ∀ j t, ts[j]? = some t → PartLL w xs f j t
theorem PartLL.next {w w' : World} {xs : List Value} {f : Nat → Nat} {j : Nat} {t : List Int} (h : PartLL w xs f j t) (hb : Below w.heap.size w w') : PartLL w' xs f j t := by
  obtain ⟨A0, n0, c0, q, k0⟩ := h
  exact ⟨A0, n0, c0, q, k0.next hb⟩
theorem PartLL.out {w w' : World} {xs : List Value} {f : Nat → Nat} {j lo' hi' : Nat} {t : List Int} (h : PartLL w xs f j t) (ho : Out lo' hi' w w') (hd : hi' ≤ f j ∨ f (j + 1) ≤ lo') : PartLL w' xs f j t := by
  obtain ⟨A0, n0, c0, q, k0⟩ := h
  exact ⟨A0, n0, c0, q, k0.out ho hd⟩
section
variable {w w' : World} {lo hi lo' hi' : Nat} {A : Option Addr} {n c : Nat} {ts : List (List Int)}
theorem row_outLL {g : Nat} {xs : List Value} (h3 : w.ownsRow lo 35 1 (.slice (some ⟨g, 0, none⟩) n c) n xs) (ho : Out lo' hi' w w') (hg : g < lo' ∨ hi' ≤ g) : w'.ownsRow lo 35 1 (.slice (some ⟨g, 0, none⟩) n c) n xs := by
  refine ⟨h3.1, ?_⟩
  rcases h3.2 with h' | ⟨g', cap, cur, k1, k2, k3, k4⟩
  · exact .inl h'
  · refine .inr ⟨g', cap, cur, k1, k2, ?_, k4⟩
    have e : g = g' := by injection k1 with e1; injection e1 with e2; injection e2
    subst e
    have hlt : g < w.heap.size := (h3.lt g rfl).2
    rw [ho.block g (by omega) (by omega)]
    exact k3
theorem OwnLL.next (h : OwnLL w lo hi A n c ts) (hb : Below w.heap.size w w') : OwnLL w' lo hi A n c ts := by
  obtain ⟨h1, h2, xs, f, h3, h4, h5, h6, h7, h8⟩ := h
  exact ⟨h1, Nat.le_trans h2 hb.size, xs, f, own_below h3 hb, h4, h5, h6, h7, fun j t hj => (h8 j t hj).next hb⟩
theorem OwnLL.drew (h : OwnLL w lo hi A n c ts) : OwnLL w.drew lo hi A n c ts := h
theorem OwnLL.out (h : OwnLL w lo hi A n c ts) (ho : Out lo' hi' w w') (hd : hi' ≤ lo ∨ hi ≤ lo') : OwnLL w' lo hi A n c ts := by
  obtain ⟨h1, h2, xs, f, h3, h4, h5, h6, h7, h8⟩ := h
  have hf : f 0 ≤ f n := mono_le h6 (Nat.zero_le _) (Nat.le_refl _)
  refine ⟨h1, Nat.le_trans h2 ho.size, xs, f, ⟨h3.1, ?_⟩, h4, h5, h6, h7, fun j t hj => ?_⟩
  · rcases h3.2 with h' | ⟨g, cap, cur, k1, k2, k3, k4⟩
    · exact .inl h'
    · refine .inr ⟨g, cap, cur, k1, k2, ?_, k4⟩
      have hg := (h4 g (by rw [k1]; rfl)).1
      have hgl := (h3.lt g (by rw [k1]; rfl)).1
      rw [ho.block g (by omega) (by omega)]
      exact k3
  · have hjl : j < ts.length := (List.getElem?_eq_some_iff.1 hj).1
    have ha : f 0 ≤ f j := mono_le h6 (Nat.zero_le _) (by omega)
    have hb : f (j + 1) ≤ f n := mono_le h6 (by omega) (Nat.le_refl _)
    exact (h8 j t hj).out ho (by omega)
theorem OwnLL.less (h : OwnLL w lo hi A n c ts) (hl : lo' ≤ lo) : OwnLL w lo' hi A n c ts := by
  obtain ⟨h1, h2, xs, f, h3, h4, h5, h6⟩ := h
  exact ⟨h1, h2, xs, f, own_less h3 hl, h4, by omega, h6⟩
theorem OwnLL.wide (h : OwnLL w lo hi A n c ts) (hl : hi ≤ hi') (hs : hi' ≤ w.heap.size) : OwnLL w lo hi' A n c ts := by
  obtain ⟨h1, h2, xs, f, h3, h4, h5, h6, h7, h8⟩ := h
  exact ⟨h1, hs, xs, f, h3, fun k hk => ⟨by have := (h4 k hk).1; omega, (h4 k hk).2⟩, h5, h6, by omega, h8⟩
theorem OwnLL.inn (h : OwnLL w lo hi A n c ts) : InLL w hi A n ts := by
  obtain ⟨h1, h2, xs, f, h3, h4, h5, h6, h7, h8⟩ := h
  refine ⟨h1, fun j t hj => ?_⟩
  have hjl : j < ts.length := (List.getElem?_eq_some_iff.1 hj).1
  have hb : f (j + 1) ≤ f n := mono_le h6 (by omega) (Nat.le_refl _)
  have hxl := h3.1
  obtain ⟨g, rfl⟩ : ∃ g, A = some ⟨g, 0, none⟩ := by
    rcases h3.2 with h' | ⟨g, cap, cur, k1, _⟩
    · have := h'.2; omega
    · injection k1 with k1; exact ⟨g, k1⟩
  obtain ⟨A0, n0, c0, q0, k0⟩ := h8 j t hj
  refine ⟨g, 0, rfl, (h4 g rfl).1, A0, n0, c0, ?_, (k0.inn).more (by omega)⟩
  rw [Nat.zero_add]
  exact (h3.cellAt j (by omega)).trans q0
theorem OwnLL.all (h : OwnLL w lo hi A n c ts) : InLL w w.heap.size A n ts := h.inn.more h.2.1
theorem OwnLL.len (h : OwnLL w lo hi A n c ts) : ts.length = n := h.1
end

theorem infoRow : (Try.prog.info? 35).map (fun i => (i.zero, i.size, i.bytes)) = some (some (.slice none 0 0), 1, 24) := by kernel_rfl
/-- What the copy holds when k rows have been laid. -/
def LaidLL (wr : World) (B n k : Nat) (ts : List (List Int)) : Prop :=
  ∃ (xs : List Value) (f : Nat → Nat), wr.ownsRow B 35 1 (.slice (some ⟨B, 0, none⟩) n n) n xs ∧ B + 1 ≤ f 0 ∧ (∀ i, i < k → f i ≤ f (i + 1)) ∧ f k ≤ wr.heap.size ∧ ∀ j, j < k → ∀ t, ts[j]? = some t → PartLL wr xs f j t
theorem laidLL_own {wr : World} {B n : Nat} {ts : List (List Int)} (h : LaidLL wr B n n ts) (hl : ts.length = n) (hB : B < wr.heap.size) : OwnLL wr B wr.heap.size (some ⟨B, 0, none⟩) n n ts := by
  obtain ⟨xs, f, h1, h2, h3, h4, h5⟩ := h
  exact ⟨hl, Nat.le_refl _, xs, f, h1, fun k hk => by have hk' : some B = some k := hk; injection hk' with hk'; omega, by omega, h3, h4, fun j t hj => h5 j (by have := (List.getElem?_eq_some_iff.1 hj).1; omega) t hj⟩
theorem laidLL_step {wr w1 : World} {B n k : Nat} {ts : List (List Int)} {t : List Int} {A0 : Option Addr} {n0 c0 : Nat} (h : LaidLL wr B n k ts) (ht : ts[k]? = some t) (hk : k < n) (hB : B < wr.heap.size)
    (hb : Below wr.heap.size wr w1) (o0 : OwnL w1 wr.heap.size w1.heap.size A0 n0 c0 t) :
    LaidLL (w1.setCell ⟨B, k, none⟩ (.slice A0 n0 c0)) B n (k + 1) ts := by
  obtain ⟨xs, f, h1, hf0, hf1, hf2, h2⟩ := h
  have h1' := own_below h1 hb
  have s4 := (h1'.stored k (.slice A0 n0 c0)).1
  have hxl : xs.length = n * 1 := h1.1
  have ho : Out B (B + 1) w1 (w1.setCell ⟨B, k, none⟩ (.slice A0 n0 c0)) := out_set (Out.refl _ _ _) (by omega)
  generalize w1.setCell ⟨B, k, none⟩ (.slice A0 n0 c0) = w9 at s4 ho ⊢
  have hos := ho.size
  have hbs := hb.size
  obtain ⟨F, hF1, hF2⟩ : ∃ F : Nat → Nat, (∀ i, i ≤ k → F i = f i) ∧ F (k + 1) = w1.heap.size := ⟨fun i => if i ≤ k then f i else w1.heap.size, fun i hi => if_pos hi, if_neg (by omega)⟩
  refine ⟨_, F, s4, by rw [hF1 0 (by omega)]; exact hf0, fun i hi => ?_, by rw [hF2]; omega, fun j hj u hu => ?_⟩
  · by_cases hi2 : i + 1 ≤ k
    · rw [hF1 i (by omega), hF1 _ hi2]; exact hf1 i (by omega)
    · have hik : i = k := by omega
      subst hik
      rw [hF1 _ (Nat.le_refl _), hF2]; omega
  by_cases e1 : j = k
  · subst e1
    rw [ht] at hu
    obtain rfl := Option.some.inj hu
    unfold PartLL
    rw [hF1 _ (Nat.le_refl _), hF2]
    refine ⟨A0, n0, c0, ?_, (o0.out ho (by omega)).less (by omega)⟩
    rw [List.getElem?_set_self (by omega)]
  · obtain ⟨A0', n0', c0', q0, k0⟩ := h2 j (by omega) u hu
    have hfj : f 0 ≤ f j := mono_le hf1 (by omega) (by omega)
    unfold PartLL
    rw [hF1 _ (by omega), hF1 _ (by omega)]
    refine ⟨A0', n0', c0', ?_, (k0.next hb).out ho (by omega)⟩
    rw [List.getElem?_set_ne (by omega)]; exact q0

set_option maxRecDepth 100000 in
set_option maxHeartbeats 4000000 in
theorem toInt64SS_m (A : Option Addr) (n c B : Nat) (ts : List (List Int)) (w : World) (h : InLL w B A n ts) (hB : B ≤ w.heap.size) (hn : n ≤ 1048576) (he : totLL ts ≤ 1048576) :
    Calls Try.prog 26 #[.slice A n c] w fun e w' => ∃ g, e = .returned (.slice (some ⟨g, 0, none⟩) n n) ∧ OwnLL w' w.heap.size w'.heap.size (some ⟨g, 0, none⟩) n n ts ∧ Below w.heap.size w w' := by
  obtain ⟨i0, hi, hz0, hz1, hz2⟩ := info_parts infoRow
  go_enter Try.func26, Try.ntmps26
  go_wp2_with (at_make; refine wpList_make_full _ rfl _ _ 22 rfl w.heap.size 35 i0 (.slice none 0 0) 1 Try.underlying22 hi hz0 hz1 .i64 .i64 _ _ n rfl rfl rfl rfl (by rw [hz2]; omega) (by unfold maxLen; omega) (Nat.le_refl _) ?_; intro w1 hown hgrow)
  have hb1 := (Below.refl w.heap.size w).grown hgrow (Nat.le_refl _) (fun _ h => by cases h)
  have hlt0 : w.heap.size < w1.heap.size := (hown.lt w.heap.size rfl).2
  have hl0 : LaidLL w1 w.heap.size n 0 ts := ⟨_, fun _ => w.heap.size + 1, hown, Nat.le_refl _, fun i hi => by omega, hlt0, fun j hj => by omega⟩
  clear hgrow hown
  go_loopw [4] (fun i wr => ∃ k : Nat, k ≤ n ∧ i = .int .i64 k ∧ LaidLL wr w.heap.size n k ts ∧ w.heap.size < wr.heap.size ∧ Below w.heap.size w wr) (fun i _ => n - (intOf i).toNat)
  case atStart => exact ⟨0, Nat.zero_le _, rfl, hl0, hlt0, hb1⟩
  case round =>
    clear hl0 hlt0 hb1
    obtain ⟨k, hk, rfl, hl, hlt0, hbel⟩ := hrel
    by_cases hlt : k < n
    · obtain ⟨b, off, t, rfl, hb, ht, A0, n0, c0, q0, k0⟩ := (h.next hbel hB).at_ hlt
      have hmx := totLL_mem (List.mem_of_getElem? ht)
      rw [k0.1] at hmx
      have HI := Lib.hid (toInt64S_k A0 n0 c0 B t wr k0 (by omega) (by omega))
      have HT := Lib.hid ht
      clear k0 ht
      go_wp2_with fail
      refine HI.out.mono ?_
      rintro e w2 ⟨a0, rfl, o0, hb2⟩
      have HL := Lib.hid (laidLL_step hl HT.out hlt hlt0 hb2 o0)
      have hs2 := hb2.size
      obtain ⟨xs, _, hox, _⟩ := hl
      have hox2 := own_below hox hb2
      have hxl : xs.length = n * 1 := hox.1
      have c0 := hox2.cellAt k (by omega)
      rw [List.getElem?_eq_getElem (by omega)] at c0
      have f0 := hox2.frozenAt k
      have hb3 := (hbel.trans (hb2.mono (by omega))).setCell (p := ⟨w.heap.size, k, none⟩) (Nat.le_refl _) (.slice (some ⟨a0, 0, none⟩) n0 n0)
      clear hox hox2 o0 q0
      go_wp2_with fail
      go_roundw
      case rel => exact ⟨k + 1, by omega, by go_num, HL.out, by simp; omega, hb3⟩
      case measure => simp [intOf]; omega
    · have e : k = n := by omega
      subst e
      go_wp2_with fail
      go_ret
      exact ⟨_, rfl, laidLL_own hl h.1 hlt0, hbel⟩

/-- The marks, row by row. -/
def riseLL : Int → List (List Int) → List (List Int)
  | _, [] => []
  | k, t :: ts => rise k t.length :: riseLL (k + (t.length : Nat)) ts
theorem riseLL_len : ∀ (k : Int) (ts : List (List Int)), (riseLL k ts).length = ts.length
  | _, [] => rfl
  | k, t :: ts => by rw [riseLL, List.length_cons, riseLL_len, List.length_cons]
theorem riseLL_at : ∀ (k : Int) (ts : List (List Int)) (j : Nat) (t : List Int), ts[j]? = some t → (riseLL k ts)[j]? = some (rise (k + ((totLL (ts.take j) : Nat) : Int)) t.length)
  | _, [], j, t, h => by simp at h
  | k, u :: ts, 0, t, h => by
    obtain rfl : u = t := by simpa using h
    simp [riseLL, totLL]
  | k, u :: ts, j + 1, t, h => by
    have h' : ts[j]? = some t := by simpa using h
    rw [riseLL, List.getElem?_cons_succ, riseLL_at _ ts j t h', List.take_succ_cons, totLL_cons]
    congr 2
    omega
def mixLL (k : Int) (ts : List (List Int)) (j : Nat) : List (List Int) := (riseLL k ts).take j ++ ts.drop j
theorem mixLL_zero (k : Int) (ts : List (List Int)) : mixLL k ts 0 = ts := by simp [mixLL]
theorem mixLL_end (k : Int) (ts : List (List Int)) : mixLL k ts ts.length = riseLL k ts := by
  unfold mixLL
  rw [List.drop_length, List.append_nil, List.take_of_length_le (by rw [riseLL_len]; exact Nat.le_refl _)]
theorem mixLL_at (k : Int) {ts : List (List Int)} {j : Nat} {t : List Int} (h : ts[j]? = some t) : (mixLL k ts j)[j]? = some t := by
  have hl := (List.getElem?_eq_some_iff.1 h).1
  unfold mixLL
  rw [List.getElem?_append_right (by rw [List.length_take, riseLL_len]; omega), List.length_take, riseLL_len, List.getElem?_drop, show j + (j - min j ts.length) = j by omega]
  exact h
theorem mixLL_next (k : Int) {ts : List (List Int)} {j : Nat} {t : List Int} (h : ts[j]? = some t) : mixLL k ts (j + 1) = (mixLL k ts j).set j (rise (k + ((totLL (ts.take j) : Nat) : Int)) t.length) := by
  have hl := (List.getElem?_eq_some_iff.1 h).1
  have hr := riseLL_at k ts j t h
  unfold mixLL
  rw [List.take_add_one, hr, List.set_append_right _ _ (by rw [List.length_take, riseLL_len]; omega), List.length_take, riseLL_len, show j - min j ts.length = 0 by omega]
  have hd : ts.drop j = t :: ts.drop (j + 1) := by
    rw [List.drop_eq_getElem_cons hl]
    congr 1
    rw [List.getElem?_eq_getElem hl] at h
    exact Option.some.inj h
  rw [hd]
  simp

set_option maxRecDepth 100000 in
set_option maxHeartbeats 4000000 in
theorem markInt64SS_o (lo hi : Nat) (A : Option Addr) (n c : Nat) (ts : List (List Int)) (k0 : Int) (w : World) (h : OwnLL w lo hi A n c ts) (hn : n ≤ 1048576) (he : totLL ts ≤ 1048576) (hk1 : 0 ≤ k0) (hk2 : k0 ≤ 100000000) :
    Calls Try.prog 30 #[.slice A n c, .int .i64 k0] w fun e w' => e = .returned (.int .i64 (k0 + ((totLL ts : Nat) : Int))) ∧ OwnLL w' lo hi A n c (riseLL k0 ts) ∧ Out lo hi w w' := by
  have hlen := Lib.hid h.1
  have HR0 : Hid (OwnLL w lo hi A n c (mixLL k0 ts 0)) := by show OwnLL w lo hi A n c (mixLL k0 ts 0); rw [mixLL_zero]; exact h
  clear h
  go_enter Try.func30, Try.ntmps30
  go_wp2_with fail
  go_loopw [1, 5] (fun kv i wr => ∃ j : Nat, j ≤ n ∧ i = .int .i64 j ∧ kv = .int .i64 (k0 + ((totLL (ts.take j) : Nat) : Int)) ∧ Hid (OwnLL wr lo hi A n c (mixLL k0 ts j)) ∧ Out lo hi w wr) (fun _ i _ => n - (intOf i).toNat)
  case atStart => exact ⟨0, Nat.zero_le _, rfl, by simp [totLL], HR0, Out.refl _ _ _⟩
  case round =>
    clear HR0
    obtain ⟨j, hj, rfl, rfl, hR, hout⟩ := hrel
    by_cases hlt : j < n
    · obtain ⟨h1, h2, xs, f, h3, h4, h5, h6, h7, h8⟩ := hR.out
      obtain ⟨t, ht⟩ : ∃ t, ts[j]? = some t := ⟨_, List.getElem?_eq_getElem (by have := hlen.out; omega)⟩
      obtain ⟨A0, n0, c0, q0, o0⟩ := h8 j t (mixLL_at k0 ht)
      have hxl := h3.1
      obtain ⟨g, rfl⟩ : ∃ g, A = some ⟨g, 0, none⟩ := by
        rcases h3.2 with h' | ⟨g, cap, cur, k1, _⟩
        · have := h'.2; omega
        · injection k1 with k1; exact ⟨g, k1⟩
      obtain ⟨hg1, hg2⟩ := h4 g rfl
      have hlg := (h3.lt g rfl).1
      have hfj : f 0 ≤ f j := mono_le h6 (Nat.zero_le _) (by omega)
      have hfn : f (j + 1) ≤ f n := mono_le h6 (by omega) (Nat.le_refl _)
      have hff : f j ≤ f (j + 1) := h6 j hlt
      have hmem := totLL_mem (List.mem_of_getElem? ht)
      have hts := totLL_succ ht
      have htk := totLL_take ts j
      have htt : t.length = n0 := o0.1
      have hnext := mixLL_next k0 ht
      obtain ⟨K, hK⟩ : ∃ K : Int, K = k0 + ((totLL (ts.take j) : Nat) : Int) := ⟨_, rfl⟩
      have hKn : K + (n0 : Int) = k0 + ((totLL (ts.take (j + 1)) : Nat) : Int) := by rw [hts, htt, hK]; omega
      have hK1 : 0 ≤ K := by omega
      have hK2 : K ≤ 110000000 := by omega
      rw [← hK] at hnext ⊢
      rw [htt] at hnext
      have cl0 := h3.cellAt j (by omega)
      rw [q0] at cl0
      have H8 := Lib.hid h8
      have HRW := Lib.hid h3
      have H6 := Lib.hid h6
      have H4 := Lib.hid h4
      have HX := Lib.hid (And.intro h1 hxl)
      have HNX := Lib.hid hnext
      have HQ := Lib.hid q0
      have HKN := Lib.hid hKn
      have HM0 := Lib.hid (markInt64S_k (f j) (f (j + 1)) A0 n0 c0 t K _ o0 (by omega) (by omega) (by omega))
      clear hR h1 h3 h4 h6 h8 o0 q0 ht hts hnext hxl hmem htt hK hKn
      go_wp2_with fail
      refine HM0.out.mono ?_
      rintro e9 u0 ⟨rfl, r0, t0⟩
      have tz0 := t0.size
      replace r0 := Lib.hid r0
      replace HRW := Lib.hid (row_outLL HRW.out t0 (by omega))
      replace H8 := Lib.hid (fun i u (hi : i ≠ j) (hu : (mixLL k0 ts j)[i]? = some u) => (H8.out i u hu).out t0 (by
        have hil : i < n := by have := (List.getElem?_eq_some_iff.1 hu).1; have := HX.out.1; omega
        rcases Nat.lt_or_ge i j with hij | hij
        · have : f (i + 1) ≤ f j := mono_le H6.out (by omega) (by omega)
          omega
        · have : f (j + 1) ≤ f i := mono_le H6.out (by omega) (by omega)
          omega))
      have HO := Lib.hid (t0.wide (lo' := lo) (hi' := hi) (by omega) (by omega))
      clear t0 HM0
      go_wp2_with fail
      go_roundw
      case rel =>
        refine ⟨j + 1, by omega, by go_num, congrArg (Value.int .i64) (by have := HKN.out; omega), ?_, hout.trans HO.out⟩
        show OwnLL _ lo hi (some ⟨g, 0, none⟩) n c (mixLL k0 ts (j + 1))
        rw [HNX.out]
        have hxl := HX.out.2
        refine ⟨by rw [List.length_set]; exact HX.out.1, by omega, _, f, HRW.out, H4.out, h5, H6.out, h7, fun i u hu => ?_⟩
        by_cases e1 : i = j
        · subst e1
          rw [List.getElem?_set_self (by have := HX.out.1; omega)] at hu
          obtain rfl := Option.some.inj hu
          exact ⟨A0, n0, c0, HQ.out, r0.out⟩
        · rw [List.getElem?_set_ne (fun h => e1 h.symm)] at hu
          exact H8.out i u e1 hu
      case measure => simp [intOf]; omega
    · have e1 : j = n := by omega
      subst e1
      have e2 : totLL (ts.take j) = totLL ts := by rw [List.take_of_length_le (by have := hlen.out; omega)]
      have HF : Hid (OwnLL wr lo hi A j c (riseLL k0 ts)) := by show OwnLL wr lo hi A j c (riseLL k0 ts); have := hR.out; rw [← mixLL_end]; rw [← hlen.out] at this ⊢; exact this
      rw [e2]
      clear e2 hR
      go_wp2_with fail
      go_ret
      exact ⟨rfl, HF.out, hout⟩

set_option maxRecDepth 100000 in
set_option maxHeartbeats 4000000 in
theorem heldInt64SS_k (A : Option Addr) (n c B : Nat) (ts : List (List Int)) (kb : Int) (w : World) (h : InLL w B A n (riseLL kb ts)) (hB : B ≤ w.heap.size) (hn : n ≤ 1048576) (he : totLL ts ≤ 1048576) (hk1 : 0 ≤ kb) (hk2 : kb ≤ 100000000) :
    Calls Try.prog 31 #[.slice A n c, .int .i64 kb] w fun e w' => e = .returned (.int .i64 (kb + ((totLL ts : Nat) : Int))) ∧ Below w.heap.size w w' := by
  have hlen : Hid (ts.length = n) := by show ts.length = n; rw [← riseLL_len kb ts]; exact h.1
  go_enter Try.func31, Try.ntmps31
  go_wp2_with fail
  go_loopw [1, 5] (fun kv i wr => ∃ j : Nat, j ≤ n ∧ i = .int .i64 j ∧ kv = .int .i64 (kb + ((totLL (ts.take j) : Nat) : Int)) ∧ Below w.heap.size w wr) (fun _ i _ => n - (intOf i).toNat)
  case atStart => exact ⟨0, Nat.zero_le _, rfl, by simp [totLL], Below.refl _ _⟩
  case round =>
    obtain ⟨j, hj, rfl, rfl, hbel⟩ := hrel
    have hsz := hbel.size
    by_cases hlt : j < n
    · obtain ⟨t, ht⟩ : ∃ t, ts[j]? = some t := ⟨_, List.getElem?_eq_getElem (by have := hlen.out; omega)⟩
      obtain ⟨b, off, u, rfl, hb, hu, A0, n0, c0, q0, k0⟩ := (h.next hbel hB).at_ hlt
      have hr := riseLL_at kb ts j t ht
      rw [hu] at hr
      obtain rfl := Option.some.inj hr
      have hmem := totLL_mem (List.mem_of_getElem? ht)
      have hts := totLL_succ ht
      have htk := totLL_take ts j
      have l0 : t.length = n0 := by have := k0.1; rw [rise_len] at this; exact this
      rw [l0] at k0
      obtain ⟨K, hK⟩ : ∃ K : Int, K = kb + ((totLL (ts.take j) : Nat) : Int) := ⟨_, rfl⟩
      have hKn : K + (n0 : Int) = kb + ((totLL (ts.take (j + 1)) : Nat) : Int) := by rw [hts, l0, hK]; omega
      rw [← hK] at k0 ⊢
      have hK1 : 0 ≤ K := by omega
      have hK2 : K ≤ 110000000 := by omega
      have d0 : ¬ K + (n0 : Int) < 0 := by omega
      have HH0 := Lib.hid (heldInt64S_k A0 n0 c0 B K wr k0 (by omega) (by omega) (by omega))
      have HKN := Lib.hid hKn
      clear k0 l0 hu hr ht hts hK hKn hmem
      go_wp2_with fail
      refine (HH0.out).mono ?_
      rintro e1 w2 ⟨rfl, hb2⟩
      have hbx := hb2
      go_wp2_with fail
      go_roundw
      case rel => exact ⟨j + 1, by omega, by go_num, congrArg (Value.int .i64) (by have := HKN.out; omega), bon hbel hbx⟩
      case measure => simp [intOf]; omega
    · have e1 : j = n := by omega
      subst e1
      have e2 : totLL (ts.take j) = totLL ts := by rw [List.take_of_length_le (by have := hlen.out; omega)]
      rw [e2]
      clear e2
      go_wp2_with fail
      go_ret
      exact ⟨rfl, hbel⟩
end Go.Proofs.Ytopijecdhjnipaa
