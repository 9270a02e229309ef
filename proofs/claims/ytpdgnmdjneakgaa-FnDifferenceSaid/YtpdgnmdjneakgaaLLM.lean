/-
  Lists of lists of numbers in memory of one's own, each row apart from the others; the law's copy; the marks that the law writes and reads again. Conditions: at most 2^20 rows and numbers.
-/
import Derived.Test.YtpdgnmdjneakgaaLL
import Derived.Test.YtpdgnmdjneakgaaTermsC
import Derived.Test.YtpdgnmdjneakgaaMono
import Derived.Test.YtpdgnmdjneakgaaTermK
namespace Go.Proofs.Ytpdgnmdjneakgaa
set_option linter.unusedVariables false
open Go.RowKit

/-- What lies at the places from f on, row by row. -/
def PartLL (w : World) (xs : List Value) (f : Nat → Nat) (j : Nat) (t : List Int) : Prop := ∃ A0 n0 c0, xs[j]? = some (.slice A0 n0 c0) ∧ OwnL w (f j) (f (j + 1)) A0 n0 c0 t
def OwnLL (w : World) (lo hi : Nat) (A : Option Addr) (n c : Nat) (ts : List (List Int)) : Prop :=
  ts.length = n ∧ hi ≤ w.heap.size ∧ ∃ (xs : List Value) (f : Nat → Nat), w.ownsRow lo 29 1 (.slice A n c) n xs ∧ (∀ k, (Value.slice A n c).ownBlock = some k → k < hi ∧ (k < f 0 ∨ f n ≤ k)) ∧ lo ≤ f 0 ∧ (∀ i, i < n → f i ≤ f (i + 1)) ∧ f n ≤ hi ∧ ∀ j t, ts[j]? = some t → PartLL w xs f j t
theorem PartLL.next {w w' : World} {xs : List Value} {f : Nat → Nat} {j : Nat} {t : List Int} (h : PartLL w xs f j t) (hb : Below w.heap.size w w') : PartLL w' xs f j t := by
  obtain ⟨A0, n0, c0, q, k0⟩ := h
  exact ⟨A0, n0, c0, q, k0.next hb⟩
theorem PartLL.out {w w' : World} {xs : List Value} {f : Nat → Nat} {j lo' hi' : Nat} {t : List Int} (h : PartLL w xs f j t) (ho : Out lo' hi' w w') (hd : hi' ≤ f j ∨ f (j + 1) ≤ lo') : PartLL w' xs f j t := by
  obtain ⟨A0, n0, c0, q, k0⟩ := h
  exact ⟨A0, n0, c0, q, k0.out ho hd⟩
section
variable {w w' : World} {lo hi lo' hi' : Nat} {A : Option Addr} {n c : Nat} {ts : List (List Int)}
theorem row_outLL {g : Nat} {xs : List Value} (h3 : w.ownsRow lo 29 1 (.slice (some ⟨g, 0, none⟩) n c) n xs) (ho : Out lo' hi' w w') (hg : g < lo' ∨ hi' ≤ g) : w'.ownsRow lo 29 1 (.slice (some ⟨g, 0, none⟩) n c) n xs := by
  refine ⟨h3.1, ?_⟩
  rcases h3.2 with h' | ⟨g', cap, cur, k1, k2, k3, k4⟩
  · exact .inl h'
  · refine .inr ⟨g', cap, cur, k1, k2, ?_, k4⟩
    have e : g = g' := by injection k1 with e1; injection e1 with e2; injection e2
    subst e
    have hlt : g < w.heap.size := (h3.lt g rfl).2
    rw [ho.block g (by omega) (by omega)]
    exact k3
theorem OwnLL.next (h : OwnLL w lo hi A n c ts) (hb : Below w.heap.size w w') : OwnLL w' lo hi A n c ts := by
  obtain ⟨h1, h2, xs, f, h3, h4, h5, h6, h7, h8⟩ := h
  exact ⟨h1, Nat.le_trans h2 hb.size, xs, f, own_below h3 hb, h4, h5, h6, h7, fun j t hj => (h8 j t hj).next hb⟩
theorem OwnLL.drew (h : OwnLL w lo hi A n c ts) : OwnLL w.drew lo hi A n c ts := h
theorem OwnLL.out (h : OwnLL w lo hi A n c ts) (ho : Out lo' hi' w w') (hd : hi' ≤ lo ∨ hi ≤ lo') : OwnLL w' lo hi A n c ts := by
  obtain ⟨h1, h2, xs, f, h3, h4, h5, h6, h7, h8⟩ := h
  have hf : f 0 ≤ f n := mono_le h6 (Nat.zero_le _) (Nat.le_refl _)
  refine ⟨h1, Nat.le_trans h2 ho.size, xs, f, ⟨h3.1, ?_⟩, h4, h5, h6, h7, fun j t hj => ?_⟩
  · rcases h3.2 with h' | ⟨g, cap, cur, k1, k2, k3, k4⟩
    · exact .inl h'
    · refine .inr ⟨g, cap, cur, k1, k2, ?_, k4⟩
      have hg := (h4 g (by rw [k1]; rfl)).1
      have hgl := (h3.lt g (by rw [k1]; rfl)).1
      rw [ho.block g (by omega) (by omega)]
      exact k3
  · have hjl : j < ts.length := (List.getElem?_eq_some_iff.1 hj).1
    have ha : f 0 ≤ f j := mono_le h6 (Nat.zero_le _) (by omega)
    have hb : f (j + 1) ≤ f n := mono_le h6 (by omega) (Nat.le_refl _)
    exact (h8 j t hj).out ho (by omega)
theorem OwnLL.less (h : OwnLL w lo hi A n c ts) (hl : lo' ≤ lo) : OwnLL w lo' hi A n c ts := by
  obtain ⟨h1, h2, xs, f, h3, h4, h5, h6⟩ := h
  exact ⟨h1, h2, xs, f, own_less h3 hl, h4, by omega, h6⟩
theorem OwnLL.wide (h : OwnLL w lo hi A n c ts) (hl : hi ≤ hi') (hs : hi' ≤ w.heap.size) : OwnLL w lo hi' A n c ts := by
  obtain ⟨h1, h2, xs, f, h3, h4, h5, h6, h7, h8⟩ := h
  exact ⟨h1, hs, xs, f, h3, fun k hk => ⟨by have := (h4 k hk).1; omega, (h4 k hk).2⟩, h5, h6, by omega, h8⟩
theorem OwnLL.inn (h : OwnLL w lo hi A n c ts) : InLL w hi A n ts := by
  obtain ⟨h1, h2, xs, f, h3, h4, h5, h6, h7, h8⟩ := h
  refine ⟨h1, fun j t hj => ?_⟩
  have hjl : j < ts.length := (List.getElem?_eq_some_iff.1 hj).1
  have hb : f (j + 1) ≤ f n := mono_le h6 (by omega) (Nat.le_refl _)
  have hxl := h3.1
  obtain ⟨g, rfl⟩ : ∃ g, A = some ⟨g, 0, none⟩ := by
    rcases h3.2 with h' | ⟨g, cap, cur, k1, _⟩
    · have := h'.2; omega
    · injection k1 with k1; exact ⟨g, k1⟩
  obtain ⟨A0, n0, c0, q0, k0⟩ := h8 j t hj
  refine ⟨g, 0, rfl, (h4 g rfl).1, A0, n0, c0, ?_, (k0.inn).more (by omega)⟩
  rw [Nat.zero_add]
  exact (h3.cellAt j (by omega)).trans q0
theorem OwnLL.all (h : OwnLL w lo hi A n c ts) : InLL w w.heap.size A n ts := h.inn.more h.2.1
theorem OwnLL.len (h : OwnLL w lo hi A n c ts) : ts.length = n := h.1
end

theorem infoRow : (Try.prog.info? 29).map (fun i => (i.zero, i.size, i.bytes)) = some (some (.slice none 0 0), 1, 24) := by kernel_rfl
/-- What the copy holds when k rows have been laid. -/
def LaidLL (wr : World) (B n k : Nat) (ts : List (List Int)) : Prop :=
  ∃ (xs : List Value) (f : Nat → Nat), wr.ownsRow B 29 1 (.slice (some ⟨B, 0, none⟩) n n) n xs ∧ B + 1 ≤ f 0 ∧ (∀ i, i < k → f i ≤ f (i + 1)) ∧ f k ≤ wr.heap.size ∧ ∀ j, j < k → ∀ t, ts[j]? = some t → PartLL wr xs f j t
theorem laidLL_own {wr : World} {B n : Nat} {ts : List (List Int)} (h : LaidLL wr B n n ts) (hl : ts.length = n) (hB : B < wr.heap.size) : OwnLL wr B wr.heap.size (some ⟨B, 0, none⟩) n n ts := by
  obtain ⟨xs, f, h1, h2, h3, h4, h5⟩ := h
  exact ⟨hl, Nat.le_refl _, xs, f, h1, fun k hk => by have hk' : some B = some k := hk; injection hk' with hk'; omega, by omega, h3, h4, fun j t hj => h5 j (by have := (List.getElem?_eq_some_iff.1 hj).1; omega) t hj⟩
theorem laidLL_step {wr w1 : World} {B n k : Nat} {ts : List (List Int)} {t : List Int} {A0 : Option Addr} {n0 c0 : Nat} (h : LaidLL wr B n k ts) (ht : ts[k]? = some t) (hk : k < n) (hB : B < wr.heap.size)
    (hb : Below wr.heap.size wr w1) (o0 : OwnL w1 wr.heap.size w1.heap.size A0 n0 c0 t) :
    LaidLL (w1.setCell ⟨B, k, none⟩ (.slice A0 n0 c0)) B n (k + 1) ts := by
  obtain ⟨xs, f, h1, hf0, hf1, hf2, h2⟩ := h
  have h1' := own_below h1 hb
  have s4 := (h1'.stored k (.slice A0 n0 c0)).1
  have hxl : xs.length = n * 1 := h1.1
  have ho : Out B (B + 1) w1 (w1.setCell ⟨B, k, none⟩ (.slice A0 n0 c0)) := out_set (Out.refl _ _ _) (by omega)
  generalize w1.setCell ⟨B, k, none⟩ (.slice A0 n0 c0) = w9 at s4 ho ⊢
  have hos := ho.size
  have hbs := hb.size
  obtain ⟨F, hF1, hF2⟩ : ∃ F : Nat → Nat, (∀ i, i ≤ k → F i = f i) ∧ F (k + 1) = w1.heap.size := ⟨fun i => if i ≤ k then f i else w1.heap.size, fun i hi => if_pos hi, if_neg (by omega)⟩
  refine ⟨_, F, s4, by rw [hF1 0 (by omega)]; exact hf0, fun i hi => ?_, by rw [hF2]; omega, fun j hj u hu => ?_⟩
  · by_cases hi2 : i + 1 ≤ k
    · rw [hF1 i (by omega), hF1 _ hi2]; exact hf1 i (by omega)
    · have hik : i = k := by omega
      subst hik
      rw [hF1 _ (Nat.le_refl _), hF2]; omega
  by_cases e1 : j = k
  · subst e1
    rw [ht] at hu
    obtain rfl := Option.some.inj hu
    unfold PartLL
    rw [hF1 _ (Nat.le_refl _), hF2]
    refine ⟨A0, n0, c0, ?_, (o0.out ho (by omega)).less (by omega)⟩
    rw [List.getElem?_set_self (by omega)]
  · obtain ⟨A0', n0', c0', q0, k0⟩ := h2 j (by omega) u hu
    have hfj : f 0 ≤ f j := mono_le hf1 (by omega) (by omega)
    unfold PartLL
    rw [hF1 _ (by omega), hF1 _ (by omega)]
    refine ⟨A0', n0', c0', ?_, (k0.next hb).out ho (by omega)⟩
    rw [List.getElem?_set_ne (by omega)]; exact q0

/-- The marks, row by row. -/
def riseLL : Int → List (List Int) → List (List Int)
  | _, [] => []
  | k, t :: ts => rise k t.length :: riseLL (k + (t.length : Nat)) ts
theorem riseLL_len : ∀ (k : Int) (ts : List (List Int)), (riseLL k ts).length = ts.length
  | _, [] => rfl
  | k, t :: ts => by rw [riseLL, List.length_cons, riseLL_len, List.length_cons]
theorem riseLL_at : ∀ (k : Int) (ts : List (List Int)) (j : Nat) (t : List Int), ts[j]? = some t → (riseLL k ts)[j]? = some (rise (k + ((totLL (ts.take j) : Nat) : Int)) t.length)
  | _, [], j, t, h => by simp at h
  | k, u :: ts, 0, t, h => by
    obtain rfl : u = t := by simpa using h
    simp [riseLL, totLL]
  | k, u :: ts, j + 1, t, h => by
    have h' : ts[j]? = some t := by simpa using h
    rw [riseLL, List.getElem?_cons_succ, riseLL_at _ ts j t h', List.take_succ_cons, totLL_cons]
    congr 2
    omega
def mixLL (k : Int) (ts : List (List Int)) (j : Nat) : List (List Int) := (riseLL k ts).take j ++ ts.drop j
theorem mixLL_zero (k : Int) (ts : List (List Int)) : mixLL k ts 0 = ts := by simp [mixLL]
theorem mixLL_end (k : Int) (ts : List (List Int)) : mixLL k ts ts.length = riseLL k ts := by
  unfold mixLL
  rw [List.drop_length, List.append_nil, List.take_of_length_le (by rw [riseLL_len]; exact Nat.le_refl _)]
theorem mixLL_at (k : Int) {ts : List (List Int)} {j : Nat} {t : List Int} (h : ts[j]? = some t) : (mixLL k ts j)[j]? = some t := by
  have hl := (List.getElem?_eq_some_iff.1 h).1
  unfold mixLL
  rw [List.getElem?_append_right (by rw [List.length_take, riseLL_len]; omega), List.length_take, riseLL_len, List.getElem?_drop, show j + (j - min j ts.length) = j by omega]
  exact h
theorem mixLL_next (k : Int) {ts : List (List Int)} {j : Nat} {t : List Int} (h : ts[j]? = some t) : mixLL k ts (j + 1) = (mixLL k ts j).set j (rise (k + ((totLL (ts.take j) : Nat) : Int)) t.length) := by
  have hl := (List.getElem?_eq_some_iff.1 h).1
  have hr := riseLL_at k ts j t h
  unfold mixLL
  rw [List.take_add_one, hr, List.set_append_right _ _ (by rw [List.length_take, riseLL_len]; omega), List.length_take, riseLL_len, show j - min j ts.length = 0 by omega]
  have hd : ts.drop j = t :: ts.drop (j + 1) := by
    rw [List.drop_eq_getElem_cons hl]
    congr 1
    rw [List.getElem?_eq_getElem hl] at h
    exact Option.some.inj h
  rw [hd]
  simp

end Go.Proofs.Ytpdgnmdjneakgaa
