/-
  Lists of terms: the copy that the law makes, and the comparison of equal lists. Conditions: at most 2^20 terms and coefficients.
-/
import Derived.Test.YtajmbnimdngjhaaGreatDoorTermsK
namespace Go.Proofs.YtajmbnimdngjhaaGreatDoor
open Go.RowKit

/-- Terms in memory of the call's own, between two blocks: one row of cells, and a row for the coefficients of each, no two in one block. -/
def OwnTS (w : World) (lo hi : Nat) (A : Option Addr) (n c : Nat) (ts : List (Int × List Int)) : Prop :=
  ts.length = n ∧ hi ≤ w.heap.size ∧ ∃ (xs : List Value) (e : Nat → Value), w.ownsRow lo 81 2 (.slice A n c) n xs ∧ (∀ k, (Value.slice A n c).ownBlock = some k → k < hi) ∧
    (∀ j t, ts[j]? = some t → xs[j * 2]? = some (.int .i64 t.1) ∧ xs[j * 2 + 1]? = some (e j) ∧ ∃ A' n' c', e j = .slice A' n' c' ∧ OwnL w lo hi A' n' c' t.2) ∧
    (∀ i j, i < n → j < n → i ≠ j → ∀ k, (e i).ownBlock = some k → (e j).ownBlock ≠ some k) ∧ (∀ i, i < n → ∀ k, (e i).ownBlock = some k → (Value.slice A n c).ownBlock ≠ some k)
section
variable {w w' : World} {lo hi lo' hi' : Nat} {A : Option Addr} {n c : Nat} {ts : List (Int × List Int)}
theorem OwnTS.next (h : OwnTS w lo hi A n c ts) (hb : Below w.heap.size w w') : OwnTS w' lo hi A n c ts := by
  obtain ⟨h1, h2, xs, e, h3, h4, h5, h6⟩ := h
  refine ⟨h1, Nat.le_trans h2 hb.size, xs, e, own_below h3 hb, h4, fun j t hj => ?_, h6⟩
  obtain ⟨a, b, A', n', c', d, f⟩ := h5 j t hj
  exact ⟨a, b, A', n', c', d, f.next hb⟩
theorem OwnTS.out (h : OwnTS w lo hi A n c ts) (ho : Out lo' hi' w w') (hd : hi' ≤ lo ∨ hi ≤ lo') : OwnTS w' lo hi A n c ts := by
  obtain ⟨h1, h2, xs, e, h3, h4, h5, h6⟩ := h
  refine ⟨h1, Nat.le_trans h2 ho.size, xs, e, ⟨h3.1, ?_⟩, h4, fun j t hj => ?_, h6⟩
  · rcases h3.2 with h' | ⟨g, cap, cur, k1, k2, k3, k4⟩
    · exact .inl h'
    · refine .inr ⟨g, cap, cur, k1, k2, ?_, k4⟩
      have hg : g < hi := h4 g (by rw [k1]; rfl)
      rw [ho.block g (by omega) (by omega)]
      exact k3
  · obtain ⟨a, b, A', n', c', d, f⟩ := h5 j t hj
    exact ⟨a, b, A', n', c', d, f.out ho hd⟩
theorem OwnTS.inn (h : OwnTS w lo hi A n c ts) : InTS w hi A n ts := by
  obtain ⟨h1, h2, xs, e, h3, h4, h5, h6⟩ := h
  refine ⟨h1, fun j t hj => ?_⟩
  have hjl : j < ts.length := (List.getElem?_eq_some_iff.1 hj).1
  obtain ⟨a, b, A', n', c', d, f⟩ := h5 j t hj
  rcases h3.2 with ⟨_, k2⟩ | ⟨g, cap, cur, k1, k2, k3, k4⟩
  · omega
  · have hA : A = some ⟨g, 0, none⟩ := by injection k1
    subst hA
    refine ⟨g, 0, A', n', c', rfl, h4 g rfl, ?_, ?_, f.1, f.inn.2⟩
    · rw [Nat.zero_add, h3.cellAt (j * 2) (by omega), a]
    · rw [Nat.zero_add, h3.cellAt (j * 2 + 1) (by omega), b, d]
theorem OwnTS.all (h : OwnTS w lo hi A n c ts) : InTS w w.heap.size A n ts := h.inn.more h.2.1
theorem OwnTS.less (h : OwnTS w lo hi A n c ts) (hl : lo' ≤ lo) : OwnTS w lo' hi A n c ts := by
  obtain ⟨h1, h2, xs, e, h3, h4, h5, h6⟩ := h
  refine ⟨h1, h2, xs, e, own_less h3 hl, h4, fun j t hj => ?_, h6⟩
  obtain ⟨a, b, A', n', c', d, f⟩ := h5 j t hj
  exact ⟨a, b, A', n', c', d, f.less hl⟩
theorem OwnTS.wide (h : OwnTS w lo hi A n c ts) (hl : hi ≤ hi') (hs : hi' ≤ w.heap.size) : OwnTS w lo hi' A n c ts := by
  obtain ⟨h1, h2, xs, e, h3, h4, h5, h6⟩ := h
  refine ⟨h1, hs, xs, e, h3, fun k hk => Nat.lt_of_lt_of_le (h4 k hk) hl, fun j t hj => ?_, h6⟩
  obtain ⟨a, b, A', n', c', d, f⟩ := h5 j t hj
  exact ⟨a, b, A', n', c', d, f.wide hl hs⟩
end

theorem infoTerm : (Tryz.prog.info? 81).map (fun i => (i.zero, i.size, i.bytes)) = some (some (.agg #[.int .i64 0, .slice none 0 0]), 2, 32) := by kernel_rfl
/-- What the copy holds when k terms have been laid. -/
def Laid (wr : World) (B n k : Nat) (ts : List (Int × List Int)) : Prop :=
  ∃ (xs : List Value) (e : Nat → Value), wr.ownsRow B 81 2 (.slice (some ⟨B, 0, none⟩) n n) n xs ∧
    (∀ j, j < k → ∀ t, ts[j]? = some t → xs[j * 2]? = some (.int .i64 t.1) ∧ xs[j * 2 + 1]? = some (e j) ∧ ∃ A' n' c', e j = .slice A' n' c' ∧ OwnL wr (B + 1) wr.heap.size A' n' c' t.2) ∧
    (∀ i j, i < j → j < k → ∀ q, (e i).ownBlock = some q → (e j).ownBlock ≠ some q) ∧ (∀ i, i < k → ∀ q, (e i).ownBlock = some q → B < q ∧ q < wr.heap.size)
theorem laid_end {wr : World} {B n : Nat} {ts : List (Int × List Int)} (h : Laid wr B n n ts) (hl : ts.length = n) (hB : B < wr.heap.size) : OwnTS wr B wr.heap.size (some ⟨B, 0, none⟩) n n ts := by
  obtain ⟨xs, e, h1, h2, h3, h4⟩ := h
  refine ⟨hl, Nat.le_refl _, xs, e, h1, fun k hk => by have hk' : some B = some k := hk; injection hk' with hk'; omega, fun j t hj => ?_, fun i j hi hj hne k hk => ?_, fun i hi k hk => ?_⟩
  · have hjl : j < ts.length := (List.getElem?_eq_some_iff.1 hj).1
    obtain ⟨a, b, A', n', c', d, f⟩ := h2 j (by omega) t hj
    exact ⟨a, b, A', n', c', d, f.less (by omega)⟩
  · rcases Nat.lt_or_ge i j with hlt | hge
    · exact h3 i j hlt hj k hk
    · intro hk'
      exact h3 j i (by omega) hi k hk' hk
  · have := h4 i hi k hk
    intro hk'
    have hk' : some B = some k := hk'
    injection hk' with hk'
    omega
theorem laid_step {wr w1 : World} {B n k : Nat} {ts : List (Int × List Int)} {t : Int × List Int} {g n' : Nat} (h : Laid wr B n k ts) (ht : ts[k]? = some t) (hk : k < n) (hB : B < wr.heap.size)
    (hb : Below wr.heap.size wr w1) (hown : OwnL w1 wr.heap.size w1.heap.size (some ⟨g, 0, none⟩) n' n' t.2) :
    Laid ((w1.setCell ⟨B, k * 2, none⟩ (.int .i64 t.1)).setCell ⟨B, k * 2 + 1, none⟩ (.slice (some ⟨g, 0, none⟩) n' n')) B n (k + 1) ts := by
  obtain ⟨xs, e, h1, h2, h3, h4⟩ := h
  have h1' := own_below h1 hb
  have s1 := (h1'.stored (k * 2) (.int .i64 t.1)).1
  have s2 := (s1.stored (k * 2 + 1) (.slice (some ⟨g, 0, none⟩) n' n')).1
  have hxl : xs.length = n * 2 := h1.1
  have ho : Out B (B + 1) w1 ((w1.setCell ⟨B, k * 2, none⟩ (.int .i64 t.1)).setCell ⟨B, k * 2 + 1, none⟩ (.slice (some ⟨g, 0, none⟩) n' n')) :=
    (Out.of_grown (only_set (g := B)) (fun j hj => by injection hj; omega)).trans (Out.of_grown (only_set (g := B)) (fun j hj => by injection hj; omega))
  have hos := ho.size
  have hbs := hb.size
  have hg1 : g < w1.heap.size := hown.2.2.1 g rfl
  have hg2 : wr.heap.size ≤ g := (hown.2.1.lt g rfl).1
  refine ⟨_, fun j => if j = k then .slice (some ⟨g, 0, none⟩) n' n' else e j, s2, fun j hj u hu => ?_, fun i j hij hj q hq => ?_, fun i hi q hq => ?_⟩
  · by_cases e1 : j = k
    · subst e1
      rw [ht] at hu
      obtain rfl := Option.some.inj hu
      refine ⟨?_, ?_, ?_⟩
      · rw [List.getElem?_set_ne (by omega), List.getElem?_set_self (by omega)]
      · rw [List.getElem?_set_self (by rw [List.length_set]; omega)]; simp
      · exact ⟨some ⟨g, 0, none⟩, n', n', by simp, ((hown.out ho (by omega)).less (by omega)).wide hos (Nat.le_refl _)⟩
    · obtain ⟨a, b, A', m', c', d, f⟩ := h2 j (by omega) u hu
      refine ⟨?_, ?_, A', m', c', ?_, ?_⟩
      · rw [List.getElem?_set_ne (by omega), List.getElem?_set_ne (by omega)]; exact a
      · rw [List.getElem?_set_ne (by omega), List.getElem?_set_ne (by omega)]; simp only [e1, if_false]; exact b
      · simp only [e1, if_false]; exact d
      · exact ((f.next hb).out ho (by omega)).wide (by omega) (Nat.le_refl _)
  · by_cases e1 : j = k
    · have hi : i ≠ k := by omega
      simp only [hi, if_false] at hq
      have := h4 i (by omega) q hq
      simp only [e1, if_true]
      intro hq'
      have hq' : some g = some q := hq'
      injection hq' with hq'
      omega
    · have hi : i ≠ k := by omega
      simp only [hi, if_false] at hq
      simp only [e1, if_false]
      exact h3 i j hij (by omega) q hq
  · by_cases e1 : i = k
    · simp only [e1, if_true] at hq
      have hq : some g = some q := hq
      injection hq with hq
      omega
    · simp only [e1, if_false] at hq
      have := h4 i (by omega) q hq
      omega

set_option maxRecDepth 100000 in
set_option maxHeartbeats 2000000 in
theorem toTermS_k (A : Option Addr) (n c B : Nat) (ts : List (Int × List Int)) (w : World) (h : InTS w B A n ts) (hB : B ≤ w.heap.size) (hn : n ≤ 1048576) (he : totT ts ≤ 1048576) :
    Calls Tryz.prog 38 #[.slice A n c] w fun e w' => ∃ g, e = .returned (.slice (some ⟨g, 0, none⟩) n n) ∧ OwnTS w' w.heap.size w'.heap.size (some ⟨g, 0, none⟩) n n ts ∧ Below w.heap.size w w' := by
  obtain ⟨i0, hi, hz0, hz1, hz2⟩ := info_parts infoTerm
  go_enter Tryz.func38, Tryz.ntmps38
  go_wp2_with (at_make; refine wpList_make_full _ rfl _ _ 34 rfl w.heap.size 81 i0 (.agg #[.int .i64 0, .slice none 0 0]) 2 Tryz.underlying34 hi hz0 hz1 .i64 .i64 _ _ n rfl rfl rfl rfl (by rw [hz2]; omega) (by unfold maxLen; omega) (Nat.le_refl _) ?_; intro w1 hown hgrow)
  have hb1 := (Below.refl w.heap.size w).grown hgrow (Nat.le_refl _) (fun _ h => by cases h)
  have hlt0 : w.heap.size < w1.heap.size := (hown.lt w.heap.size rfl).2
  have hl0 : Laid w1 w.heap.size n 0 ts := ⟨_, fun _ => undef, hown, fun j hj => by omega, fun i j _ hj => by omega, fun i hi => by omega⟩
  clear hgrow hown
  go_loopw [4] (fun i wr => ∃ k : Nat, k ≤ n ∧ i = .int .i64 k ∧ Laid wr w.heap.size n k ts ∧ w.heap.size < wr.heap.size ∧ Below w.heap.size w wr) (fun i _ => n - (intOf i).toNat)
  case atStart => exact ⟨0, Nat.zero_le _, rfl, hl0, hlt0, hb1⟩
  case round =>
    clear hl0 hlt0 hb1
    obtain ⟨k, hk, rfl, hl, hlt0, hbel⟩ := hrel
    by_cases hlt : k < n
    · obtain ⟨b, off, A', n', c', t, rfl, hb, ht, hc0, hc1, hin⟩ := (h.next hbel hB).at_ hlt
      have hmx := totT_mem (List.mem_of_getElem? ht)
      rw [hin.1] at hmx
      have HI := Lib.hid (toTerm_k t.1 A' n' c' B t.2 wr hin (by omega) (by omega))
      have HT := Lib.hid ht
      clear hin ht
      go_wp2_with fail
      refine HI.out.mono ?_
      rintro e w2 ⟨g, rfl, hown, hb2⟩
      have HL := Lib.hid (laid_step hl HT.out hlt hlt0 hb2 hown)
      have hs2 := hb2.size
      obtain ⟨xs, e, hox, _⟩ := hl
      have hox2 := own_below hox hb2
      have hxl : xs.length = n * 2 := hox.1
      have q0 := hox2.cellAt (k * 2) (by omega)
      have q1 := hox2.cellAt (k * 2 + 1) (by omega)
      rw [List.getElem?_eq_getElem (by omega)] at q0 q1
      have f0 := hox2.frozenAt (k * 2)
      have f1 := hox2.frozenAt (k * 2 + 1)
      have hb3 := ((hbel.trans (hb2.mono (by omega))).setCell (p := ⟨w.heap.size, k * 2, none⟩) (Nat.le_refl _) (.int .i64 t.1)).setCell (p := ⟨w.heap.size, k * 2 + 1, none⟩) (Nat.le_refl _) (.slice (some ⟨g, 0, none⟩) n' n')
      clear hox hox2 hown
      go_wp2_with fail
      go_roundw
      case rel => exact ⟨k + 1, by omega, by go_num, HL.out, by simp; omega, hb3⟩
      case measure => simp [intOf]; omega
    · have e : k = n := by omega
      subst e
      go_wp2_with fail
      go_ret
      exact ⟨_, rfl, laid_end hl h.1 hlt0, hbel⟩

set_option maxRecDepth 100000 in
set_option maxHeartbeats 2000000 in
theorem eqTermS_k (A A' : Option Addr) (n c c' B B' : Nat) (ts : List (Int × List Int)) (w : World) (h0 : InTS w B A n ts) (h0' : InTS w B' A' n ts) (hB : B ≤ w.heap.size) (hB' : B' ≤ w.heap.size) (hn : n ≤ 1048576) (he : totT ts ≤ 1048576) :
    Calls Tryz.prog 42 #[.slice A n c, .slice A' n c'] w fun e w' => e = .returned (.bool true) ∧ Below w.heap.size w w' := by
  have h := h0.more hB
  have h' := h0'.more hB'
  clear h0 h0'
  go_enter Tryz.func42, Tryz.ntmps42
  go_wp2_with fail
  go_loopw [5] (fun i wr => ∃ k : Nat, k ≤ n ∧ i = .int .i64 k ∧ Below w.heap.size w wr) (fun i _ => n - (intOf i).toNat)
  case atStart => exact ⟨0, Nat.zero_le _, rfl, Below.refl _ _⟩
  case round =>
    obtain ⟨k, hk, rfl, hbel⟩ := hrel
    have hsz := hbel.size
    by_cases hlt : k < n
    · obtain ⟨b, off, A1, n1, c1, t, rfl, hb, ht, hc0, hc1, hin⟩ := (h.next hbel (Nat.le_refl _)).at_ hlt
      obtain ⟨b', off', A2, n2, c2, t', rfl, hb', ht', hd0, hd1, hin'⟩ := (h'.next hbel (Nat.le_refl _)).at_ hlt
      obtain rfl : t = t' := by rw [ht] at ht'; exact Option.some.inj ht'
      obtain rfl : n1 = n2 := hin.1.symm.trans hin'.1
      have hmx := totT_mem (List.mem_of_getElem? ht)
      rw [hin.1] at hmx
      have HE := Lib.hid (eqTerm_k t.1 A1 A2 n1 c1 c2 w.heap.size w.heap.size t.2 wr.drew hin.drew hin'.drew hsz hsz (by omega))
      have i1 : (k : Int) < (n : Int) := by omega
      clear ht ht' hin hin'
      go_wp2_with fail
      go_region_held3 (fun w' => w'.cell? ⟨b, off + k * 2, none⟩ = some (.int .i64 t.1) ∧ w'.cell? ⟨b, off + k * 2 + 1, none⟩ = some (.slice A1 n1 c1) ∧ w'.cell? ⟨b', off' + k * 2, none⟩ = some (.int .i64 t.1) ∧ w'.cell? ⟨b', off' + k * 2 + 1, none⟩ = some (.slice A2 n1 c2))
        (first | go_keep | exact ⟨cell_on hc0 hb9, cell_on hc1 hb9, cell_on hd0 hb9, cell_on hd1 hb9⟩)
        (first | (go_at_call 78; refine HE.out.mono ?_; rintro e w9 ⟨rfl, hb9⟩))
      go_wp2_with fail
      go_roundw
      case rel => exact ⟨k + 1, by omega, by go_num, hbel.trans ((bstep hb9).mono hsz)⟩
      case measure => simp [intOf]; omega
    · go_wp2_with fail
      go_ret
      exact ⟨rfl, hbel⟩
end Go.Proofs.YtajmbnimdngjhaaGreatDoor
