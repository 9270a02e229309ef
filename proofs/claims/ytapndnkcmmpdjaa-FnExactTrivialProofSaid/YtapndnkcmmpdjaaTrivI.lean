/-
  The program's TrivialProof. Conditions: at most 2^20 terms and coefficients.
-/
import Derived.Test.YtapndnkcmmpdjaaTrivS
namespace Go.Proofs.Ytapndnkcmmpdjaa
set_option linter.unusedVariables false
open Go.RowKit

/-- Places in a row of ints. -/
def IdxL (w : World) (A : Option Addr) (S : List Nat) : Prop := ∀ j s, S[j]? = some s → ∃ b off cs, A = some ⟨b, off, none⟩ ∧ w.heap[b]? = some (.cells cs 3 (0, 0)) ∧ w.cell? ⟨b, off + j, none⟩ = some (.int .i64 (s : Nat))
theorem IdxL.kept {w w' : World} {A : Option Addr} {S : List Nat} {r : Option Nat} (h : IdxL w A S) (hg : w.grownBy w' r) (hr : ∀ k cs, r = some k → w.heap[k]? ≠ some (.cells cs 3 (0, 0))) : IdxL w' A S := fun j s hj => by
  obtain ⟨b, off, cs, e, hb, hc⟩ := h j s hj
  have hblk := hg.block b (blk_lt hb) (fun e => hr b cs e.symm hb)
  exact ⟨b, off, cs, e, hblk.trans hb, (World.cell?_of_block (a := ⟨b, off + j, none⟩) hblk).trans hc⟩
theorem IdxL.next {w w' : World} {A : Option Addr} {S : List Nat} (h : IdxL w A S) (hb : Below w.heap.size w w') : IdxL w' A S := fun j s hj => by
  obtain ⟨b, off, cs, e, hbb, hc⟩ := h j s hj
  have hblk := hb.block b (blk_lt hbb)
  exact ⟨b, off, cs, e, hblk.trans hbb, (World.cell?_of_block (a := ⟨b, off + j, none⟩) hblk).trans hc⟩
theorem idx_one (w : World) (x : Nat) : IdxL (w.alloc (.cells #[.int .i64 (x : Nat)] 3)) (some ⟨w.heap.size, 0, none⟩) [x] := fun j s hj => by
  have hjl := (List.getElem?_eq_some_iff.1 hj).1
  obtain rfl : j = 0 := by simp at hjl; omega
  obtain rfl : x = s := by simpa using hj
  exact ⟨w.heap.size, 0, _, rfl, heap_alloc_new w _, (blk_new w 3 #[.int .i64 (x : Nat)] _ rfl).cell 0⟩
theorem idx_two (w : World) (x y : Nat) : IdxL (w.alloc (.cells #[.int .i64 (x : Nat), .int .i64 (y : Nat)] 3)) (some ⟨w.heap.size, 0, none⟩) [x, y] := fun j s hj => by
  have hjl := (List.getElem?_eq_some_iff.1 hj).1
  have hB := blk_new w 3 #[.int .i64 (x : Nat), .int .i64 (y : Nat)] _ rfl
  match j, hjl with
  | 0, _ =>
    obtain rfl : x = s := by simpa using hj
    exact ⟨w.heap.size, 0, _, rfl, heap_alloc_new w _, hB.cell 0⟩
  | 1, _ =>
    obtain rfl : y = s := by simpa using hj
    exact ⟨w.heap.size, 0, _, rfl, heap_alloc_new w _, hB.cell 1⟩
/-- The lists of places that are tried, in a row. -/
def TdRow (w : World) (base : Nat) (v : Value) (k : Nat) (Ss : List (List Nat)) : Prop :=
  Ss.length = k ∧ ∃ xs : List Value, w.ownsRow base 82 1 v k xs ∧ ∀ (j : Nat) (S : List Nat), Ss[j]? = some S → ∃ (A : Option Addr) (c : Nat), xs[j]? = some (Value.slice A S.length c) ∧ IdxL w A S
theorem own_noIdx {w : World} {base n : Nat} {v : Value} {xs : List Value} (h : w.ownsRow base 82 1 v n xs) : ∀ k cs, v.ownBlock = some k → w.heap[k]? ≠ some (.cells cs 3 (0, 0)) := by
  intro k cs e hk
  rcases h.2 with ⟨rfl, _⟩ | ⟨g, cap, cur, rfl, _, h3, _⟩
  · cases e
  · obtain rfl : g = k := by have e' : some g = some k := e; injection e'
    rw [h3] at hk
    injection hk with hk
    injection hk with h1 h2
    cases h2
section
variable {w w' : World} {base k : Nat} {v : Value} {Ss : List (List Nat)}
theorem TdRow.next (h : TdRow w base v k Ss) (hb : Below w.heap.size w w') : TdRow w' base v k Ss := by
  obtain ⟨h1, xs, h3, h4⟩ := h
  refine ⟨h1, xs, own_below h3 hb, fun j S hj => ?_⟩
  obtain ⟨A, c, b, i⟩ := h4 j S hj
  exact ⟨A, c, b, i.next hb⟩
theorem TdRow.push {S : List Nat} {A : Option Addr} {c : Nat} {v' : Value} {xs : List Value} (hl : Ss.length = k) (hi : IdxL w A S) (hx : w.ownsRow base 82 1 v k xs)
    (hxs : ∀ (j : Nat) (S : List Nat), Ss[j]? = some S → ∃ (A : Option Addr) (c : Nat), xs[j]? = some (Value.slice A S.length c) ∧ IdxL w A S)
    (hr : w'.ownsRow base 82 1 v' (k + 1) (xs ++ [.slice A S.length c])) (hg : w.grownBy w' v.ownBlock) : TdRow w' base v' (k + 1) (Ss ++ [S]) := by
  have hno := own_noIdx hx
  have hxl := hx.1
  refine ⟨by simp [hl], _, hr, fun j U hj => ?_⟩
  by_cases hjn : j < Ss.length
  · rw [List.getElem?_append_left hjn] at hj
    obtain ⟨A', c', b, i⟩ := hxs j U hj
    exact ⟨A', c', by rw [List.getElem?_append_left (by omega)]; exact b, i.kept hg hno⟩
  · have hjl := (List.getElem?_eq_some_iff.1 hj).1
    have hje : j = Ss.length := by simp at hjl; omega
    subst hje
    rw [List.getElem?_append_right (Nat.le_refl _), Nat.sub_self] at hj
    obtain rfl : S = U := by simpa using hj
    exact ⟨A, c, by rw [List.getElem?_append_right (by omega), show Ss.length - xs.length = 0 by omega]; rfl, hi.kept hg hno⟩
end
theorem sl_one (A : Option Addr) (n c : Nat) : ∀ u ∈ [Value.slice A n c], u.oneCell' = true := by intro u hu; simp at hu; subst hu; rfl
theorem infoInts : (Try.prog.info? 82).map (fun i => (i.zero, i.size, i.bytes)) = some (some (.slice none 0 0), 1, 24) := by kernel_rfl
theorem closeN_own {w : World} {lo g gm n c : Nat} {S : List Nat} (hb : BlkIs w g 79 #[.int .i64 1, .int .i64 0, .int .i64 0, .slice none 0 0, .slice (some ⟨gm, 0, none⟩) n c]) (hh : w.heap[g]? = some (.cells #[.int .i64 1, .int .i64 0, .int .i64 0, .slice none 0 0, .slice (some ⟨gm, 0, none⟩) n c] 79 (0, 0)))
    (hi : w.ownsRow lo 2 1 (.slice (some ⟨gm, 0, none⟩) n c) n ((vecS n S).map ic)) (hg : gm < g) : OwnN5 w lo w.heap.size (some ⟨g, 0, none⟩) 1 1 [closeN n S] := by
  have hgl := hb.lt
  have hlo := (hi.lt gm rfl).1
  obtain ⟨f, hf⟩ : ∃ f : Nat → Nat, ∀ i, f i = gm + i := ⟨fun i => gm + i, fun _ => rfl⟩
  have f0 := hf 0
  have f1 := hf 1
  refine ⟨rfl, Nat.le_refl _, [.int .i64 1, .int .i64 0, .int .i64 0, .slice none 0 0, .slice (some ⟨gm, 0, none⟩) n c], f, ⟨rfl, .inr ⟨g, 1, _, rfl, by omega, hh, Nat.le_refl _, by unfold maxLen; omega, rfl, rfl⟩⟩, fun k hk => ?_, by omega, fun i hi => by rw [hf, hf]; omega, by omega, fun j t hj => ?_⟩
  · have hk' : some g = some k := hk
    injection hk' with hk'
    omega
  · have hjl := (List.getElem?_eq_some_iff.1 hj).1
    obtain rfl : j = 0 := by simp at hjl; omega
    obtain rfl : closeN n S = t := by simpa using hj
    have hO := OwnL.of_own hi
    have f2 : f (0 + 1) = gm + 1 := f1
    refine ⟨none, 0, 0, some ⟨gm, 0, none⟩, n, c, gm, ⟨rfl, rfl, rfl, rfl, rfl⟩, ⟨rfl, World.ownsRow_nil _ _ _ _, (fun k hk => by cases hk), by omega⟩, ⟨vecS_len n S, ?_, fun k hk => ?_, by omega⟩, by omega, by omega⟩
    · refine ⟨hi.1, ?_⟩
      rcases hi.2 with h' | ⟨g', cap, cur, k1, k2, k3, k4⟩
      · exact .inl h'
      · refine .inr ⟨g', cap, cur, k1, ?_, k3, k4⟩
        have e : gm = g' := by injection k1 with e1; injection e1 with e2; injection e2
        omega
    · have hk' : some gm = some k := hk
      injection hk' with hk'
      omega

set_option maxRecDepth 100000 in
set_option maxHeartbeats 8000000 in
theorem trivial_c (c0 : Int) (A : Option Addr) (n c B : Nat) (ts : List (Int × List Int)) (D : Option Addr) (m d : Nat) (zs : List Int) (w : World) (h : InTS w B A n ts) (hl : InL w B D m zs) (hB : B ≤ w.heap.size)
    (hn : n ≤ 1048576) (he : totT ts ≤ 1048576) (hm : m ≤ 1048576) :
    Calls Try.prog 26 #[.agg #[.slice A n c, .int .i64 c0, .slice D m d]] w fun e w' => ∃ A' c', e = .returned (.tuple #[.slice A' (trivR ts (c0, zs)).1.length c', .bool (trivR ts (c0, zs)).2]) ∧ OwnN5 w' w.heap.size w'.heap.size A' (trivR ts (c0, zs)).1.length c' (trivR ts (c0, zs)).1 ∧ Below w.heap.size w w' := by
  obtain ⟨i0, hi, hz0, hz1, hz2⟩ := info_parts infoInts
  have hb0 := bnew w (.cells #[.slice A n c, .int .i64 c0, .slice D m d] 43)
  have hP : BlkIs (w.alloc (.cells #[.slice A n c, .int .i64 c0, .slice D m d] 43)) w.heap.size 43 #[.slice A n c, .int .i64 c0, .slice D m d] := blk_new _ _ _ _ rfl
  have hlen := Lib.hid h.1
  have HC := Lib.hid (contextOf_c c0 A n c B ts D m d zs _ (h.next hb0 hB) (hl.next hb0 hB) (Nat.le_trans hB hb0.size) hn he hm)
  obtain ⟨T, HT⟩ : ∃ T, Hid (trivR ts (c0, zs) = T) := ⟨_, rfl⟩
  rw [HT.out]
  obtain ⟨R, HR⟩ : ∃ R, Hid (ctxR ts (c0, zs) = R) := ⟨_, rfl⟩
  rw [HR.out] at HC
  obtain ⟨rs, rb⟩ := R
  cases rb with
  | false =>
    have HX : Hid (T = ([], false)) := HT.out.symm.trans (trivR_no (by rw [HR.out]))
    obtain rfl := HX.out
    clear h hl hP HR HT HX
    go_enter Try.func26, Try.ntmps26
    go_wp2_with fail
    refine HC.out.mono ?_
    rintro e w1 ⟨A1, c1, rfl, hin, hb1⟩
    go_wp2_with fail
    go_ret2
    exact ⟨none, 0, rfl, ⟨rfl, Nat.le_refl _, [], fun _ => w.heap.size, World.ownsRow_nil _ _ _ _, (fun k hk => by cases hk), Nat.le_refl _, (fun i hi => by omega), (bon hb0 hb1).size, fun j t hj => by simp at hj⟩, bon hb0 hb1⟩
  | true =>
    have hok := ctxR_ok (ts := ts) (g := (c0, zs)) (by rw [HR.out])
    rw [HR.out] at hok
    obtain ⟨hok1, hok2, hok3⟩ := hok
    simp only at hok1 hok2 hok3
    have HX : Hid (T = trivN rs) := HT.out.symm.trans (by rw [trivR_yes (by rw [HR.out]), HR.out])
    have HV := Lib.hid hok1
    have hNn : rs.length = n + 1 := by rw [hok2, hlen.out]
    have HN := Lib.hid hNn
    have hn13 : n ≤ 13 := by omega
    have hmk := fun q (hq : q ≤ 20) => run_make_row' (P := Try.prog) 24 2 (.int .i64 0) 8 Try.underlying24 info64 rfl .i64 .i64 q (by omega) (by omega)
    have hmk1 := hmk (n + 1) (by omega)
    have hcn : (((n + 1 : Nat) : Int)) = (n : Int) + 1 := by omega
    simp only [hcn] at hmk1
    simp only [hNn] at HC
    clear h hl HR HT hok1 hok2 hok3 hNn hmk
    go_enter Try.func26, Try.ntmps26
    go_wp2_with fail
    refine HC.out.mono ?_
    rintro e w1 ⟨A1, c1, rfl, hin, hb1⟩
    have hb01 := bon hb0 hb1
    have hs01 := hb01.size
    have HIN := Lib.hid hin.all
    have p0 : w1.cell? ⟨w.heap.size, 0, none⟩ = some (.slice A n c) := (hP.next hb1).cell 0
    have hbA := bnew w1 (.cells #[.int .i64 (n : Nat)] 3)
    have hbB := bnew (w1.alloc (.cells #[.int .i64 (n : Nat)] 3)) (.cells #[.slice (some ⟨w1.heap.size, 0, none⟩) 1 1] 82)
    have hrow : TdRow ((w1.alloc (.cells #[.int .i64 (n : Nat)] 3)).alloc (.cells #[.slice (some ⟨w1.heap.size, 0, none⟩) 1 1] 82)) w1.heap.size (.slice (some ⟨w1.heap.size + 1, 0, none⟩) 1 1) (1 + 0) ((candS (n + 1)).take (1 + 0)) := by
      have hf := own_full (w := w1.alloc (.cells #[.int .i64 (n : Nat)] 3)) (base := w1.heap.size) #[.slice (some ⟨w1.heap.size, 0, none⟩) 1 1] 82 1 1 hbA.size (by unfold maxLen; omega) rfl
      rw [World.size_alloc] at hf
      refine ⟨by simp [candS], _, hf, fun j S hj => ?_⟩
      have hjl := (List.getElem?_eq_some_iff.1 hj).1
      obtain rfl : j = 0 := by simp at hjl; omega
      obtain rfl : [n] = S := by simpa [candS] using hj
      exact ⟨some ⟨w1.heap.size, 0, none⟩, 1, rfl, (idx_one w1 n).next hbB⟩
    have hb3 := bon hbA hbB
    clear hin HC hP hbA hbB hb1
    go_wp2_with fail
    generalize (w1.alloc (.cells #[.int .i64 (n : Nat)] 3)).alloc (.cells #[.slice (some ⟨w1.heap.size, 0, none⟩) 1 1] 82) = W at hrow hb3 ⊢
    clear p0
    go_loopw [7, 8, 29] (fun v _ i wr => ∃ k : Nat, k ≤ n ∧ i = .int .i64 k ∧ TdRow wr w1.heap.size v (1 + k) ((candS (n + 1)).take (1 + k)) ∧ Below w1.heap.size w1 wr) (fun _ _ i _ => n - (intOf i).toNat)
    case atStart => exact ⟨0, Nat.zero_le _, rfl, hrow, hb3⟩
    case round =>
      clear hrow hb3
      obtain ⟨k, hk, rfl, hrow, hbel⟩ := hrel
      have hsz := hbel.size
      by_cases hlt1 : k < n
      · have HTK := Lib.hid (take_more (candS_1 (n := n + 1) (k := k) (by omega)))
        have hbA := bnew wr (.cells #[.int .i64 (k : Nat)] 3)
        have hbB := bnew (wr.alloc (.cells #[.int .i64 (k : Nat)] 3)) (.cells #[.slice (some ⟨wr.heap.size, 0, none⟩) 1 1] 82)
        obtain ⟨fl, xs, fr, fx⟩ := (hrow.next hbA).next hbB
        have HI3 := Lib.hid ((idx_one wr k).next hbB)
        have FX := Lib.hid fx
        have hb5 := bon (bon hbel hbA) hbB
        have hnews := heap_alloc_new (wr.alloc (.cells #[.int .i64 (k : Nat)] 3)) (.cells #[.slice (some ⟨wr.heap.size, 0, none⟩) 1 1] 82)
        rw [World.size_alloc] at hnews
        have HNW := Lib.hid hnews
        clear fx hrow hnews
        go_wp2_with (at_builtin; refine wpList_append_own _ rfl (.tmp 32) (.tmp 35) 83 rfl w1.heap.size 82 i0 (.slice none 0 0) 1 24 Try.underlying83 hi hz0 hz1 hz2 rfl (by decide) _ _ _ rfl fr ⟨wr.heap.size + 1, 0, none⟩ 1 1 [.slice (some ⟨wr.heap.size, 0, none⟩) 1 1] rfl rfl (World.news_of_block (cs := #[.slice (some ⟨wr.heap.size, 0, none⟩) 1 1]) HNW.out) (sl_one _ _ _) (by unfold maxLen; omega) (by omega) (by simp; omega) ?_; intro v4 w4 hown4 hgrow4 _)
        have hrow4 := TdRow.push (S := [k]) fl HI3.out fr FX.out hown4 hgrow4
        rw [← HTK.out] at hrow4
        have hb6 : Below w1.heap.size w1 w4 := hb5.grown hgrow4 (by simp; omega) (fun j hj => (fr.lt j hj).1)
        clear hown4 hgrow4 fr FX HI3
        go_wp2_with fail
        go_roundw
        case rel => exact ⟨k + 1, by omega, by go_num, hrow4, hb6⟩
        case measure => simp [intOf]; omega
      · have e : k = n := by omega
        have hrow1 := hrow
        rw [show 1 + k = n + 1 + 0 by omega] at hrow1
        clear hrow
        go_wp2_with fail
        go_loopw [7, 9, 39] (fun v _ i wr => ∃ k : Nat, k ≤ n ∧ i = .int .i64 k ∧ TdRow wr w1.heap.size v (n + 1 + k) ((candS (n + 1)).take (n + 1 + k)) ∧ Below w1.heap.size w1 wr) (fun _ _ i _ => n - (intOf i).toNat)
        case atStart => exact ⟨0, Nat.zero_le _, rfl, hrow1, hbel⟩
        case round =>
          clear hrow1 hbel hlt1 e hk hsz
          obtain ⟨k, hk, rfl, hrow, hbel⟩ := hrel
          have hsz := hbel.size
          by_cases hlt1 : k < n
          · have HTK := Lib.hid (take_more (candS_2 (n := n + 1) (k := k) (by omega)))
            have hbA := bnew wr (.cells #[.int .i64 (k : Nat), .int .i64 (n : Nat)] 3)
            have hbB := bnew (wr.alloc (.cells #[.int .i64 (k : Nat), .int .i64 (n : Nat)] 3)) (.cells #[.slice (some ⟨wr.heap.size, 0, none⟩) 2 2] 82)
            obtain ⟨fl, xs, fr, fx⟩ := (hrow.next hbA).next hbB
            have HI3 := Lib.hid ((idx_two wr k n).next hbB)
            have FX := Lib.hid fx
            have hb5 := bon (bon hbel hbA) hbB
            have hnews := heap_alloc_new (wr.alloc (.cells #[.int .i64 (k : Nat), .int .i64 (n : Nat)] 3)) (.cells #[.slice (some ⟨wr.heap.size, 0, none⟩) 2 2] 82)
            rw [World.size_alloc] at hnews
            have HNW := Lib.hid hnews
            clear fx hrow hnews
            go_wp2_with (at_builtin; refine wpList_append_own _ rfl (.tmp 42) (.tmp 46) 83 rfl w1.heap.size 82 i0 (.slice none 0 0) 1 24 Try.underlying83 hi hz0 hz1 hz2 rfl (by decide) _ _ _ rfl fr ⟨wr.heap.size + 1, 0, none⟩ 1 1 [.slice (some ⟨wr.heap.size, 0, none⟩) 2 2] rfl rfl (World.news_of_block (cs := #[.slice (some ⟨wr.heap.size, 0, none⟩) 2 2]) HNW.out) (sl_one _ _ _) (by unfold maxLen; omega) (by omega) (by simp; omega) ?_; intro v4 w4 hown4 hgrow4 _)
            have hrow4 := TdRow.push (S := [k, n]) fl HI3.out fr FX.out hown4 hgrow4
            rw [show [k, n] = [k, n + 1 - 1] from rfl, ← HTK.out] at hrow4
            have hb6 : Below w1.heap.size w1 w4 := hb5.grown hgrow4 (by simp; omega) (fun j hj => (fr.lt j hj).1)
            clear hown4 hgrow4 fr FX HI3
            go_wp2_with fail
            go_roundw
            case rel => exact ⟨k + 1, by omega, by go_num, hrow4, hb6⟩
            case measure => simp [intOf]; omega
          · have e : k = n := by omega
            obtain ⟨K, hK⟩ : ∃ K, K = n + 1 + k := ⟨_, rfl⟩
            have hcl := candS_len (n := n + 1) (by omega)
            have HK := Lib.hid (show K = (candS (n + 1)).length by omega)
            have hK30 : K ≤ 30 := by omega
            have hK0 : 0 < K := by omega
            rw [← hK] at hrow
            rw [List.take_of_length_le (by omega)] at hrow
            obtain ⟨fl, xs, fr, fx⟩ := hrow
            obtain ⟨gt, capt, rfl, hgt1, hgt2⟩ := fr.form hK0
            have HROW : Hid (TdRow wr w1.heap.size (.slice (some ⟨gt, 0, none⟩) K capt) K (candS (n + 1))) := ⟨fl, xs, fr, fx⟩
            clear fl fr fx hcl hK e
            go_wp2_with fail
            clear hlt1 hk
            obtain ⟨w5, hw5⟩ : ∃ z, z = wr := ⟨_, rfl⟩
            rw [← hw5] at HROW hbel hsz hgt2 ⊢
            clear hw5
            go_loopw [11, 12, 14, 51] (fun _ _ _ i wr => ∃ q : Nat, q ≤ K ∧ i = .int .i64 q ∧ Hid (∀ j S, j < q → (candS (n + 1))[j]? = some S → closesB rs (vecS (n + 1) S) = false) ∧ Below w5.heap.size w5 wr) (fun _ _ _ i _ => K - (intOf i).toNat)
            case atStart => exact ⟨0, Nat.zero_le _, rfl, fun j S hj => by omega, Below.refl _ _⟩
            case round =>
              obtain ⟨q, hq, rfl, HNO, hbq⟩ := hrel
              have hsq := hbq.size
              by_cases hlq : q < K
              · obtain ⟨S, hS⟩ : ∃ S, (candS (n + 1))[q]? = some S := ⟨_, List.getElem?_eq_getElem (by have := HK.out; omega)⟩
                obtain ⟨fl, xs, fr, fx⟩ := HROW.out.next hbq
                obtain ⟨AS, cS, a0, iS⟩ := fx q S hS
                have hxl := fr.1
                have d0 := (fr.cellAt q (by omega)).trans a0
                have HSI := Lib.hid (candS_in (by omega) hS)
                have hSl := HSI.out.2
                have HSS := Lib.hid hS
                have hbr := bnew wr (.cells (madeCells #[.int .i64 0] (n + 1)) 2)
                have HIS := Lib.hid (iS.next hbr)
                have hown0 : (wr.alloc (.cells (madeCells #[.int .i64 0] (n + 1)) 2)).ownsRow wr.heap.size 2 1 (.slice (some ⟨wr.heap.size, 0, none⟩) (n + 1) (n + 1)) (n + 1) ((vecS (n + 1) (S.take 0)).map ic) := by
                  rw [List.take_zero, vecS_nil]
                  exact own_zerosN (heap_alloc_new wr _) (Nat.le_refl _) (by omega)
                clear fl fr fx a0 iS hxl hS
                go_wp2_with fail
                obtain ⟨w6, hw6⟩ : ∃ z, z = wr := ⟨_, rfl⟩
                rw [← hw6] at hbr hown0 hbq hsq HIS ⊢
                clear hw6 d0
                have HW6 := Lib.hid (fun cs => (show (w6.alloc (.cells (madeCells #[.int .i64 0] (n + 1)) 2)).heap[w6.heap.size]? ≠ some (.cells cs 3 (0, 0)) from fun hh => by
                  rw [heap_alloc_new] at hh
                  injection hh with hh
                  injection hh with h1 h2
                  cases h2))
                obtain ⟨W6, hW6⟩ : ∃ z, z = w6.alloc (.cells (madeCells #[.int .i64 0] (n + 1)) 2) := ⟨_, rfl⟩
                have hz6 : W6.heap.size = w6.heap.size + 1 := by rw [hW6, World.size_alloc]
                rw [← hW6] at hbr hown0 HIS HW6 ⊢
                clear hW6
                go_loopw [14, 60] (fun _ i wr => ∃ r : Nat, r ≤ S.length ∧ i = .int .i64 r ∧ wr.ownsRow w6.heap.size 2 1 (.slice (some ⟨w6.heap.size, 0, none⟩) (n + 1) (n + 1)) (n + 1) ((vecS (n + 1) (S.take r)).map ic) ∧ W6.grownBy wr (some w6.heap.size)) (fun _ i _ => S.length - (intOf i).toNat)
                case atStart => exact ⟨0, Nat.zero_le _, rfl, hown0, World.grownBy.refl _ _⟩
                case round =>
                  clear hown0
                  obtain ⟨r, hr, rfl, hown, hgr⟩ := hrel
                  have hgz := hgr.size
                  have hbz := hbr.size
                  by_cases hlr : r < S.length
                  · obtain ⟨s, hs⟩ : ∃ s, S[r]? = some s := ⟨_, List.getElem?_eq_getElem hlr⟩
                    have hsn := HSI.out.1 s (List.mem_of_getElem? hs)
                    have hIS2 : IdxL wr AS S := HIS.out.kept hgr (fun k cs e hk => by
                      have e' : w6.heap.size = k := by injection e
                      subst e'
                      exact HW6.out cs hk)
                    obtain ⟨bb, off, cs, rfl, hbb, hcc⟩ := hIS2 r s hs
                    have hs1 : (0 : Int) ≤ (s : Int) := by omega
                    have hs2 : (s : Int) < (n : Int) + 1 := by omega
                    have hs3 : (s : Int) < ((n + 1 : Nat) : Int) := by omega
                    obtain ⟨u, hu⟩ : ∃ u, ((vecS (n + 1) (S.take r)).map ic)[s]? = some u := ⟨_, List.getElem?_eq_getElem (by rw [List.length_map, vecS_len]; omega)⟩
                    have hcl := hown.cellAt s (by omega)
                    rw [hu] at hcl
                    have hfz := hown.frozenAt s
                    have hst := hown.stored s (.int .i64 1)
                    rw [vecS_set (n + 1) (S.take r) hsn, ← take_more hs] at hst
                    have HST := Lib.hid hst
                    clear hst hown hu hs hIS2 hbb
                    go_wp2_with fail
                    go_roundw
                    case rel => exact ⟨r + 1, by omega, by go_num, HST.out.1, only_trans hgr HST.out.2⟩
                    case measure => simp [intOf]; omega
                  · have e : r = S.length := by omega
                    rw [List.take_of_length_le (by omega)] at hown
                    have hb7 : Below w5.heap.size w5 wr := (bon hbq hbr).trans (only_below hgr (by omega) (by omega))
                    have HCL := Lib.hid (closes_c A1 (n + 1) c1 wr.heap.size rs (some ⟨w6.heap.size, 0, none⟩) (n + 1) (n + 1) (vecS (n + 1) S) wr ((HIN.out.next (hbel.trans (hb7.mono hsz)) (Nat.le_refl _)).more (by have := hb7.size; omega)) (OwnL.of_own hown).all (Nat.le_refl _) HV.out (by omega) (vecS_btw _ _))
                    have HOWN := Lib.hid hown
                    clear hown
                    cases hcb : closesB rs (vecS (n + 1) S) with
                    | true =>
                      rw [hcb] at HCL
                      have HF : Hid (trivN rs = ([closeN (n + 1) S], true)) := by
                        show _ = _
                        unfold trivN
                        rw [HN.out, find_at (k := q) (x := S) HNO.out HSS.out hcb]
                      have HTT := Lib.hid (HX.out.trans HF.out)
                      clear hcb
                      go_wp2_with fail
                      refine HCL.out.mono ?_
                      rintro e w8 ⟨rfl, hb8⟩
                      have hz8 := hb8.size
                      have hbn := bnew w8 (.cells #[.int .i64 1, .int .i64 0, .int .i64 0, .slice none 0 0, .slice (some ⟨w6.heap.size, 0, none⟩) (n + 1) (n + 1)] 79)
                      go_wp2_with fail
                      go_ret2
                      rw [HTT.out]
                      exact ⟨some ⟨w8.heap.size, 0, none⟩, 1, rfl, closeN_own (lo := w.heap.size) (blk_new _ _ _ _ rfl) (heap_alloc_new w8 _) (own_less (own_below (own_below HOWN.out hb8) hbn) (by omega)) (by omega), bon (bon hb01 (hbel.trans (hb7.mono hsz))) (bon hb8 hbn)⟩
                    | false =>
                      rw [hcb] at HCL
                      have HNO2 : Hid (∀ j S, j < q + 1 → (candS (n + 1))[j]? = some S → closesB rs (vecS (n + 1) S) = false) := fun j U hj hU => by
                        by_cases e1 : j < q
                        · exact HNO.out j U e1 hU
                        · obtain rfl : j = q := by omega
                          rw [HSS.out] at hU
                          obtain rfl := Option.some.inj hU
                          exact hcb
                      clear hcb
                      go_wp2_with fail
                      refine HCL.out.mono ?_
                      rintro e w8 ⟨rfl, hb8⟩
                      go_wp2_with fail
                      go_roundw
                      case rel => exact ⟨q + 1, by omega, by go_num, HNO2, bon hb7 hb8⟩
                      case measure => simp [intOf]; omega
              · have e : q = K := by omega
                have HF : Hid (trivN rs = ([], false)) := by
                  show _ = _
                  unfold trivN
                  rw [HN.out, find_no (fun j S hj hS => HNO.out j S (by have := HK.out; omega) hS)]
                have HTT := Lib.hid (HX.out.trans HF.out)
                go_wp2_with fail
                go_ret2
                rw [HTT.out]
                exact ⟨none, 0, rfl, ⟨rfl, Nat.le_refl _, [], fun _ => w.heap.size, World.ownsRow_nil _ _ _ _, (fun k hk => by cases hk), Nat.le_refl _, (fun i hi => absurd hi (Nat.not_lt_zero i)), (bon hb01 (hbel.trans (hbq.mono hsz))).size, fun j t hj => by simp at hj⟩, bon hb01 (hbel.trans (hbq.mono hsz))⟩
theorem InN5.drew {w : World} {B : Nat} {A : Option Addr} {n : Nat} {ts : List N5} (h : InN5 w B A n ts) : InN5 w.drew B A n ts := h
theorem InN5.out {w w' : World} {B : Nat} {A : Option Addr} {n lo hi : Nat} {ts : List N5} (h : InN5 w B A n ts) (ho : Out lo hi w w') (hB : B ≤ lo) (hs : B ≤ w.heap.size) : InN5 w' B A n ts := h.next (ho.below hB hs) (Nat.le_refl _)
theorem InN5.call {w w' : World} {B : Nat} {A : Option Addr} {n : Nat} {ts : List N5} (h : InN5 w B A n ts) (hB : B ≤ w.heap.size) (hb : Below w.drew.heap.size w.drew w') : InN5 w' B A n ts := h.next (bstep hb) hB
end Go.Proofs.Ytapndnkcmmpdjaa
