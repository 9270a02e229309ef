/-
  The symbols of some terms: what the model and the program give. Conditions: at most 2^20 terms and coefficients.
-/
import Derived.Test.YtapndnkcmmpdjaaPutM
import Derived.Test.YtapndnkcmmpdjaaSet
import Derived.Test.YtapndnkcmmpdjaaTermsK
import Derived.Test.YtapndnkcmmpdjaaAppend
import Derived.Maps.AppendAt
namespace Go.Proofs.Ytapndnkcmmpdjaa
set_option linter.unusedVariables false
open Go.RowKit

theorem row_snoc {w : World} {base n : Nat} {v : Value} {l : List Int} {y : Int} (h : w.ownsRow base 2 1 v (n + 1) (l.map ic ++ [.int .i64 y])) (hn : l.length = n) : w.ownsRow base 2 1 v (l ++ [y]).length ((l ++ [y]).map ic) := by
  subst hn
  simpa [ic] using h
theorem one_one (y : Int) : ∀ u ∈ [Value.int .i64 y], u.oneCell' = true := by intro u hu; simp at hu; subst hu; rfl
theorem row_new (w : World) : (w.alloc (.cells #[] 2)).ownsRow w.heap.size 2 1 (.slice (some ⟨w.heap.size, 0, none⟩) 0 0) ([] : List Int).length (([] : List Int).map ic) := own_empty w _

set_option maxRecDepth 100000 in
set_option maxHeartbeats 2000000 in
theorem l00Put_c (A : Option Addr) (n c B : Nat) (zs : List Int) (x : Int) (w : World) (h : InL w B A n zs) (hB : B ≤ w.heap.size) (hn : n ≤ 100000) :
    Calls Try.prog 56 #[.slice A n c, .int .i64 x] w fun e w' => ∃ v, e = .returned v ∧ w'.ownsRow w.heap.size 2 1 v (putR x zs).length ((putR x zs).map ic) ∧ Below w.heap.size w w' := by
  obtain ⟨i0, hi, hz0, hz1, hz2⟩ := info_parts info64
  have hlen := Lib.hid h.1
  go_enter Try.func56, Try.ntmps56
  go_wp2_with fail
  go_loopw [5, 6, 7] (fun v d i wr => ∃ (k : Nat) (o : List Int) (b : Bool), k ≤ n ∧ i = .int .i64 k ∧ d = .bool b ∧ Hid (putTo x zs k = (o, b)) ∧ o.length ≤ 2 * k ∧ wr.ownsRow w.heap.size 2 1 v o.length (o.map ic) ∧ Below w.heap.size w wr) (fun _ _ i _ => n - (intOf i).toNat)
  case atStart => exact ⟨0, [], false, Nat.zero_le _, rfl, rfl, rfl, by simp, row_new w, (Below.refl _ _).alloc (Nat.le_refl _) _⟩
  case round =>
    obtain ⟨k, o, b, hk, rfl, rfl, HP, hol, hown, hbel⟩ := hrel
    have hsz := hbel.size
    by_cases hlt : k < n
    · obtain ⟨bb, off, y, rfl, hbb, hy, hc⟩ := (h.next hbel hB).2.int_at (k := k) (by have := hlen.out; omega)
      cases b with
      | true =>
        have HS := Lib.hid (putTo_stay hy HP.out (.inl rfl))
        clear hy HP
        go_wp2_with (at_builtin; refine wpList_append_own _ rfl (.tmp 35) (.tmp 40) 24 rfl w.heap.size 2 i0 (.int .i64 0) 1 8 Try.underlying24 hi hz0 hz1 hz2 rfl (by decide) _ _ _ rfl (hown.alloc _) ⟨wr.heap.size, 0, none⟩ 1 1 [.int .i64 y] rfl rfl (cell_one_new _ _ _) (one_one y) (by unfold maxLen; omega) (by omega) (by simp; omega) ?_; intro v1 w1 hown1 hgrow1 _)
        have hb1 : Below w.heap.size w w1 := (hbel.alloc hsz _).grown hgrow1 (by simp; omega) (fun j hj => (hown.lt j hj).1)
        have hr1 := row_snoc hown1 rfl
        clear hown1 hgrow1 hown
        go_wp2_with fail
        go_roundw
        case rel => exact ⟨k + 1, _, true, by omega, by go_num, rfl, HS, by simp; omega, hr1, hb1⟩
        case measure => simp [intOf]; omega
      | false =>
        by_cases hxy : y < x
        · have hge : ¬ x ≤ y := by omega
          have HS := Lib.hid (putTo_stay hy HP.out (.inr hxy))
          clear hy HP
          go_wp2_with (at_builtin; refine wpList_append_own _ rfl (.tmp 35) (.tmp 40) 24 rfl w.heap.size 2 i0 (.int .i64 0) 1 8 Try.underlying24 hi hz0 hz1 hz2 rfl (by decide) _ _ _ rfl (hown.alloc _) ⟨wr.heap.size, 0, none⟩ 1 1 [.int .i64 y] rfl rfl (cell_one_new _ _ _) (one_one y) (by unfold maxLen; omega) (by omega) (by simp; omega) ?_; intro v1 w1 hown1 hgrow1 _)
          have hb1 : Below w.heap.size w w1 := (hbel.alloc hsz _).grown hgrow1 (by simp; omega) (fun j hj => (hown.lt j hj).1)
          have hr1 := row_snoc hown1 rfl
          clear hown1 hgrow1 hown
          go_wp2_with fail
          go_roundw
          case rel => exact ⟨k + 1, _, false, by omega, by go_num, rfl, HS, by simp; omega, hr1, hb1⟩
          case measure => simp [intOf]; omega
        · have hge : x ≤ y := by omega
          by_cases hxe : x < y
          · have HS := Lib.hid (putTo_new hy HP.out hxe)
            clear hy HP
            go_wp2_with (at_builtin; refine wpList_append_own _ rfl (.tmp 31) (.tmp 33) 24 rfl w.heap.size 2 i0 (.int .i64 0) 1 8 Try.underlying24 hi hz0 hz1 hz2 rfl (by decide) _ _ _ rfl (hown.alloc _) ⟨wr.heap.size, 0, none⟩ 1 1 [.int .i64 x] rfl rfl (cell_one_new _ _ _) ?c2 (by unfold maxLen; omega) (by omega) (by simp; omega) ?_)
            case c2 => rfl
            intro v1 w1 hown1 hgrow1 _
            have hb1 : Below w.heap.size w w1 := (hbel.alloc hsz _).grown hgrow1 (by simp; omega) (fun j hj => (hown.lt j hj).1)
            have hc1 : w1.cell? ⟨bb, off + k, none⟩ = some (.int .i64 y) := by
              have h1 := cell_next hc (bnew wr (.cells #[.int .i64 x] 2))
              exact (World.cell?_of_block (a := ⟨bb, off + k, none⟩) (hgrow1.block bb (Nat.lt_of_lt_of_le (by omega) (bnew wr (.cells #[.int .i64 x] 2)).size) (fun e' => by have := (hown.lt _ e'.symm).1; omega))).trans h1
            have hr1 := row_snoc hown1 rfl
            have hsz1 := hb1.size
            have hol1 : (o ++ [x]).length ≤ 2 * k + 1 := by simp; omega
            clear hown1 hgrow1 hown
            generalize o ++ [x] = o1 at hr1 HS hol1
            go_wp2_with (at_builtin; refine wpList_append_own _ rfl (.tmp 35) (.tmp 40) 24 rfl w.heap.size 2 i0 (.int .i64 0) 1 8 Try.underlying24 hi hz0 hz1 hz2 rfl (by decide) _ _ _ rfl (hr1.alloc _) ⟨w1.heap.size, 0, none⟩ 1 1 [.int .i64 y] rfl rfl (cell_one_new _ _ _) (one_one y) (by unfold maxLen; omega) (by omega) (by simp; omega) ?_; intro v2 w2 hown2 hgrow2 _)
            have hb2 : Below w.heap.size w w2 := (hb1.alloc hsz1 _).grown hgrow2 (by simp; omega) (fun j hj => (hr1.lt j hj).1)
            have hr2 := row_snoc hown2 rfl
            clear hown2 hgrow2 hr1
            go_wp2_with fail
            go_roundw
            case rel => exact ⟨k + 1, _, true, by omega, by go_num, rfl, HS, by simp; omega, hr2, hb2⟩
            case measure => simp [intOf]; omega
          · obtain rfl : y = x := by omega
            have HS := Lib.hid (putTo_same hy HP.out)
            clear hy HP
            go_wp2_with (at_builtin; refine wpList_append_own _ rfl (.tmp 35) (.tmp 40) 24 rfl w.heap.size 2 i0 (.int .i64 0) 1 8 Try.underlying24 hi hz0 hz1 hz2 rfl (by decide) _ _ _ rfl (hown.alloc _) ⟨wr.heap.size, 0, none⟩ 1 1 [.int .i64 y] rfl rfl (cell_one_new _ _ _) (one_one y) (by unfold maxLen; omega) (by omega) (by simp; omega) ?_; intro v1 w1 hown1 hgrow1 _)
            have hb1 : Below w.heap.size w w1 := (hbel.alloc hsz _).grown hgrow1 (by simp; omega) (fun j hj => (hown.lt j hj).1)
            have hr1 := row_snoc hown1 rfl
            clear hown1 hgrow1 hown
            go_wp2_with fail
            go_roundw
            case rel => exact ⟨k + 1, _, true, by omega, by go_num, rfl, HS, by simp; omega, hr1, hb1⟩
            case measure => simp [intOf]; omega
    · have e : k = n := by omega
      subst e
      cases b with
      | true =>
        have HR : Hid (putR x zs = o) := by show _ = _; unfold putR; rw [hlen.out, HP.out]; rfl
        clear HP
        go_wp2_with fail
        go_ret
        rw [HR.out]
        exact ⟨_, rfl, hown, hbel⟩
      | false =>
        have HR : Hid (putR x zs = o ++ [x]) := by show _ = _; unfold putR; rw [hlen.out, HP.out]; rfl
        clear HP
        go_wp2_with (at_builtin; refine wpList_append_own _ rfl (.tmp 44) (.tmp 46) 24 rfl w.heap.size 2 i0 (.int .i64 0) 1 8 Try.underlying24 hi hz0 hz1 hz2 rfl (by decide) _ _ _ rfl (hown.alloc _) ⟨wr.heap.size, 0, none⟩ 1 1 [.int .i64 x] rfl rfl (cell_one_new _ _ _) (one_one x) (by unfold maxLen; omega) (by omega) (by simp; omega) ?_; intro v1 w1 hown1 hgrow1 _)
        have hb1 : Below w.heap.size w w1 := (hbel.alloc hsz _).grown hgrow1 (by simp; omega) (fun j hj => (hown.lt j hj).1)
        have hr1 := row_snoc hown1 rfl
        clear hown1 hgrow1 hown
        go_wp2_with fail
        go_ret
        rw [HR.out]
        exact ⟨_, rfl, hr1, hb1⟩

def symsR (ts : List (Int × List Int)) : List Int × Bool := if allT 14 ts = true then (symL ts, true) else ([], false)
theorem symsR_yes {ts : List (Int × List Int)} (h : allT 14 ts = true) : symsR ts = (symL ts, true) := if_pos h
theorem symsR_no {ts : List (Int × List Int)} (h : allT 14 ts = false) : symsR ts = ([], false) := if_neg (by rw [h]; simp)
theorem symsR_len (ts : List (Int × List Int)) : (symsR ts).1.length ≤ 10 := by
  unfold symsR
  split
  · exact symTo_len _ _ _
  · simp

set_option maxRecDepth 100000 in
set_option maxHeartbeats 2000000 in
theorem l02Symbols_c (A : Option Addr) (n c B : Nat) (ts : List (Int × List Int)) (w : World) (h : InTS w B A n ts) (hB : B ≤ w.heap.size) (hn : n ≤ 1000) (hv : ∀ t ∈ ts, tmB t = true) :
    Calls Try.prog 32 #[.slice A n c] w fun e w' => ∃ v, e = .returned v ∧ w'.ownsRow w.heap.size 2 1 v (symL ts).length ((symL ts).map ic) ∧ Below w.heap.size w w' := by
  have hlen := Lib.hid h.1
  have HV := Lib.hid (fun t (ht : t ∈ ts) => (tmB_parts (hv t ht)).1)
  clear hv
  go_enter Try.func32, Try.ntmps32
  go_wp2_with fail
  go_loopw [3, 4] (fun v i wr => ∃ k : Nat, k ≤ n ∧ i = .int .i64 k ∧ wr.ownsRow w.heap.size 2 1 v (symTo ts k 0).length ((symTo ts k 0).map ic) ∧ Below w.heap.size w wr) (fun _ i _ => n - (intOf i).toNat)
  case atStart => exact ⟨0, Nat.zero_le _, rfl, by rw [symTo_zero]; exact row_new w, (Below.refl _ _).alloc (Nat.le_refl _) _⟩
  case round =>
    obtain ⟨i, hi, rfl, hown, hbel⟩ := hrel
    by_cases hlt : i < n
    · obtain ⟨t, ht⟩ : ∃ t, ts[i]? = some t := ⟨_, List.getElem?_eq_getElem (by have := hlen.out; omega)⟩
      have HT := Lib.hid ht
      have hl10 := HV.out t (List.mem_of_getElem? ht)
      clear ht
      go_wp2_with fail
      go_loopw [3, 5] (fun v s wr => ∃ k : Nat, k ≤ t.2.length ∧ s = .int .i64 k ∧ wr.ownsRow w.heap.size 2 1 v (symTo ts i k).length ((symTo ts i k).map ic) ∧ Below w.heap.size w wr) (fun _ s _ => t.2.length - (intOf s).toNat)
      case atStart => exact ⟨0, Nat.zero_le _, rfl, hown, hbel⟩
      case round =>
        clear hown hbel
        obtain ⟨k, hk, rfl, hown, hbel⟩ := hrel
        have hsz := hbel.size
        obtain ⟨b, off, A', n', c', t', rfl, hb, ht', hc0, hc1, hin⟩ := (h.next hbel hB).at_ hlt
        have et : t' = t := by have := ht'.symm.trans HT.out; exact Option.some.inj this
        subst et
        have hnl := hin.1
        by_cases hlk : k < n'
        · obtain ⟨b2, off2, x, rfl, hb2, hx, hd⟩ := hin.2.int_at (k := k) (by omega)
          have HX := Lib.hid hx
          clear hx ht'
          by_cases h0 : x = 0
          · subst h0
            have HS := Lib.hid (symTo_skip HT.out HX.out)
            go_wp2_with fail
            go_roundw
            case rel => exact ⟨k + 1, by omega, by go_num, by rw [HS.out]; exact hown, hbel⟩
            case measure => simp [intOf]; omega
          · have q1 : (x == 0) = false := by simpa using h0
            have q2 : (x != 0) = true := by simpa using h0
            have HS := Lib.hid (symTo_put HT.out HX.out h0 (by omega))
            obtain ⟨VA, Vc, rfl, _⟩ := own_slice hown
            have HC := Lib.hid (l00Put_c VA _ Vc wr.heap.size (symTo ts i k) (k : Int) wr (OwnL.of_own hown).all (Nat.le_refl _) (by have := symTo_len ts i k; omega))
            rw [← HS.out] at HC
            clear hown HX
            go_wp2_with fail
            refine HC.out.mono ?_
            rintro e w1 ⟨v1, rfl, hr1, hb1⟩
            have hr2 := own_less hr1 hsz
            clear hr1
            go_wp2_with fail
            go_roundw
            case rel => exact ⟨k + 1, by omega, by go_num, hr2, bon hbel hb1⟩
            case measure => simp [intOf]; omega
        · have e : k = t'.2.length := by omega
          have HN := Lib.hid (symTo_next HT.out)
          clear ht'
          go_wp2_with fail
          go_roundw
          case rel => exact ⟨i + 1, by omega, by go_num, by rw [← HN.out, ← e]; exact hown, hbel⟩
          case measure => simp [intOf]; omega
    · have e : i = n := by omega
      have HR : Hid (symL ts = symTo ts i 0) := by show _ = _; unfold symL; rw [hlen.out, e]
      go_wp2_with fail
      go_ret
      rw [HR.out]
      exact ⟨_, rfl, hown, hbel⟩

set_option maxRecDepth 100000 in
set_option maxHeartbeats 2000000 in
theorem specSymbols_c (A : Option Addr) (n c B : Nat) (ts : List (Int × List Int)) (w : World) (h : InTS w B A n ts) (hB : B ≤ w.heap.size) (hn : n ≤ 1048576) (he : totT ts ≤ 1048576) :
    Calls Try.prog 8 #[.slice A n c] w fun e w' => ∃ A' c', e = .returned (.tuple #[.slice A' (symsR ts).1.length c', .bool (symsR ts).2]) ∧ OwnL w' w.heap.size w'.heap.size A' (symsR ts).1.length c' (symsR ts).1 ∧ Below w.heap.size w w' := by
  have HA := Lib.hid (l02All_c A n c B ts 14 w h hn he)
  cases hv : allT 14 ts with
  | false =>
    rw [hv] at HA
    have HR := Lib.hid (symsR_no hv)
    rw [HR.out]
    clear hv h
    go_enter Try.func8, Try.ntmps8
    go_wp2_with fail
    refine HA.out.mono ?_
    rintro e w1 ⟨rfl, rfl⟩
    go_wp2_with fail
    go_ret2
    exact ⟨none, 0, rfl, ⟨rfl, World.ownsRow_nil _ _ _ _, (fun j hj => by cases hj), Nat.le_refl _⟩, Below.refl _ _⟩
  | true =>
    rw [hv] at HA
    have HR := Lib.hid (symsR_yes hv)
    rw [HR.out]
    have hp := allT_parts hv
    have HC := Lib.hid (l02Symbols_c A n c B ts w h hB (by have := hp.2; have := h.1; omega) hp.1)
    clear hv h hp
    go_enter Try.func8, Try.ntmps8
    go_wp2_with fail
    refine HA.out.mono ?_
    rintro e w1 ⟨rfl, rfl⟩
    go_wp2_with fail
    refine HC.out.mono ?_
    rintro e w1 ⟨v, rfl, hr, hb⟩
    obtain ⟨VA, Vc, rfl, _⟩ := own_slice hr
    have HO := Lib.hid (OwnL.of_own hr)
    clear hr
    go_wp2_with fail
    go_ret2
    exact ⟨VA, Vc, rfl, HO.out, hb⟩

/-! The program's. -/
/-- Block b is a map of at most n keys that has just the numbers of a list. -/
def SetF (w : World) (b n : Nat) (L : List Int) : Prop :=
  ∃ D : DataW Unit, w.ownsMap Try.prog 2 (plainElem Try.prog 4) b n D ∧ ∀ y, y ∈ L ↔ Maps.has D (.int .i64 y) = true
theorem keyedS : Maps.Keyed Try.prog 2 := Maps.int_keyed Try.underlying2
theorem setF_made (w : World) : SetF (w.alloc (.map #[] 0)) w.heap.size 0 [] := ⟨.map [], World.ownsMap_made _ _ _ _, fun y => by simp [Maps.has_eq]⟩
theorem SetF.lt {w : World} {b n : Nat} {L : List Int} (h : SetF w b n L) : b < w.heap.size := by obtain ⟨D, h1, _⟩ := h; exact h1.lt
theorem SetF.next {w w' : World} {b n : Nat} {L : List Int} (h : SetF w b n L) {B : Nat} (hb : Below B w w') (hB : b < B) : SetF w' b n L := by
  obtain ⟨D, h1, h2⟩ := h
  refine ⟨D, ?_, h2⟩
  obtain ⟨es, clock, h3, h4⟩ := h1
  exact ⟨es, clock, (hb.block b hB).trans h3, h4⟩
theorem SetF.same {w : World} {b n : Nat} {L L' : List Int} (h : SetF w b n L) (e : ∀ y, y ∈ L' ↔ y ∈ L) : SetF w b n L' := by
  obtain ⟨D, h1, h2⟩ := h
  exact ⟨D, h1, fun y => (e y).trans (h2 y)⟩
theorem SetF.mono {w : World} {b n n' : Nat} {L : List Int} (h : SetF w b n L) (hn : n ≤ n') : SetF w b n' L := by obtain ⟨D, h1, h2⟩ := h; exact ⟨D, h1.mono hn, h2⟩
theorem setF_put {w : World} {D : DataW Unit} {b n : Nat} {L L' : List Int} {x : Int} (h2 : ∀ y, y ∈ L ↔ Maps.has D (.int .i64 y) = true) (hD : Maps.IsMap D) (h3 : w.ownsMap Try.prog 2 (plainElem Try.prog 4) b n (D.put (.int .i64 x) (.lit (.bool true))))
    (e : ∀ y, y ∈ L' ↔ y ∈ L ∨ y = x) : SetF w b n L' := by
  refine ⟨_, h3, fun y => ?_⟩
  rw [e y]
  by_cases hy : y = x
  · subst hy
    rw [Maps.has_put_same (k := .int .i64 y) hD trivial]; simp
  · rw [Maps.has_put_other (fun h => hy (by injection h)), ← h2 y]; simp [hy]

set_option maxRecDepth 100000 in
theorem symFacts_c (A : Option Addr) (n c B : Nat) (ts : List (Int × List Int)) (w : World) (h : InTS w B A n ts) (hB : B ≤ w.heap.size) (he : totT ts ≤ 1048576) :
    Calls Try.prog 34 #[.slice A n c] w fun e w' => e = .returned (.bool (allT 14 ts)) ∧ Below w.heap.size w w' := by
  have HA := Lib.hid (areTerms_c A n c B ts 14 w h hB he (by omega))
  clear h
  go_enter Try.func34, Try.ntmps34
  go_wp2_with fail
  refine HA.out.mono ?_
  rintro e w1 ⟨rfl, hb⟩
  go_wp2_with fail
  go_ret
  exact ⟨rfl, hb⟩

set_option maxRecDepth 100000 in
set_option maxHeartbeats 4000000 in
theorem symbolsOf_c (A : Option Addr) (n c B : Nat) (ts : List (Int × List Int)) (w : World) (h : InTS w B A n ts) (hB : B ≤ w.heap.size) (he : totT ts ≤ 1048576) :
    Calls Try.prog 10 #[.slice A n c] w fun e w' => ∃ A' c', e = .returned (.tuple #[.slice A' (symsR ts).1.length c', .bool (symsR ts).2]) ∧ OwnL w' w.heap.size w'.heap.size A' (symsR ts).1.length c' (symsR ts).1 ∧ Below w.heap.size w w' := by
  have hmm := @run_makeMap Try.prog
  have HA := Lib.hid (symFacts_c A n c B ts w h hB he)
  cases hv : allT 14 ts with
  | false =>
    rw [hv] at HA
    have HR := Lib.hid (symsR_no hv)
    rw [HR.out]
    clear hv h
    go_enter Try.func10, Try.ntmps10
    go_wp2_with fail
    refine HA.out.mono ?_
    rintro e w1 ⟨rfl, hb⟩
    go_wp2_with fail
    go_ret2
    exact ⟨none, 0, rfl, ⟨rfl, World.ownsRow_nil _ _ _ _, (fun j hj => by cases hj), Nat.le_refl _⟩, hb⟩
  | true =>
    rw [hv] at HA
    have HR := Lib.hid (symsR_yes hv)
    rw [HR.out]
    have hp := allT_parts hv
    have hlen := Lib.hid h.1
    have hn14 : n ≤ 14 := by have := hp.2; have := h.1; omega
    have HV := Lib.hid (fun t (ht : t ∈ ts) => (tmB_parts (hp.1 t ht)).1)
    clear hv hp HR
    go_enter Try.func10, Try.ntmps10
    go_wp2_with fail
    refine HA.out.mono ?_
    rintro e w1 ⟨rfl, hb1⟩
    have hs1 := hb1.size
    go_wp2_with fail
    have hst := setF_made w1
    have hb2 := bnew w1 (.map #[] 0)
    obtain ⟨W1, hW1⟩ : ∃ x, x = w1.alloc (.map #[] 0) := ⟨_, rfl⟩
    rw [← hW1] at hst hb2 ⊢
    clear hW1
    go_loopw [6, 7, 8, 15] (fun _ _ _ i wr => ∃ k : Nat, k ≤ n ∧ i = .int .i64 k ∧ SetF wr w1.heap.size (10 * k) (symTo ts k 0) ∧ Below w1.heap.size w1 wr) (fun _ _ _ i _ => n - (intOf i).toNat)
    case atStart => exact ⟨0, Nat.zero_le _, rfl, by rw [symTo_zero]; exact hst, hb2⟩
    case round =>
      clear hst hb2
      obtain ⟨i, hi, rfl, hst, hbel⟩ := hrel
      have hsz := hbel.size
      have hstl := hst.lt
      by_cases hlt : i < n
      · obtain ⟨b, off, A', n', c', t, rfl, hb, ht, hc0, hc1, hin⟩ := (h.next (hb1.trans (hbel.mono hs1)) hB).at_ hlt
        have HT := Lib.hid ht
        have hl10 := HV.out t (List.mem_of_getElem? ht)
        have hnl := hin.1
        have hbo := bnew wr (.cells #[.int .i64 t.1, .slice A' n' c'] 41)
        have HIN := Lib.hid (hin.next hbo (by omega))
        have hst2 := hst.next hbo hstl
        have hb3 := hbel.trans (hbo.mono hsz)
        clear ht hin hst
        go_wp2_with fail
        generalize wr.alloc (.cells #[.int .i64 t.1, .slice A' n' c'] 41) = W at hbo HIN hst2 hb3 ⊢
        have hsW := hb3.size
        go_loopw [7, 8, 22] (fun _ _ s wr => ∃ k : Nat, k ≤ n' ∧ s = .int .i64 k ∧ SetF wr w1.heap.size (10 * i + k) (symTo ts i k) ∧ Below w1.heap.size W wr) (fun _ _ s _ => n' - (intOf s).toNat)
        case atStart => exact ⟨0, Nat.zero_le _, rfl, hst2, Below.refl _ _⟩
        case round =>
          clear hst2
          obtain ⟨k, hk, rfl, hst, hbq⟩ := hrel
          have hsq := hbq.size
          by_cases hlk : k < n'
          · obtain ⟨b2, off2, x, rfl, hb2, hx, hd⟩ := (HIN.out.next hbq (by omega)).2.int_at (k := k) (by omega)
            have HX := Lib.hid hx
            clear hx
            by_cases h0 : x = 0
            · subst h0
              have HS := Lib.hid (symTo_skip HT.out HX.out)
              go_wp2_with fail
              go_roundw
              case rel => exact ⟨k + 1, by omega, by go_num, by rw [HS.out]; exact hst.mono (by omega), hbq⟩
              case measure => simp [intOf]; omega
            · have q1 : (x == 0) = false := by simpa using h0
              have q2 : (x != 0) = true := by simpa using h0
              have HS := Lib.hid (symTo_more HT.out HX.out h0 (by omega))
              obtain ⟨D, h1, h2⟩ := hst
              have hw : (Lit.int .i64 (k : Int)).wf = true := WalkArith.wf_i64 (by omega)
              have hkey := Maps.keyOf_int_mk (P := Try.prog) Try.underlying2 hw
              have hD := h1.isMap
              have H2 := Lib.hid h2
              clear h2 HX
              go_wp2_with (at_mapUpdate; refine wpList_mapUpdate_own _ rfl _ _ _ 61 rfl 2 4 keyedS Try.underlying61 _ w1.heap.size (10 * i + k) D rfl h1 (by unfold maxLen; omega) _ _ _ rfl rfl hkey _ [] (plainElem_bool Try.underlying4 true) ?_; intro w3 hown3 hgrow3)
              have hst3 := Lib.hid (setF_put (L' := symTo ts i (k + 1)) H2.out hD hown3 HS.out)
              have hb4 : Below w1.heap.size W w3 := hbq.trans (only_below hgrow3 (Nat.le_refl _) (by omega))
              clear hown3 hgrow3 h1
              go_wp2_with fail
              go_roundw
              case rel => exact ⟨k + 1, by omega, by go_num, hst3.out, hb4⟩
              case measure => simp [intOf]; omega
          · have e : k = n' := by omega
            have HN := Lib.hid (symTo_next HT.out)
            have hst3 := Lib.hid (show SetF wr w1.heap.size (10 * (i + 1)) (symTo ts (i + 1) 0) by rw [← HN.out, hnl, ← e]; exact hst.mono (by omega))
            clear hst
            go_wp2_with fail
            go_roundw
            case rel => exact ⟨i + 1, by omega, by go_num, hst3.out, hb3.trans hbq⟩
            case measure => simp [intOf]; omega
      · have e : i = n := by omega
        obtain ⟨D, h1, h2⟩ := hst
        have HC := Lib.hid (increasing_c w1.heap.size _ D (symTo ts i 0) wr h1 (by omega) (symTo_rise _ _ _) h2)
        have HR : Hid (symL ts = symTo ts i 0) := by show _ = _; unfold symL; rw [hlen.out, e]
        rw [← HR.out] at HC
        clear h1 h2
        go_wp2_with fail
        refine HC.out.mono ?_
        rintro e w3 ⟨v, rfl, hr, hb3⟩
        obtain ⟨VA, Vc, rfl, _⟩ := own_slice hr
        have HO := Lib.hid ((OwnL.of_own hr).less (lo' := w.heap.size) (Nat.le_trans hs1 hsz))
        clear hr
        go_wp2_with fail
        go_ret2
        exact ⟨VA, Vc, rfl, HO.out, bon (bon hb1 hbel) hb3⟩
end Go.Proofs.Ytapndnkcmmpdjaa
