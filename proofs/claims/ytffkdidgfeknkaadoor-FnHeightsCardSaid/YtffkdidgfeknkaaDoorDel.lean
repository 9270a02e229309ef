/-
  slices.DeleteFunc at rising numbers that are struck from a bound on: what stays is the front. Conditions: at most 1000 numbers.
-/
import Derived.Test.YtffkdidgfeknkaaDoorBunB
import Derived.Test.YtffkdidgfeknkaaDoorBunC
import Derived.Lib.SliceRun
namespace Go.Proofs.YtffkdidgfeknkaaDoor
set_option linter.unusedVariables false
open Go.RowKit

theorem cut_own {W : World} {base : Nat} {e : TypeId} {A : Option Addr} {n c k : Nat} {xs : List Value} (h : W.ownsRow base e 1 (.slice A n c) n xs) (hk : k ≤ n) : W.ownsRow base e 1 (.slice A k c) k (xs.take k) := by
  refine ⟨by rw [List.length_take, h.1]; omega, ?_⟩
  rcases h.2 with ⟨h', hn⟩ | ⟨g, cap, cur, h1, h2, h3, h4, h5, h6, h7⟩
  · injection h' with a b c'
    have : k = 0 := by omega
    subst this
    exact .inl ⟨by rw [a, c'], rfl⟩
  · injection h1 with a b c'
    subst c'
    exact .inr ⟨g, c, cur, by rw [a], h2, h3, by omega, h5, h6, by rw [← h7, List.take_take]; congr 1; omega⟩
/-- Cells of a row of the call's own, written one by one from place o on: what lies in front stays. -/
theorem own_cells {base n c g : Nat} {e : TypeId} : ∀ (vs : List Value) (o : Nat) (w : World) (xs : List Value), w.ownsRow base e 1 (.slice (some ⟨g, 0, none⟩) n c) n xs → o + vs.length ≤ n →
    ∃ ys, (w.setCells g o vs).ownsRow base e 1 (.slice (some ⟨g, 0, none⟩) n c) n ys ∧ ys.take o = xs.take o ∧ w.grownBy (w.setCells g o vs) (some g)
  | [], o, w, xs, h, _ => ⟨xs, h, rfl, World.grownBy.refl _ _⟩
  | v :: vs, o, w, xs, h, hl => by
    obtain ⟨h1, h2⟩ := h.stored o v
    simp at hl
    obtain ⟨ys, k1, k2, k3⟩ := own_cells vs (o + 1) _ _ h1 (by omega)
    refine ⟨ys, k1, ?_, h2.trans k3⟩
    have e2 : ys.take o = (xs.set o v).take o := by
      have := congrArg (List.take o) k2
      rwa [List.take_take, List.take_take, Nat.min_eq_left (Nat.le_succ o)] at this
    rw [e2, List.take_set_of_le (Nat.le_refl o)]

set_option maxRecDepth 100000 in
theorem past_c (P : Nat) (A : Option Addr) (n c : Nat) (z : Int) (w : World) (hP : w.cell? ⟨P, 0, none⟩ = some (.slice A n c)) :
    Calls Tryd.prog 59 #[.int .i64 z, .pointer (some ⟨P, 0, none⟩)] w fun e w' => e = .returned (.bool (decide ((n : Int) ≤ z))) ∧ w = w' := by
  by_cases h : (n : Int) ≤ z
  · rw [decide_eq_true h]
    go_enter Tryd.func59, Tryd.ntmps59
    go_wp2_with fail
    go_ret
    exact ⟨ret_bool (by simp), rfl⟩
  · rw [decide_eq_false h]
    go_enter Tryd.func59, Tryd.ntmps59
    go_wp2_with fail
    go_ret
    exact ⟨ret_bool (by simp), rfl⟩

set_option maxRecDepth 100000 in
set_option maxHeartbeats 4000000 in
theorem index_c (P : Nat) (A : Option Addr) (n c : Nat) (V : Option Addr) (l vc : Nat) (L : List Int) (i : Nat) (w : World) (hP : w.cell? ⟨P, 0, none⟩ = some (.slice A n c)) (h : InL w w.heap.size V l L) (hl : l ≤ 1000) (hi : i ≤ l)
    (h1 : ∀ z ∈ L.take i, z < n) (h2 : ∀ z ∈ L.drop i, (n : Int) ≤ z) :
    Calls Tryd.prog 86 #[.slice V l vc, .func (Fn.func 59) #[] #[.pointer (some ⟨P, 0, none⟩)]] w fun e w' => e = .returned (.int .i64 (if i = l then -1 else (i : Int))) ∧ w = w' := by
  have hlen := Lib.hid h.1
  have H1 : Hid (∀ j z, j < i → L[j]? = some z → ¬ (n : Int) ≤ z) := fun j z hj hz => by
    have := h1 z (List.mem_of_getElem? (i := j) (by rw [List.getElem?_take_of_lt hj]; exact hz)); omega
  have H2 : Hid (∀ j z, i ≤ j → L[j]? = some z → (n : Int) ≤ z) := fun j z hj hz => h2 z (List.mem_of_getElem? (i := j - i) (by rw [List.getElem?_drop, show i + (j - i) = j by omega]; exact hz))
  clear h1 h2
  go_enter Tryd.func86, Tryd.ntmps86
  go_wp2_with fail
  go_loop [5, 8] (fun _ q => ∃ j : Nat, j ≤ i ∧ q = .int .i64 j) (fun _ q => l - (intOf q).toNat)
  case atStart => exact ⟨0, Nat.zero_le _, rfl⟩
  case round =>
    obtain ⟨j, hj, rfl⟩ := hrel
    by_cases hlt : j < l
    · obtain ⟨b, off, z, rfl, hb, hz, hc⟩ := h.2.int_at (k := j) (by have := hlen.out; omega)
      by_cases hji : j < i
      · have hn := H1.out j z hji hz
        have HD0 := past_c P A n c z w hP
        rw [decide_eq_false (by omega)] at HD0
        have HD := Lib.hid HD0
        clear HD0 hn hz
        go_wp2_with fail
        refine HD.out.mono ?_
        rintro e w1 ⟨rfl, rfl⟩
        go_wp2_with fail
        go_round
        case rel => exact ⟨j + 1, by omega, by go_num⟩
        case measure => simp [intOf]; omega
      · have e : j = i := by omega
        subst e
        have hn := H2.out j z (Nat.le_refl _) hz
        have HD0 := past_c P A n c z w hP
        rw [decide_eq_true hn] at HD0
        have HD := Lib.hid HD0
        have HE : Hid ((if j = l then (-1 : Int) else (j : Int)) = j) := if_neg (by omega)
        clear HD0 hn hz
        go_wp2_with fail
        refine HD.out.mono ?_
        rintro e w1 ⟨rfl, rfl⟩
        go_wp2_with fail
        go_ret
        first | exact ⟨rfl, rfl⟩ | exact ⟨by rw [HE.out], rfl⟩
    · have HE : Hid ((if i = l then (-1 : Int) else (i : Int)) = -1) := if_pos (by omega)
      go_wp2_with fail
      go_ret
      first | exact ⟨rfl, rfl⟩ | exact ⟨by rw [HE.out], rfl⟩

set_option maxRecDepth 100000 in
set_option maxHeartbeats 4000000 in
theorem delete_c (P base : Nat) (A : Option Addr) (n c : Nat) (V : Option Addr) (l vc : Nat) (L : List Int) (i : Nat) (w : World) (hP : w.cell? ⟨P, 0, none⟩ = some (.slice A n c)) (hPb : P < base) (h : w.ownsRow base 2 1 (.slice V l vc) l (L.map ic)) (hbw : base ≤ w.heap.size) (hl : l ≤ 1000) (hi : i ≤ l)
    (h1 : ∀ z ∈ L.take i, z < n) (h2 : ∀ z ∈ L.drop i, (n : Int) ≤ z) :
    Calls Tryd.prog 57 #[.slice V l vc, .func (Fn.func 59) #[] #[.pointer (some ⟨P, 0, none⟩)]] w fun e w' => ∃ A' c', e = .returned (.slice A' i c') ∧ w'.ownsRow base 2 1 (.slice A' i c') i ((L.take i).map ic) ∧ Below base w w' := by
  have hL : L.length = l := by have := h.1; simpa using this
  have hin : InL w w.heap.size V l L := (OwnL.of_own h).all
  have HIX := Lib.hid (index_c P A n c V l vc L i w hP hin hl hi h1 h2)
  have H2 : Hid (∀ j z, i ≤ j → L[j]? = some z → (n : Int) ≤ z) := fun j z hj hz => h2 z (List.mem_of_getElem? (i := j - i) (by rw [List.getElem?_drop, show i + (j - i) = j by omega]; exact hz))
  clear h1 h2
  by_cases hil : i = l
  · subst hil
    rw [if_pos rfl] at HIX
    have hT : L.take i = L := List.take_of_length_le (by omega)
    rw [hT]
    have HO := Lib.hid h
    clear h hin
    go_enter Tryd.func57, Tryd.ntmps57
    go_wp2_with fail
    refine HIX.out.mono ?_
    rintro e w1 ⟨rfl, rfl⟩
    go_wp2_with fail
    go_ret
    exact ⟨V, vc, rfl, HO.out, Below.refl _ _⟩
  · rw [if_neg hil] at HIX
    obtain ⟨g, rfl, hgb⟩ : ∃ g, V = some ⟨g, 0, none⟩ ∧ base ≤ g := by
      rcases h.2 with ⟨h', hn⟩ | ⟨g, cap, cur, k1, k2, _⟩
      · exact absurd hn (by omega)
      · injection k1 with k1; exact ⟨g, k1, k2⟩
    obtain ⟨ys, k1, k2, k3⟩ := own_cells (List.replicate (l - i) (Value.int .i64 0)) i w (L.map ic) h (by simp; omega)
    have hvc : l ≤ vc := by
      rcases h.2 with ⟨h', hn⟩ | ⟨g', cap, cur, q1, _, _, q4, _⟩
      · omega
      · injection q1 with _ _ q1; omega
    have hcs : ∀ j, j < l - i → (w.cell? ⟨g, i + j, none⟩).isSome = true := fun j hj => by
      rw [h.cellAt (i + j) (by omega), List.getElem?_eq_getElem (by have := h.1; omega)]; rfl
    have hcf : ∀ j, j < l - i → w.frozen? ⟨g, i + j, none⟩ = false := fun j hj => h.frozenAt (i + j)
    have hzv : ∀ w : World, (zeroValue 2).run Tryd.prog w = .ok (.int .i64 0) w := fun w => by kernel_rfl
    have hrun : ∀ ty c', (Builtin.clear_ #[24] ty #[.slice (some ⟨g, i, none⟩) (l - i) c']).run Tryd.prog w = .ok (.tuple #[]) (w.setCells g i (List.replicate (l - i) (Value.int .i64 0))) := fun ty c' =>
      Lib.run_clear_slice (P := Tryd.prog) w 24 2 ty (.int .i64 0) Tryd.underlying24 hzv rfl rfl g i (l - i) c' (by omega) hcs hcf
    have hcut := cut_own k1 hi
    rw [k2, ← List.map_take] at hcut
    have HCUT := Lib.hid hcut
    have hbb := Lib.hid ((Below.refl base w).grown k3 hbw (fun j hj => by injection hj with hj; omega))
    have HIN := Lib.hid hin
    have i0 : i < l := by omega
    have im : ((i : Int) == -1) = false := by first | (simp; done) | (simp; omega)
    have i1 : (i : Int) < (l : Int) := by omega
    have i2 : (i : Int) ≤ (l : Int) := by omega
    have i3 : (0 : Int) ≤ (i : Int) := by omega
    have i4 : (i : Int) ≤ (vc : Int) := by omega
    have i5 : (l : Int) ≤ (vc : Int) := by omega
    clear k1 k2 k3 hcs hcf hzv hcut hin h
    generalize w.setCells g i (List.replicate (l - i) (Value.int .i64 0)) = W2 at hrun HCUT hbb
    go_enter Tryd.func57, Tryd.ntmps57
    go_wp2_with fail
    refine HIX.out.mono ?_
    rintro e w1 ⟨rfl, rfl⟩
    go_wp2_with fail
    go_loop [5, 6, 7] (fun p q _ => ∃ j : Nat, i < j ∧ j ≤ l ∧ p = .int .i64 i ∧ q = .int .i64 j) (fun _ q _ => l - (intOf q).toNat)
    case atStart => exact ⟨i + 1, by omega, by omega, rfl, by go_num⟩
    case round =>
      obtain ⟨j, hij, hj, rfl, rfl⟩ := hrel
      by_cases hlt : j < l
      · obtain ⟨b, off, z, e1, hb, hz, hc⟩ := HIN.out.2.int_at (k := j) (by omega)
        obtain ⟨rfl, rfl⟩ : g = b ∧ 0 = off := by injection e1 with e1; injection e1 with e1 e2 _; exact ⟨e1, e2⟩
        have hc' : w.cell? ⟨g, j, none⟩ = some (.int .i64 z) := by rw [← Nat.zero_add j]; exact hc
        have hn := H2.out j z (by omega) hz
        have HD0 := past_c P A n c z w hP
        rw [decide_eq_true hn] at HD0
        have HD := Lib.hid HD0
        clear HD0 hn hz hc e1
        go_wp2_with fail
        refine HD.out.mono ?_
        rintro e w1 ⟨rfl, rfl⟩
        go_wp2_with fail
        go_round
        case rel => exact ⟨j + 1, by omega, by omega, rfl, by go_num⟩
        case measure => simp [intOf]; omega
      · have e : j = l := by omega
        subst e
        go_wp2_with fail
        go_ret
        exact ⟨_, vc, rfl, by first | exact HCUT.out | (rw [← List.map_take]; exact HCUT.out) | (rw [List.map_take]; exact HCUT.out), hbb.out⟩
end Go.Proofs.YtffkdidgfeknkaaDoor
