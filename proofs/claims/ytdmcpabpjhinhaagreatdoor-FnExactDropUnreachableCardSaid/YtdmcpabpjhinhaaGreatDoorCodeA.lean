/-
  Instructions appended to a row of the call's own. Conditions: at most 2^20 instructions.
-/
import Derived.Test.YtdmcpabpjhinhaaGreatDoorInstrL
import Derived.Maps.AppendAt
import Derived.OwnWalk
import Derived.Lib.AppendZeros
namespace Go.Proofs.YtdmcpabpjhinhaaGreatDoor
set_option linter.unusedVariables false
open Go.RowKit

theorem nil_any {P : Program} (w : World) (base : Nat) (t ty e : TypeId) (i : TypeInfo) (size : Nat) (ht : P.underlying t = some (.slice e)) (hi : P.info? e = some i)
    (v : Value) (n : Nat) (xs : List Value) (hown : w.ownsRow base e size v n xs) (c : Nat) : (Builtin.append_ #[t, t] ty #[v, .slice none 0 c]).run P w = .ok v w := by
  rcases hown.2 with ⟨rfl, rfl⟩ | ⟨g, cap, cur, rfl, _, _, hnc, _⟩
  · simp [Builtin.append_, run_underlying ht, sizeOf, typeInfo, hi, Builtin.lenOf, Builtin.firstCells]
  · simp [Builtin.append_, run_underlying ht, sizeOf, typeInfo, hi, Builtin.lenOf, Builtin.firstCells, hnc, storeCells]
theorem flatC_one (l : List (Int × Int)) : ∀ u ∈ flatC l, u.oneCell' = true := by
  intro u hu
  obtain ⟨p, _, hp⟩ := List.mem_flatMap.1 hu
  simp at hp
  rcases hp with rfl | rfl <;> rfl
theorem flatC_news {w : World} {B n : Nat} {ad : Addr} {xs : List (Int × Int)} (h : InC w B (some ad) n xs) : ∀ j u, (flatC xs)[j]? = some u → w.cell? (ad.add j) = some u := by
  intro j u hu
  have hj := (List.getElem?_eq_some_iff.1 hu).1
  rw [flatC_len] at hj
  have hi : j / 2 < xs.length := by omega
  have hx : xs[j / 2]? = some xs[j / 2] := List.getElem?_eq_getElem hi
  obtain ⟨b, off, e, hb, h1, h2⟩ := h.2 (j / 2) _ hx
  obtain rfl : ad = ⟨b, off, none⟩ := by injection e
  obtain ⟨f1, f2⟩ := flatC_at hx
  have ha : (⟨b, off, none⟩ : Addr).add j = ⟨b, off + j, none⟩ := by unfold Addr.add; split <;> simp_all
  rw [ha]
  rcases Nat.mod_two_eq_zero_or_one j with e | e
  · rw [show j / 2 * 2 = j by omega] at h1 f1
    rw [h1, ← f1, hu]
  · rw [show off + j / 2 * 2 + 1 = off + j by omega] at h2
    rw [show j / 2 * 2 + 1 = j by omega] at f2
    rw [h2, ← f2, hu]
/-- append of instructions, wherever they lie, onto a row of the call's own. -/
theorem app_cs {w : World} {B base k n c : Nat} {v : Value} {A : Option Addr} {ys xs : List (Int × Int)} (hr : w.ownsRow base 65 2 v k (flatC ys)) (h : InC w B A n xs) (hbw : base ≤ w.heap.size) (hk : k ≤ 1048576) (hn : n ≤ 1048576) :
    ∃ v' w', (Builtin.append_ #[29, 29] 29 #[v, .slice A n c]).run Tryz.prog w = .ok v' w' ∧ w'.ownsRow base 65 2 v' (k + n) (flatC (ys ++ xs)) ∧ Below base w w' := by
  obtain ⟨i0, hi, hz0, hz1, hz2⟩ := info_parts infoInstr
  rcases A with _ | ad
  · have hn0 : n = 0 := by
      rcases Nat.eq_zero_or_pos n with h0 | h0
      · exact h0
      · obtain ⟨_, _, _, e, _⟩ := h.at_ (k := 0) h0
        cases e
    subst hn0
    have hxs : xs = [] := List.eq_nil_of_length_eq_zero h.1
    subst hxs
    exact ⟨v, w, nil_any w base _ _ 65 i0 2 Tryz.underlying29 hi v k _ hr c, by simpa using hr, Below.refl _ _⟩
  · obtain ⟨v', w', e1, e2, e3, _⟩ := run_append_own w base 29 29 65 i0 (.agg #[.int .i64 0, .int .i64 0]) 2 16 Tryz.underlying29 hi hz0 hz1 hz2 rfl (by decide) v k _ hr ad n c (flatC xs) (by rw [flatC_len, h.1]) (flatC_news h) (flatC_one xs) (by unfold maxLen; omega) (by omega) hbw
    rw [← flatC_app] at e2
    exact ⟨v', w', e1, e2, (Below.refl base w).grown e3 hbw (fun j hj => (hr.lt j hj).1)⟩
theorem own_empty2 (w : World) (e : TypeId) : (w.alloc (.cells #[] e)).ownsRow w.heap.size e 2 (.slice (some ⟨w.heap.size, 0, none⟩) 0 0) 0 [] :=
  ⟨rfl, .inr ⟨w.heap.size, 0, #[], rfl, Nat.le_refl _, heap_alloc_new w _, Nat.le_refl _, Nat.zero_le _, rfl, rfl⟩⟩
/-- A row of instructions of the call's own has a slice's value. -/
theorem own_sliceC {w : World} {base n : Nat} {v : Value} {xs : List (Int × Int)} (h : w.ownsRow base 65 2 v n (flatC xs)) (hx : xs.length = n) : ∃ A c, v = .slice A n c ∧ OwnC w base w.heap.size A n c xs := by
  rcases h.2 with ⟨rfl, rfl⟩ | ⟨g, cap, cur, rfl, h2, h3⟩
  · exact ⟨none, 0, rfl, OwnC.of_own h hx⟩
  · exact ⟨some ⟨g, 0, none⟩, cap, rfl, OwnC.of_own h hx⟩
end Go.Proofs.YtdmcpabpjhinhaaGreatDoor
