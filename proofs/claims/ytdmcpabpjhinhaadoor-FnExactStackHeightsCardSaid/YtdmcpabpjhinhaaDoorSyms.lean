/-
  The symbols of some terms: what the model and the program give. Conditions: at most 2^20 terms and coefficients.
-/
import Derived.Test.YtdmcpabpjhinhaaDoorPutM
import Derived.Test.YtdmcpabpjhinhaaDoorSet
import Derived.Test.YtdmcpabpjhinhaaDoorTermsK
import Derived.Test.YtdmcpabpjhinhaaDoorAppend
import Derived.Maps.AppendAt
namespace Go.Proofs.YtdmcpabpjhinhaaDoor
set_option linter.unusedVariables false
open Go.RowKit

theorem row_snoc {w : World} {base n : Nat} {v : Value} {l : List Int} {y : Int} (h : w.ownsRow base 2 1 v (n + 1) (l.map ic ++ [.int .i64 y])) (hn : l.length = n) : w.ownsRow base 2 1 v (l ++ [y]).length ((l ++ [y]).map ic) := by
  subst hn
  simpa [ic] using h
theorem one_one (y : Int) : ∀ u ∈ [Value.int .i64 y], u.oneCell' = true := by intro u hu; simp at hu; subst hu; rfl
theorem row_new (w : World) : (w.alloc (.cells #[] 2)).ownsRow w.heap.size 2 1 (.slice (some ⟨w.heap.size, 0, none⟩) 0 0) ([] : List Int).length (([] : List Int).map ic) := own_empty w _

set_option maxRecDepth 100000 in
set_option maxHeartbeats 2000000 in
theorem l00Put_c (A : Option Addr) (n c B : Nat) (zs : List Int) (x : Int) (w : World) (h : InL w B A n zs) (hB : B ≤ w.heap.size) (hn : n ≤ 100000) :
    Calls Tryd.prog 41 #[.slice A n c, .int .i64 x] w fun e w' => ∃ v, e = .returned v ∧ w'.ownsRow w.heap.size 2 1 v (putR x zs).length ((putR x zs).map ic) ∧ Below w.heap.size w w' := by
  obtain ⟨i0, hi, hz0, hz1, hz2⟩ := info_parts info64
  have hlen := Lib.hid h.1
  go_enter Tryd.func41, Tryd.ntmps41
  go_wp2_with fail
  go_loopw [5, 6, 7] (fun v d i wr => ∃ (k : Nat) (o : List Int) (b : Bool), k ≤ n ∧ i = .int .i64 k ∧ d = .bool b ∧ Hid (putTo x zs k = (o, b)) ∧ o.length ≤ 2 * k ∧ wr.ownsRow w.heap.size 2 1 v o.length (o.map ic) ∧ Below w.heap.size w wr) (fun _ _ i _ => n - (intOf i).toNat)
  case atStart => exact ⟨0, [], false, Nat.zero_le _, rfl, rfl, rfl, by simp, row_new w, (Below.refl _ _).alloc (Nat.le_refl _) _⟩
  case round =>
    obtain ⟨k, o, b, hk, rfl, rfl, HP, hol, hown, hbel⟩ := hrel
    have hsz := hbel.size
    by_cases hlt : k < n
    · obtain ⟨bb, off, y, rfl, hbb, hy, hc⟩ := (h.next hbel hB).2.int_at (k := k) (by have := hlen.out; omega)
      cases b with
      | true =>
        have HS := Lib.hid (putTo_stay hy HP.out (.inl rfl))
        clear hy HP
        go_wp2_with (at_builtin; refine wpList_append_own _ rfl (.tmp 35) (.tmp 40) 24 rfl w.heap.size 2 i0 (.int .i64 0) 1 8 Tryd.underlying24 hi hz0 hz1 hz2 rfl (by decide) _ _ _ rfl (hown.alloc _) ⟨wr.heap.size, 0, none⟩ 1 1 [.int .i64 y] rfl rfl (cell_one_new _ _ _) (one_one y) (by unfold maxLen; omega) (by omega) (by simp; omega) ?_; intro v1 w1 hown1 hgrow1 _)
        have hb1 : Below w.heap.size w w1 := (hbel.alloc hsz _).grown hgrow1 (by simp; omega) (fun j hj => (hown.lt j hj).1)
        have hr1 := row_snoc hown1 rfl
        clear hown1 hgrow1 hown
        go_wp2_with fail
        go_roundw
        case rel => exact ⟨k + 1, _, true, by omega, by go_num, rfl, HS, by simp; omega, hr1, hb1⟩
        case measure => simp [intOf]; omega
      | false =>
        by_cases hxy : y < x
        · have hge : ¬ x ≤ y := by omega
          have HS := Lib.hid (putTo_stay hy HP.out (.inr hxy))
          clear hy HP
          go_wp2_with (at_builtin; refine wpList_append_own _ rfl (.tmp 35) (.tmp 40) 24 rfl w.heap.size 2 i0 (.int .i64 0) 1 8 Tryd.underlying24 hi hz0 hz1 hz2 rfl (by decide) _ _ _ rfl (hown.alloc _) ⟨wr.heap.size, 0, none⟩ 1 1 [.int .i64 y] rfl rfl (cell_one_new _ _ _) (one_one y) (by unfold maxLen; omega) (by omega) (by simp; omega) ?_; intro v1 w1 hown1 hgrow1 _)
          have hb1 : Below w.heap.size w w1 := (hbel.alloc hsz _).grown hgrow1 (by simp; omega) (fun j hj => (hown.lt j hj).1)
          have hr1 := row_snoc hown1 rfl
          clear hown1 hgrow1 hown
          go_wp2_with fail
          go_roundw
          case rel => exact ⟨k + 1, _, false, by omega, by go_num, rfl, HS, by simp; omega, hr1, hb1⟩
          case measure => simp [intOf]; omega
        · have hge : x ≤ y := by omega
          by_cases hxe : x < y
          · have HS := Lib.hid (putTo_new hy HP.out hxe)
            clear hy HP
            go_wp2_with (at_builtin; refine wpList_append_own _ rfl (.tmp 31) (.tmp 33) 24 rfl w.heap.size 2 i0 (.int .i64 0) 1 8 Tryd.underlying24 hi hz0 hz1 hz2 rfl (by decide) _ _ _ rfl (hown.alloc _) ⟨wr.heap.size, 0, none⟩ 1 1 [.int .i64 x] rfl rfl (cell_one_new _ _ _) ?c2 (by unfold maxLen; omega) (by omega) (by simp; omega) ?_)
            case c2 => rfl
            intro v1 w1 hown1 hgrow1 _
            have hb1 : Below w.heap.size w w1 := (hbel.alloc hsz _).grown hgrow1 (by simp; omega) (fun j hj => (hown.lt j hj).1)
            have hc1 : w1.cell? ⟨bb, off + k, none⟩ = some (.int .i64 y) := by
              have h1 := cell_next hc (bnew wr (.cells #[.int .i64 x] 2))
              exact (World.cell?_of_block (a := ⟨bb, off + k, none⟩) (hgrow1.block bb (Nat.lt_of_lt_of_le (by omega) (bnew wr (.cells #[.int .i64 x] 2)).size) (fun e' => by have := (hown.lt _ e'.symm).1; omega))).trans h1
            have hr1 := row_snoc hown1 rfl
            have hsz1 := hb1.size
            have hol1 : (o ++ [x]).length ≤ 2 * k + 1 := by simp; omega
            clear hown1 hgrow1 hown
            generalize o ++ [x] = o1 at hr1 HS hol1
            go_wp2_with (at_builtin; refine wpList_append_own _ rfl (.tmp 35) (.tmp 40) 24 rfl w.heap.size 2 i0 (.int .i64 0) 1 8 Tryd.underlying24 hi hz0 hz1 hz2 rfl (by decide) _ _ _ rfl (hr1.alloc _) ⟨w1.heap.size, 0, none⟩ 1 1 [.int .i64 y] rfl rfl (cell_one_new _ _ _) (one_one y) (by unfold maxLen; omega) (by omega) (by simp; omega) ?_; intro v2 w2 hown2 hgrow2 _)
            have hb2 : Below w.heap.size w w2 := (hb1.alloc hsz1 _).grown hgrow2 (by simp; omega) (fun j hj => (hr1.lt j hj).1)
            have hr2 := row_snoc hown2 rfl
            clear hown2 hgrow2 hr1
            go_wp2_with fail
            go_roundw
            case rel => exact ⟨k + 1, _, true, by omega, by go_num, rfl, HS, by simp; omega, hr2, hb2⟩
            case measure => simp [intOf]; omega
          · obtain rfl : y = x := by omega
            have HS := Lib.hid (putTo_same hy HP.out)
            clear hy HP
            go_wp2_with (at_builtin; refine wpList_append_own _ rfl (.tmp 35) (.tmp 40) 24 rfl w.heap.size 2 i0 (.int .i64 0) 1 8 Tryd.underlying24 hi hz0 hz1 hz2 rfl (by decide) _ _ _ rfl (hown.alloc _) ⟨wr.heap.size, 0, none⟩ 1 1 [.int .i64 y] rfl rfl (cell_one_new _ _ _) (one_one y) (by unfold maxLen; omega) (by omega) (by simp; omega) ?_; intro v1 w1 hown1 hgrow1 _)
            have hb1 : Below w.heap.size w w1 := (hbel.alloc hsz _).grown hgrow1 (by simp; omega) (fun j hj => (hown.lt j hj).1)
            have hr1 := row_snoc hown1 rfl
            clear hown1 hgrow1 hown
            go_wp2_with fail
            go_roundw
            case rel => exact ⟨k + 1, _, true, by omega, by go_num, rfl, HS, by simp; omega, hr1, hb1⟩
            case measure => simp [intOf]; omega
    · have e : k = n := by omega
      subst e
      cases b with
      | true =>
        have HR : Hid (putR x zs = o) := by show _ = _; unfold putR; rw [hlen.out, HP.out]; rfl
        clear HP
        go_wp2_with fail
        go_ret
        rw [HR.out]
        exact ⟨_, rfl, hown, hbel⟩
      | false =>
        have HR : Hid (putR x zs = o ++ [x]) := by show _ = _; unfold putR; rw [hlen.out, HP.out]; rfl
        clear HP
        go_wp2_with (at_builtin; refine wpList_append_own _ rfl (.tmp 44) (.tmp 46) 24 rfl w.heap.size 2 i0 (.int .i64 0) 1 8 Tryd.underlying24 hi hz0 hz1 hz2 rfl (by decide) _ _ _ rfl (hown.alloc _) ⟨wr.heap.size, 0, none⟩ 1 1 [.int .i64 x] rfl rfl (cell_one_new _ _ _) (one_one x) (by unfold maxLen; omega) (by omega) (by simp; omega) ?_; intro v1 w1 hown1 hgrow1 _)
        have hb1 : Below w.heap.size w w1 := (hbel.alloc hsz _).grown hgrow1 (by simp; omega) (fun j hj => (hown.lt j hj).1)
        have hr1 := row_snoc hown1 rfl
        clear hown1 hgrow1 hown
        go_wp2_with fail
        go_ret
        rw [HR.out]
        exact ⟨_, rfl, hr1, hb1⟩

def symsR (ts : List (Int × List Int)) : List Int × Bool := if allT 14 ts = true then (symL ts, true) else ([], false)
theorem symsR_yes {ts : List (Int × List Int)} (h : allT 14 ts = true) : symsR ts = (symL ts, true) := if_pos h
theorem symsR_no {ts : List (Int × List Int)} (h : allT 14 ts = false) : symsR ts = ([], false) := if_neg (by rw [h]; simp)
theorem symsR_len (ts : List (Int × List Int)) : (symsR ts).1.length ≤ 10 := by
  unfold symsR
  split
  · exact symTo_len _ _ _
  · simp

/-- Block b is a map of at most n keys that has just the numbers of a list. -/
def SetF (w : World) (b n : Nat) (L : List Int) : Prop :=
  ∃ D : DataW Unit, w.ownsMap Tryd.prog 2 (plainElem Tryd.prog 4) b n D ∧ ∀ y, y ∈ L ↔ Maps.has D (.int .i64 y) = true
theorem keyedS : Maps.Keyed Tryd.prog 2 := Maps.int_keyed Tryd.underlying2
theorem setF_made (w : World) : SetF (w.alloc (.map #[] 0)) w.heap.size 0 [] := ⟨.map [], World.ownsMap_made _ _ _ _, fun y => by simp [Maps.has_eq]⟩
theorem SetF.lt {w : World} {b n : Nat} {L : List Int} (h : SetF w b n L) : b < w.heap.size := by obtain ⟨D, h1, _⟩ := h; exact h1.lt
theorem SetF.next {w w' : World} {b n : Nat} {L : List Int} (h : SetF w b n L) {B : Nat} (hb : Below B w w') (hB : b < B) : SetF w' b n L := by
  obtain ⟨D, h1, h2⟩ := h
  refine ⟨D, ?_, h2⟩
  obtain ⟨es, clock, h3, h4⟩ := h1
  exact ⟨es, clock, (hb.block b hB).trans h3, h4⟩
theorem SetF.same {w : World} {b n : Nat} {L L' : List Int} (h : SetF w b n L) (e : ∀ y, y ∈ L' ↔ y ∈ L) : SetF w b n L' := by
  obtain ⟨D, h1, h2⟩ := h
  exact ⟨D, h1, fun y => (e y).trans (h2 y)⟩
theorem SetF.mono {w : World} {b n n' : Nat} {L : List Int} (h : SetF w b n L) (hn : n ≤ n') : SetF w b n' L := by obtain ⟨D, h1, h2⟩ := h; exact ⟨D, h1.mono hn, h2⟩
theorem setF_put {w : World} {D : DataW Unit} {b n : Nat} {L L' : List Int} {x : Int} (h2 : ∀ y, y ∈ L ↔ Maps.has D (.int .i64 y) = true) (hD : Maps.IsMap D) (h3 : w.ownsMap Tryd.prog 2 (plainElem Tryd.prog 4) b n (D.put (.int .i64 x) (.lit (.bool true))))
    (e : ∀ y, y ∈ L' ↔ y ∈ L ∨ y = x) : SetF w b n L' := by
  refine ⟨_, h3, fun y => ?_⟩
  rw [e y]
  by_cases hy : y = x
  · subst hy
    rw [Maps.has_put_same (k := .int .i64 y) hD trivial]; simp
  · rw [Maps.has_put_other (fun h => hy (by injection h)), ← h2 y]; simp [hy]

end Go.Proofs.YtdmcpabpjhinhaaDoor
