/-
  The program's minimal, over what classes gives. Conditions: a policy with at most 1000 states.
-/
import Derived.Test.YtopijecdhjnipaaMinI
namespace Go.Proofs.Ytopijecdhjnipaa
set_option linter.unusedVariables false
open Go.RowKit Go.Shelf

/-- The rows that unfolded makes, as a policy of rows of the call's own. -/
theorem RowsP.polO {W : World} {lo : Nat} {v : Value} {gs : List Nat} {R : List (List Int)} {S : Nat → Prop} (h : RowsP W lo v gs R S) (h4 : ∀ r ∈ R, r.length = 4) : ∃ A c rs, v = .slice A R.length c ∧ PolO W lo A c R rs := by
  obtain ⟨A, c, rfl, _⟩ := own_slice h.own
  have hl := h.len
  have at_ : ∀ (i : Nat) (p : Value × List Int), (List.zipWith (fun g r => ((Value.slice (some ⟨g, 0, none⟩) 4 4, r) : Value × List Int)) gs R)[i]? = some p → ∃ g r, gs[i]? = some g ∧ R[i]? = some r ∧ p = (.slice (some ⟨g, 0, none⟩) 4 4, r) := fun i p hp => by
    rw [List.getElem?_zipWith] at hp
    cases e1 : gs[i]? with
    | none => rw [e1] at hp; simp at hp
    | some g =>
      cases e2 : R[i]? with
      | none => rw [e1, e2] at hp; simp at hp
      | some r => rw [e1, e2] at hp; simp at hp; exact ⟨g, r, rfl, rfl, hp.symm⟩
  refine ⟨A, c, List.zipWith (fun g r => (Value.slice (some ⟨g, 0, none⟩) 4 4, r)) gs R, rfl, ?_, ⟨fun i p hp => ?_, fun i j p q hij hp hq k hk hk' => ?_⟩, ?_⟩
  · apply List.ext_getElem (by simp [hl])
    intro i h1 h2
    simp
  · obtain ⟨g, r, hg, hr, rfl⟩ := at_ i p hp
    obtain ⟨h1, h2⟩ := h.row i g r hg hr
    have h3 := h4 r (List.mem_of_getElem? hr)
    show W.ownsRow lo 2 1 (.slice (some ⟨g, 0, none⟩) 4 4) r.length (r.map ic)
    rw [h3]
    exact ⟨by simp [h3], .inr ⟨g, 4, (r.map ic).toArray, rfl, h1, h2, Nat.le_refl _, by unfold maxLen; omega, by simp [h3], by rw [Nat.mul_one]; exact List.take_of_length_le (by simp [h3])⟩⟩
  · obtain ⟨g, r, hg, _, rfl⟩ := at_ i p hp
    obtain ⟨g', r', hg', _, rfl⟩ := at_ j q hq
    obtain rfl : g = k := Option.some.inj hk
    obtain rfl : g' = g := Option.some.inj hk'
    have hp := List.pairwise_iff_getElem.1 h.inc
    obtain ⟨hi, ei⟩ := List.getElem?_eq_some_iff.1 hg
    obtain ⟨hj, ej⟩ := List.getElem?_eq_some_iff.1 hg'
    rcases Nat.lt_or_gt_of_ne hij with k | k
    · have := hp i j hi hj k; omega
    · have := hp j i hj hi k; omega
  · have e : (List.zipWith (fun g r => ((Value.slice (some ⟨g, 0, none⟩) 4 4, r) : Value × List Int)) gs R).map Prod.fst = gs.map fun g => Value.slice (some ⟨g, 0, none⟩) 4 4 := by
      apply List.ext_getElem (by simp [hl])
      intro i h1 h2
      simp
    rw [e]
    exact h.own

/-- What classes gives. -/
def ClsR (xs : List (List Int)) (w : World) (e : Ending) (w' : World) : Prop := ∃ A' c' cl t, e = .returned (.slice A' xs.length c') ∧ ClsI xs t cl ∧ Settled xs t ∧ InL w' w'.heap.size A' xs.length cl ∧ Below w.heap.size w w'

set_option maxRecDepth 100000 in
set_option maxHeartbeats 2000000 in
theorem minimal_of (A : Option Addr) (n c B : Nat) (xs : List (List Int)) (w : World) (h : InLL w B A n xs) (hB : B ≤ w.heap.size) (ok : RectP xs) (hn : n ≤ 1000)
    (HC0 : ∀ W, Below w.heap.size w W → Calls Try.prog 45 #[.agg #[.slice A n c]] W (ClsR xs W)) :
    Calls Try.prog 28 #[.agg #[.slice A n c]] w fun e w' => ∃ A' c', e = .returned (.agg #[.slice A' (minL xs).length c']) ∧ (∃ rs, PolO w' w.heap.size A' c' (minL xs) rs) ∧ Below w.heap.size w w' := by
  have hb0 := bnew w (.cells #[.slice A n c] 26)
  have hb1 := bnew (w.alloc (.cells #[.slice A n c] 26)) (.cells #[.slice none 0 0] 26)
  have hP : BlkIs ((w.alloc (.cells #[.slice A n c] 26)).alloc (.cells #[.slice none 0 0] 26)) w.heap.size 26 #[.slice A n c] := (blk_new _ _ _ _ rfl).next hb1
  have hR : BlkIs ((w.alloc (.cells #[.slice A n c] 26)).alloc (.cells #[.slice none 0 0] 26)) (w.heap.size + 1) 26 #[.slice none 0 0] := blk_new _ _ _ _ (by simp)
  have hb := bon hb0 hb1
  have HX := Lib.hid (h.next hb hB)
  have hB0 := Nat.le_trans hB hb.size
  have HC := Lib.hid (HC0 _ hb)
  have hxn : xs.length = n := h.1
  have hst := stM_stays ok
  have h00 : (0 : Int) ≤ 0 ∧ (0 : Int) < (n : Int) := by have := ok.lo; omega
  have HOK := Lib.hid ok
  have p0 := hP.cell 0
  simp at p0
  obtain ⟨V, hV⟩ : ∃ V, minL xs = V := ⟨_, rfl⟩
  have HV := Lib.hid hV
  rw [hV]
  clear h hb0 hb1 HC0 ok hV
  go_enter Try.func28, Try.ntmps28
  go_wp2_with fail
  generalize (w.alloc (.cells #[.slice A n c] 26)).alloc (.cells #[.slice none 0 0] 26) = W at hb p0 HC HX hB0 hR hP ⊢
  refine HC.out.mono ?_
  rintro e w3 ⟨Ac, cc, cl, t, rfl, hcl, hset, hin, hb3⟩
  rw [hxn] at hin ⊢
  have hb4 := bnew w3 (.cells #[.slice Ac n cc] 35)
  have hK : BlkIs (w3.alloc (.cells #[.slice Ac n cc] 35)) w3.heap.size 35 #[.slice Ac n cc] := blk_new _ _ _ _ rfl
  have hb34 := bon hb3 hb4
  have HX4 := (HX.out.next hb34 hB0)
  have HI4 := hin.next hb4 (Nat.le_refl _)
  have hP4 := hP.next hb34
  have hR4 := hR.next hb34
  have hs3 := hb3.size
  have hs4 := hb4.size
  have HU := Lib.hid (callsIn_wide.1 (unfoldedM_in (stM xs) n (by rw [← hxn]; exact hst) hn 0 h00 w.heap.size w3.heap.size (w3.alloc (.cells #[.slice Ac n cc] 35)) (fun W' x e hbW hx0 hxn' he => by
    obtain ⟨k, rfl⟩ : ∃ k : Nat, x = k := ⟨x.toNat, by omega⟩
    exact minStep_c w.heap.size w3.heap.size A n c Ac cc t (w3.alloc (.cells #[.slice Ac n cc] 35)).heap.size xs cl k e W' (hP4.next hbW) (hK.next hbW) ((HX4.next hbW (Nat.le_trans hB0 hb34.size)).more (Nat.le_trans hB0 hb34.size)) ((HI4.next hbW hs4).more hs4) hbW.size HOK.out hcl hset hn (by omega) he)))
  clear hcl hset hin HI4 HX4 hP4
  have hb04 := bon hb hb34
  go_wp2_with fail
  generalize w3.alloc (.cells #[.slice Ac n cc] 35) = W4 at HU hb04 hR4 hb34 hs4 ⊢
  refine HU.out.mono ?_
  rintro e w5 ⟨L, R, v, gs, A5, c5, hend, rfl, hrows, hown, hb5⟩
  have hRe : R = V := by rw [← HV.out]; exact minL_is HOK.out hend
  have h4 : ∀ r ∈ R, r.length = 4 := by
    obtain ⟨k, h1, _⟩ := hend
    have := unf_rows hst (x0 := 0) (by rw [hxn]; exact h00) k
    rw [h1] at this
    exact this
  obtain ⟨Av, cv, rs, rfl, hpo⟩ := hrows.polO h4
  subst hRe
  have hR5 := hR4.next hb5
  have hb6 := bnew w5 (.cells #[.slice Av R.length cv] 26)
  have hR6 := hR5.next hb6
  have r0 := hR6.cell 0
  have r1 := hR6.frozen 0
  simp at r0
  have HPO := Lib.hid (hpo.keep hb6)
  have hRl := hR4.lt
  have hb06 := bon (bon hb04 hb5) hb6
  clear hrows hown hend hpo
  go_wp2_with fail
  have r2 : ((w5.alloc (.cells #[.slice Av R.length cv] 26)).setCell ⟨w.heap.size + 1, 0, none⟩ (.slice Av R.length cv)).cell? ⟨w.heap.size + 1, 0, none⟩ = some (.slice Av R.length cv) := by
    have := (hR6.set 0 (.slice Av R.length cv)).cell 0
    simpa using this
  have hbe := hb06.setCell (p := ⟨w.heap.size + 1, 0, none⟩) (Nat.le_succ _) (.slice Av R.length cv)
  have HPF := Lib.hid ((HPO.out.far (i := 0) (u := .slice Av R.length cv) hRl).less hb04.size)
  generalize (w5.alloc (.cells #[.slice Av R.length cv] 26)).setCell ⟨w.heap.size + 1, 0, none⟩ (.slice Av R.length cv) = WE at r2 hbe HPF ⊢
  exact bodyPost_ret (v := .agg #[.slice Av R.length cv]) (by simp [results, Try.results28, go_sem, r2]) rfl ⟨Av, cv, rfl, ⟨rs, HPF.out⟩, hbe⟩
end Go.Proofs.Ytopijecdhjnipaa
