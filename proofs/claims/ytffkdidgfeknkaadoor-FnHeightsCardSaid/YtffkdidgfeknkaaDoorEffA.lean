/-
  What the function of an operation does to the program's machine, for every valid instruction for which the stack fits: it stops as a step stops, and else the machine stands for the config behind the step. Conditions: a valid config.
-/
import Derived.Test.YtffkdidgfeknkaaDoorBunB
import Derived.Test.YtffkdidgfeknkaaDoorScale
namespace Go.Proofs.YtffkdidgfeknkaaDoor
set_option linter.unusedVariables false
open Go.RowKit

/-- What is known behind the call of an operation's function. -/
def EffQ (op a : Int) (vs zs st : List Int) (p : Int) (g : Nat) (w : World) : Ending → World → Prop := fun e w' =>
  e = .returned (.int .i64 (outO op a st)) ∧ Out g (g + 1) w w' ∧ (outO op a st = 0 → ∃ L', MachIs w' g L' ∧ Rep L' (varsO op a vs st) (cellsO op zs st) (stO op a vs zs st) (atO op a st p))

section
variable {L vs zs st : List Int} {p op a : Int}
theorem Rep.top (r : Rep L vs zs st p) {k : Nat} (hk : st.length = k + 1) (hp : popB op ≠ 0) : L[12 + k]? = some (topR op st) := by
  unfold topR; rw [if_neg hp, r.s k (by omega), hk, Nat.add_sub_cancel]; exact some_getD (by omega)
theorem Rep.und (r : Rep L vs zs st p) {k : Nat} (hk : st.length = k + 2) (hp : popB op = 2) : L[12 + k]? = some (undR op st) := by
  unfold undR; rw [if_pos hp, r.s k (by omega), hk, Nat.add_sub_cancel]; exact some_getD (by omega)
theorem Rep.top2 (r : Rep L vs zs st p) {k : Nat} (hk : st.length = k + 2) (hp : popB op ≠ 0) : L[13 + k]? = some (topR op st) := by
  have := r.top (k := k + 1) (by omega) hp
  rw [show 13 + k = 12 + (k + 1) by omega]; exact this
theorem Rep.h1 (r : Rep L vs zs st p) {k : Nat} (hk : st.length = k + 1) : L[18]? = some ((k : Int) + 1) := by rw [r.h, hk]; simp
theorem Rep.h2 (r : Rep L vs zs st p) {k : Nat} (hk : st.length = k + 2) : L[18]? = some ((k : Int) + 2) := by rw [r.h, hk]; simp
theorem restR_0 (hp : popB op = 0) : restR op st = st := by unfold restR; rw [hp]; exact List.take_of_length_le (by simp)
theorem restR_1 {k : Nat} (hk : st.length = k + 1) (hp : popB op = 1) : restR op st = st.take k := by unfold restR; rw [hp, hk]; rfl
theorem restR_2 {k : Nat} (hk : st.length = k + 2) (hp : popB op = 2) : restR op st = st.take k := by unfold restR; rw [hp, hk]; rfl
theorem wideB_of {x : Int} (h : wideP x) : wideB x = true := by unfold wideB; simp [h.1, h.2]
theorem wideB_not {x : Int} (h : ¬ wideP x) : wideB x = false := by
  cases e : wideB x with
  | false => rfl
  | true => unfold wideB at e; simp at e; exact absurd ⟨e.1, e.2⟩ h
theorem int_wide {x : Int} (h : intP x) : wideP x := ⟨by have := h.1; omega, by have := h.2; omega⟩
theorem atO_next (h5 : op ≠ 5) (h6 : op ≠ 6) : atO op a st p = p + 1 := by unfold atO; rw [if_neg (by omega)]
theorem varsO_same (h : op ≠ 2) (vs : List Int) : varsO op a vs st = vs := if_neg h
theorem cellsO_same (h : op ≠ 8) (zs : List Int) : cellsO op zs st = zs := if_neg h
theorem outO_ok (h11 : op ≠ 11) (hc : ¬ cellStop op st) (hr : ¬ rangeStop op a st) (h10 : ¬ (op = 10 ∧ topR op st < 0)) : outO op a st = 0 := by
  unfold outO; rw [if_neg h11, if_neg hc, if_neg hr, if_neg h10]
/-- Behind a push that is within the limit, the machine stands for the config with one number more. -/
theorem push_rep {g : Nat} {w' : World} {n : Int} (hM : MachIs w' g (pushR st.length n L).1) (r : Rep L vs zs st p) (h5 : st.length ≤ 5) (hw : wideP n) : ∃ L', MachIs w' g L' ∧ Rep L' vs zs (st ++ [n]) p := by
  rw [pushR_yes (wideB_of hw)] at hM
  exact ⟨_, hM, r.push n h5⟩
end
/-- The same behind pops: the stack is the first k numbers of the one before. -/
theorem popped_rep {L vs zs st : List Int} {p : Int} {g k : Nat} {w' : World} {n : Int} (hM : MachIs w' g (pushR k n (L.set 18 (k : Int))).1) (r : Rep L vs zs st p) (hk : k ≤ 5) (hks : k ≤ st.length) (h6 : st.length ≤ 6) (hw : wideP n) : ∃ L', MachIs w' g L' ∧ Rep L' vs zs (st.take k ++ [n]) p := by
  have hl : (st.take k).length = k := by rw [List.length_take]; omega
  have := push_rep (L := L.set 18 (k : Int)) (vs := vs) (zs := zs) (st := st.take k) (p := p) (g := g) (w' := w') (n := n) (by rw [hl]; exact hM) (r.pop k hks h6) (by omega) hw
  exact this

section
variable {L vs zs st : List Int} {p a : Int} {g : Nat} {w : World}
theorem eff0 (hM : MachIs w g L) (r : Rep L vs zs st (p + 1)) (v : CfV vs zs st p) (hf : fitB 0 (st.length : Int) = true) (hi : instrB 0 a = true) :
    Calls Tryd.prog (efB 0) #[.pointer (some ⟨g, 0, none⟩), .int .i64 a] w (EffQ 0 a vs zs st p g w) := by
  have hfp := fitB_parts hf
  have hii := (instrB_parts hi).2.2
  simp [loB, hiB] at hii
  have h5 : st.length ≤ 5 := by have := hfp.2; simp [popB, pushB] at this; omega
  have hw : wideP a := ⟨by omega, by omega⟩
  have ho : outO 0 a st = 0 := outO_ok (by decide) (by unfold cellStop; simp) (by unfold rangeStop; simp) (by simp)
  refine (push_c g L st.length a w hM r.h h5).mono ?_
  rintro e w' ⟨rfl, hM1, ho1⟩
  refine ⟨by rw [ho, pushR_yes (wideB_of hw)], ho1, fun _ => ?_⟩
  obtain ⟨L', k1, k2⟩ := push_rep hM1 r h5 hw
  have e1 : stO 0 a vs zs st = st ++ [a] := by unfold stO; rw [if_pos (by decide), restR_0 rfl]; rfl
  refine ⟨L', k1, ?_⟩
  rw [e1]
  exact k2
theorem eff1 (hM : MachIs w g L) (r : Rep L vs zs st (p + 1)) (v : CfV vs zs st p) (hf : fitB 1 (st.length : Int) = true) (hi : instrB 1 a = true) :
    Calls Tryd.prog (efB 1) #[.pointer (some ⟨g, 0, none⟩), .int .i64 a] w (EffQ 1 a vs zs st p g w) := by
  have hfp := fitB_parts hf
  have hii := (instrB_parts hi).2.2
  simp [loB, hiB] at hii
  have h5 : st.length ≤ 5 := by have := hfp.2; simp [popB, pushB] at this; omega
  obtain ⟨k, rfl⟩ : ∃ k : Nat, a = k := ⟨a.toNat, by omega⟩
  have hv := v.lv
  have hx : L[k]? = some (vs.getD k 0) := by rw [r.v k (by omega)]; exact some_getD (by omega)
  have hw : wideP (vs.getD k 0) := int_wide (v.iv _ (mem_getD (by omega)))
  have ho : outO 1 (k : Int) st = 0 := outO_ok (by decide) (by unfold cellStop; simp) (by unfold rangeStop; simp) (by simp)
  refine (load_c g k L st.length (vs.getD k 0) w hM r.h h5 (by omega) hx).mono ?_
  rintro e w' ⟨rfl, hM1, ho1⟩
  refine ⟨by rw [ho, pushR_yes (wideB_of hw)], ho1, fun _ => ?_⟩
  obtain ⟨L', k1, k2⟩ := push_rep hM1 r h5 hw
  have e1 : stO 1 (k : Int) vs zs st = st ++ [vs.getD k 0] := by unfold stO; rw [if_pos (by decide), restR_0 rfl]; rfl
  refine ⟨L', k1, ?_⟩
  rw [e1]
  exact k2
theorem eff2 (hM : MachIs w g L) (r : Rep L vs zs st (p + 1)) (v : CfV vs zs st p) (hf : fitB 2 (st.length : Int) = true) (hi : instrB 2 a = true) :
    Calls Tryd.prog (efB 2) #[.pointer (some ⟨g, 0, none⟩), .int .i64 a] w (EffQ 2 a vs zs st p g w) := by
  have hfp := fitB_parts hf
  have hii := (instrB_parts hi).2.2
  simp [loB, hiB] at hii
  have hls := v.ls
  obtain ⟨k, hk⟩ : ∃ k, st.length = k + 1 := ⟨st.length - 1, by have := hfp.1; simp [popB] at this; omega⟩
  obtain ⟨j, rfl⟩ : ∃ j : Nat, a = j := ⟨a.toNat, by omega⟩
  have hx := r.top hk (op := 2) (by decide)
  by_cases hin : intP (topR 2 st)
  · have ho : outO 2 (j : Int) st = 0 := outO_ok (by decide) (by unfold cellStop; simp) (by unfold rangeStop; simp [hin]) (by simp)
    refine (store_c g j L k (topR 2 st) w hM (r.h1 hk) (by omega) hx (by omega) true (by simp [hin.1, hin.2])).mono ?_
    rintro e w' ⟨rfl, hM1, ho1⟩
    refine ⟨by rw [ho]; rfl, ho1, fun _ => ⟨_, hM1, ?_⟩⟩
    have := (r.pop k (by omega) hls).var j (topR 2 st) (by omega) v.lv
    have e1 : stO 2 (j : Int) vs zs st = st.take k := by unfold stO; rw [if_neg (by decide), restR_1 hk rfl]
    rw [e1]
    exact this
  · have ho : outO 2 (j : Int) st = 4 := by unfold outO; rw [if_neg (by decide), if_neg (by unfold cellStop; simp), if_pos (by unfold rangeStop; simp [hin])]
    refine (store_c g j L k (topR 2 st) w hM (r.h1 hk) (by omega) hx (by omega) false (by
      cases e : (decide (-1000000000 ≤ topR 2 st) && decide (topR 2 st ≤ 1000000000)) with
      | false => rfl
      | true => simp at e; exact absurd ⟨e.1, e.2⟩ hin)).mono ?_
    rintro e w' ⟨rfl, hM1, ho1⟩
    exact ⟨by rw [ho]; rfl, ho1, fun h => by rw [ho] at h; exact absurd h (by decide)⟩
theorem eff3 (hM : MachIs w g L) (r : Rep L vs zs st (p + 1)) (v : CfV vs zs st p) (hf : fitB 3 (st.length : Int) = true) :
    Calls Tryd.prog (efB 3) #[.pointer (some ⟨g, 0, none⟩), .int .i64 a] w (EffQ 3 a vs zs st p g w) := by
  have hfp := fitB_parts hf
  have hls := v.ls
  obtain ⟨k, hk⟩ : ∃ k, st.length = k + 2 := ⟨st.length - 2, by have := hfp.1; simp [popB] at this; omega⟩
  have hx := r.top2 hk (op := 3) (by decide)
  have hy := r.und hk (op := 3) rfl
  have kx : wideP (topR 3 st) := v.ws _ (topR_mem (by decide) hfp.1)
  have ky : wideP (undR 3 st) := v.ws _ (by unfold undR; rw [if_pos (by decide)]; exact mem_getD (by omega))
  refine (add_c g a L k (topR 3 st) (undR 3 st) w hM (r.h2 hk) (by omega) hx hy kx ky).mono ?_
  rintro e w' ⟨rfl, hM1, ho1⟩
  by_cases hw : wideP (topR 3 st + undR 3 st)
  · have ho : outO 3 a st = 0 := outO_ok (by decide) (by unfold cellStop; simp) (by unfold rangeStop; simp [hw]) (by simp)
    refine ⟨by rw [ho, pushR_yes (wideB_of hw)], ho1, fun _ => ?_⟩
    obtain ⟨L', k1, k2⟩ := popped_rep hM1 r (by omega) (by omega) hls hw
    refine ⟨L', k1, ?_⟩
    have e1 : stO 3 a vs zs st = st.take k ++ [topR 3 st + undR 3 st] := by unfold stO; rw [if_pos (by decide), restR_2 hk rfl]; rfl
    rw [e1]
    exact k2
  · have ho : outO 3 a st = 4 := by unfold outO; rw [if_neg (by decide), if_neg (by unfold cellStop; simp), if_pos (by unfold rangeStop; simp [hw])]
    exact ⟨by rw [ho, pushR_no (wideB_not hw)], ho1, fun h => by rw [ho] at h; exact absurd h (by decide)⟩
theorem eff5 (hM : MachIs w g L) (r : Rep L vs zs st (p + 1)) (v : CfV vs zs st p) :
    Calls Tryd.prog (efB 5) #[.pointer (some ⟨g, 0, none⟩), .int .i64 a] w (EffQ 5 a vs zs st p g w) := by
  have ho : outO 5 a st = 0 := outO_ok (by decide) (by unfold cellStop; simp) (by unfold rangeStop; simp) (by simp)
  refine (jump_c g a L w hM).mono ?_
  rintro e w' ⟨rfl, hM1, ho1⟩
  refine ⟨by rw [ho], ho1, fun _ => ⟨_, hM1, ?_⟩⟩
  have e1 : stO 5 a vs zs st = st := by unfold stO; rw [if_neg (by decide), restR_0 rfl]
  rw [e1]
  exact r.place a v.ls
theorem eff6 (hM : MachIs w g L) (r : Rep L vs zs st (p + 1)) (v : CfV vs zs st p) (hf : fitB 6 (st.length : Int) = true) :
    Calls Tryd.prog (efB 6) #[.pointer (some ⟨g, 0, none⟩), .int .i64 a] w (EffQ 6 a vs zs st p g w) := by
  have hfp := fitB_parts hf
  have hls := v.ls
  obtain ⟨k, hk⟩ : ∃ k, st.length = k + 1 := ⟨st.length - 1, by have := hfp.1; simp [popB] at this; omega⟩
  have hx := r.top hk (op := 6) (by decide)
  have ho : outO 6 a st = 0 := outO_ok (by decide) (by unfold cellStop; simp) (by unfold rangeStop; simp) (by simp)
  have e1 : stO 6 a vs zs st = st.take k := by unfold stO; rw [if_neg (by decide), restR_1 hk rfl]
  have hl : (st.take k).length = k := by rw [List.length_take]; omega
  by_cases hn : topR 6 st < 0
  · refine (test_yes g a L k (topR 6 st) w hM (r.h1 hk) (by omega) hx hn).mono ?_
    rintro e w' ⟨rfl, hM1, ho1⟩
    refine ⟨by rw [ho], ho1, fun _ => ⟨_, hM1, ?_⟩⟩
    have e2 : atO 6 a st p = a := if_pos (.inr ⟨rfl, hn⟩)
    rw [e1, e2]
    exact (r.pop k (by omega) hls).place a (by omega)
  · refine (test_no g a L k (topR 6 st) w hM (r.h1 hk) (by omega) hx hn).mono ?_
    rintro e w' ⟨rfl, hM1, ho1⟩
    refine ⟨by rw [ho], ho1, fun _ => ⟨_, hM1, ?_⟩⟩
    have e2 : atO 6 a st p = p + 1 := if_neg (by simp [hn])
    rw [e1, e2]
    exact r.pop k (by omega) hls
theorem eff7 (hM : MachIs w g L) (r : Rep L vs zs st (p + 1)) (v : CfV vs zs st p) (hf : fitB 7 (st.length : Int) = true) :
    Calls Tryd.prog (efB 7) #[.pointer (some ⟨g, 0, none⟩), .int .i64 a] w (EffQ 7 a vs zs st p g w) := by
  have hfp := fitB_parts hf
  have hls := v.ls
  have hz := v.lz
  obtain ⟨k, hk⟩ : ∃ k, st.length = k + 1 := ⟨st.length - 1, by have := hfp.1; simp [popB] at this; omega⟩
  have hx := r.top hk (op := 7) (by decide)
  by_cases hn : 0 ≤ topR 7 st ∧ topR 7 st ≤ 7
  · have hnc : ¬ cellStop 7 st := by unfold cellStop; simp; exact hn
    have ho : outO 7 a st = 0 := outO_ok (by decide) hnc (by unfold rangeStop; simp) (by simp)
    obtain ⟨i, hti⟩ : ∃ i : Nat, topR 7 st = i := ⟨(topR 7 st).toNat, by omega⟩
    have hi7 : i ≤ 7 := by omega
    have hy : L[4 + i]? = some (zs.getD i 0) := by rw [r.z i (by omega)]; exact some_getD (by omega)
    have hw : wideP (zs.getD i 0) := int_wide (v.iz _ (mem_getD (by omega)))
    refine (get_yes g a L k i (zs.getD i 0) w hM (r.h1 hk) (by omega) (by rw [hx, hti]) hi7 hy).mono ?_
    rintro e w' ⟨rfl, hM1, ho1⟩
    refine ⟨by rw [ho, pushR_yes (wideB_of hw)], ho1, fun _ => ?_⟩
    obtain ⟨L', k1, k2⟩ := popped_rep hM1 r (by omega) (by omega) hls hw
    refine ⟨L', k1, ?_⟩
    have e1 : stO 7 a vs zs st = st.take k ++ [zs.getD i 0] := by
      unfold stO; rw [if_pos (by decide), restR_1 hk rfl]
      have : newO 7 a vs zs st = zs.getD (topR 7 st).toNat 0 := rfl
      rw [this, hti]; rfl
    rw [e1]
    exact k2
  · have hc : cellStop 7 st := .inl ⟨rfl, hn⟩
    have ho : outO 7 a st = 2 := by unfold outO; rw [if_neg (by decide), if_pos hc]
    refine (get_no g a L k (topR 7 st) w hM (r.h1 hk) (by omega) hx (by
      cases e : (decide (0 ≤ topR 7 st) && decide (topR 7 st ≤ 7)) with
      | false => rfl
      | true => simp at e; exact absurd ⟨e.1, e.2⟩ hn)).mono ?_
    rintro e w' ⟨rfl, hM1, ho1⟩
    exact ⟨by rw [ho], ho1, fun h => by rw [ho] at h; exact absurd h (by decide)⟩
theorem eff8 (hM : MachIs w g L) (r : Rep L vs zs st (p + 1)) (v : CfV vs zs st p) (hf : fitB 8 (st.length : Int) = true) :
    Calls Tryd.prog (efB 8) #[.pointer (some ⟨g, 0, none⟩), .int .i64 a] w (EffQ 8 a vs zs st p g w) := by
  have hfp := fitB_parts hf
  have hls := v.ls
  have hz := v.lz
  obtain ⟨k, hk⟩ : ∃ k, st.length = k + 2 := ⟨st.length - 2, by have := hfp.1; simp [popB] at this; omega⟩
  have hx := r.top2 hk (op := 8) (by decide)
  have hy := r.und hk (op := 8) rfl
  by_cases hn : 0 ≤ undR 8 st ∧ undR 8 st ≤ 7
  · have hnc : ¬ cellStop 8 st := by unfold cellStop; simp; exact hn
    obtain ⟨i, hti⟩ : ∃ i : Nat, undR 8 st = i := ⟨(undR 8 st).toNat, by omega⟩
    by_cases hin : intP (topR 8 st)
    · have ho : outO 8 a st = 0 := outO_ok (by decide) hnc (by unfold rangeStop; simp [hin]) (by simp)
      refine (put_yes g a L k (topR 8 st) i w hM (r.h2 hk) (by omega) hx (by rw [hy, hti]) (by omega) (by simp [hin.1, hin.2])).mono ?_
      rintro e w' ⟨rfl, hM1, ho1⟩
      refine ⟨by rw [ho], ho1, fun _ => ⟨_, hM1, ?_⟩⟩
      have e1 : stO 8 a vs zs st = st.take k := by unfold stO; rw [if_neg (by decide), restR_2 hk rfl]
      have e2 : cellsO 8 zs st = zs.set i (topR 8 st) := by unfold cellsO; rw [if_pos rfl, hti]; rfl
      rw [e1, e2]
      exact (r.pop k (by omega) hls).cell i (topR 8 st) (by omega) v.lz
    · have ho : outO 8 a st = 4 := by unfold outO; rw [if_neg (by decide), if_neg hnc, if_pos (by unfold rangeStop; simp [hin])]
      refine (put_int g a L k (topR 8 st) i w hM (r.h2 hk) (by omega) hx (by rw [hy, hti]) (by omega) (by
        cases e : (decide (-1000000000 ≤ topR 8 st) && decide (topR 8 st ≤ 1000000000)) with
        | false => rfl
        | true => simp at e; exact absurd ⟨e.1, e.2⟩ hin)).mono ?_
      rintro e w' ⟨rfl, hM1, ho1⟩
      exact ⟨by rw [ho], ho1, fun h => by rw [ho] at h; exact absurd h (by decide)⟩
  · have hc : cellStop 8 st := .inr ⟨rfl, hn⟩
    have ho : outO 8 a st = 2 := by unfold outO; rw [if_neg (by decide), if_pos hc]
    refine (put_cell g a L k (topR 8 st) (undR 8 st) w hM (r.h2 hk) (by omega) hx hy (by
      cases e : (decide (0 ≤ undR 8 st) && decide (undR 8 st ≤ 7)) with
      | false => rfl
      | true => simp at e; exact absurd ⟨e.1, e.2⟩ hn)).mono ?_
    rintro e w' ⟨rfl, hM1, ho1⟩
    exact ⟨by rw [ho], ho1, fun h => by rw [ho] at h; exact absurd h (by decide)⟩
theorem eff9 (hM : MachIs w g L) (r : Rep L vs zs st (p + 1)) :
    Calls Tryd.prog (efB 9) #[.pointer (some ⟨g, 0, none⟩), .int .i64 a] w (EffQ 9 a vs zs st p g w) := by
  have ho : outO 9 a st = 0 := outO_ok (by decide) (by unfold cellStop; simp) (by unfold rangeStop; simp) (by simp)
  refine (emit_c g a L w hM).mono ?_
  rintro e w' ⟨rfl, hM1, ho1⟩
  refine ⟨by rw [ho], ho1, fun _ => ⟨_, hM1, ?_⟩⟩
  have e1 : stO 9 a vs zs st = st := by unfold stO; rw [if_neg (by decide), restR_0 rfl]
  rw [e1]
  exact r
theorem eff10 (hM : MachIs w g L) (r : Rep L vs zs st (p + 1)) (v : CfV vs zs st p) (hf : fitB 10 (st.length : Int) = true) :
    Calls Tryd.prog (efB 10) #[.pointer (some ⟨g, 0, none⟩), .int .i64 a] w (EffQ 10 a vs zs st p g w) := by
  have hfp := fitB_parts hf
  have hls := v.ls
  obtain ⟨k, hk⟩ : ∃ k, st.length = k + 1 := ⟨st.length - 1, by have := hfp.1; simp [popB] at this; omega⟩
  have hx := r.top hk (op := 10) (by decide)
  by_cases hn : topR 10 st < 0
  · have ho : outO 10 a st = 3 := by unfold outO; rw [if_neg (by decide), if_neg (by unfold cellStop; simp), if_neg (by unfold rangeStop; simp), if_pos ⟨rfl, hn⟩]
    refine (check_yes g a L k (topR 10 st) w hM (r.h1 hk) (by omega) hx hn).mono ?_
    rintro e w' ⟨rfl, hM1, ho1⟩
    exact ⟨by rw [ho], ho1, fun h => by rw [ho] at h; exact absurd h (by decide)⟩
  · have ho : outO 10 a st = 0 := outO_ok (by decide) (by unfold cellStop; simp) (by unfold rangeStop; simp) (by simp; omega)
    refine (check_no g a L k (topR 10 st) w hM (r.h1 hk) (by omega) hx hn).mono ?_
    rintro e w' ⟨rfl, hM1, ho1⟩
    refine ⟨by rw [ho], ho1, fun _ => ⟨_, hM1, ?_⟩⟩
    have e1 : stO 10 a vs zs st = st.take k := by unfold stO; rw [if_neg (by decide), restR_1 hk rfl]
    rw [e1]
    exact r.pop k (by omega) hls
theorem eff11 (hM : MachIs w g L) :
    Calls Tryd.prog (efB 11) #[.pointer (some ⟨g, 0, none⟩), .int .i64 a] w (EffQ 11 a vs zs st p g w) := by
  have ho : outO 11 a st = 6 := by unfold outO; rw [if_pos rfl]
  refine (halt_c g a L w hM).mono ?_
  rintro e w' ⟨rfl, hM1, ho1⟩
  exact ⟨by rw [ho], ho1, fun h => by rw [ho] at h; exact absurd h (by decide)⟩
theorem eff4 (hM : MachIs w g L) (r : Rep L vs zs st (p + 1)) (v : CfV vs zs st p) (hf : fitB 4 (st.length : Int) = true) (hi : instrB 4 a = true) :
    Calls Tryd.prog (efB 4) #[.pointer (some ⟨g, 0, none⟩), .int .i64 a] w (EffQ 4 a vs zs st p g w) := by
  have hfp := fitB_parts hf
  have hii := (instrB_parts hi).2.2
  simp [loB, hiB] at hii
  have hls := v.ls
  obtain ⟨k, hk⟩ : ∃ k, st.length = k + 1 := ⟨st.length - 1, by have := hfp.1; simp [popB] at this; omega⟩
  have hx := r.top hk (op := 4) (by decide)
  have kx : wideP (topR 4 st) := v.ws _ (topR_mem (by decide) hfp.1)
  have en : newO 4 a vs zs st = topR 4 st * a := rfl
  have e1 : stO 4 a vs zs st = st.take k ++ [topR 4 st * a] := by unfold stO; rw [if_pos (by decide), restR_1 hk rfl, en]
  -- what is left when the product is near
  have near : ¬ farR (topR 4 st) a → wideP (topR 4 st * a) := fun hnf => by
    have ho : outO 4 a st = 0 := outO_ok (by decide) (by unfold cellStop; simp) (by unfold rangeStop; simp [hnf]) (by simp)
    by_cases hp : p < 80
    · have := (v.step hi hf ho hp).ws (topR 4 st * a) (by rw [e1]; simp)
      exact this
    · have v' : CfV vs zs st 0 := ⟨v.lv, v.lz, v.ls, v.iv, v.iz, v.ws, by omega, by omega⟩
      have := (v'.step hi hf ho (by omega)).ws (topR 4 st * a) (by rw [e1]; simp)
      exact this
  have fin : ∀ {w' : World}, ¬ farR (topR 4 st) a → MachIs w' g (pushR k (topR 4 st * a) (L.set 18 (k : Int))).1 → Out g (g + 1) w w' → EffQ 4 a vs zs st p g w (.returned (.int .i64 (pushR k (topR 4 st * a) (L.set 18 (k : Int))).2)) w' := by
    intro w' hnf hM1 ho1
    have ho : outO 4 a st = 0 := outO_ok (by decide) (by unfold cellStop; simp) (by unfold rangeStop; simp [hnf]) (by simp)
    have hw := near hnf
    refine ⟨by rw [ho, pushR_yes (wideB_of hw)], ho1, fun _ => ?_⟩
    obtain ⟨L', k1, k2⟩ := popped_rep hM1 r (by omega) (by omega) hls hw
    refine ⟨L', k1, ?_⟩
    rw [e1]
    exact k2
  have finF : ∀ {w' : World}, farR (topR 4 st) a → Out g (g + 1) w w' → EffQ 4 a vs zs st p g w (.returned (.int .i64 4)) w' := by
    intro w' hfr ho1
    have ho : outO 4 a st = 4 := by unfold outO; rw [if_neg (by decide), if_neg (by unfold cellStop; simp), if_pos (by unfold rangeStop; simp [hfr])]
    exact ⟨by rw [ho], ho1, fun h => by rw [ho] at h; exact absurd h (by decide)⟩
  have wr : ¬ farR (topR 4 st) a → wrap64 (topR 4 st * a) = topR 4 st * a := fun h => by
    have hn := near h
    exact IntWalk.wrap64_in (topR 4 st * a) ⟨by have := hn.1; omega, by have := hn.2; omega⟩
  generalize topR 4 st = t at *
  by_cases ha0 : a = 0
  · subst ha0
    have hnf : ¬ farR t 0 := fun h => h.1 rfl
    refine (scale_zero g L k t w hM (r.h1 hk) (by omega) hx).mono ?_
    rintro e w' ⟨rfl, hM1, ho1⟩
    have := fin hnf (by rw [Int.mul_zero]; exact hM1) ho1
    rw [Int.mul_zero] at this
    exact this
  · have d1 : (a != 0) = true := by simp; omega
    have wx : IntKind.i64.wrap (-t) = -t := IntWalk.i64_in _ ⟨by have := kx.2; omega, by have := kx.1; omega⟩
    have wa : IntKind.i64.wrap (-a) = -a := IntWalk.i64_in _ (by omega)
    by_cases ht : 0 ≤ t
    · have at_ : absR t = t := by unfold absR; split <;> omega
      by_cases hap : 0 < a
      · have aa : absR a = a := by unfold absR; split <;> omega
        have wq : IntKind.i64.wrap ((10000000000000000 : Int).tdiv a) = 10000000000000000 / a := IntWalk.i64_quo _ _ (by omega)
        by_cases hfr : farR t a
        · have hfl : 10000000000000000 / a < t := by have := hfr.2; rw [at_, aa] at this; omega
          refine (scale_far_pp g L k t (-t) a (-a) _ w hM (r.h1 hk) (by omega) hx wx (by omega) d1 ha0 (by omega) wa (by omega) wq hfl).mono ?_
          rintro e w' ⟨rfl, hM1, ho1⟩
          exact finF hfr ho1
        · have hfl : ¬ 10000000000000000 / a < t := fun h => hfr ⟨ha0, by rw [at_, aa]; omega⟩
          refine (scale_near_pp g L k t (-t) a (-a) _ w hM (r.h1 hk) (by omega) hx wx (by omega) d1 ha0 (by omega) wa (by omega) wq _ hfl (wr hfr)).mono ?_
          rintro e w' ⟨rfl, hM1, ho1⟩
          exact fin hfr hM1 ho1
      · have aa : absR a = (-a) := by unfold absR; split <;> omega
        have wq : IntKind.i64.wrap ((10000000000000000 : Int).tdiv (-a)) = 10000000000000000 / (-a) := IntWalk.i64_quo _ _ (by omega)
        by_cases hfr : farR t a
        · have hfl : 10000000000000000 / (-a) < t := by have := hfr.2; rw [at_, aa] at this; omega
          refine (scale_far_pn g L k t (-t) a (-a) _ w hM (r.h1 hk) (by omega) hx wx (by omega) d1 ha0 (by omega) wa (by simp; omega) (by omega) (by omega) (by omega) wq hfl).mono ?_
          rintro e w' ⟨rfl, hM1, ho1⟩
          exact finF hfr ho1
        · have hfl : ¬ 10000000000000000 / (-a) < t := fun h => hfr ⟨ha0, by rw [at_, aa]; omega⟩
          refine (scale_near_pn g L k t (-t) a (-a) _ w hM (r.h1 hk) (by omega) hx wx (by omega) d1 ha0 (by omega) wa (by simp; omega) (by omega) (by omega) (by omega) wq _ hfl (wr hfr)).mono ?_
          rintro e w' ⟨rfl, hM1, ho1⟩
          exact fin hfr hM1 ho1
    · have at_ : absR t = -t := by unfold absR; split <;> omega
      by_cases hap : 0 < a
      · have aa : absR a = a := by unfold absR; split <;> omega
        have wq : IntKind.i64.wrap ((10000000000000000 : Int).tdiv a) = 10000000000000000 / a := IntWalk.i64_quo _ _ (by omega)
        by_cases hfr : farR t a
        · have hfl : 10000000000000000 / a < (-t) := by have := hfr.2; rw [at_, aa] at this; omega
          refine (scale_far_np g L k t (-t) a (-a) _ w hM (r.h1 hk) (by omega) hx wx (by omega) (by omega) (by omega) d1 ha0 (by omega) wa (by omega) wq hfl).mono ?_
          rintro e w' ⟨rfl, hM1, ho1⟩
          exact finF hfr ho1
        · have hfl : ¬ 10000000000000000 / a < (-t) := fun h => hfr ⟨ha0, by rw [at_, aa]; omega⟩
          refine (scale_near_np g L k t (-t) a (-a) _ w hM (r.h1 hk) (by omega) hx wx (by omega) (by omega) (by omega) d1 ha0 (by omega) wa (by omega) wq _ hfl (wr hfr)).mono ?_
          rintro e w' ⟨rfl, hM1, ho1⟩
          exact fin hfr hM1 ho1
      · have aa : absR a = (-a) := by unfold absR; split <;> omega
        have wq : IntKind.i64.wrap ((10000000000000000 : Int).tdiv (-a)) = 10000000000000000 / (-a) := IntWalk.i64_quo _ _ (by omega)
        by_cases hfr : farR t a
        · have hfl : 10000000000000000 / (-a) < (-t) := by have := hfr.2; rw [at_, aa] at this; omega
          refine (scale_far_nn g L k t (-t) a (-a) _ w hM (r.h1 hk) (by omega) hx wx (by omega) (by omega) (by omega) d1 ha0 (by omega) wa (by simp; omega) (by omega) (by omega) (by omega) wq hfl).mono ?_
          rintro e w' ⟨rfl, hM1, ho1⟩
          exact finF hfr ho1
        · have hfl : ¬ 10000000000000000 / (-a) < (-t) := fun h => hfr ⟨ha0, by rw [at_, aa]; omega⟩
          refine (scale_near_nn g L k t (-t) a (-a) _ w hM (r.h1 hk) (by omega) hx wx (by omega) (by omega) (by omega) d1 ha0 (by omega) wa (by simp; omega) (by omega) (by omega) (by omega) wq _ hfl (wr hfr)).mono ?_
          rintro e w' ⟨rfl, hM1, ho1⟩
          exact fin hfr hM1 ho1
end
theorem eff_c {L vs zs st : List Int} {p a op : Int} {g : Nat} {w : World} (hM : MachIs w g L) (r : Rep L vs zs st (p + 1)) (v : CfV vs zs st p) (hf : fitB op (st.length : Int) = true) (hi : instrB op a = true) :
    Calls Tryd.prog (efB op) #[.pointer (some ⟨g, 0, none⟩), .int .i64 a] w (EffQ op a vs zs st p g w) := by
  rcases instrB_cases hi with rfl | rfl | rfl | rfl | rfl | rfl | rfl | rfl | rfl | rfl | rfl | rfl
  · exact eff0 hM r v hf hi
  · exact eff1 hM r v hf hi
  · exact eff2 hM r v hf hi
  · exact eff3 hM r v hf
  · exact eff4 hM r v hf hi
  · exact eff5 hM r v
  · exact eff6 hM r v hf
  · exact eff7 hM r v hf
  · exact eff8 hM r v hf
  · exact eff9 hM r
  · exact eff10 hM r v hf
  · exact eff11 hM
end Go.Proofs.YtffkdidgfeknkaaDoor
