/-
  Heights over code: what every good list of heights agrees with, and the search that finds the least one. No conditions.
-/
import Derived.Test.YtdmcpabpjhinhaaDoorReachP
namespace Go.Proofs.YtdmcpabpjhinhaaDoor
set_option linter.unusedVariables false
open Go.RowKit

def opN (xs : List (Int × Int)) (k : Nat) : Int := (xs.getD k (0, 0)).1
/-- The height behind an instruction. -/
def hgB (xs : List (Int × Int)) (k : Nat) (h : Int) : Int := h - popB (opN xs k) + pushB (opN xs k)
def fitH (xs : List (Int × Int)) (k : Nat) (h : Int) : Prop := 0 ≤ h - popB (opN xs k) ∧ hgB xs k h ≤ 6
theorem pushB_ge (op : Int) : 0 ≤ pushB op := by unfold pushB; split <;> omega
theorem fitH.ge {xs : List (Int × Int)} {k : Nat} {h : Int} (f : fitH xs k h) : 0 ≤ hgB xs k h := by
  have h1 := f.1
  have h2 := pushB_ge (opN xs k)
  unfold hgB; omega
structure GoodH (xs : List (Int × Int)) (K : List Int) : Prop where
  len : K.length = xs.length
  zero : K[0]? = some 0
  low : ∀ z ∈ K, -1 ≤ z
  step : ∀ (k : Nat) (h : Int), K[k]? = some h → 0 ≤ h → fitH xs k h ∧ ∀ t ∈ tgtN xs k, t < xs.length ∧ K[t.toNat]? = some (hgB xs k h)
/-- Where L has a height, every good list has the same. -/
def Under (xs : List (Int × Int)) (L : List Int) : Prop := ∀ K : List Int, GoodH xs K → ∀ (k : Nat) (h : Int), L[k]? = some h → 0 ≤ h → K[k]? = some h
structure LeastH (xs : List (Int × Int)) (L : List Int) : Prop where
  good : GoodH xs L
  under : Under xs L
theorem LeastH.uniq {xs : List (Int × Int)} {L M : List Int} (h : LeastH xs L) (h' : LeastH xs M) : L = M := by
  apply List.ext_getElem?
  intro k
  rcases Nat.lt_or_ge k xs.length with hk | hk
  · obtain ⟨a, ha⟩ : ∃ a, L[k]? = some a := ⟨_, List.getElem?_eq_getElem (by rw [h.good.len]; exact hk)⟩
    obtain ⟨b, hb⟩ : ∃ b, M[k]? = some b := ⟨_, List.getElem?_eq_getElem (by rw [h'.good.len]; exact hk)⟩
    have a1 := h.good.low a (List.mem_of_getElem? ha)
    have b1 := h'.good.low b (List.mem_of_getElem? hb)
    by_cases a0 : 0 ≤ a
    · rw [ha, h.under M h'.good k a ha a0]
    · by_cases b0 : 0 ≤ b
      · rw [hb, h'.under L h.good k b hb b0]
      · rw [ha, hb, show a = b by omega]
  · rw [List.getElem?_eq_none (by rw [h.good.len]; exact hk), List.getElem?_eq_none (by rw [h'.good.len]; exact hk)]
/-- What StackHeights gives. -/
noncomputable def hgtR (xs : List (Int × Int)) : List Int × Bool := open Classical in if h : codeB xs = true ∧ ∃ L, LeastH xs L then (Classical.choose h.2, true) else ([], false)
theorem hgtR_yes {xs : List (Int × Int)} {L : List Int} (hc : codeB xs = true) (h : LeastH xs L) : hgtR xs = (L, true) := by
  have he : codeB xs = true ∧ ∃ L, LeastH xs L := ⟨hc, L, h⟩
  unfold hgtR
  rw [dif_pos he, (Classical.choose_spec he.2).uniq h]
theorem hgtR_no {xs : List (Int × Int)} (h : ∀ K, ¬ GoodH xs K) : hgtR xs = ([], false) := by
  unfold hgtR
  rw [dif_neg (fun e => by obtain ⟨_, L, hL⟩ := e; exact h L hL.good)]
theorem hgtR_bad {xs : List (Int × Int)} (h : codeB xs = false) : hgtR xs = ([], false) := by
  unfold hgtR
  rw [dif_neg (fun e => by rw [h] at e; cases e.1)]

/-! The model's search. -/
def negN (L : List Int) : Nat := (L.filter fun z => decide (z < 0)).length
theorem negN_set : ∀ {L : List Int} {k : Nat} {a b : Int}, L[k]? = some a → a < 0 → 0 ≤ b → negN (L.set k b) + 1 = negN L
  | [], k, a, b, h, _, _ => by simp at h
  | z :: L, 0, a, b, h, ha, hb => by
    have e : z = a := by simpa using h
    subst e
    unfold negN
    rw [List.set_cons_zero, List.filter_cons_of_neg (by simp; omega), List.filter_cons_of_pos (by simp; omega)]
    simp
  | z :: L, k + 1, a, b, h, ha, hb => by
    have h' : L[k]? = some a := by simpa using h
    have ih := negN_set h' ha hb
    unfold negN at ih ⊢
    rw [List.set_cons_succ, List.filter_cons, List.filter_cons]
    split
    · rw [List.length_cons, List.length_cons]; omega
    · exact ih
theorem negN_le (L : List Int) : negN L ≤ L.length := List.length_filter_le _ _
/-- Between two places of the queue. -/
structure SrchH (xs : List (Int × Int)) (out q : List Int) : Prop where
  len : out.length = xs.length
  zero : out[0]? = some 0
  low : ∀ z ∈ out, -1 ≤ z
  under : Under xs out
  inq : ∀ t ∈ q, 0 ≤ t ∧ t < xs.length ∧ ∃ h, out[t.toNat]? = some h ∧ 0 ≤ h
  done : ∀ (k : Nat) (h : Int), out[k]? = some h → 0 ≤ h → (k : Int) ∉ q → fitH xs k h ∧ ∀ t ∈ tgtN xs k, t < xs.length ∧ out[t.toNat]? = some (hgB xs k h)
/-- Within the targets of a place. -/
structure SrchT (xs : List (Int × Int)) (out q : List Int) (k : Nat) (h : Int) (i : Nat) : Prop where
  len : out.length = xs.length
  zero : out[0]? = some 0
  low : ∀ z ∈ out, -1 ≤ z
  under : Under xs out
  inq : ∀ t ∈ q, 0 ≤ t ∧ t < xs.length ∧ ∃ h, out[t.toNat]? = some h ∧ 0 ≤ h
  done : ∀ (j : Nat) (g : Int), out[j]? = some g → 0 ≤ g → (j : Int) ∉ q → j ≠ k → fitH xs j g ∧ ∀ t ∈ tgtN xs j, t < xs.length ∧ out[t.toNat]? = some (hgB xs j g)
  cur : out[k]? = some h
  pos : 0 ≤ h
  fit : fitH xs k h
  part : ∀ t ∈ (tgtN xs k).take i, t < xs.length ∧ out[t.toNat]? = some (hgB xs k h)
section
variable {xs : List (Int × Int)} {out q : List Int} {k i : Nat} {h : Int}
theorem SrchH.init (hn : 1 ≤ xs.length) : SrchH xs ((List.replicate xs.length (-1 : Int)).set 0 0) [0] := by
  have hz : ((List.replicate xs.length (-1 : Int)).set 0 0)[0]? = some 0 := by rw [List.getElem?_set_self (by rw [List.length_replicate]; omega)]
  have hw : ∀ (j : Nat) (g : Int), ((List.replicate xs.length (-1 : Int)).set 0 0)[j]? = some g → 0 ≤ g → j = 0 := fun j g hj hg => by
    rcases Nat.eq_zero_or_pos j with e | e
    · exact e
    · rw [List.getElem?_set_ne (by omega)] at hj
      have := List.eq_of_mem_replicate (List.mem_of_getElem? hj)
      omega
  refine ⟨by simp, hz, fun z hz => ?_, fun K hK j g hj hg => ?_, fun t ht => ?_, fun j g hj hg hq => ?_⟩
  · rcases List.mem_or_eq_of_mem_set hz with e | rfl
    · rw [List.eq_of_mem_replicate e]; omega
    · omega
  · obtain rfl := hw j g hj hg
    rw [hz] at hj
    rw [← hj]; exact hK.zero
  · obtain rfl := List.mem_singleton.1 ht
    exact ⟨by omega, by omega, 0, hz, by omega⟩
  · obtain rfl := hw j g hj hg
    exact absurd (List.mem_singleton.2 rfl) hq
/-- A place is taken from the queue. -/
theorem SrchH.take (s : SrchH xs out ((k : Int) :: q)) (hk : out[k]? = some h) (h0 : 0 ≤ h) (hf : fitH xs k h) : SrchT xs out q k h 0 :=
  ⟨s.len, s.zero, s.low, s.under, fun t ht => s.inq t (List.mem_cons_of_mem _ ht), fun j g hj hg hq hne => s.done j g hj hg (fun e => by
    rcases List.mem_cons.1 e with e | e
    · exact hne (by omega)
    · exact hq e), hk, h0, hf, fun t ht => by cases ht⟩
theorem SrchH.unfit (s : SrchH xs out q) (hk : out[k]? = some h) (h0 : 0 ≤ h) (hf : ¬ fitH xs k h) : ∀ K, ¬ GoodH xs K :=
  fun K hK => hf (hK.step k h (s.under K hK k h hk h0) h0).1
theorem SrchT.good (s : SrchT xs out q k h i) {K : List Int} (hK : GoodH xs K) {t : Int} (ht : t ∈ tgtN xs k) : t < xs.length ∧ K[t.toNat]? = some (hgB xs k h) :=
  (hK.step k h (s.under K hK k h s.cur s.pos) s.pos).2 t ht
/-- A target that has the height already. -/
theorem SrchT.skip (s : SrchT xs out q k h i) {t : Int} (ht : (tgtN xs k)[i]? = some t) (hl : t < xs.length) (he : out[t.toNat]? = some (hgB xs k h)) : SrchT xs out q k h (i + 1) :=
  ⟨s.len, s.zero, s.low, s.under, s.inq, s.done, s.cur, s.pos, s.fit, fun u hu => by
    rw [List.take_add_one, ht] at hu
    rcases List.mem_append.1 hu with e | e
    · exact s.part u e
    · have : u = t := by simpa using e
      subst this; exact ⟨hl, he⟩⟩
/-- A target without a height gets one, and is appended. -/
theorem SrchT.put (s : SrchT xs out q k h i) {t a : Int} (ht : (tgtN xs k)[i]? = some t) (h0 : 0 ≤ t) (hl : t < xs.length) (he : out[t.toNat]? = some a) (ha : a < 0) : SrchT xs (out.set t.toNat (hgB xs k h)) (q ++ [t]) k h (i + 1) := by
  have hge := s.fit.ge
  have hlt : t.toNat < out.length := (List.getElem?_eq_some_iff.1 he).1
  have hself : (out.set t.toNat (hgB xs k h))[t.toNat]? = some (hgB xs k h) := List.getElem?_set_self hlt
  have hkeep : ∀ (j : Nat) (g : Int), out[j]? = some g → 0 ≤ g → (out.set t.toNat (hgB xs k h))[j]? = some g := fun j g hj hg => by
    rw [List.getElem?_set_ne (fun e => by rw [e] at he; rw [he] at hj; have := Option.some.inj hj; omega)]; exact hj
  refine ⟨by rw [List.length_set]; exact s.len, hkeep 0 0 s.zero (Int.le_refl _), fun z hz => ?_, fun K hK j g hj hg => ?_, fun u hu => ?_, fun j g hj hg hq hne => ?_, hkeep k h s.cur s.pos, s.pos, s.fit, fun u hu => ?_⟩
  · rcases List.mem_or_eq_of_mem_set hz with e | rfl
    · exact s.low z e
    · omega
  · by_cases e : t.toNat = j
    · subst e
      rw [hself] at hj
      rw [← hj]; exact (s.good hK (List.mem_of_getElem? ht)).2
    · rw [List.getElem?_set_ne e] at hj
      exact s.under K hK j g hj hg
  · rcases List.mem_append.1 hu with e | e
    · obtain ⟨a1, a2, g, a3, a4⟩ := s.inq u e
      exact ⟨a1, a2, g, hkeep _ g a3 a4, a4⟩
    · obtain rfl := List.mem_singleton.1 e
      exact ⟨h0, hl, _, hself, hge⟩
  · have hjt : t.toNat ≠ j := fun e => hq (List.mem_append_right _ (List.mem_singleton.2 (by omega)))
    rw [List.getElem?_set_ne hjt] at hj
    obtain ⟨f1, f2⟩ := s.done j g hj hg (fun e => hq (List.mem_append_left _ e)) hne
    exact ⟨f1, fun u hu => ⟨(f2 u hu).1, hkeep _ _ (f2 u hu).2 f1.ge⟩⟩
  · rw [List.take_add_one, ht] at hu
    rcases List.mem_append.1 hu with e | e
    · exact ⟨(s.part u e).1, hkeep _ _ (s.part u e).2 hge⟩
    · have : u = t := by simpa using e
      subst this; exact ⟨hl, hself⟩
theorem SrchT.far (s : SrchT xs out q k h i) {t : Int} (ht : (tgtN xs k)[i]? = some t) (hl : ¬ t < xs.length) : ∀ K, ¬ GoodH xs K :=
  fun K hK => hl (s.good hK (List.mem_of_getElem? ht)).1
theorem SrchT.other (s : SrchT xs out q k h i) {t a : Int} (ht : (tgtN xs k)[i]? = some t) (he : out[t.toNat]? = some a) (ha : 0 ≤ a) (hne : a ≠ hgB xs k h) : ∀ K, ¬ GoodH xs K :=
  fun K hK => by
    have h1 := (s.good hK (List.mem_of_getElem? ht)).2
    rw [s.under K hK t.toNat a he ha] at h1
    exact hne (Option.some.inj h1)
theorem SrchT.all (s : SrchT xs out q k h i) (hi : (tgtN xs k).length ≤ i) : SrchH xs out q :=
  ⟨s.len, s.zero, s.low, s.under, s.inq, fun j g hj hg hq => by
    by_cases e : j = k
    · subst e
      have := s.cur
      rw [this] at hj
      obtain rfl := Option.some.inj hj
      exact ⟨s.fit, fun t ht => s.part t (by rw [List.take_of_length_le hi]; exact ht)⟩
    · exact s.done j g hj hg hq e⟩
theorem SrchH.least (s : SrchH xs out []) : LeastH xs out :=
  ⟨⟨s.len, s.zero, s.low, fun k h hk h0 => s.done k h hk h0 (by simp)⟩, s.under⟩
end

/-! The program's sweeps: a list that every good one agrees with, and that nothing changes any more. -/
theorem leastH_of {xs : List (Int × Int)} {L : List Int} (hl : L.length = xs.length) (h0 : L[0]? = some 0) (hlow : ∀ z ∈ L, -1 ≤ z) (hu : Under xs L)
    (hs : ∀ (k : Nat) (h : Int), L[k]? = some h → 0 ≤ h → fitH xs k h ∧ ∀ t ∈ tgtN xs k, t < xs.length ∧ L[t.toNat]? = some (hgB xs k h)) : LeastH xs L := ⟨⟨hl, h0, hlow, hs⟩, hu⟩
end Go.Proofs.YtdmcpabpjhinhaaDoor
