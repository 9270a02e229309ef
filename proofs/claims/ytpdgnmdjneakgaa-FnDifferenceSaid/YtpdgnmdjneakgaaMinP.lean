/-
  States that allow the same words of at most t events; the first of its like; when the likeness is settled. (pure) No conditions.
-/
import Derived.Test.YtpdgnmdjneakgaaUnfP
import Derived.Test.YtpdgnmdjneakgaaPolP
namespace Go.Proofs.Ytpdgnmdjneakgaa
set_option linter.unusedVariables false

/-- Two states allow the same words of at most t events. -/
def eqB (xs : List (List Int)) : Nat → Nat → Nat → Bool
  | 0, _, _ => true
  | t + 1, a, b => (List.range 4).all fun e => (decide (nxP xs a e < 0) == decide (nxP xs b e < 0)) && (decide (nxP xs a e < 0) || eqB xs t (nxP xs a e).toNat (nxP xs b e).toNat)
theorem eqB_succ {xs : List (List Int)} {t a b : Nat} : eqB xs (t + 1) a b = true ↔ ∀ e, e < 4 → (nxP xs a e < 0 ↔ nxP xs b e < 0) ∧ (¬ nxP xs a e < 0 → eqB xs t (nxP xs a e).toNat (nxP xs b e).toNat = true) := by
  rw [eqB, List.all_eq_true]
  constructor
  · intro h e he
    have := h e (List.mem_range.2 he)
    simp only [Bool.and_eq_true, beq_iff_eq, Bool.or_eq_true, decide_eq_true_eq, decide_eq_decide] at this
    exact ⟨this.1, fun hn => this.2.resolve_left hn⟩
  · intro h e he
    have := h e (List.mem_range.1 he)
    simp only [Bool.and_eq_true, beq_iff_eq, Bool.or_eq_true, decide_eq_true_eq, decide_eq_decide]
    exact ⟨this.1, by by_cases hn : nxP xs a e < 0; exact .inl hn; exact .inr (this.2 hn)⟩
theorem eqB_refl (xs : List (List Int)) : ∀ t a, eqB xs t a a = true
  | 0, _ => rfl
  | t + 1, a => eqB_succ.2 fun e _ => ⟨Iff.rfl, fun _ => eqB_refl xs t _⟩
theorem eqB_symm {xs : List (List Int)} : ∀ {t a b}, eqB xs t a b = true → eqB xs t b a = true
  | 0, _, _, _ => rfl
  | t + 1, a, b, h => eqB_succ.2 fun e he => ⟨((eqB_succ.1 h) e he).1.symm, fun hn => eqB_symm (((eqB_succ.1 h) e he).2 (fun h' => hn (((eqB_succ.1 h) e he).1.1 h')))⟩
theorem eqB_trans {xs : List (List Int)} : ∀ {t a b c}, eqB xs t a b = true → eqB xs t b c = true → eqB xs t a c = true
  | 0, _, _, _, _, _ => rfl
  | t + 1, a, b, c, h, h' => eqB_succ.2 fun e he => by
    obtain ⟨p, q⟩ := (eqB_succ.1 h) e he
    obtain ⟨p', q'⟩ := (eqB_succ.1 h') e he
    exact ⟨p.trans p', fun hn => eqB_trans (q hn) (q' (fun x => hn (p.2 x)))⟩
theorem eqB_comm (xs : List (List Int)) (t a b : Nat) : eqB xs t a b = eqB xs t b a := by
  rw [Bool.eq_iff_iff]; exact ⟨eqB_symm, eqB_symm⟩
theorem eqB_less {xs : List (List Int)} : ∀ {t a b}, eqB xs (t + 1) a b = true → eqB xs t a b = true
  | 0, _, _, _ => rfl
  | t + 1, a, b, h => eqB_succ.2 fun e he => ⟨((eqB_succ.1 h) e he).1, fun hn => eqB_less (((eqB_succ.1 h) e he).2 hn)⟩
theorem eqB_le {xs : List (List Int)} {t a b : Nat} : ∀ d, eqB xs (t + d) a b = true → eqB xs t a b = true
  | 0, h => h
  | d + 1, h => eqB_le d (eqB_less h)

/-- The first state of its like. -/
def fstB (xs : List (List Int)) (t s : Nat) : Bool := (List.range s).all fun r => !eqB xs t r s
theorem fstB_iff {xs : List (List Int)} {t s : Nat} : fstB xs t s = true ↔ ∀ r, r < s → eqB xs t r s = false := by
  unfold fstB
  rw [List.all_eq_true]
  exact ⟨fun h r hr => by simpa using h r (List.mem_range.2 hr), fun h r hr => by simpa using h r (List.mem_range.1 hr)⟩
theorem fstB_more {xs : List (List Int)} {t s : Nat} (h : fstB xs t s = true) : fstB xs (t + 1) s = true := fstB_iff.2 fun r hr => by
  cases e : eqB xs (t + 1) r s with
  | false => rfl
  | true => rw [← fstB_iff.1 h r hr, eqB_less e]
theorem fst_of {xs : List (List Int)} {t : Nat} : ∀ a, ∃ r, r ≤ a ∧ fstB xs t r = true ∧ eqB xs t r a = true := by
  intro a
  induction a using Nat.strongRecOn with
  | ind a ih =>
    cases h : fstB xs t a with
    | true => exact ⟨a, Nat.le_refl _, h, eqB_refl _ _ _⟩
    | false =>
      have : ¬ ∀ r, r < a → eqB xs t r a = false := fun k => by rw [fstB_iff.2 k] at h; cases h
      obtain ⟨r, hr⟩ := Classical.not_forall.1 this
      obtain ⟨hr, he⟩ := Classical.not_imp.1 hr
      have he : eqB xs t r a = true := by cases q : eqB xs t r a with | true => rfl | false => exact absurd q he
      obtain ⟨r', h1, h2, h3⟩ := ih r hr
      exact ⟨r', by omega, h2, eqB_trans h3 he⟩
theorem fst_uniq {xs : List (List Int)} {t r r' : Nat} (h : fstB xs t r = true) (h' : fstB xs t r' = true) (e : eqB xs t r r' = true) : r = r' := by
  rcases Nat.lt_trichotomy r r' with k | k | k
  · rw [fstB_iff.1 h' r k] at e; cases e
  · exact k
  · rw [eqB_comm, fstB_iff.1 h r' k] at e; cases e

/-- The first state that is like a. -/
def rep (xs : List (List Int)) (t a : Nat) : Nat := (List.range a).findIdx fun j => eqB xs t j a
theorem rep_is {xs : List (List Int)} {t a r : Nat} (hr : r ≤ a) (h : eqB xs t r a = true) (hf : ∀ j, j < r → eqB xs t j a = false) : rep xs t a = r := by
  unfold rep
  rcases Nat.lt_or_ge r a with k | k
  · rw [List.findIdx_eq (by simpa using k)]
    simp only [List.getElem_range]
    exact ⟨h, fun j hj => hf j hj⟩
  · obtain rfl : r = a := by omega
    rw [List.findIdx_eq_length_of_false (fun j hj => hf j (List.mem_range.1 hj)), List.length_range]
theorem rep_ok (xs : List (List Int)) (t a : Nat) : rep xs t a ≤ a ∧ eqB xs t (rep xs t a) a = true ∧ fstB xs t (rep xs t a) = true := by
  obtain ⟨r, h1, h2, h3⟩ := fst_of (xs := xs) (t := t) a
  have : rep xs t a = r := rep_is h1 h3 fun j hj => by
    cases e : eqB xs t j a with
    | false => rfl
    | true => rw [← fstB_iff.1 h2 j hj, eqB_trans e (eqB_symm h3)]
  rw [this]
  exact ⟨h1, h3, h2⟩
theorem rep_iff {xs : List (List Int)} {t a b : Nat} : rep xs t a = rep xs t b ↔ eqB xs t a b = true := by
  obtain ⟨_, h2, h3⟩ := rep_ok xs t a
  obtain ⟨_, k2, k3⟩ := rep_ok xs t b
  exact ⟨fun e => eqB_trans (eqB_symm h2) (by rw [e]; exact k2), fun e => fst_uniq h3 k3 (eqB_trans h2 (eqB_trans e (eqB_symm k2)))⟩
theorem rep_rep (xs : List (List Int)) (t a : Nat) : rep xs t (rep xs t a) = rep xs t a := rep_iff.2 (rep_ok xs t a).2.1
theorem rep_zero (xs : List (List Int)) (a : Nat) : rep xs 0 a = 0 := rep_is (Nat.zero_le _) rfl fun j hj => by omega
theorem rep_nil (xs : List (List Int)) (t : Nat) : rep xs t 0 = 0 := by have := (rep_ok xs t 0).1; omega

/-- A policy with any number of states. -/
structure RectP (xs : List (List Int)) : Prop where
  lo : 1 ≤ xs.length
  len : ∀ r ∈ xs, r.length = 4
  num : ∀ r ∈ xs, ∀ z ∈ r, -1 ≤ z ∧ z ≤ (xs.length : Int) - 1
theorem PolOk.rect {xs : List (List Int)} (h : PolOk xs) : RectP xs := ⟨h.lo, h.len, h.num⟩
theorem RectP.at_ {xs : List (List Int)} (h : RectP xs) {s e : Nat} (hs : s < xs.length) (he : e < 4) : ∃ r, xs[s]? = some r ∧ r.length = 4 ∧ r[e]? = some (nxP xs s e) ∧ -1 ≤ nxP xs s e ∧ nxP xs s e ≤ (xs.length : Int) - 1 := by
  obtain ⟨r, hr⟩ : ∃ r, xs[s]? = some r := ⟨_, List.getElem?_eq_getElem hs⟩
  have hm := List.mem_of_getElem? hr
  have hl := h.len r hm
  obtain ⟨z, hz⟩ : ∃ z, r[e]? = some z := ⟨_, List.getElem?_eq_getElem (by omega)⟩
  have hv : nxP xs s e = z := by
    unfold nxP
    simp [List.getD, hr, hz]
  have hn := h.num r hm z (List.mem_of_getElem? hz)
  exact ⟨r, hr, hl, by rw [hv]; exact hz, by rw [hv]; exact hn.1, by rw [hv]; exact hn.2⟩
theorem RectP.nx {xs : List (List Int)} (h : RectP xs) {s e : Nat} (hs : s < xs.length) (he : e < 4) (hn : ¬ nxP xs s e < 0) : (nxP xs s e).toNat < xs.length := by
  obtain ⟨_, _, _, _, _, h2⟩ := h.at_ hs he
  have := h.lo
  omega

/-- How many kinds of states there are. -/
def kinds (xs : List (List Int)) (t : Nat) : Nat := (List.range xs.length).countP (fstB xs t)
theorem kinds_le (xs : List (List Int)) (t : Nat) : kinds xs t ≤ xs.length := by
  have := List.countP_le_length (p := fstB xs t) (l := List.range xs.length)
  simpa [kinds] using this
theorem kinds_more (xs : List (List Int)) (t : Nat) : kinds xs t ≤ kinds xs (t + 1) := List.countP_mono_left fun s _ h => fstB_more h
theorem kinds_pos {xs : List (List Int)} (h : 1 ≤ xs.length) (t : Nat) : 1 ≤ kinds xs t := List.countP_pos_iff.2 ⟨0, List.mem_range.2 h, fstB_iff.2 fun r hr => by omega⟩
theorem kinds_zero {xs : List (List Int)} (h : 1 ≤ xs.length) : kinds xs 0 = 1 := by
  unfold kinds
  obtain ⟨m, hm⟩ : ∃ m, xs.length = m + 1 := ⟨xs.length - 1, by omega⟩
  rw [hm, List.range_succ_eq_map, List.countP_cons, if_pos (fstB_iff.2 fun r hr => by omega), List.countP_eq_zero.2]
  intro s hs
  obtain ⟨k, _, rfl⟩ := List.mem_map.1 hs
  intro e
  have := fstB_iff.1 e 0 (by omega)
  cases this
theorem countP_eq_imp {α : Type} {p q : α → Bool} : ∀ {l : List α}, (∀ x ∈ l, p x = true → q x = true) → l.countP p = l.countP q → ∀ x ∈ l, q x = true → p x = true
  | [], _, _, x, hx, _ => by cases hx
  | a :: l, h, e, x, hx, hq => by
    have hle : l.countP p ≤ l.countP q := List.countP_mono_left fun y hy k => h y (List.mem_cons_of_mem _ hy) k
    rw [List.countP_cons, List.countP_cons] at e
    have ha := h a List.mem_cons_self
    have hap : q a = true → p a = true := fun k => by
      cases hp : p a with
      | true => rfl
      | false => rw [hp, k] at e; simp at e; omega
    have el : l.countP p = l.countP q := by
      cases hp : p a with
      | true => rw [hp, ha hp] at e; simpa using e
      | false =>
        have : q a = false := by cases k : q a with | false => rfl | true => rw [hap k] at hp; cases hp
        rw [hp, this] at e; simpa using e
    rcases List.mem_cons.1 hx with rfl | hx
    · exact hap hq
    · exact countP_eq_imp (fun y hy => h y (List.mem_cons_of_mem _ hy)) el x hx hq

/-- One event more tells no more states apart. -/
def Settled (xs : List (List Int)) (t : Nat) : Prop := ∀ a b, a < xs.length → b < xs.length → eqB xs t a b = true → eqB xs (t + 1) a b = true
theorem settled_of {xs : List (List Int)} {t : Nat} (h : kinds xs (t + 1) = kinds xs t) : Settled xs t := fun a b ha hb e => by
  have hf := countP_eq_imp (l := List.range xs.length) (fun s _ k => fstB_more k) (show (List.range xs.length).countP (fstB xs t) = (List.range xs.length).countP (fstB xs (t + 1)) from h.symm)
  obtain ⟨ra, a1, a2, a3⟩ := fst_of (xs := xs) (t := t + 1) a
  obtain ⟨rb, b1, b2, b3⟩ := fst_of (xs := xs) (t := t + 1) b
  have a4 := hf ra (List.mem_range.2 (by omega)) a2
  have b4 := hf rb (List.mem_range.2 (by omega)) b2
  have : ra = rb := fst_uniq a4 b4 (eqB_trans (eqB_less a3) (eqB_trans e (eqB_symm (eqB_less b3))))
  subst this
  exact eqB_trans (eqB_symm a3) b3
theorem Settled.succ {xs : List (List Int)} (ok : RectP xs) {t : Nat} (h : Settled xs t) : Settled xs (t + 1) := fun a b ha hb e => eqB_succ.2 fun k hk => by
  obtain ⟨p, q⟩ := eqB_succ.1 e k hk
  exact ⟨p, fun hn => h _ _ (ok.nx ha hk hn) (ok.nx hb hk fun x => hn (p.2 x)) (q hn)⟩
theorem Settled.add {xs : List (List Int)} (ok : RectP xs) {t : Nat} (h : Settled xs t) : ∀ d, Settled xs (t + d)
  | 0 => h
  | d + 1 => (h.add ok d).succ ok
theorem Settled.far {xs : List (List Int)} (ok : RectP xs) {t : Nat} (h : Settled xs t) {a b : Nat} (ha : a < xs.length) (hb : b < xs.length) (e : eqB xs t a b = true) : ∀ d, eqB xs (t + d) a b = true
  | 0 => e
  | d + 1 => h.add ok d a b ha hb (h.far ok ha hb e d)
theorem kinds_grow {xs : List (List Int)} {t : Nat} (h : ¬ Settled xs t) : kinds xs t < kinds xs (t + 1) := by
  have h1 := kinds_more xs t
  have h2 : kinds xs (t + 1) ≠ kinds xs t := fun e => h (settled_of e)
  omega
theorem settled_len {xs : List (List Int)} (ok : RectP xs) : Settled xs xs.length := by
  refine Classical.byContradiction fun h => ?_
  have hk : ∀ t, t ≤ xs.length → t + 1 ≤ kinds xs t := fun t => by
    induction t with
    | zero => intro _; exact kinds_pos ok.lo 0
    | succ t ih =>
      intro ht
      have h1 := ih (by omega)
      have h2 : ¬ Settled xs t := fun k => h (by have := k.add ok (xs.length - t); rwa [show t + (xs.length - t) = xs.length by omega] at this)
      have h3 := kinds_grow h2
      omega
  have h1 := hk _ (Nat.le_refl _)
  have h2 := kinds_le xs xs.length
  omega
/-- Two states allow the same words. -/
def sameB (xs : List (List Int)) (a b : Nat) : Bool := eqB xs xs.length a b
theorem same_of {xs : List (List Int)} (ok : RectP xs) {t : Nat} (h : Settled xs t) {a b : Nat} (ha : a < xs.length) (hb : b < xs.length) : eqB xs t a b = sameB xs a b := by
  rw [Bool.eq_iff_iff]
  unfold sameB
  rcases Nat.le_total t xs.length with k | k
  · obtain ⟨d, hd⟩ := Nat.exists_eq_add_of_le k
    constructor
    · intro e; have := h.far ok ha hb e d; rwa [← hd] at this
    · intro e; rw [hd] at e; exact eqB_le d e
  · obtain ⟨d, hd⟩ := Nat.exists_eq_add_of_le k
    rw [hd]
    exact ⟨fun e => eqB_le d e, fun e => (settled_len ok).far ok ha hb e d⟩
theorem same_next {xs : List (List Int)} (ok : RectP xs) {a b e : Nat} (ha : a < xs.length) (hb : b < xs.length) (he : e < 4) (h : sameB xs a b = true) : (nxP xs a e < 0 ↔ nxP xs b e < 0) ∧ (¬ nxP xs a e < 0 → sameB xs (nxP xs a e).toNat (nxP xs b e).toNat = true) :=
  eqB_succ.1 (settled_len ok a b ha hb h) e he

/-- The step among the first states of each kind. -/
def stM (xs : List (List Int)) (x : Int) (e : Nat) : Int × Bool := if nxP xs x.toNat e < 0 then (0, false) else ((rep xs xs.length (nxP xs x.toNat e).toNat : Int), true)
theorem stM_no {xs : List (List Int)} {x e : Nat} (h : nxP xs x e < 0) : stM xs (x : Int) e = (0, false) := if_pos (by rw [Int.toNat_natCast]; exact h)
theorem stM_yes {xs : List (List Int)} {x e : Nat} (h : ¬ nxP xs x e < 0) : stM xs (x : Int) e = ((rep xs xs.length (nxP xs x e).toNat : Int), true) := by unfold stM; rw [Int.toNat_natCast, if_neg h]
theorem stM_stays {xs : List (List Int)} (ok : RectP xs) : Stays (stM xs) xs.length := fun x e h0 h1 he hv => by
  obtain ⟨k, rfl⟩ : ∃ k : Nat, x = k := ⟨x.toNat, by omega⟩
  by_cases hq : nxP xs k e < 0
  · rw [stM_no hq] at hv; cases hv
  · rw [stM_yes hq]
    have h1 := ok.nx (s := k) (by omega) he hq
    have h2 := (rep_ok xs xs.length (nxP xs k e).toNat).1
    constructor
    · show (0 : Int) ≤ ((rep xs xs.length (nxP xs k e).toNat : Nat) : Int); omega
    · show ((rep xs xs.length (nxP xs k e).toNat : Nat) : Int) < _; omega
/-- .. is the same for all states of a kind. -/
theorem stM_same {xs : List (List Int)} (ok : RectP xs) {a b e : Nat} (ha : a < xs.length) (hb : b < xs.length) (he : e < 4) (h : sameB xs a b = true) : stM xs (a : Int) e = stM xs (b : Int) e := by
  obtain ⟨p, q⟩ := same_next ok ha hb he h
  by_cases hn : nxP xs a e < 0
  · rw [stM_no hn, stM_no (p.1 hn)]
  · rw [stM_yes hn, stM_yes (fun x => hn (p.2 x)), rep_iff.2 (show eqB xs xs.length _ _ = true from q hn)]

/-- The rows of the minimal policy. -/
@[irreducible] def minL (xs : List (List Int)) : List (List Int) := (unf (stM xs) 0 xs.length).2
theorem minL_is {xs R : List (List Int)} {M : List Int} (ok : RectP xs) (h : UnfEnd (stM xs) 0 M R) : R = minL xs := by
  have h0 : (0 : Int) ≤ 0 ∧ (0 : Int) < (xs.length : Int) := by have := ok.lo; omega
  obtain ⟨k, h1, h2⟩ := h
  have hl := (unf_among (stM_stays ok) h0 k).len
  have e1 : (unf (stM xs) 0 k).1 = M := by rw [h1]
  have e2 : (unf (stM xs) 0 k).1.length ≤ k := by rw [e1]; omega
  have h3 := unf_stay e2 (xs.length - k)
  rw [show k + (xs.length - k) = xs.length by rw [e1] at hl; omega, h1] at h3
  unfold minL
  rw [h3]
end Go.Proofs.Ytpdgnmdjneakgaa
