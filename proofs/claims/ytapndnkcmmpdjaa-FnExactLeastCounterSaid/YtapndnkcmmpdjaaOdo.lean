/-
  Numbers of symbols in the order of an odometer: all of them, and those that are left. Conditions: none.
-/
import Derived.Test.YtapndnkcmmpdjaaCounter
namespace Go.Proofs.Ytapndnkcmmpdjaa
set_option linter.unusedVariables false

/-- The numbers from a up to r. -/
def upto (r a : Int) : List Int := (List.range (r + 1 - a).toNat).map fun k => a + (k : Nat)
theorem upto_none {r a : Int} (h : r < a) : upto r a = [] := by
  unfold upto
  rw [show (r + 1 - a).toNat = 0 by omega]; rfl
theorem upto_some {r a : Int} (h : a ≤ r) : upto r a = a :: upto r (a + 1) := by
  unfold upto
  rw [show (r + 1 - a).toNat = (r + 1 - (a + 1)).toNat + 1 by omega, List.range_succ_eq_map, List.map_cons, List.map_map]
  congr 1
  · simp
  · apply List.map_congr_left
    intro k _
    simp only [Function.comp]
    omega
/-- All numbers from -r to r of the symbols, the first symbol's changing last. -/
def allV (r : Int) : List Nat → List Int → List (List Int)
  | [], vs => [vs]
  | s :: L, vs => (upto r (-r)).flatMap fun n => allV r L (vs.set s n)
/-- Those from the present ones on. -/
def restV (r : Int) : List Nat → List Int → List (List Int)
  | [], vs => [vs]
  | s :: L, vs => restV r L vs ++ (upto r (vs.getD s 0 + 1)).flatMap fun n => allV r L (vs.set s n)
def putV (x : Int) : List Nat → List Int → List Int
  | [], vs => vs
  | s :: L, vs => (putV x L vs).set s x
/-- The same numbers but for the symbols of a list. -/
def OffV (L : List Nat) (a b : List Int) : Prop := a.length = b.length ∧ ∀ k : Nat, k ∉ L → a[k]? = b[k]?
theorem OffV.refl (L : List Nat) (a : List Int) : OffV L a a := ⟨rfl, fun _ _ => rfl⟩
theorem OffV.symm {L : List Nat} {a b : List Int} (h : OffV L a b) : OffV L b a := ⟨h.1.symm, fun k hk => (h.2 k hk).symm⟩
theorem OffV.trans {L : List Nat} {a b c : List Int} (h : OffV L a b) (h' : OffV L b c) : OffV L a c := ⟨h.1.trans h'.1, fun k hk => (h.2 k hk).trans (h'.2 k hk)⟩
theorem OffV.more {L L' : List Nat} {a b : List Int} (h : OffV L a b) (hL : ∀ k ∈ L, k ∈ L') : OffV L' a b := ⟨h.1, fun k hk => h.2 k (fun h' => hk (hL k h'))⟩
theorem OffV.set {L : List Nat} {s : Nat} {a b : List Int} {n : Int} (h : OffV (s :: L) a b) : OffV L (a.set s n) (b.set s n) := by
  refine ⟨by simp [h.1], fun k hk => ?_⟩
  by_cases e : s = k
  · subst e
    by_cases hl : s < a.length
    · rw [List.getElem?_set_self hl, List.getElem?_set_self (by rw [← h.1]; exact hl)]
    · rw [List.getElem?_eq_none (by simp; omega), List.getElem?_eq_none (by simp; have := h.1; omega)]
  · rw [List.getElem?_set_ne e, List.getElem?_set_ne e]
    exact h.2 k (by simp; exact ⟨fun e' => e e'.symm, hk⟩)
theorem offV_set (s : Nat) (a : List Int) (n : Int) : OffV [s] (a.set s n) a :=
  ⟨by simp, fun k hk => List.getElem?_set_ne (fun e => hk (by simp [e]))⟩
theorem allV_off {r : Int} : ∀ {L : List Nat} {a b : List Int}, OffV L a b → allV r L a = allV r L b
  | [], a, b, h => by
    have e : a = b := List.ext_getElem? (fun k => h.2 k (by simp))
    rw [e]
  | s :: L, a, b, h => by
    unfold allV
    congr 1
    funext n
    exact allV_off h.set
theorem putV_off (x : Int) : ∀ (L : List Nat) (vs : List Int), OffV L (putV x L vs) vs
  | [], vs => OffV.refl _ _
  | s :: L, vs => ((offV_set s _ x).more (by simp)).trans ((putV_off x L vs).more (fun k hk => by simp [hk]))
theorem putV_len (x : Int) (L : List Nat) (vs : List Int) : (putV x L vs).length = vs.length := (putV_off x L vs).1
theorem putV_set (x y : Int) : ∀ {L : List Nat} {s : Nat} (vs : List Int), s ∉ L → putV x L (vs.set s y) = (putV x L vs).set s y
  | [], s, vs, h => rfl
  | t :: L, s, vs, h => by
    unfold putV
    rw [putV_set x y vs (fun h' => h (by simp [h'])), List.set_comm _ _ (fun e => h (by simp [e]))]
theorem allV_rest {r : Int} (hr : 0 ≤ r) : ∀ {L : List Nat} {vs : List Int}, L.Nodup → (∀ s ∈ L, s < vs.length) → allV r L vs = restV r L (putV (-r) L vs)
  | [], vs, _, _ => rfl
  | s :: L, vs, hd, hl => by
    have hs : s ∉ L := (List.nodup_cons.1 hd).1
    have hsl := hl s (by simp)
    unfold allV restV putV
    rw [upto_some (by omega : -r ≤ r), List.flatMap_cons, allV_rest hr (List.nodup_cons.1 hd).2 (fun t ht => by simp; exact hl t (by simp [ht])), putV_set _ _ _ hs]
    congr 1
    have e : ((putV (-r) L vs).set s (-r)).getD s 0 = -r := by
      rw [List.getD_eq_getElem?_getD, List.getElem?_set_self (by rw [putV_len]; exact hsl)]; rfl
    rw [e]
    congr 1
    funext n
    rw [List.set_set]
    exact allV_off (OffV.set (((putV_off (-r) L vs).more (fun k hk => by simp [hk])).symm))
theorem restV_end {r : Int} : ∀ {L : List Nat} {vs : List Int}, (∀ s ∈ L, vs.getD s 0 = r) → restV r L vs = [vs]
  | [], vs, _ => rfl
  | s :: L, vs, h => by
    unfold restV
    rw [h s (by simp), upto_none (by omega), restV_end (fun t ht => h t (by simp [ht]))]
    rfl
theorem restV_step {r : Int} (hr : 0 ≤ r) : ∀ {L1 L2 : List Nat} {s : Nat} {vs : List Int}, (L1 ++ s :: L2).Nodup → (∀ t ∈ L1 ++ s :: L2, t < vs.length) → (∀ t ∈ L2, vs.getD t 0 = r) → vs.getD s 0 < r →
    restV r (L1 ++ s :: L2) vs = vs :: restV r (L1 ++ s :: L2) ((putV (-r) L2 vs).set s (vs.getD s 0 + 1))
  | [], L2, s, vs, hd, hl, h2, hs => by
    have hn : s ∉ L2 := (List.nodup_cons.1 hd).1
    have hsl := hl s (by simp)
    show restV r (s :: L2) vs = vs :: restV r (s :: L2) _
    unfold restV
    rw [restV_end h2, upto_some (by omega : vs.getD s 0 + 1 ≤ r), List.flatMap_cons]
    have e : ((putV (-r) L2 vs).set s (vs.getD s 0 + 1)).getD s 0 = vs.getD s 0 + 1 := by
      rw [List.getD_eq_getElem?_getD, List.getElem?_set_self (by rw [putV_len]; exact hsl)]; rfl
    rw [e, allV_rest hr (List.nodup_cons.1 hd).2 (fun t ht => by simp; exact hl t (by simp [ht])), putV_set _ _ _ hn]
    rw [List.singleton_append]
    congr 2
    congr 1
    funext n
    rw [List.set_set]
    exact allV_off (OffV.set (((putV_off (-r) L2 vs).more (fun k hk => by simp [hk])).symm))
  | t :: L1, L2, s, vs, hd, hl, h2, hs => by
    have hd' : (t :: (L1 ++ s :: L2)).Nodup := hd
    have hn := (List.nodup_cons.1 hd').1
    show restV r (t :: (L1 ++ s :: L2)) vs = vs :: restV r (t :: (L1 ++ s :: L2)) _
    unfold restV
    rw [restV_step hr (List.nodup_cons.1 hd').2 (fun u hu => hl u (List.mem_cons_of_mem t hu)) h2 hs]
    have o : OffV (s :: L2) ((putV (-r) L2 vs).set s (vs.getD s 0 + 1)) vs := ((offV_set s _ _).more (by simp)).trans ((putV_off (-r) L2 vs).more (fun k hk => by simp [hk]))
    have e : ((putV (-r) L2 vs).set s (vs.getD s 0 + 1)).getD t 0 = vs.getD t 0 := by
      have q := o.2 t (fun h' => hn (List.mem_append_right _ h'))
      simp only [List.getD_eq_getElem?_getD] at q ⊢
      rw [q]
    rw [e, List.cons_append]
    congr 2
    congr 1
    funext n
    exact allV_off (OffV.set (L := L1 ++ s :: L2) ((o.more (fun k hk => List.mem_cons_of_mem _ (List.mem_append_right _ hk))).symm))
/-- The least numbers that p holds of. -/
def leastV (p : List Int → Bool) (r : Int) (L : List Nat) (vs : List Int) : Option (List Int) := (allV r L vs).find? p
theorem allV_len {r : Int} : ∀ {L : List Nat} {vs v : List Int}, v ∈ allV r L vs → v.length = vs.length
  | [], vs, v, h => by simp [allV] at h; rw [h]
  | s :: L, vs, v, h => by
    unfold allV at h
    obtain ⟨n, _, h2⟩ := List.mem_flatMap.1 h
    rw [allV_len h2]; simp
end Go.Proofs.Ytapndnkcmmpdjaa
