/-
  Several texts in one: HgtX, WayP. Conditions: as each says.
-/
import Derived.Test.YtffkdidgfeknkaaGreatDoorBunB
import Derived.Test.YtffkdidgfeknkaaGreatDoorBunE
import Derived.Test.YtffkdidgfeknkaaGreatDoorBunC

/-! What is reached over code with heights: pure. No conditions. -/
namespace Go.Proofs.YtffkdidgfeknkaaGreatDoor
set_option linter.unusedVariables false

theorem RchP.in_tgt {xs : List (Int × Int)} (hc : codeB xs = true) {t : Int} (h : RchP xs (fun t => t = 0) t) : 0 ≤ t ∧ t ≤ 80 := by
  cases h with
  | base e => subst e; exact ⟨by omega, by omega⟩
  | @step j _ hj hjl htt =>
    have hy : xs[j]? = some xs[j] := List.getElem?_eq_getElem hjl
    have htt' : t ∈ tgt1 xs[j].1 xs[j].2 j := by unfold tgtN at htt; rw [List.getD_eq_getElem?_getD, hy] at htt; exact htt
    exact tgt_in hc j _ hy t htt'
/-- What is reached has a height in every good list. -/
theorem GoodH.reach {xs : List (Int × Int)} {K : List Int} (hc : codeB xs = true) (g : GoodH xs K) : ∀ t, RchP xs (fun t => t = 0) t → t < xs.length ∧ ∃ h, K[t.toNat]? = some h ∧ 0 ≤ h := by
  intro t ht
  induction ht with
  | base e =>
    subst e
    have h0 := g.zero
    have := (List.getElem?_eq_some_iff.1 h0).1
    exact ⟨by have := g.len; omega, 0, h0, by omega⟩
  | @step j t hj hjl htt ih =>
    obtain ⟨_, h, e, h0⟩ := ih
    rw [Int.toNat_natCast] at e
    obtain ⟨f, nx⟩ := g.step j h e h0
    obtain ⟨n1, n2⟩ := nx t htt
    exact ⟨n1, _, n2, f.ge⟩
/-- The least list has heights only where is reached. -/
theorem LeastH.reached {xs : List (Int × Int)} {L : List Int} (hc : codeB xs = true) (hL : LeastH xs L) (k : Nat) (h : Int) (e : L[k]? = some h) (h0 : 0 ≤ h) : RchP xs (fun t => t = 0) k := by
  have hat : ∀ j : Nat, ((List.range xs.length).map fun (j : Nat) => @ite Int (RchP xs (fun t => t = 0) j) (Classical.propDecidable _) (L.getD j 0) (-1))[j]? = if j < xs.length then some (@ite Int (RchP xs (fun t => t = 0) j) (Classical.propDecidable _) (L.getD j 0) (-1)) else none := by
    intro j
    rw [List.getElem?_map]
    by_cases hj : j < xs.length
    · rw [List.getElem?_range hj, if_pos hj]; rfl
    · rw [List.getElem?_eq_none (by simpa using hj), if_neg hj]; rfl
  have hLat : ∀ j : Nat, j < xs.length → L[j]? = some (L.getD j 0) := fun j hj => by
    rw [List.getD_eq_getElem?_getD, List.getElem?_eq_getElem (by rw [hL.good.len]; exact hj)]; rfl
  have hgood : GoodH xs ((List.range xs.length).map fun (j : Nat) => @ite Int (RchP xs (fun t => t = 0) j) (Classical.propDecidable _) (L.getD j 0) (-1)) := by
    have hz := hL.good.zero
    have hpos : 0 < xs.length := by have := (List.getElem?_eq_some_iff.1 hz).1; have := hL.good.len; omega
    refine ⟨by simp, ?_, fun z hz => ?_, fun j g hj hg => ?_⟩
    · rw [hat 0, if_pos hpos, if_pos (show RchP xs (fun t => t = 0) ((0 : Nat) : Int) from .base rfl), ← hLat 0 hpos, hz]
    · obtain ⟨j, hj, rfl⟩ := List.mem_map.1 hz
      have hjl : j < xs.length := by simpa using hj
      by_cases hr : RchP xs (fun t => t = 0) j
      · rw [if_pos hr]
        exact hL.good.low _ (List.mem_of_getElem? (hLat j hjl))
      · rw [if_neg hr]; omega
    · rw [hat j] at hj
      by_cases hjl : j < xs.length
      · rw [if_pos hjl] at hj
        by_cases hr : RchP xs (fun t => t = 0) j
        · rw [if_pos hr, ← hLat j hjl] at hj
          obtain ⟨f, nx⟩ := hL.good.step j g hj hg
          refine ⟨f, fun t ht => ?_⟩
          obtain ⟨n1, n2⟩ := nx t ht
          have hrt : RchP xs (fun t => t = 0) t := .step hr hjl ht
          have ht0 := (hrt.in_tgt hc).1
          have hrt' : RchP xs (fun t => t = 0) ((t.toNat : Nat) : Int) := by rw [Int.toNat_of_nonneg ht0]; exact hrt
          refine ⟨n1, ?_⟩
          rw [hat t.toNat, if_pos (by omega), if_pos hrt', ← hLat t.toNat (by omega), n2]
        · rw [if_neg hr] at hj
          have := Option.some.inj hj
          omega
      · rw [if_neg hjl] at hj; cases hj
  have hk := hL.under _ hgood k h e h0
  rw [hat k] at hk
  by_cases hkl : k < xs.length
  · rw [if_pos hkl] at hk
    by_cases hr : RchP xs (fun t => t = 0) k
    · exact hr
    · rw [if_neg hr] at hk
      have := Option.some.inj hk
      omega
  · rw [if_neg hkl] at hk; cases hk
/-! Lists of what is reached. -/
theorem mem_lstM {ms : List Bool} {n k : Nat} : (k : Int) ∈ lstM ms n ↔ k < n ∧ ms[k]? = some true := by
  unfold lstM
  rw [List.mem_map]
  constructor
  · rintro ⟨j, hj, e⟩
    obtain rfl : j = k := by omega
    rw [List.mem_filter, List.mem_range, List.getD_eq_getElem?_getD] at hj
    refine ⟨hj.1, ?_⟩
    cases hm : ms[j]? with
    | none => rw [hm] at hj; simp at hj
    | some b => rw [hm] at hj; have := hj.2; simp at this; rw [this]
  · rintro ⟨h1, h2⟩
    refine ⟨k, ?_, rfl⟩
    rw [List.mem_filter, List.mem_range, List.getD_eq_getElem?_getD, h2]
    exact ⟨h1, rfl⟩
theorem mem_reached {cs : List (Int × Int)} {ms : List Bool} (hm : MarksOf cs (fun t => t = 0) ms) {k : Nat} (hk : k < cs.length) : (k : Int) ∈ lstM ms cs.length ↔ RchP cs (fun t => t = 0) k := by
  rw [mem_lstM]
  obtain ⟨b, hb⟩ : ∃ b, ms[k]? = some b := ⟨_, List.getElem?_eq_getElem (by rw [hm.1]; exact hk)⟩
  rw [← hm.2 k b hb, hb]
  exact ⟨fun e => Option.some.inj e.2, fun e => ⟨hk, by rw [e]⟩⟩
end Go.Proofs.YtffkdidgfeknkaaGreatDoor

/-! The longest way between points: pure. No conditions. -/
namespace Go.Proofs.YtffkdidgfeknkaaGreatDoor
set_option linter.unusedVariables false

/-- Ways of some nodes from one on. -/
inductive WayL (G : Nat → Nat) : Nat → Nat → Prop
  | one {i : Nat} : WayL G 1 i
  | more {k i t : Nat} : (G i).testBit t = true → WayL G k t → WayL G (k + 1) i
theorem WayL.pos {G : Nat → Nat} {k i : Nat} (h : WayL G k i) : 1 ≤ k := by cases h <;> omega
theorem WayL.less {G : Nat → Nat} : ∀ {k i : Nat}, WayL G (k + 2) i → WayL G (k + 1) i
  | 0, i, _ => .one
  | k + 1, i, h => by
    cases h with
    | more e w => exact .more e (WayL.less w)
theorem WayL.down {G : Nat → Nat} {k i : Nat} (h : WayL G k i) {j : Nat} (hj : 1 ≤ j) (hk : j ≤ k) : WayL G j i := by
  obtain ⟨d, rfl⟩ : ∃ d, k = j + d := ⟨k - j, by omega⟩
  induction d with
  | zero => exact h
  | succ d ih =>
    obtain ⟨m, rfl⟩ : ∃ m, j = m + 1 := ⟨j - 1, by omega⟩
    refine ih ?_ (by omega)
    have h' : WayL G (m + d + 2) i := by rw [show m + d + 2 = m + 1 + (d + 1) by omega]; exact h
    rw [show m + 1 + d = m + d + 1 by omega]
    exact h'.less
theorem nodup_le : ∀ (n : Nat) (l : List Nat), l.Nodup → (∀ x ∈ l, x < n) → l.length ≤ n
  | 0, l, _, h => by
    cases l with
    | nil => exact Nat.le_refl _
    | cons x l => exact absurd (h x (List.mem_cons_self ..)) (Nat.not_lt_zero _)
  | n + 1, l, hd, h => by
    by_cases hm : n ∈ l
    · have h1 := nodup_le n (l.erase n) (hd.erase n) (fun x hx => by
        have := (List.Nodup.mem_erase_iff hd).1 hx
        have := h x this.2
        omega)
      have h2 := List.length_erase_of_mem hm
      omega
    · have h1 := nodup_le n l hd (fun x hx => by
        have := h x hx
        have : x ≠ n := fun e => hm (e ▸ hx)
        omega)
      omega
/-- Where nothing comes back, ways have no more nodes than there are. -/
theorem WayL.le {G : Nat → Nat} {n : Nat} {R : Nat → Prop} (hG : ∀ k t, (G k).testBit t = true → t < n) (hR : ∀ i t, R i → (G i).testBit t = true → R t) (ha : ∀ i, R i → ¬ Tc G i i) {k i : Nat} (hi : R i) (hn : i < n) (h : WayL G k i) : k ≤ n := by
  have key : ∀ {k i}, WayL G k i → R i → i < n → ∃ l : List Nat, l.length = k ∧ l.Nodup ∧ (∀ x ∈ l, x < n) ∧ ∀ x ∈ l, x = i ∨ Tc G i x := fun h => by
    induction h with
    | one => intro hi hn; exact ⟨[_], rfl, by simp, fun x hx => by obtain rfl := List.mem_singleton.1 hx; exact hn, fun x hx => .inl (List.mem_singleton.1 hx)⟩
    | @more k i t e w ih =>
      intro hi hn
      obtain ⟨l, h1, h2, h3, h4⟩ := ih (hR i t hi e) (hG i t e)
      refine ⟨i :: l, by simp [h1], List.nodup_cons.2 ⟨fun hm => ?_, h2⟩, fun x hx => ?_, fun x hx => ?_⟩
      · rcases h4 i hm with e' | e'
        · subst e'; exact ha i hi (.e e)
        · exact ha i hi ((Tc.e e).trans e')
      · rcases List.mem_cons.1 hx with rfl | hx
        · exact hn
        · exact h3 x hx
      · rcases List.mem_cons.1 hx with rfl | hx
        · exact .inl rfl
        · right
          rcases h4 x hx with e' | e'
          · subst e'; exact .e e
          · exact (Tc.e e).trans e'
  obtain ⟨l, h1, h2, h3, _⟩ := key h hi hn
  rw [← h1]; exact nodup_le n l h2 h3
/-- The greatest number of nodes of a way. -/
def IsLen (G : Nat → Nat) (R : Nat → Prop) (m : Nat) : Prop := (∀ k i, R i → WayL G k i → k ≤ m) ∧ (1 ≤ m → ∃ i, R i ∧ WayL G m i)
theorem IsLen.uniq {G : Nat → Nat} {R : Nat → Prop} {m m' : Nat} (h : IsLen G R m) (h' : IsLen G R m') : m = m' := by
  have key : ∀ {m m'}, IsLen G R m → IsLen G R m' → m ≤ m' := fun {m m'} h h' => by
    rcases Nat.eq_zero_or_pos m with e | e
    · omega
    · obtain ⟨i, h1, h2⟩ := h.2 e
      exact h'.1 m i h1 h2
  exact Nat.le_antisymm (key h h') (key h' h)

/-! The program's sets: the last nodes of all ways of a length. -/
def lastS (G : Nat → Nat) (S : Nat) : Nat → Nat
  | 0 => S
  | k + 1 => allS G (bitsL (lastS G S k))
theorem lastS_lt {G : Nat → Nat} (hG : ∀ k, G k < 2 ^ 128) {S : Nat} (hS : S < 2 ^ 128) : ∀ k, lastS G S k < 2 ^ 128
  | 0 => hS
  | k + 1 => allS_lt hG _
theorem last_way {G : Nat → Nat} (hG : ∀ k, G k < 2 ^ 128) {S : Nat} (hS : S < 2 ^ 128) : ∀ (k j : Nat), 1 ≤ j → ((∃ t, (lastS G S k).testBit t = true ∧ WayL G j t) ↔ ∃ i, S.testBit i = true ∧ WayL G (k + j) i)
  | 0, j, hj => by rw [Nat.zero_add]; exact Iff.rfl
  | k + 1, j, hj => by
    have ih := last_way hG hS k (j + 1) (by omega)
    rw [show k + 1 + j = k + (j + 1) by omega, ← ih]
    constructor
    · rintro ⟨t, h1, h2⟩
      change (allS G (bitsL (lastS G S k))).testBit t = true at h1
      obtain ⟨s, hs, e⟩ := (allS_bit _ _ _).1 h1
      exact ⟨s, (mem_bitsL (lastS_lt hG hS k) s).1 hs, .more e h2⟩
    · rintro ⟨s, h1, h2⟩
      cases h2 with
      | one => omega
      | @more _ _ t e w => exact ⟨t, (allS_bit _ _ _).2 ⟨s, (mem_bitsL (lastS_lt hG hS k) s).2 h1, e⟩, w⟩
theorem bit_of_ne {S : Nat} (h : S ≠ 0) : ∃ t, S.testBit t = true := by
  by_cases hx : ∃ t, S.testBit t = true
  · exact hx
  · exfalso
    refine h (Nat.eq_of_testBit_eq fun i => ?_)
    rw [Nat.zero_testBit]
    cases hb : S.testBit i with
    | false => rfl
    | true => exact absurd ⟨i, hb⟩ hx
theorem last_some {G : Nat → Nat} (hG : ∀ k, G k < 2 ^ 128) {S : Nat} (hS : S < 2 ^ 128) {k : Nat} (h : lastS G S k ≠ 0) : ∃ i, S.testBit i = true ∧ WayL G (k + 1) i := by
  obtain ⟨t, ht⟩ := bit_of_ne h
  exact (last_way hG hS k 1 (Nat.le_refl _)).1 ⟨t, ht, .one⟩
theorem last_len {G : Nat → Nat} (hG : ∀ k, G k < 2 ^ 128) {S : Nat} (hS : S < 2 ^ 128) {k : Nat} (h0 : lastS G S k = 0) (h1 : ∀ j, j < k → lastS G S j ≠ 0) : IsLen G (fun i => S.testBit i = true) k := by
  refine ⟨fun m i hi hw => ?_, fun hk => ?_⟩
  · rcases Nat.lt_or_ge k m with e | e
    · exfalso
      obtain ⟨t, ht, _⟩ := (last_way hG hS k 1 (Nat.le_refl _)).2 ⟨i, hi, hw.down (by omega) e⟩
      rw [h0, Nat.zero_testBit] at ht
      cases ht
    · exact e
  · obtain ⟨j, rfl⟩ : ∃ j, k = j + 1 := ⟨k - 1, by omega⟩
    exact last_some hG hS (h1 j (by omega))

/-! What LongestWay gives. -/
abbrev RchN (xs : List (Int × Int)) (i : Nat) : Prop := RchP xs (fun t => t = 0) i
noncomputable def wayR (t0 t1 : List (Int × List Int)) (xs : List (Int × Int)) (ps : List P2) : Int × Bool :=
  open Classical in if h : (hgoR t0 t1 xs ps).2 = true ∧ (∀ i, i < xs.length → OnC xs ps i → ¬ RchN xs i) ∧ ∃ m, IsLen (gN xs (atsP ps)) (RchN xs) m then ((Classical.choose h.2.2 : Nat), true) else (0, false)
theorem wayR_yes {t0 t1 : List (Int × List Int)} {xs : List (Int × Int)} {ps : List P2} {m : Nat} (h1 : (hgoR t0 t1 xs ps).2 = true) (h2 : ∀ i, i < xs.length → OnC xs ps i → ¬ RchN xs i) (h3 : IsLen (gN xs (atsP ps)) (RchN xs) m) : wayR t0 t1 xs ps = ((m : Int), true) := by
  have he : (hgoR t0 t1 xs ps).2 = true ∧ (∀ i, i < xs.length → OnC xs ps i → ¬ RchN xs i) ∧ ∃ m, IsLen (gN xs (atsP ps)) (RchN xs) m := ⟨h1, h2, m, h3⟩
  unfold wayR
  rw [dif_pos he, (Classical.choose_spec he.2.2).uniq h3]
theorem wayR_no {t0 t1 : List (Int × List Int)} {xs : List (Int × Int)} {ps : List P2} (h : (hgoR t0 t1 xs ps).2 = false) : wayR t0 t1 xs ps = (0, false) := by
  unfold wayR
  rw [dif_neg (fun e => by rw [h] at e; cases e.1)]
theorem wayR_open {t0 t1 : List (Int × List Int)} {xs : List (Int × Int)} {ps : List P2} {i : Nat} (hi : i < xs.length) (ho : OnC xs ps i) (hr : RchN xs i) : wayR t0 t1 xs ps = (0, false) := by
  unfold wayR
  rw [dif_neg (fun e => e.2.1 i hi ho hr)]
theorem hgoR_parts {t0 t1 : List (Int × List Int)} {xs : List (Int × Int)} {ps : List P2} (h : (hgoR t0 t1 xs ps).2 = true) : annB t0 t1 xs ps = true ∧ LeastH xs (hgoR t0 t1 xs ps).1 := by
  unfold hgoR at h ⊢
  split at h
  · rename_i e
    rw [if_pos e]
    exact ⟨e.1, hgtR_is e.2.1⟩
  · cases h
/-- Heights tell what is reached. -/
theorem height_iff {xs : List (Int × Int)} {L : List Int} (hc : codeB xs = true) (hL : LeastH xs L) {i : Nat} {h : Int} (e : L[i]? = some h) : 0 ≤ h ↔ RchN xs i := by
  constructor
  · exact fun h0 => hL.reached hc i h e h0
  · intro hr
    obtain ⟨_, g, eg, h0⟩ := hL.good.reach hc _ hr
    rw [Int.toNat_natCast, e] at eg
    rw [Option.some.inj eg]; exact h0
theorem gN_in {xs : List (Int × Int)} (hc : codeB xs = true) (ps : List P2) : ∀ k t, (gN xs (atsP ps) k).testBit t = true → t < xs.length := fun k t h => (gN_beyond (by have := codeB_parts hc; omega) h).1
theorem rch_step {xs : List (Int × Int)} {ps : List P2} (hc : codeB xs = true) {i t : Nat} (hi : i < xs.length) (hr : RchN xs i) (e : (gN xs (atsP ps) i).testBit t = true) : RchN xs t :=
  .step hr hi ((gN_bit (fun k hk u hu => (tgtN_ge hc k hk u hu).1) hi).1 e).1
/-- Ways from what is reached have at most as many nodes as there are instructions. -/
theorem way_le {xs : List (Int × Int)} {ps : List P2} (hc : codeB xs = true) (ha : ∀ i, i < xs.length → OnC xs ps i → ¬ RchN xs i) {k i : Nat} (hi : i < xs.length) (hr : RchN xs i) (h : WayL (gN xs (atsP ps)) k i) : k ≤ xs.length :=
  WayL.le (R := fun i => i < xs.length ∧ RchN xs i) (gN_in hc ps) (fun i t hi e => ⟨gN_in hc ps i t e, rch_step hc hi.1 hi.2 e⟩) (fun i hi hT => ha i hi.1 ((onC_iff hc hi.1).2 hT) hi.2) ⟨hi, hr⟩ hi h

/-! The model's rounds. -/
structure FarI (xs : List (Int × Int)) (ps : List P2) (far : List Int) (best : Int) (r idx : Nat) : Prop where
  len : far.length = xs.length
  nn : ∀ v ∈ far, 0 ≤ v ∧ v ≤ best
  bn : best ≤ xs.length
  sound : ∀ (i : Nat) (v : Int), far[i]? = some v → 0 < v → RchN xs i ∧ WayL (gN xs (atsP ps)) v.toNat i
  low : ∀ (i : Nat) (v : Int), far[i]? = some v → RchN xs i → ∀ k, WayL (gN xs (atsP ps)) k i → k ≤ r + (if i < idx then 1 else 0) → (k : Int) ≤ v
  top : 0 < best → ∃ i, i < xs.length ∧ RchN xs i ∧ WayL (gN xs (atsP ps)) best.toNat i
  b0 : 0 ≤ best
/-- .. behind some of the places behind one. -/
structure FarT (xs : List (Int × Int)) (ps : List P2) (far : List Int) (i : Nat) (T : List Int) (j : Nat) (acc : Int) : Prop where
  one : 1 ≤ acc
  way : WayL (gN xs (atsP ps)) acc.toNat i
  part : ∀ t ∈ T.take j, ptB ps t = false → ∀ v, far[t.toNat]? = some v → v + 1 ≤ acc
section
variable {xs : List (Int × Int)} {ps : List P2} {far T : List Int} {best acc v t : Int} {r idx i j : Nat}
theorem FarI.init (hn : 1 ≤ xs.length) : FarI xs ps (List.replicate xs.length 0) 0 0 0 :=
  ⟨by simp, fun v hv => by have := List.eq_of_mem_replicate hv; omega, by omega, fun i v hv h0 => by have := List.eq_of_mem_replicate (List.mem_of_getElem? hv); omega,
    fun i v hv hr k hw hk => by have := hw.pos; rw [if_neg (Nat.not_lt_zero _)] at hk; omega, fun h => by omega, Int.le_refl _⟩
theorem FarT.init : FarT xs ps far i T 0 1 := ⟨Int.le_refl _, .one, fun t ht => by cases ht⟩
theorem FarT.skip (s : FarT xs ps far i T j acc) (ht : T[j]? = some t) (hp : ptB ps t = true) : FarT xs ps far i T (j + 1) acc :=
  ⟨s.one, s.way, fun u hu hf w hw => by
    rw [List.take_add_one, ht] at hu
    rcases List.mem_append.1 hu with e | e
    · exact s.part u e hf w hw
    · have : u = t := by simpa using e
      subst this; rw [hp] at hf; cases hf⟩
theorem FarT.take (s : FarT xs ps far i T j acc) (f : FarI xs ps far best r idx) (hc : codeB xs = true) (ht : T[j]? = some t) (hm : ∀ t, t ∈ T → t ∈ tgtN xs i) (hi : i < xs.length) (hp : ptB ps t = false) (hl : t < xs.length) (hv : far[t.toNat]? = some v) : FarT xs ps far i T (j + 1) (if acc > v + 1 then acc else v + 1) := by
  have hmem := hm t (List.mem_of_getElem? ht)
  have h0 := (tgtN_ge hc i hi t hmem).1
  have hv0 := (f.nn v (List.mem_of_getElem? hv)).1
  have he : (gN xs (atsP ps) i).testBit t.toNat = true := (gN_bit (fun k hk u hu => (tgtN_ge hc k hk u hu).1) hi).2 (by rw [Int.toNat_of_nonneg h0]; exact ⟨hmem, by omega, hp⟩)
  have hw : WayL (gN xs (atsP ps)) (v + 1).toNat i := by
    rcases Int.lt_or_le 0 v with e | e
    · have := (f.sound _ _ hv e).2
      rw [show (v + 1).toNat = v.toNat + 1 by omega]
      exact .more he this
    · rw [show (v + 1).toNat = 1 by omega]; exact .one
  refine ⟨?_, ?_, fun u hu hf w hw' => ?_⟩
  · split
    · exact s.one
    · omega
  · split
    · exact s.way
    · exact hw
  · rw [List.take_add_one, ht] at hu
    rcases List.mem_append.1 hu with e | e
    · have := s.part u e hf w hw'
      split <;> omega
    · have : u = t := by simpa using e
      subst this
      rw [hv] at hw'
      obtain rfl := Option.some.inj hw'
      split <;> omega
theorem FarI.skip (f : FarI xs ps far best r i) (hr : ¬ RchN xs i) : FarI xs ps far best r (i + 1) :=
  ⟨f.len, f.nn, f.bn, f.sound, fun q w hw hq k hk hle => f.low q w hw hq k hk (by
    have : q ≠ i := fun e => hr (e ▸ hq)
    by_cases hlt : q < i
    · rw [if_pos hlt]; rw [if_pos (by omega)] at hle; exact hle
    · rw [if_neg hlt]; rw [if_neg (by omega)] at hle; exact hle), f.top, f.b0⟩
theorem FarI.put (f : FarI xs ps far best r i) (hc : codeB xs = true) (ha : ∀ i, i < xs.length → OnC xs ps i → ¬ RchN xs i) (s : FarT xs ps far i T j acc) (hj : T.length ≤ j) (hm : ∀ t, t ∈ T ↔ t ∈ tgtN xs i) (hi : i < xs.length) (hr : RchN xs i) : FarI xs ps (far.set i acc) (if best > acc then best else acc) r (i + 1) := by
  have hacc : acc ≤ xs.length := by have := way_le hc ha hi hr s.way; omega
  have hone := s.one
  have hil : i < far.length := by rw [f.len]; exact hi
  have hb0 := f.b0
  have hbn := f.bn
  refine ⟨by rw [List.length_set]; exact f.len, fun w hw => ?_, by split <;> omega, fun q w hw h0 => ?_, fun q w hw hq k hk hle => ?_, fun _ => ?_, by split <;> omega⟩
  · rcases List.mem_or_eq_of_mem_set hw with e | rfl
    · have := f.nn w e
      split <;> omega
    · split <;> omega
  · by_cases e : i = q
    · subst e
      rw [List.getElem?_set_self hil] at hw
      obtain rfl := Option.some.inj hw
      exact ⟨hr, s.way⟩
    · rw [List.getElem?_set_ne e] at hw
      exact f.sound q w hw h0
  · by_cases e : i = q
    · subst e
      rw [List.getElem?_set_self hil] at hw
      obtain rfl := Option.some.inj hw
      rw [if_pos (Nat.lt_succ_self _)] at hle
      cases hk with
      | one => exact hone
      | @more k _ t e w =>
        obtain ⟨h1, h2, h3⟩ := (gN_bit (fun k hk u hu => (tgtN_ge hc k hk u hu).1) hi).1 e
        obtain ⟨v, hv⟩ : ∃ v, far[t]? = some v := ⟨_, List.getElem?_eq_getElem (by rw [f.len]; exact h2)⟩
        have h4 := s.part t (by rw [List.take_of_length_le hj]; exact (hm t).2 h1) h3 v (by rw [Int.toNat_natCast]; exact hv)
        have h5 := f.low t v hv (rch_step hc hi hr e) k w (by split <;> omega)
        omega
    · rw [List.getElem?_set_ne e] at hw
      refine f.low q w hw hq k hk ?_
      by_cases hlt : q < i
      · rw [if_pos hlt]; rw [if_pos (by omega)] at hle; exact hle
      · rw [if_neg hlt]; rw [if_neg (by omega)] at hle; exact hle
  · split
    · exact f.top (by omega)
    · exact ⟨i, hi, hr, s.way⟩
theorem FarI.next (f : FarI xs ps far best r xs.length) : FarI xs ps far best (r + 1) 0 :=
  ⟨f.len, f.nn, f.bn, f.sound, fun q w hw hq k hk hle => f.low q w hw hq k hk (by
    have : q < xs.length := by have := (List.getElem?_eq_some_iff.1 hw).1; have := f.len; omega
    rw [if_pos this]; rw [if_neg (Nat.not_lt_zero _)] at hle; omega), f.top, f.b0⟩
theorem FarI.len_is (f : FarI xs ps far best r 0) (hr : xs.length ≤ r) (hc : codeB xs = true) (ha : ∀ i, i < xs.length → OnC xs ps i → ¬ RchN xs i) (hin : ∀ i, RchN xs i → i < xs.length) : IsLen (gN xs (atsP ps)) (RchN xs) best.toNat := by
  refine ⟨fun k i hi hw => ?_, fun h1 => ?_⟩
  · have hil := hin i hi
    have hk := way_le hc ha hil hi hw
    obtain ⟨v, hv⟩ : ∃ v, far[i]? = some v := ⟨_, List.getElem?_eq_getElem (by rw [f.len]; exact hil)⟩
    have h1 := f.low i v hv hi k hw (by omega)
    have h2 := (f.nn v (List.mem_of_getElem? hv)).2
    omega
  · obtain ⟨i, _, h2, h3⟩ := f.top (by omega)
    exact ⟨i, h2, h3⟩
end
end Go.Proofs.YtffkdidgfeknkaaGreatDoor
