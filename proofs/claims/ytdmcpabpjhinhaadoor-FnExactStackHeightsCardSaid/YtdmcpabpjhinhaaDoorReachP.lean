/-
  What is reached over code: pure. No conditions.
-/
import Derived.Test.YtdmcpabpjhinhaaDoorTargP
namespace Go.Proofs.YtdmcpabpjhinhaaDoor
set_option linter.unusedVariables false

/-- The places behind the instruction k. -/
def tgtN (xs : List (Int × Int)) (k : Nat) : List Int := tgt1 (xs.getD k (0, 0)).1 (xs.getD k (0, 0)).2 k
/-- What is reached from some places on, over code. -/
inductive RchP (xs : List (Int × Int)) (S : Int → Prop) : Int → Prop
  | base {k : Int} : S k → RchP xs S k
  | step {k : Nat} {t : Int} : RchP xs S k → k < xs.length → t ∈ tgtN xs k → RchP xs S t
/-- A list of marks that says what is reached, below the end. -/
def MarksOf (xs : List (Int × Int)) (S : Int → Prop) (ms : List Bool) : Prop := ms.length = xs.length ∧ ∀ k : Nat, ∀ b, ms[k]? = some b → (b = true ↔ RchP xs S k)
theorem MarksOf.uniq {xs : List (Int × Int)} {S : Int → Prop} {a b : List Bool} (h : MarksOf xs S a) (h' : MarksOf xs S b) : a = b := by
  apply List.ext_getElem (by rw [h.1, h'.1])
  intro i hi hj
  have h1 := h.2 i a[i] (List.getElem?_eq_getElem hi)
  have h2 := h'.2 i b[i] (List.getElem?_eq_getElem hj)
  rw [Bool.eq_iff_iff, h1, h2]
/-- The model's search: marks and places still to be looked at. -/
structure Srch (xs : List (Int × Int)) (S : Int → Prop) (ms : List Bool) (work : List Int) : Prop where
  len : ms.length = xs.length
  ok : ∀ t ∈ work, RchP xs S t
  in_ : ∀ k : Nat, ms[k]? = some true → RchP xs S k
  all : ∀ t : Int, S t → t < xs.length → t ∈ work ∨ ms[t.toNat]? = some true
  next : ∀ k : Nat, ms[k]? = some true → ∀ t ∈ tgtN xs k, t < xs.length → t ∈ work ∨ ms[t.toNat]? = some true
theorem tgt1_ge {op a : Int} {k : Nat} {t : Int} (ha : op = 5 ∨ op = 6 → 0 ≤ a) (h : t ∈ tgt1 op a k) : 0 ≤ t := by
  unfold tgt1 at h
  split at h
  · cases h
  · split at h
    · rename_i e; simp at h; subst h; exact ha (.inl e)
    · split at h
      · rename_i e
        rcases (putR_one_mem _ _ _).1 h with rfl | rfl
        · omega
        · exact ha (.inr e)
      · simp at h; omega
theorem Srch.init {xs : List (Int × Int)} {S : Int → Prop} {work : List Int} (h : ∀ t, t ∈ work ↔ S t) : Srch xs S (List.replicate xs.length false) work :=
  ⟨by simp, fun t ht => .base ((h t).1 ht), fun k hk => (by rw [List.getElem?_replicate] at hk; split at hk <;> cases hk), fun t ht _ => .inl ((h t).2 ht), fun k hk => (by rw [List.getElem?_replicate] at hk; split at hk <;> cases hk)⟩
theorem Srch.skip {xs : List (Int × Int)} {S : Int → Prop} {ms : List Bool} {t : Int} {work : List Int} (h : Srch xs S ms (t :: work)) (ht : (xs.length : Int) ≤ t ∨ ms[t.toNat]? = some true) : Srch xs S ms work :=
  ⟨h.len, fun u hu => h.ok u (List.mem_cons_of_mem _ hu), h.in_,
    fun u hu hl => by
      rcases h.all u hu hl with h' | h'
      · rcases List.mem_cons.1 h' with rfl | h'
        · rcases ht with h2 | h2
          · omega
          · exact .inr h2
        · exact .inl h'
      · exact .inr h',
    fun k hk u hu hl => by
      rcases h.next k hk u hu hl with h' | h'
      · rcases List.mem_cons.1 h' with rfl | h'
        · rcases ht with h2 | h2
          · omega
          · exact .inr h2
        · exact .inl h'
      · exact .inr h'⟩
theorem Srch.mark {xs : List (Int × Int)} {S : Int → Prop} {ms : List Bool} {k : Nat} {work : List Int} (h : Srch xs S ms ((k : Int) :: work)) (hk : k < xs.length) : Srch xs S (ms.set k true) (work ++ tgtN xs k) := by
  have hr := h.ok _ (List.mem_cons_self ..)
  have up : ∀ i : Nat, ms[i]? = some true → (ms.set k true)[i]? = some true := fun i hi => by
    rw [List.getElem?_set]; split
    · rename_i e; rw [if_pos (by have := h.len; omega)]
    · exact hi
  have me : (ms.set k true)[((k : Int)).toNat]? = some true := by
    rw [Int.toNat_natCast, List.getElem?_set_self (by have := h.len; omega)]
  refine ⟨by rw [List.length_set]; exact h.len, fun u hu => ?_, fun i hi => ?_, fun u hu hl => ?_, fun i hi u hu hl => ?_⟩
  · rcases List.mem_append.1 hu with hu | hu
    · exact h.ok u (List.mem_cons_of_mem _ hu)
    · exact .step hr hk hu
  · rw [List.getElem?_set] at hi
    split at hi
    · rename_i e; subst e; exact hr
    · exact h.in_ i hi
  · rcases h.all u hu hl with h' | h'
    · rcases List.mem_cons.1 h' with rfl | h'
      · exact .inr me
      · exact .inl (List.mem_append_left _ h')
    · exact .inr (up _ h')
  · rw [List.getElem?_set] at hi
    split at hi
    · rename_i e; subst e; exact .inl (List.mem_append_right _ hu)
    · rcases h.next i hi u hu hl with h' | h'
      · rcases List.mem_cons.1 h' with rfl | h'
        · exact .inr me
        · exact .inl (List.mem_append_left _ h')
      · exact .inr (up _ h')
theorem Srch.done {xs : List (Int × Int)} {S : Int → Prop} {ms : List Bool} (h : Srch xs S ms [])   : MarksOf xs S ms := by
  have key : ∀ t, RchP xs S t → t < xs.length → ms[t.toNat]? = some true := by
    intro t ht
    induction ht with
    | base hs => intro hl; rcases h.all _ hs hl with h' | h'
                 · cases h'
                 · exact h'
    | step hk hkl htt ih =>
      intro hl
      have := ih (by omega)
      rw [Int.toNat_natCast] at this
      rcases h.next _ this _ htt hl with h' | h'
      · cases h'
      · exact h'
  refine ⟨h.len, fun k b hb => ⟨fun e => h.in_ k (by rw [hb, e]), fun hr => ?_⟩⟩
  have hl := (List.getElem?_eq_some_iff.1 hb).1
  have := key k hr (by have := h.len; omega)
  rw [Int.toNat_natCast, hb] at this
  exact Option.some.inj this
/-- How many marks are missing. -/
def missing (ms : List Bool) : Nat := (ms.filter (!·)).length
theorem missing_set {ms : List Bool} {k : Nat} (h : ms[k]? = some false) : missing (ms.set k true) + 1 = missing ms := by
  induction ms generalizing k with
  | nil => simp at h
  | cons m ms ih =>
    cases k with
    | zero => simp at h; subst h; simp [missing]
    | succ k =>
      have := ih (k := k) (by simpa using h)
      unfold missing at this ⊢
      rw [List.set_cons_succ, List.filter_cons, List.filter_cons]
      split
      · simp only [List.length_cons]; omega
      · exact this
theorem RchP_ge {xs : List (Int × Int)} {S : Int → Prop} (hS : ∀ t, S t → 0 ≤ t) (hx : ∀ (k : Nat) (x : Int × Int), xs[k]? = some x → x.1 = 5 ∨ x.1 = 6 → 0 ≤ x.2) : ∀ t, RchP xs S t → 0 ≤ t := by
  intro t ht
  cases ht with
  | base h => exact hS _ h
  | @step k _ hk hkl htt =>
    have hy : xs[k]? = some xs[k] := List.getElem?_eq_getElem hkl
    refine tgt1_ge (fun e => ?_) htt
    rw [List.getD_eq_getElem?_getD, hy] at e ⊢
    exact hx k _ hy e
/-- One list of heights goes on another: what is known stays. -/
def Ext (K K' : List Int) : Prop := K'.length = K.length ∧ ∀ i : Nat, K.getD i 0 ≠ -1 → K'.getD i 0 = K.getD i 0
theorem Ext.refl (K : List Int) : Ext K K := ⟨rfl, fun _ _ => rfl⟩
theorem Ext.trans {K L M : List Int} (h : Ext K L) (g : Ext L M) : Ext K M :=
  ⟨g.1.trans h.1, fun i hi => by have h1 := h.2 i hi; rw [g.2 i (by rw [h1]; exact hi), h1]⟩
theorem getD_of_lt {K : List Int} {i : Nat} (h : i < K.length) (d : Int) : K.getD i d = K[i] := by
  rw [List.getD_eq_getElem?_getD, List.getElem?_eq_getElem h]; rfl
theorem Ext.anti {K L : List Int} (h : Ext K L) (g : Ext L K) : K = L := by
  apply List.ext_getElem h.1.symm
  intro i hi hj
  rw [← getD_of_lt hi 0, ← getD_of_lt hj 0]
  by_cases e : K.getD i 0 = -1
  · by_cases e' : L.getD i 0 = -1
    · rw [e, e']
    · exact g.2 i e'
  · exact (h.2 i e).symm
theorem Ext.set {K : List Int} {t : Nat} {h : Int} (hk : K.getD t 0 = -1 ∨ K.getD t 0 = h) : Ext K (K.set t h) := by
  refine ⟨List.length_set .., fun i hi => ?_⟩
  rw [List.getD_eq_getElem?_getD, List.getD_eq_getElem?_getD, List.getElem?_set]
  split
  · rename_i e; subst e
    rw [List.getD_eq_getElem?_getD] at hi hk
    rcases hk with hk | hk
    · exact absurd hk hi
    · split
      · exact hk.symm
      · rename_i hl; rw [List.getElem?_eq_none (by omega)]
  · rfl
/-- How many heights are missing. -/
def missH (K : List Int) : Nat := (K.filter (· == -1)).length
theorem missH_le : ∀ (K L : List Int), L.length = K.length → (∀ i : Nat, K.getD i 0 ≠ -1 → L.getD i 0 = K.getD i 0) → missH L ≤ missH K ∧ (missH L = missH K → K = L)
  | [], [], _, _ => ⟨Nat.le_refl _, fun _ => rfl⟩
  | a :: K, b :: L, hl, h => by
    have ih := missH_le K L (by simpa using hl) (fun i hi => by have := h (i + 1) (by simpa using hi); simpa using this)
    have h0 := h 0
    simp only [List.getD_cons_zero] at h0
    unfold missH at ih ⊢
    rw [List.filter_cons, List.filter_cons]
    by_cases ea : a = -1
    · subst ea
      by_cases eb : b = -1
      · subst eb
        simp only [beq_self_eq_true, if_true, List.length_cons]
        refine ⟨by omega, fun e => ?_⟩
        rw [ih.2 (by omega)]
      · have : (b == -1) = false := by simp [eb]
        simp only [beq_self_eq_true, if_true, this, List.length_cons]
        refine ⟨by simp; omega, fun e => ?_⟩
        simp at e; omega
    · have hb : b = a := h0 ea
      subst hb
      have : (b == -1) = false := by simp [ea]
      simp only [this, Bool.false_eq_true, if_false]
      exact ⟨ih.1, fun e => by rw [ih.2 e]⟩
theorem Ext.miss {K L : List Int} (h : Ext K L) : missH L ≤ missH K ∧ (missH L = missH K → K = L) := missH_le K L h.1 h.2
/-- The measure of the sweeps: heights, and those before. -/
def leftH (K Bf : List Int) : Nat := if K = Bf then 0 else missH K + 1
theorem leftH_less {K Bf L : List Int} (h : Ext K L) (hne : K ≠ Bf) : leftH L K < leftH K Bf := by
  unfold leftH
  rw [if_neg hne]
  split
  · omega
  · rename_i e
    have := h.miss
    have h2 : missH L ≠ missH K := fun e' => e (this.2 e').symm
    omega
/-- The first heights. -/
def heights0 : List Int := 0 :: List.replicate 80 (-1)
theorem heights0_len : heights0.length = 81 := by simp [heights0]
theorem heights0_ne : heights0 ≠ List.replicate 81 0 := by
  intro h
  have := congrArg (fun l : List Int => l.getD 1 0) h
  simp [heights0] at this
/-- What holds of heights throughout: an invariant for what lies behind an instruction (b x h = the height behind it, if it may be executed). -/
structure GoesOn (xs : List (Int × Int)) (b : Int × Int → Int → Option Int) (I : List Int → Prop) : Prop where
  step : ∀ (k : Nat) (x : Int × Int) (K : List Int), xs[k]? = some x → I K → K.getD k 0 ≠ -1 → ∃ h, 0 ≤ h ∧ h ≤ 1000 ∧ b x (K.getD k 0) = some h ∧ ∀ t ∈ tgt1 x.1 x.2 k, ∀ L, I L → Ext K L → (L.getD t.toNat 0 = -1 ∨ L.getD t.toNat 0 = h) ∧ I (L.set t.toNat h)
/-- Heights that no sweep changes, as far as the first k instructions tell. -/
def ClosedTo (xs : List (Int × Int)) (b : Int × Int → Int → Option Int) (K : List Int) (k : Nat) : Prop :=
  ∀ (j : Nat) (x : Int × Int), j < k → xs[j]? = some x → K.getD j 0 ≠ -1 → ∃ h, b x (K.getD j 0) = some h ∧ ∀ t ∈ tgt1 x.1 x.2 j, K.getD t.toNat 0 = h
/-- Behind k instructions of a sweep that began with heights K: if nothing has changed, they are closed. -/
structure SwpTo (xs : List (Int × Int)) (b : Int × Int → Int → Option Int) (I : List Int → Prop) (K : List Int) (k : Nat) (L : List Int) : Prop where
  len : K.length = 81
  inv : I L
  ext : Ext K L
  same : L = K → ClosedTo xs b K k
theorem SwpTo.nil {xs b I} {K : List Int} (hI : I K) (hl : K.length = 81) : SwpTo xs b I K 0 K := ⟨hl, hI, .refl K, fun _ j x hj => absurd hj (Nat.not_lt_zero j)⟩
theorem SwpTo.skip {xs b I} {K L : List Int} {k : Nat} (h : SwpTo xs b I K k L) (hk : L.getD k 0 = -1) : SwpTo xs b I K (k + 1) L := by
  refine ⟨h.len, h.inv, h.ext, fun e j x hj hx hn => ?_⟩
  by_cases hjk : j = k
  · subst hjk; rw [e] at hk; exact absurd hk hn
  · exact h.same e j x (by omega) hx hn
/-- Behind some targets of an instruction. -/
structure PutTo (I : List Int → Prop) (h : Int) (L : List Int) (ts : List Int) (M : List Int) : Prop where
  inv : I M
  ext : Ext L M
  all : M = L → ∀ t ∈ ts, L.getD t.toNat 0 = h
theorem PutTo.nil {I h} {L : List Int} (hI : I L) : PutTo I h L [] L := ⟨hI, .refl L, fun _ t ht => absurd ht (by simp)⟩
theorem PutTo.more {I h} {L M : List Int} {ts : List Int} {t : Int} (p : PutTo I h L ts M) (ht : t.toNat < M.length) (h1 : M.getD t.toNat 0 = -1 ∨ M.getD t.toNat 0 = h) (h2 : I (M.set t.toNat h)) : PutTo I h L (ts ++ [t]) (M.set t.toNat h) := by
  have e1 : Ext M (M.set t.toNat h) := .set h1
  refine ⟨h2, p.ext.trans e1, fun e u hu => ?_⟩
  have eM : M = L := Ext.anti (e ▸ e1) p.ext
  rcases List.mem_append.1 hu with hu | hu
  · exact p.all eM u hu
  · rw [List.mem_singleton] at hu
    subst hu
    rw [← e, List.getD_eq_getElem?_getD, List.getElem?_set_self ht]
    rfl
theorem SwpTo.done {xs b I} {K L M : List Int} {k : Nat} {x : Int × Int} {h : Int} (s : SwpTo xs b I K k L) (hx : xs[k]? = some x) (hb : b x (L.getD k 0) = some h) (p : PutTo I h L (tgt1 x.1 x.2 k) M) : SwpTo xs b I K (k + 1) M := by
  refine ⟨s.len, p.inv, s.ext.trans p.ext, fun e j y hj hy hn => ?_⟩
  have eL : L = K := Ext.anti (e ▸ p.ext) s.ext
  by_cases hjk : j = k
  · subst hjk
    obtain rfl : x = y := by rw [hx] at hy; exact Option.some.inj hy
    rw [eL] at hb
    exact ⟨h, hb, fun t ht => by rw [← eL]; exact p.all (e.trans eL.symm) t ht⟩
  · exact s.same eL j y (by omega) hy hn
/-- What lies behind the sweeps: an invariant, and that the heights are closed. -/
structure SprTo (xs : List (Int × Int)) (b : Int × Int → Int → Option Int) (I : List Int → Prop) (K : List Int) : Prop where
  len : K.length = 81
  inv : I K
  ext : Ext heights0 K
  closed : ClosedTo xs b K xs.length
/-- .. between two sweeps. -/
structure SprAt (xs : List (Int × Int)) (b : Int × Int → Int → Option Int) (I : List Int → Prop) (K Bf : List Int) : Prop where
  len : K.length = 81
  inv : I K
  ext : Ext heights0 K
  closed : K = Bf → ClosedTo xs b K xs.length
theorem SprAt.init {xs b I} (hI : I heights0) : SprAt xs b I heights0 (List.replicate 81 0) := ⟨heights0_len, hI, .refl _, fun e => absurd e heights0_ne⟩
theorem SprAt.next {xs b I} {K Bf L : List Int} (h : SprAt xs b I K Bf) (s : SwpTo xs b I K xs.length L) : SprAt xs b I L K :=
  ⟨s.ext.1.trans h.len, s.inv, h.ext.trans s.ext, fun e => e ▸ s.same e⟩
theorem SprAt.done {xs b I} {K : List Int} (h : SprAt xs b I K K) : SprTo xs b I K := ⟨h.len, h.inv, h.ext, h.closed rfl⟩

/-- Nothing but what is reached, with heights that do not matter. -/
def Emp (xs : List (Int × Int)) (K : List Int) : Prop := K.length = 81 ∧ ∀ i : Nat, i < 81 → K.getD i 0 = -1 ∨ K.getD i 0 = 0 ∧ RchP xs (fun t => t = 0) i
theorem Emp.init (xs : List (Int × Int)) : Emp xs heights0 := by
  refine ⟨heights0_len, fun i hi => ?_⟩
  cases i with
  | zero => exact .inr ⟨rfl, .base rfl⟩
  | succ i =>
    left
    unfold heights0
    rw [List.getD_cons_succ, List.getD_eq_getElem?_getD, List.getElem?_replicate, if_pos (by omega)]
    rfl
theorem emp_on {xs : List (Int × Int)} (hl : xs.length ≤ 80) (hx : ∀ (k : Nat) (x : Int × Int), xs[k]? = some x → ∀ t ∈ tgt1 x.1 x.2 k, 0 ≤ t ∧ t ≤ 80) : GoesOn xs (fun _ _ => some 0) (Emp xs) := by
  refine ⟨fun k x K hk hI hn => ⟨0, by decide, by decide, rfl, fun t ht L hL hE => ?_⟩⟩
  have hkl : k < xs.length := (List.getElem?_eq_some_iff.1 hk).1
  obtain ⟨t0, t1⟩ := hx k x hk t ht
  have hr : RchP xs (fun t => t = 0) k := by
    rcases hI.2 k (by omega) with h | h
    · exact absurd h hn
    · exact h.2
  have hrt : RchP xs (fun t => t = 0) t := .step hr hkl (by unfold tgtN; rw [List.getD_eq_getElem?_getD, hk]; exact ht)
  refine ⟨(hL.2 t.toNat (by omega)).imp id (·.1), (List.length_set ..).trans hL.1, fun i hi => ?_⟩
  rw [List.getD_eq_getElem?_getD, List.getElem?_set]
  split
  · rename_i e
    rw [if_pos (by have := hL.1; omega)]
    refine .inr ⟨rfl, ?_⟩
    have : (i : Int) = t := by omega
    rw [this]; exact hrt
  · have := hL.2 i hi
    rw [List.getD_eq_getElem?_getD] at this
    exact this
/-- Which instructions heights tell to be reached. -/
def marksH (n : Nat) (K : List Int) : List Bool := (List.range n).map fun k => K.getD k 0 != -1
theorem marksH_of {xs : List (Int × Int)} {K : List Int} (hl : xs.length ≤ 80) (hx : ∀ (k : Nat) (x : Int × Int), xs[k]? = some x → ∀ t ∈ tgt1 x.1 x.2 k, 0 ≤ t ∧ t ≤ 80) (h : SprTo xs (fun _ _ => some 0) (Emp xs) K) : MarksOf xs (fun t => t = 0) (marksH xs.length K) := by
  refine ⟨by simp [marksH], fun k b hb => ?_⟩
  have hk : k < xs.length := by
    have := (List.getElem?_eq_some_iff.1 hb).1
    simpa [marksH] using this
  have eb : b = (K.getD k 0 != -1) := by
    unfold marksH at hb
    rw [List.getElem?_map, List.getElem?_range hk] at hb
    exact (Option.some.inj hb).symm
  subst eb
  have h0 : K.getD 0 0 = 0 := by
    have := h.ext.2 0 (by simp [heights0])
    rw [this]; simp [heights0]
  have key : ∀ t, RchP xs (fun t => t = 0) t → 0 ≤ t ∧ t ≤ 80 ∧ K.getD t.toNat 0 ≠ -1 := by
    intro t ht
    induction ht with
    | base e => subst e; exact ⟨by omega, by omega, by show K.getD 0 0 ≠ -1; rw [h0]; decide⟩
    | @step j t hj hjl htt ih =>
      have hy : xs[j]? = some xs[j] := List.getElem?_eq_getElem hjl
      have htt' : t ∈ tgt1 xs[j].1 xs[j].2 j := by unfold tgtN at htt; rw [List.getD_eq_getElem?_getD, hy] at htt; exact htt
      obtain ⟨t0, t1⟩ := hx j _ hy t htt'
      obtain ⟨h', e, hall⟩ := h.closed j _ hjl hy (by have := ih.2.2; rwa [Int.toNat_natCast] at this)
      refine ⟨t0, t1, ?_⟩
      rw [hall t htt']
      have : h' = 0 := (Option.some.inj e).symm
      rw [this]; decide
  constructor
  · intro e
    rcases h.inv.2 k (by omega) with h' | h'
    · rw [h'] at e; exact absurd e (by decide)
    · exact h'.2
  · intro hr
    have := (key _ hr).2.2
    rw [Int.toNat_natCast] at this
    simp only [bne_iff_ne, ne_eq]
    exact this
theorem tgt_in {xs : List (Int × Int)} (hc : codeB xs = true) : ∀ (k : Nat) (x : Int × Int), xs[k]? = some x → ∀ t ∈ tgt1 x.1 x.2 k, 0 ≤ t ∧ t ≤ 80 := by
  intro k x hx t ht
  have hk : k < xs.length := (List.getElem?_eq_some_iff.1 hx).1
  have h80 := (codeB_parts hc).2.1
  obtain ⟨h0, h1, h2, h3⟩ := instrB_parts (codeB_at hc hx)
  unfold tgt1 at ht
  unfold loB at h2
  unfold hiB at h3
  split at ht
  · cases ht
  · split at ht
    · rename_i e
      rw [e] at h2 h3
      simp at h2 h3 ht
      omega
    · split at ht
      · rename_i e
        rw [e] at h2 h3
        simp at h2 h3
        rcases (putR_one_mem _ _ _).1 ht with rfl | rfl <;> omega
      · simp at ht; omega
theorem tgt_len (op a k : Int) : (tgt1 op a k).length ≤ 2 := by
  unfold tgt1
  split
  · simp
  · split
    · simp
    · split
      · rw [putR_one]; split
        · simp
        · split <;> simp
      · simp
theorem marks_exist (xs : List (Int × Int)) (S : Int → Prop) : ∃ ms, MarksOf xs S ms := by
  refine ⟨(List.range xs.length).map fun (k : Nat) => @decide (RchP xs S k) (Classical.propDecidable _), by simp, fun k b hb => ?_⟩
  rw [List.getElem?_map] at hb
  cases hr : (List.range xs.length)[k]? with
  | none => rw [hr] at hb; cases hb
  | some j =>
    rw [hr] at hb
    have hj : j = k := by
      have h1 := (List.getElem?_eq_some_iff.1 hr)
      obtain ⟨h1, h2⟩ := h1
      simp at h2
      exact h2.symm
    subst hj
    obtain rfl := Option.some.inj hb
    exact @decide_eq_true_iff _ (Classical.propDecidable _)
/-- The instructions that marks tell, of the first ones. -/
def lstM (ms : List Bool) (k : Nat) : List Int := ((List.range k).filter fun j => ms.getD j false).map fun (j : Nat) => (j : Int)
theorem lstM_zero (ms : List Bool) : lstM ms 0 = [] := rfl
theorem lstM_yes {ms : List Bool} {k : Nat} (h : ms[k]? = some true) : lstM ms (k + 1) = lstM ms k ++ [(k : Int)] := by
  unfold lstM
  rw [List.range_succ, List.filter_append, List.map_append]
  simp [List.getD_eq_getElem?_getD, h]
theorem lstM_no {ms : List Bool} {k : Nat} (h : ms[k]? = some false) : lstM ms (k + 1) = lstM ms k := by
  unfold lstM
  rw [List.range_succ, List.filter_append, List.map_append]
  simp [List.getD_eq_getElem?_getD, h]
theorem lstM_len (ms : List Bool) (k : Nat) : (lstM ms k).length ≤ k := by
  unfold lstM
  rw [List.length_map]
  have := List.length_filter_le (fun j => ms.getD j false) (List.range k)
  rwa [List.length_range] at this
end Go.Proofs.YtdmcpabpjhinhaaDoor
