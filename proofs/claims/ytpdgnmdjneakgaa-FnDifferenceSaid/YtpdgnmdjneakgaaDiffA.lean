/-
  Several texts in one: DiffP, BoundW, More, Words, DiffS, DiffI. Conditions: as each says.
-/
import Derived.Test.YtpdgnmdjneakgaaFindA
import Derived.Test.YtpdgnmdjneakgaaBound
import Derived.Below
import Derived.Test.YtpdgnmdjneakgaaMinC
import Derived.ArgAppend
import Derived.Test.YtpdgnmdjneakgaaMinM
import Derived.Deep.RegionHeld3
import Derived.Test.YtpdgnmdjneakgaaBothA
import Derived.Test.YtpdgnmdjneakgaaRound

/-! The words of the states in the order in which they are reached, and how long the first word is that tells two policies apart. (pure) No conditions. -/
namespace Go.Proofs.Ytpdgnmdjneakgaa
set_option linter.unusedVariables false

section
variable {st : Int → Nat → Int × Bool} {L : List Int} {R : List (List Int)}
theorem UnfEnd.items (h : UnfEnd st 0 L R) : (wunf st L.length).map Prod.fst = L := by
  obtain ⟨k, h1, h2⟩ := h
  rw [← h2, wunf_fst, h1]
theorem UnfEnd.item (h : UnfEnd st 0 L R) {s : Nat} (hs : s < L.length) : ∃ t, (wunf st s)[s]? = some t ∧ (wunf st L.length)[s]? = some t ∧ L[s]? = some t.1 := by
  have hi := h.items
  have hlt : s < (wunf st s).length := by
    rcases Nat.lt_or_ge s (wunf st s).length with k | k
    · exact k
    · obtain ⟨d, hd⟩ := Nat.exists_eq_add_of_le (Nat.le_of_lt hs)
      have := congrArg List.length hi
      rw [List.length_map, hd, wunf_stay k d] at this
      omega
  have e1 : (wunf st s)[s]? = some (wunf st s)[s] := List.getElem?_eq_getElem hlt
  obtain ⟨d, hd⟩ := Nat.exists_eq_add_of_le (Nat.le_of_lt hs)
  obtain ⟨z, hz⟩ := wunf_pre (st := st) s d
  have e2 : (wunf st L.length)[s]? = some (wunf st s)[s] := by rw [hd, ← hz, List.getElem?_append_left hlt]; exact e1
  refine ⟨_, e1, e2, ?_⟩
  have e3 : L[s]? = ((wunf st L.length).map Prod.fst)[s]? := by rw [hi]
  rw [e3, List.getElem?_map, e2]; rfl
/-- A state is new exactly if its number is the next one. -/
theorem word_new (h : UnfEnd st 0 L R) (hnd : L.Nodup) {s e : Nat} {x : Int} {wd : List Int} (hx : (wunf st s)[s]? = some (x, wd)) (hs : s < L.length) (he : e < 4) :
    nxP R s e = ((wT st x wd (wunf st s) e).length : Int) ↔ ((st x e).2 = true ∧ (st x e).1 ∉ (wT st x wd (wunf st s) e).map Prod.fst) := by
  have hA := h.unfAt
  have hi := h.items
  obtain ⟨t, h1, _, h3⟩ := h.item hs
  rw [hx] at h1
  obtain rfl := Option.some.inj h1
  obtain ⟨a, b⟩ := hA.nx s x h3 e he
  have hpre : ∀ j, j ≤ 4 → (wT st x wd (wunf st s) j).map Prod.fst <+: L := fun j hj => by
    obtain ⟨d, hd⟩ := Nat.exists_eq_add_of_le (show s + 1 ≤ L.length from hs)
    have hp : wT st x wd (wunf st s) j <+: wT st x wd (wunf st s) 4 := by
      obtain ⟨c, hc⟩ := Nat.exists_eq_add_of_le hj
      rw [hc]
      clear hc hj
      induction c with
      | zero => exact List.prefix_refl _
      | succ c ih => exact ih.trans (wS_pre _ _ _ _)
    have hq := wunf_pre (st := st) (s + 1) d
    rw [wunf_next hx, ← hd] at hq
    obtain ⟨z, hz⟩ := hp.trans hq
    exact ⟨z.map Prod.fst, by rw [← List.map_append, hz, hi]⟩
  obtain ⟨z, hz⟩ := hpre e (by omega)
  have hql : (wT st x wd (wunf st s) e).length = ((wT st x wd (wunf st s) e).map Prod.fst).length := by rw [List.length_map]
  cases hv : (st x e).2 with
  | false =>
    have := a.2 hv
    constructor
    · intro k; omega
    · intro k; cases k.1
  | true =>
    obtain ⟨j, j1, j2, j3⟩ := b hv
    have hidx : ∀ i, L[i]? = some (st x e).1 → i = j := fun i hi' => by
      obtain ⟨p1, p2⟩ := List.getElem?_eq_some_iff.1 hi'
      obtain ⟨q1, q2⟩ := List.getElem?_eq_some_iff.1 j3
      have hp := List.pairwise_iff_getElem.1 hnd
      rcases Nat.lt_trichotomy i j with k | k | k
      · exact absurd (p2.trans q2.symm) (hp i j p1 q1 k)
      · exact k
      · exact absurd (q2.trans p2.symm) (hp j i q1 p1 k)
    constructor
    · intro k
      refine ⟨rfl, fun hm => ?_⟩
      obtain ⟨i, hi'⟩ := List.getElem?_of_mem hm
      have hil := (List.getElem?_eq_some_iff.1 hi').1
      have : L[i]? = some (st x e).1 := by rw [← hz, List.getElem?_append_left hil]; exact hi'
      have := hidx i this
      omega
    · rintro ⟨_, hm⟩
      obtain ⟨z', hz'⟩ := hpre (e + 1) (by omega)
      rw [wT, wS_yes hv hm, List.map_append] at hz'
      have : L[(wT st x wd (wunf st s) e).length]? = some (st x e).1 := by
        rw [← hz', List.getElem?_append_left (by simp), List.getElem?_append_right (by simp)]
        simp
      have := hidx _ this
      rw [j2, this]
end

/-- Words in the order of their lengths, none longer than c. -/
def Bfs (Q : List (Int × List Int)) (c : Nat) : Prop := (∀ (i j : Nat) (a b : Int × List Int), i ≤ j → Q[i]? = some a → Q[j]? = some b → a.2.length ≤ b.2.length) ∧ ∀ a ∈ Q, a.2.length ≤ c
theorem Bfs.add {Q : List (Int × List Int)} {c : Nat} (h : Bfs Q c) {t : Int × List Int} (ht : t.2.length = c) : Bfs (Q ++ [t]) c := by
  obtain ⟨h1, h2⟩ := h
  refine ⟨fun i j a b hij ha hb => ?_, fun a ha => ?_⟩
  · have hbl := (List.getElem?_eq_some_iff.1 hb).1
    have hl : (Q ++ [t]).length = Q.length + 1 := by simp
    by_cases hj : j < Q.length
    · rw [List.getElem?_append_left hj] at hb
      rw [List.getElem?_append_left (by omega)] at ha
      exact h1 i j a b hij ha hb
    · have hje : j = Q.length := by omega
      subst hje
      have hbt : b = t := by simpa using hb.symm
      rw [hbt, ht]
      by_cases hi : i < Q.length
      · rw [List.getElem?_append_left hi] at ha
        exact h2 a (List.mem_of_getElem? ha)
      · have hie : i = Q.length := by omega
        subst hie
        have hat : a = t := by simpa using ha.symm
        rw [hat, ht]; exact Nat.le_refl _
  · rcases List.mem_append.1 ha with h' | h'
    · exact h2 a h'
    · simp at h'; subst h'; omega
theorem Bfs.wT {st : Int → Nat → Int × Bool} {x : Int} {wd : List Int} {Q : List (Int × List Int)} (h : Bfs Q (wd.length + 1)) : ∀ j, Bfs (wT st x wd Q j) (wd.length + 1)
  | 0 => h
  | j + 1 => by
    have ih := Bfs.wT (st := st) (x := x) h j
    unfold Go.Proofs.Ytpdgnmdjneakgaa.wT wS
    split
    · exact ih.add (by simp)
    · exact ih
theorem wunf_bfs {st : Int → Nat → Int × Bool} : ∀ k t, (wunf st k)[k]? = some t → Bfs (wunf st k) (t.2.length + 1)
  | 0, t, h => by
    have h' : t = (0, []) := by simpa [wunf] using h.symm
    subst h'
    exact ⟨fun i j a b _ ha hb => by
      have ha' := (List.getElem?_eq_some_iff.1 ha).1
      have hb' := (List.getElem?_eq_some_iff.1 hb).1
      simp [wunf] at ha' hb'
      subst ha' hb'
      rw [ha] at hb
      obtain rfl := Option.some.inj hb
      exact Nat.le_refl _, fun a ha => by simp [wunf] at ha; subst ha; simp⟩
  | k + 1, t, h => by
    have hlt : k < (wunf st k).length := by
      rcases Nat.lt_or_ge k (wunf st k).length with c | c
      · exact c
      · rw [wunf_stop c] at h
        have := (List.getElem?_eq_some_iff.1 h).1
        omega
    have e1 : (wunf st k)[k]? = some (wunf st k)[k] := List.getElem?_eq_getElem hlt
    have ih := wunf_bfs k _ e1
    have hn := wunf_next e1
    have hb := Bfs.wT (st := st) (x := (wunf st k)[k].1) ih 4
    rw [← hn] at hb
    obtain ⟨z, hz⟩ := wunf_pre (st := st) k 1
    have e2 : (wunf st (k + 1))[k]? = some (wunf st k)[k] := by rw [← hz, List.getElem?_append_left hlt]; exact e1
    have hle := hb.1 k (k + 1) _ _ (by omega) e2 h
    exact ⟨hb.1, fun a ha => by have := hb.2 a ha; omega⟩

theorem findQ_inv {hit : Int → Nat → Bool} : ∀ {Q : List (Int × List Int)} {w : List Int}, findQ hit Q = some w → ∃ (i e : Nat) (t : Int × List Int), Q[i]? = some t ∧ e < 4 ∧ hit t.1 e = true ∧ w = t.2 ++ [(e : Int)] ∧ ∀ (j : Nat) (u : Int × List Int), j < i → Q[j]? = some u → ∀ e, e < 4 → hit u.1 e = false
  | [], w, h => by cases h
  | v :: Q, w, h => by
    rw [findQ] at h
    cases hf : (List.range 4).find? (hit v.1) with
    | some e =>
      rw [hf] at h
      refine ⟨0, e, v, rfl, List.mem_range.1 (List.mem_of_find?_eq_some hf), List.find?_some hf, (Option.some.inj h).symm, fun j u hj => by omega⟩
    | none =>
      rw [hf] at h
      obtain ⟨i, e, t, h1, h2, h3, h4, h5⟩ := findQ_inv h
      refine ⟨i + 1, e, t, by simpa using h1, h2, h3, h4, fun j u hj hu e he => ?_⟩
      cases j with
      | zero =>
        obtain rfl : v = u := by simpa using hu
        have := List.find?_eq_none.1 hf e (List.mem_range.2 he)
        simpa using this
      | succ j => exact h5 j u (by omega) (by simpa using hu) e he

/-- Both policies' states side by side. -/
def dU (p q : List (List Int)) : List (List Int) := p ++ q.map fun r => r.map fun z => if z < 0 then z else z + (p.length : Int)
theorem dU_len (p q : List (List Int)) : (dU p q).length = p.length + q.length := by simp [dU]
theorem dU_one {p q : List (List Int)} {a e : Nat} (ha : a < p.length) : nxP (dU p q) a e = nxP p a e := by
  have h1 : (dU p q).getD a [] = p.getD a [] := by unfold dU; rw [List.getD, List.getElem?_append_left ha]; rfl
  unfold nxP
  rw [h1]
theorem dU_two {p q : List (List Int)} (ok : RectP q) {b e : Nat} (hb : b < q.length) (he : e < 4) : nxP (dU p q) (p.length + b) e = if nxP q b e < 0 then nxP q b e else nxP q b e + (p.length : Int) := by
  obtain ⟨r, hr, hl, hz, _, _⟩ := ok.at_ hb he
  have h1 : (dU p q).getD (p.length + b) [] = r.map fun z => if z < 0 then z else z + (p.length : Int) := by
    unfold dU
    rw [List.getD, List.getElem?_append_right (by omega), Nat.add_sub_cancel_left, List.getElem?_map, hr]; rfl
  generalize nxP q b e = y at hz ⊢
  unfold nxP
  rw [h1, List.getD, List.getElem?_map, hz]; rfl
theorem dU_rect {p q : List (List Int)} (okp : RectP p) (okq : RectP q) : RectP (dU p q) := by
  refine ⟨by rw [dU_len]; have := okp.lo; omega, fun r hr => ?_, fun r hr z hz => ?_⟩
  · rcases List.mem_append.1 hr with h | h
    · exact okp.len r h
    · obtain ⟨r', h1, rfl⟩ := List.mem_map.1 h
      rw [List.length_map]; exact okq.len r' h1
  · rw [dU_len]
    rcases List.mem_append.1 hr with h | h
    · have := okp.num r h z hz; omega
    · obtain ⟨r', h1, rfl⟩ := List.mem_map.1 h
      obtain ⟨y, h2, rfl⟩ := List.mem_map.1 hz
      have := okq.num r' h1 y h2
      split <;> omega
theorem hit_off {p q : List (List Int)} {x : Int} {e : Nat} : hitB p q true x e = false ↔ (nxP p (x / (q.length : Int)).toNat e < 0 ↔ nxP q (x % (q.length : Int)).toNat e < 0) := by
  unfold hitB
  simp only [Bool.true_and, Bool.or_eq_false_iff, Bool.and_eq_false_iff, decide_eq_false_iff_not]
  omega
/-- A shortest word is shorter than there are states. -/
theorem findP_len {p q : List (List Int)} (okp : RectP p) (okq : RectP q) {w : List Int} (h : findP p q true = some w) : w.length ≤ p.length + q.length := by
  have hp1 := okp.lo
  have hq1 := okq.lo
  have hNp := Nat.mul_pos hp1 hq1
  have h00 : (0 : Int) ≤ 0 ∧ (0 : Int) < ((p.length * q.length : Nat) : Int) := by omega
  obtain ⟨L, R, hend⟩ := unf_end (stP_stays okp okq) h00 (p.length * q.length) 0 (by omega) (Nat.zero_le _)
  have hA := hend.unfAt
  have hLN : ∀ x ∈ L, 0 ≤ x ∧ x < ((p.length * q.length : Nat) : Int) := fun x hx => by
    obtain ⟨k, hk, _⟩ := hend
    have := unf_among (stP_stays okp okq) h00 k
    rw [hk] at this
    exact this.2 x hx
  have hLl : L.length ≤ p.length * q.length := by
    obtain ⟨k, hk, _⟩ := hend
    have := (unf_among (stP_stays okp okq) h00 k).len
    rw [hk] at this
    exact this
  have hQ : wunf (stP p q) (p.length * q.length) = wunf (stP p q) L.length := by
    obtain ⟨d, hd⟩ := Nat.exists_eq_add_of_le hLl
    rw [hd]
    refine wunf_stay ?_ d
    have := congrArg List.length hend.items
    rw [List.length_map] at this
    omega
  unfold findP at h
  rw [hQ] at h
  obtain ⟨i, e, t, h1, h2, h3, h4, h5⟩ := findQ_inv h
  obtain ⟨x, wd⟩ := t
  dsimp only at h1 h3 h4
  have hlen : (wunf (stP p q) L.length).length = L.length := by have := congrArg List.length hend.items; rwa [List.length_map] at this
  have hil : i < L.length := by have := (List.getElem?_eq_some_iff.1 h1).1; omega
  have hfst : ∀ (j : Nat) (t : Int × List Int), (wunf (stP p q) L.length)[j]? = some t → L[j]? = some t.1 := fun j t hj => by
    have e3 : L[j]? = ((wunf (stP p q) L.length).map Prod.fst)[j]? := by rw [hend.items]
    rw [e3, List.getElem?_map, hj]; rfl
  have hsort : ∀ (i j : Nat) (a b : Int × List Int), i ≤ j → (wunf (stP p q) L.length)[i]? = some a → (wunf (stP p q) L.length)[j]? = some b → a.2.length ≤ b.2.length := by
    obtain ⟨t, h6, h7, _⟩ := hend.item (s := L.length - 1) (by omega)
    have hb := Bfs.wT (st := stP p q) (x := t.1) (wunf_bfs _ _ h6) 4
    rw [← wunf_next h6, show L.length - 1 + 1 = L.length by omega] at hb
    exact hb.1
  have hst : ∀ x ∈ L, (x / (q.length : Int)).toNat < p.length ∧ (x % (q.length : Int)).toNat < q.length := fun x hx => by
    have := hLN x hx
    have a1 : 0 ≤ x / (q.length : Int) := Int.ediv_nonneg this.1 (by omega)
    have a2 : x / (q.length : Int) < (p.length : Int) := Int.ediv_lt_of_lt_mul (by omega) (by rw [← Int.natCast_mul]; exact this.2)
    have a3 : 0 ≤ x % (q.length : Int) := Int.emod_nonneg _ (by omega)
    have a4 : x % (q.length : Int) < (q.length : Int) := Int.emod_lt_of_pos _ (by omega)
    omega
  subst h4
  rw [List.length_append, List.length_singleton]
  refine Classical.byContradiction fun hlong => ?_
  have okD := dU_rect okp okq
  have hDl := dU_len p q
  -- one step in both
  have hstep : ∀ x ∈ L, ∀ e, e < 4 → ((nxP (dU p q) (x / (q.length : Int)).toNat e < 0 ↔ nxP (dU p q) (p.length + (x % (q.length : Int)).toNat) e < 0) ↔ hitB p q true x e = false) := fun x hx e he => by
    obtain ⟨b1, b2⟩ := hst x hx
    rw [hit_off, dU_one b1, dU_two okq b2 he]
    by_cases hn : nxP q (x % (q.length : Int)).toNat e < 0
    · rw [if_pos hn]
    · rw [if_neg hn]; constructor <;> intro k <;> omega
  have hnext : ∀ x ∈ L, ∀ e, e < 4 → (stP p q x e).2 = true → (nxP (dU p q) (x / (q.length : Int)).toNat e).toNat = ((stP p q x e).1 / (q.length : Int)).toNat ∧ (nxP (dU p q) (p.length + (x % (q.length : Int)).toNat) e).toNat = p.length + ((stP p q x e).1 % (q.length : Int)).toNat ∧ ¬ nxP (dU p q) (x / (q.length : Int)).toNat e < 0 := fun x hx e he hv => by
    obtain ⟨b1, b2⟩ := hst x hx
    obtain ⟨c1, c2⟩ := stP_parts (p := p) okq (hLN x hx).1 he
    rw [stP_ok] at hv
    simp only [Bool.and_eq_true, decide_eq_true_eq] at hv
    rw [stR_yes (by omega)] at c1 c2
    rw [c1, c2, dU_one b1, dU_two okq b2 he, if_neg (by omega)]
    dsimp only
    refine ⟨rfl, by omega, by omega⟩
  have key : ∀ (t j : Nat) (x : Int) (wd' : List Int), (wunf (stP p q) L.length)[j]? = some (x, wd') → wd'.length + t ≤ p.length + q.length → eqB (dU p q) t (x / (q.length : Int)).toNat (p.length + (x % (q.length : Int)).toNat) = true := fun t => by
    induction t with
    | zero => intro j x wd' _ _; rfl
    | succ t ih =>
      intro j x wd' hj hl
      have hxL := hfst j _ hj
      have hjl := (List.getElem?_eq_some_iff.1 hxL).1
      have hji : j < i := by
        rcases Nat.lt_or_ge j i with k | k
        · exact k
        · have := hsort i j _ _ k h1 hj
          dsimp only at this
          omega
      rw [eqB_succ]
      intro e he
      have hoff := h5 j _ hji hj e he
      refine ⟨(hstep x (List.mem_of_getElem? hxL) e he).2 hoff, fun hn => ?_⟩
      have hv : (stP p q x e).2 = true := by
        rw [hit_off] at hoff
        obtain ⟨b1, b2⟩ := hst x (List.mem_of_getElem? hxL)
        rw [dU_one b1] at hn
        rw [stP_ok]
        simp only [Bool.and_eq_true, decide_eq_true_eq]
        dsimp only at hoff
        omega
      obtain ⟨n1, n2, _⟩ := hnext x (List.mem_of_getElem? hxL) e he hv
      rw [n1, n2]
      -- the next pair and its word
      obtain ⟨t', k1, k2, _⟩ := hend.item hjl
      rw [hj] at k2
      obtain rfl := Option.some.inj k2
      have hb := Bfs.wT (st := stP p q) (x := x) (wunf_bfs _ _ k1) (e + 1)
      have hm : (stP p q x e).1 ∈ (wT (stP p q) x wd' (wunf (stP p q) j) (e + 1)).map Prod.fst := by
        rw [wT]
        by_cases hm : (stP p q x e).1 ∈ (wT (stP p q) x wd' (wunf (stP p q) j) e).map Prod.fst
        · rw [wS_no (.inr hm)]; exact hm
        · rw [wS_yes hv hm]; simp
      obtain ⟨u, hu, hu2⟩ := List.mem_map.1 hm
      have hul := hb.2 u hu
      have hpre : wT (stP p q) x wd' (wunf (stP p q) j) (e + 1) <+: wunf (stP p q) L.length := by
        have hp : wT (stP p q) x wd' (wunf (stP p q) j) (e + 1) <+: wT (stP p q) x wd' (wunf (stP p q) j) 4 := by
          obtain ⟨c, hc⟩ := Nat.exists_eq_add_of_le (show e + 1 ≤ 4 by omega)
          rw [hc]
          clear hc
          induction c with
          | zero => exact List.prefix_refl _
          | succ c ih => exact ih.trans (wS_pre _ _ _ _)
        have hq := wunf_pre (st := stP p q) (j + 1) (L.length - (j + 1))
        rw [wunf_next k1, show j + 1 + (L.length - (j + 1)) = L.length by omega] at hq
        exact hp.trans hq
      obtain ⟨j', hj'⟩ := List.getElem?_of_mem (hpre.subset hu)
      obtain ⟨y, wy⟩ := u
      dsimp only at hu2 hul
      subst hu2
      exact ih j' _ wy hj' (by omega)
  -- so all words are allowed by both or by none
  have h0 : eqB (dU p q) (p.length + q.length) 0 (p.length + 0) = true := by
    have hz : (wunf (stP p q) L.length)[0]? = some (0, []) := by
      obtain ⟨z, hz⟩ := wunf_pre (st := stP p q) 0 L.length
      rw [Nat.zero_add] at hz
      rw [← hz]; rfl
    have := key (p.length + q.length) 0 0 [] hz (by simp)
    rw [Int.zero_ediv, Int.zero_emod] at this
    exact this
  have hall : ∀ d, eqB (dU p q) (p.length + q.length + d) 0 (p.length + 0) = true := (hDl ▸ settled_len okD).far okD (by rw [hDl]; omega) (by rw [hDl]; omega) h0
  obtain ⟨wv, w1, w2⟩ := unf_word hend i hil
  have walk : ∀ (w : List Nat), (∀ e ∈ w, e < 4) → ∀ j x, L[j]? = some x → runB R j w = some i → eqB (dU p q) (w.length + 1) (x / (q.length : Int)).toNat (p.length + (x % (q.length : Int)).toNat) = true → ∃ y, L[i]? = some y ∧ eqB (dU p q) 1 (y / (q.length : Int)).toNat (p.length + (y % (q.length : Int)).toNat) = true := fun w => by
    induction w with
    | nil =>
      intro _ j x hx hr he
      obtain rfl : j = i := Option.some.inj hr
      exact ⟨x, hx, he⟩
    | cons e w ih =>
      intro hw j x hx hr he
      have he4 := hw e (List.mem_cons_self ..)
      change (if nxP R j e < 0 then none else runB R (nxP R j e).toNat w) = some i at hr
      by_cases hn : nxP R j e < 0
      · rw [if_pos hn] at hr; cases hr
      · rw [if_neg hn] at hr
        obtain ⟨a, b⟩ := hA.nx j x hx e he4
        have hv : (stP p q x e).2 = true := by cases k : (stP p q x e).2 with | true => rfl | false => exact absurd (a.2 k) hn
        obtain ⟨j', j1, j2, j3⟩ := b hv
        rw [j2, Int.toNat_natCast] at hr
        obtain ⟨n1, n2, n3⟩ := hnext x (List.mem_of_getElem? hx) e he4 hv
        have h9 := (eqB_succ.1 he e he4).2 n3
        rw [n1, n2] at h9
        exact ih (fun e he => hw e (List.mem_cons_of_mem _ he)) j' _ j3 hr h9
  have hw0 : eqB (dU p q) (wv.length + 1) ((0 : Int) / (q.length : Int)).toNat (p.length + ((0 : Int) % (q.length : Int)).toNat) = true := by
    rw [Int.zero_ediv, Int.zero_emod]
    have := hall (wv.length + 1)
    rw [Nat.add_comm] at this
    exact eqB_le _ this
  obtain ⟨y, y1, y2⟩ := walk wv w1 0 0 hA.zero w2 hw0
  rw [hfst i _ h1] at y1
  obtain rfl := Option.some.inj y1
  have hxL : x ∈ L := List.mem_of_getElem? (hfst i _ h1)
  have := (hstep x hxL e h2).1 (eqB_succ.1 y2 e h2).1
  rw [this] at h3
  cases h3
end Go.Proofs.Ytpdgnmdjneakgaa

/-! A range over a bound method value that makes memory of its own between the rounds: one law for the caller. No conditions. -/
namespace Go.Proofs.Ytpdgnmdjneakgaa
set_option linter.unusedVariables false
open Go.RowKit Go.Shelf

/-- How a round's body may be left: on to a further state, or by a jump. -/
def leftByW {σ : Type} (B : Nat) (I : σ → World → Prop) (St : σ → Prop) (Ix : Code → World → Prop) (W : World) : Exit → Act → World → Prop
  | .normal, _, W' => Below W.heap.size W W' ∧ ∃ s', St s' ∧ I s' W'
  | .ret, _, W' => KeepsFrom B W W' ∧ Ix .ret W'
  | .exit id, _, W' => KeepsFrom B W W' ∧ Ix (.exit id) W'
  | .goto t, _, W' => KeepsFrom B W W' ∧ Ix (.goto t) W'
  | .panic _, _, _ => False
  | .outgrown, _, _ => False

/-- The blocks from B on are as they were. -/
def SameFrom (B : Nat) (W W' : World) : Prop := W.heap.size ≤ W'.heap.size ∧ ∀ k, B ≤ k → k < W.heap.size → W'.heap[k]? = W.heap[k]?
/-- What an iterator owes that is bound to a receiver and has memory of its own, behind all that was there when it began. -/
def RoundsW {σ α : Type} (F : Fence) (n : Nat) (P : Program) (gf : Nat) (bd : Array Value) (encs : α → Array Value) (I : σ → World → Prop) (Nx : σ → α → World → Prop) (St : σ → σ → Prop) (Fin : σ → Prop) (s0 : σ) : Prop :=
  ∀ (l : Nat) (J : σ → World → Prop) (Jx : World → Prop) (W : World), (∀ s W1, J s W1 → I s W1) → (∀ s W1 W2, J s W1 → Below W.heap.size W1 W2 → J s W2) →
    (∀ s x W1, W.heap.size ≤ W1.heap.size → J s W1 → Nx s x W1 → YieldAt F (n - 1) P l (encs x) W1 fun e W' => (e = .returned (.bool true) ∧ SameFrom W.heap.size W1 W' ∧ ∃ s', St s s' ∧ J s' W') ∨ (e = .returned (.bool false) ∧ Jx W')) →
    J s0 W → CallsIn F n P gf (bd ++ #[.func (.yield l) #[] #[]]) W fun e W' => (∃ v, e = .returned v) ∧ ((∃ s, Fin s ∧ J s W') ∨ Jx W')

theorem range_boundW {σ α : Type} {F : Fence} {n : Nat} {P : Program} {g : Operand} {ps : Array Tmp} {assign body : Code} {Q : Exit → Act → World → Prop} {a : Act} {w : World}
    (hro : F.round = none) (h1 : 1 ≤ n) {gf : Nat} {bd : Array Value} (hg : a.eval g = .func (.func gf) bd #[]) (hF : F.fn gf) (eg : ∀ args w, (callFunc gf args).run P w = .ok (.enter gf args) w)
    {encs : α → Array Value} (hps : ∀ x, (encs x).size = ps.size)
    (I : σ → World → Prop) (Ix : Code → World → Prop) (hI : OwnFrom w.heap.size I) (hIx : OwnFrom w.heap.size Ix) {Nx : σ → α → World → Prop} (hIW : ∀ s W1 W2, I s W1 → Below w.heap.size W1 W2 → I s W2) (hNx : ∀ s x W1 W2, Nx s x W1 → (∃ o : Obj, W1.heap[w.heap.size + 1]? = some o ∧ o.isCells = false) → (∀ k, k ≠ w.heap.size + 1 → W2.heap[k]? = W1.heap[k]?) → W1.heap.size ≤ W2.heap.size → Nx s x W2) {St : σ → σ → Prop} {Fin : σ → Prop} {s0 : σ} (h0 : I s0 w)
    (hseq : RoundsW F (n - 1) P gf bd encs I Nx St Fin s0) (Ax : α → Act)
    (hassign : ∀ (l : Nat) (s : σ) (x : α) (W : World) (K : Act → World → Prop), I s W → K (Ax x) W → assign.wpIn (F.inRound l) (n - 1 - 1) P (Exit.then K (fun _ _ _ => False)) { tmps := (ps.zip (encs x)).foldl (fun t (p, v) => t.setIfInBounds p v) a.tmps, defers := [] } W)
    (hbody : ∀ (l : Nat) (s : σ) (x : α) (W : World), w.heap.size ≤ l → I s W → Nx s x W → body.wpIn (F.inRound l) (n - 1 - 1) P (leftByW w.heap.size I (St s) Ix W) (Ax x) W)
    (hdone : ∀ (D : Nat) (s : σ) (W : World), w.heap.size ≤ D → Fin s → I s W → W.heap[D]? = some (.deferred (some [])) → Q .normal { a with defers := { target := .collected D, args := #[] } :: a.defers } W)
    (hstop : ∀ (D : Nat) (c : Code) (W : World), w.heap.size ≤ D → Ix c W → W.heap[D]? = some (.deferred (some [])) → c.wpIn F n P Q { a with defers := { target := .collected D, args := #[] } :: a.defers } W) :
    (Code.rangeFunc g ps assign body).wpIn F n P Q a w := by
  refine wpIn_rangeFunc fun fn hfn => ?_
  rw [hro]
  -- the record of the loop, by its state and the jump that is pending
  obtain ⟨rc, hrc⟩ : ∃ rc : LoopState → Option Code → Loop, ∀ st pe, rc st pe = { state := st, pending := pe, fn := fn, tmps := a.tmps, params := ps, assign := assign, body := body, defers := w.heap.size } := ⟨_, fun _ _ => rfl⟩
  obtain ⟨At, hAt⟩ : ∃ At : LoopState → Option Code → World → Prop, ∀ st pe W, At st pe W ↔ (W.heap[w.heap.size + 1]? = some (.loop (rc st pe)) ∧ W.heap[w.heap.size]? = some (.deferred (some []))) := ⟨_, fun _ _ _ => Iff.rfl⟩
  have turn : ∀ {W : World} {st : LoopState} {pe : Option Code} (st' : LoopState) (pe' : Option Code), At st pe W → At st' pe' (W.putObj (w.heap.size + 1) (.loop (rc st' pe'))) := fun st' pe' h => by
    obtain ⟨h1, h2⟩ := (hAt _ _ _).1 h
    exact (hAt _ _ _).2 ⟨World.putObj_heap_same (Array.getElem?_eq_some_iff.1 h1).1, (World.putObj_heap_other (by omega)).trans h2⟩
  have kept : ∀ {W W' : World} {st : LoopState} {pe : Option Code}, KeepsFrom w.heap.size W W' → At st pe W → At st pe W' := fun hk h => by
    obtain ⟨h1, h2⟩ := (hAt _ _ _).1 h
    exact (hAt _ _ _).2 ⟨hk.same _ _ (by omega) h1 rfl, hk.same _ _ (Nat.le_refl _) h2 rfl⟩
  have put : ∀ {W : World} {st : LoopState} {pe : Option Code} {s : σ} (st' : LoopState) (pe' : Option Code), At st pe W → I s W → I s (W.putObj (w.heap.size + 1) (.loop (rc st' pe'))) := fun st' pe' h hs =>
    hI.putObj _ hs (by omega) ((hAt _ _ _).1 h).1 rfl
  have putx : ∀ {W : World} {st : LoopState} {pe : Option Code} {c : Code} (st' : LoopState) (pe' : Option Code), At st pe W → Ix c W → Ix c (W.putObj (w.heap.size + 1) (.loop (rc st' pe'))) := fun st' pe' h hs =>
    hIx.putObj _ hs (by omega) ((hAt _ _ _).1 h).1 rfl
  have begin_ : ∀ {W : World}, At .ready none W → (Instr.beginRound (w.heap.size + 1)).run P W = .ok () (W.putObj (w.heap.size + 1) (.loop (rc .busy none))) := fun h => by
    have := run_beginRound (P := P) ((hAt _ _ _).1 h).1 (by rw [hrc])
    rw [this, hrc, hrc]
  have end_ : ∀ {W : World} (jump : Option Code), At .busy none W → (Instr.endRound (w.heap.size + 1) jump).run P W = .ok (.bool jump.isNone) (W.putObj (w.heap.size + 1) (.loop (rc (if jump.isNone then .ready else .done) jump))) := fun jump h => by
    have := run_endRound (P := P) jump ((hAt _ _ _).1 h).1
    rw [this, hrc, hrc]
  have leave : ∀ {W : World} {st : LoopState} {pe : Option Code}, st ≠ .busy → At st pe W → (Instr.endLoop (w.heap.size + 1)).run P W = .ok pe (W.putObj (w.heap.size + 1) (.loop (rc .exhausted pe))) := fun hne h => by
    have := run_endLoop (P := P) ((hAt _ _ _).1 h).1 (by rw [hrc]; exact hne)
    rw [this, hrc, hrc]
  have hst : At .ready none ((w.alloc (.deferred (some []))).alloc (.loop (rc .ready none))) := by
    refine (hAt _ _ _).2 ⟨?_, ?_⟩
    · have := World.alloc_heap_new (w.alloc (.deferred (some []))) (.loop (rc .ready none))
      rwa [World.size_alloc] at this
    · exact (Below.heap_alloc _ _ _ (by simp)).trans (World.alloc_heap_new w _)
  have hs0 : I s0 ((w.alloc (.deferred (some []))).alloc (.loop (rc .ready none))) := hI.alloc _ (hI.alloc _ h0)
  refine ⟨w.heap.size + 1, [{ target := .collected w.heap.size, args := #[] }], (w.alloc (.deferred (some []))).alloc (.loop (rc .ready none)), { target := .fn (.func gf) #[], args := bd ++ #[.func (.yield (w.heap.size + 1)) #[] #[]] }, (w.alloc (.deferred (some []))).alloc (.loop (rc .ready none)), gf,
    bd ++ #[.func (.yield (w.heap.size + 1)) #[] #[]], (w.alloc (.deferred (some []))).alloc (.loop (rc .ready none)), ?_, ?_, ?_, ?_, fun _ => h1, ?_⟩
  · rw [hrc]; exact run_enterLoop_outer _ _ _ _ _
  · simp only [resolve, hg]
    simp [go_sem]
  · intro f' hf'; simp [Target.leads] at hf'; subst hf'; exact hF
  · simp [invoke, go_sem, eg]
  · have hsz0 : ((w.alloc (.deferred (some []))).alloc (.loop (rc .ready none))).heap.size = w.heap.size + 2 := by simp
    refine (hseq (w.heap.size + 1) (fun s W => I s W ∧ At .ready none W) (fun W => ∃ c, Ix c W ∧ At .done (some c) W) _ (fun s W1 h => h.1) ?_ ?_ ⟨hs0, hst⟩).mono ?_
    · rintro s W1 W2 ⟨h1, h2⟩ hb
      rw [hsz0] at hb
      obtain ⟨a1, a2⟩ := (hAt _ _ _).1 h2
      exact ⟨hIW s W1 W2 h1 (hb.mono (by omega)), (hAt _ _ _).2 ⟨(hb.block _ (by omega)).trans a1, (hb.block _ (by omega)).trans a2⟩⟩
    · rintro s x W hWs ⟨hi, hat⟩ hx
      rw [hsz0] at hWs ⊢
      have hy := run_yield (P := P) (args := encs x) ((hAt _ _ _).1 hat).1 (by rw [hrc]; exact hps x)
      rw [hrc] at hy
      have hgb := grownBy_putObj' W (w.heap.size + 1) (.loop (rc .busy none))
      refine ⟨fn, _, assign, body, hy, roundIn_of_wpIn hfn (hassign _ s x W _ hi ⟨_, begin_ hat, ?_⟩)⟩
      refine wpIn_mono (hbody _ s x _ (by omega) (put .busy none hat hi) (hNx s x W _ hx ⟨_, ((hAt _ _ _).1 hat).1, rfl⟩ (fun k hk => World.putObj_heap_other hk) hgb.size)) ?_
      have hb := turn .busy none hat
      rintro e a3 W3 hp
      cases e with
      | normal =>
        obtain ⟨hk0, s', hs', hi'⟩ := hp
        have hk : KeepsFrom w.heap.size (W.putObj (w.heap.size + 1) (.loop (rc .busy none))) W3 := ⟨hk0.size, fun k o hB hk ho => (hk0.block k (Array.getElem?_eq_some_iff.1 hk).1).trans hk⟩
        have hb3 := kept hk hb
        have hge := grownBy_putObj' W3 (w.heap.size + 1) (.loop (rc .ready none))
        refine ⟨_, _, end_ none hb3, .inl ⟨rfl, ⟨Nat.le_trans (Nat.le_trans hgb.size hk0.size) hge.size, fun k h1 h2 => ?_⟩, s', hs', put .ready none hb3 hi', turn .ready none hb3⟩⟩
        have e1 := hgb.block k h2 (by intro e; have := Option.some.inj e; omega)
        have e2 := hk0.block k (Nat.lt_of_lt_of_le h2 hgb.size)
        have e3 := hge.block k (Nat.lt_of_lt_of_le h2 (Nat.le_trans hgb.size hk0.size)) (by intro e; have := Option.some.inj e; omega)
        exact e3.trans (e2.trans e1)
      | ret =>
        have hb3 := kept hp.1 hb
        exact ⟨_, _, end_ (some .ret) hb3, .inr ⟨rfl, _, putx .done (some .ret) hb3 hp.2, turn .done (some .ret) hb3⟩⟩
      | exit id =>
        have hb3 := kept hp.1 hb
        exact ⟨_, _, end_ (some (.exit id)) hb3, .inr ⟨rfl, _, putx .done (some (.exit id)) hb3 hp.2, turn .done (some (.exit id)) hb3⟩⟩
      | goto t =>
        have hb3 := kept hp.1 hb
        exact ⟨_, _, end_ (some (.goto t)) hb3, .inr ⟨rfl, _, putx .done (some (.goto t)) hb3 hp.2, turn .done (some (.goto t)) hb3⟩⟩
      | panic ch => exact hp.elim
      | outgrown => exact hp.elim
    · rintro e W2 ⟨⟨v, rfl⟩, (⟨s, hf, hi, hat⟩ | ⟨c, hi, hat⟩)⟩
      · exact ⟨none, _, leave (by simp) hat, hdone _ s _ (Nat.le_refl _) hf (put .exhausted none hat hi) ((hAt _ _ _).1 (turn .exhausted none hat)).2⟩
      · exact ⟨some c, _, leave (by simp) hat, hstop _ c _ (Nat.le_refl _) (putx .exhausted (some c) hat hi) ((hAt _ _ _).1 (turn .exhausted (some c) hat)).2⟩
end Go.Proofs.Ytpdgnmdjneakgaa

/-! A list with one number more, in memory of its own: slices.Clip and an append. Conditions: at most 1000 numbers. -/
namespace Go.Proofs.Ytpdgnmdjneakgaa
set_option linter.unusedVariables false
open Go.RowKit

set_option maxRecDepth 100000 in
set_option maxHeartbeats 1000000 in
theorem clip_c (A : Option Addr) (n c B : Nat) (zs : List Int) (w : World) (h : InL w B A n zs) (hc : n ≤ c) (hA : A = none → c = 0) :
    Calls Try.prog 35 #[.slice A n c] w fun e w' => e = .returned (.slice A n n) ∧ w = w' := by
  rcases A with _ | ⟨b, off, sp⟩
  · obtain rfl := hA rfl
    obtain rfl : n = 0 := by omega
    clear h
    go_enter Try.func35, Try.ntmps35
    go_wp2_with fail
    go_ret
    exact ⟨rfl, rfl⟩
  · have i1 : (n : Int) ≤ (c : Int) := by omega
    clear h hA
    go_enter Try.func35, Try.ntmps35
    go_wp2_with fail
    go_ret
    exact ⟨rfl, rfl⟩

set_option maxRecDepth 100000 in
set_option maxHeartbeats 2000000 in
theorem withMore_c (A : Option Addr) (n c B : Nat) (zs : List Int) (x : Int) (w : World) (h : InL w B A n zs) (hB : B ≤ w.heap.size) (hn : n ≤ 1000) (hc : n ≤ c) (hA : A = none → c = 0) :
    Calls Try.prog 20 #[.slice A n c, .int .i64 x] w fun e w' => ∃ A' c', e = .returned (.slice A' (n + 1) c') ∧ w'.ownsRow w.heap.size 2 1 (.slice A' (n + 1) c') (n + 1) ((zs ++ [x]).map ic) ∧ Below w.heap.size w w' := by
  obtain ⟨i0, hi, hz0, hz1, hz2⟩ := info_parts info64
  have hl : zs.length = n := h.1
  have HC := Lib.hid (clip_c A n c B zs w h hc hA)
  have hb := bnew w (.cells #[.int .i64 x] 2)
  have HR := (h.next hb hB).2
  have hno : A = none → n = 0 ∧ n = 0 := fun e => by have := hA e; omega
  have holds : ∀ b, A = some b → ∀ (j : Nat) u, (zs.map ic)[j]? = some u → (w.alloc (.cells #[.int .i64 x] 2)).cell? (b.add j) = some u := fun b e j u hj => by
    have hjl : j < (zs.map ic).length := (List.getElem?_eq_some_iff.1 hj).1
    obtain ⟨b', off, e', h1, h2⟩ := HR j hjl
    rw [e] at e'
    obtain rfl := Option.some.inj e'
    have he : (⟨b', off, none⟩ : Addr).add j = ⟨b', off + j, none⟩ := by cases j <;> simp [Addr.add]
    rw [he, h2, hj]
  clear h
  go_enter Try.func20, Try.ntmps20
  go_wp2_with fail
  refine HC.out.mono ?_
  rintro e w1 ⟨rfl, rfl⟩
  go_wp2_with (at_builtin; refine wpList_append_grows _ rfl _ _ 29 rfl 2 i0 (.int .i64 0) 1 8 Try.underlying29 hi hz0 hz1 hz2 rfl (by decide) A n n (zs.map ic) rfl hno (by rw [List.length_map]; omega) holds ⟨w.heap.size, 0, none⟩ 1 1 [.int .i64 x] rfl rfl (cell_one_new _ _ _) (by simp [Value.oneCell']) (by omega) (by unfold maxLen; omega) (by omega) ?_; intro v' w' hown hgrow)
  have hb2 := hb.grown hgrow (by simp) (fun _ h => by cases h)
  have hown2 : w'.ownsRow w.heap.size 2 1 v' (n + 1) ((zs ++ [x]).map ic) := by rw [List.map_append]; exact own_less hown (by simp)
  obtain ⟨A', c', rfl, _⟩ := own_slice hown2
  clear hown holds HR
  go_wp2_with fail
  go_ret
  exact ⟨A', c', rfl, hown2, hb2⟩
end Go.Proofs.Ytpdgnmdjneakgaa

/-! The words of a policy's states, one after another. Conditions: at most 144 states, numbered as they are reached. -/
namespace Go.Proofs.Ytpdgnmdjneakgaa
set_option linter.unusedVariables false
open Go.RowKit Go.Shelf Go.Deep
attribute [local go_sem] Oper.semAt_some

theorem own_same {w w' : World} {lo n z : Nat} {e : TypeId} {v : Value} {xs : List Value} (h : w.ownsRow lo e z v n xs) (hs : ∀ k, v.ownBlock = some k → w'.heap[k]? = w.heap[k]?) : w'.ownsRow lo e z v n xs := by
  refine ⟨h.1, ?_⟩
  rcases h.2 with h' | ⟨g, cap, cur, h1, h2, h3, h4⟩
  · exact .inl h'
  · exact .inr ⟨g, cap, cur, h1, h2, (hs g (by rw [h1]; rfl)).trans h3, h4⟩
theorem PolO.same {w w' : World} {lo c : Nat} {A : Option Addr} {R : List (List Int)} {rs : List (Value × List Int)} (h : PolO w lo A c R rs) (hs : SameFrom lo w w') : PolO w' lo A c R rs :=
  ⟨h.eq, ⟨fun i p hp => own_same (h.rows.own i p hp) (fun k hk => by have := (h.rows.own i p hp).lt k hk; exact hs.2 k this.1 this.2), h.rows.ne⟩, own_same h.out (fun k hk => by have := h.out.lt k hk; exact hs.2 k this.1 this.2)⟩
/-- A row more. -/
theorem PolO.push {w wa w' : World} {lo c' g' : Nat} {A : Option Addr} {c : Nat} {R : List (List Int)} {rs : List (Value × List Int)} {v : Value} {zs : List Int} (h : PolO w lo A c R rs) (hlo : lo ≤ w.heap.size) (hb : Below w.heap.size w wa) (hw : wa.ownsRow w.heap.size 2 1 v zs.length (zs.map ic))
    (hgrow : wa.grownBy w' (Value.slice A R.length c).ownBlock) (hown : w'.ownsRow lo 29 1 (.slice (some ⟨g', 0, none⟩) (R.length + 1) c') (R.length + 1) (rs.map Prod.fst ++ [v])) : PolO w' lo (some ⟨g', 0, none⟩) c' (R ++ [zs]) (rs ++ [(v, zs)]) := by
  have r1 := h.rows.snoc hb hw hlo
  have o1 := own_below h.out hb
  refine ⟨by rw [List.map_append, h.eq]; rfl, r1.other hgrow (fun i p hp k hk e => own_ne_any (r1.own i p hp) o1 (by decide) k hk e), ?_⟩
  rw [List.length_append, List.map_append]
  exact hown

theorem wT_len {st : Int → Nat → Int × Bool} {L : List Int} {R : List (List Int)} (h : UnfEnd st 0 L R) {s e : Nat} {x : Int} {wd : List Int} (hx : (wunf st s)[s]? = some (x, wd)) (hs : s < L.length) (he : e ≤ 4) : (wT st x wd (wunf st s) e).length ≤ L.length := by
  have hp : wT st x wd (wunf st s) e <+: wT st x wd (wunf st s) 4 := by
    obtain ⟨c, hc⟩ := Nat.exists_eq_add_of_le he
    rw [hc]
    clear hc he
    induction c with
    | zero => exact List.prefix_refl _
    | succ c ih => exact ih.trans (wS_pre _ _ _ _)
  have hq := wunf_pre (st := st) (s + 1) (L.length - (s + 1))
  rw [wunf_next hx, show s + 1 + (L.length - (s + 1)) = L.length by omega] at hq
  have h1 := (hp.trans hq).length_le
  have h2 := congrArg List.length h.items
  rw [List.length_map] at h2
  omega
/-- What words gives at a state. -/
def WNx (st : Int → Nat → Int × Bool) (m : Nat) (s : Nat) (x : Nat × Option Addr × Nat × Nat) (W : World) : Prop :=
  x.1 = s ∧ s < m ∧ ∃ t lo, (wunf st s)[s]? = some t ∧ t.2.length = x.2.2.1 ∧ W.ownsRow lo 2 1 (.slice x.2.1 x.2.2.1 x.2.2.2) x.2.2.1 (t.2.map ic)
def wEnc (x : Nat × Option Addr × Nat × Nat) : Array Value := #[.int .i64 (x.1 : Int), .slice x.2.1 x.2.2.1 x.2.2.2]

set_option maxRecDepth 100000 in
set_option maxHeartbeats 4000000 in
theorem words_rounds (st : Int → Nat → Int × Bool) (L : List Int) (R : List (List Int)) (hend : UnfEnd st 0 L R) (hnd : L.Nodup) (okR : RectP R) (hm : R.length ≤ 144) (n : Nat) (hn : 2 ≤ n) (A : Option Addr) (c B : Nat) (I : Nat → World → Prop) (Wp : World) (hin : InLL Wp B A R.length R) (hBp : B ≤ Wp.heap.size)
    (hM : ∀ s W, I s W → Below B Wp W) :
    RoundsW Fence.wide n Try.prog 18 #[.agg #[.slice A R.length c]] wEnc I (WNx st R.length) (fun s s' => s' = s + 1) (fun s => s = R.length) 0 := fun l J Jx W0 hJI hJ hY h0 => by
  obtain ⟨j1, hi', hz0', hz1', hz2'⟩ := info_parts infoRow
  have hRL := hend.unfAt.len
  obtain ⟨m, hmm⟩ : ∃ m, R.length = m := ⟨_, rfl⟩
  rw [hmm] at hin hm hY hRL ⊢
  have HMM := Lib.hid hmm
  have HRL : Hid (m = L.length) := hRL
  clear hRL
  refine callsIn_of_wp Try.func18 rfl trivial ?_ rfl
  simp only [Try.ntmps18, List.size_toArray, List.length_cons, List.length_nil, Nat.reduceAdd, Nat.reduceSub, Array.replicate_succ, Array.replicate_zero, List.push_toArray, List.append_toArray, List.nil_append, List.cons_append]
  have hb0 := bnew W0 (.cells #[.slice A m c] 26)
  have hb1 := bnew (W0.alloc (.cells #[.slice A m c] 26)) (.cells #[.slice none 0 0] 29)
  have hbb := bon hb0 hb1
  have q0 : ((W0.alloc (.cells #[.slice A m c] 26)).alloc (.cells #[.slice none 0 0] 29)).cell? ⟨W0.heap.size, 0, none⟩ = some (.slice A m c) := cell_next (by simp) hb1
  have hP0 : PolO ((W0.alloc (.cells #[.slice A m c] 26)).alloc (.cells #[.slice none 0 0] 29)) W0.heap.size (some ⟨W0.heap.size + 1, 0, none⟩) 1 [[]] [(.slice none 0 0, [])] := by
    refine ⟨rfl, ⟨fun i p hp => ?_, fun i j p q hij hp hq => ?_⟩, ?_⟩
    · have hi0 := (List.getElem?_eq_some_iff.1 hp).1
      simp at hi0
      subst hi0
      obtain rfl : (Value.slice none 0 0, ([] : List Int)) = p := by simpa using hp
      exact World.ownsRow_nil _ _ _ _
    · have h1 := (List.getElem?_eq_some_iff.1 hp).1
      have h2 := (List.getElem?_eq_some_iff.1 hq).1
      simp at h1 h2
      omega
    · exact ⟨rfl, .inr ⟨W0.heap.size + 1, 1, #[.slice none 0 0], rfl, by omega, by have := heap_alloc_new (W0.alloc (.cells #[.slice A m c] 26)) (.cells #[.slice none 0 0] 29); simpa using this, Nat.le_refl _, by unfold maxLen; omega, rfl, rfl⟩⟩
  have hJ0 := hJ 0 W0 _ h0 hbb
  have HIN := Lib.hid hin
  have HPB := Lib.hid (fun s W (h : J s W) => hM s W (hJI s W h))
  have HJ := Lib.hid hJ
  have HY := Lib.hid hY
  clear hin hM hJI hJ hY hb0 hb1 h0
  gi_wp2
  generalize (W0.alloc (.cells #[.slice A m c] 26)).alloc (.cells #[.slice none 0 0] 29) = W1 at hbb q0 hP0 hJ0 ⊢
  obtain ⟨vs, hvs⟩ : ∃ vs : Value, .slice (some ⟨W0.heap.size + 1, 0, none⟩) 1 1 = vs := ⟨_, rfl⟩
  have HVS := Lib.hid hvs
  rw [hvs]
  clear hvs q0
  have hsz1 := hbb.size
  gi_loopw [4, 5, 6, 7, 8, 13] (fun v _ _ _ _ i wr => ∃ (s : Nat) (Aw : Option Addr) (cw : Nat) (rs : List (Value × List Int)), i = .int .i64 s ∧ s ≤ m ∧ v = .slice Aw ((wunf st s).map Prod.snd).length cw ∧ PolO wr W0.heap.size Aw cw ((wunf st s).map Prod.snd) rs ∧ J s wr ∧ W0.heap.size ≤ wr.heap.size) (fun _ _ _ _ _ i _ => m + 1 - (intOf i).toNat)
  case atStart => exact ⟨0, some ⟨W0.heap.size + 1, 0, none⟩, 1, _, rfl, Nat.zero_le _, HVS.out.symm, hP0, hJ0, hsz1⟩
  case round =>
    clear hP0 hJ0 hsz1 hbb
    obtain ⟨s, Aw, cw, rs, rfl, hs, rfl, hP, hJs, hsz⟩ := hrel
    by_cases hlt : s < m
    · obtain ⟨t, t1, t2, t3⟩ := hend.item (s := s) (by have := HRL.out; omega)
      obtain ⟨x, wd⟩ := t
      obtain ⟨b, off, r, hA, hb, hr, A0, n0, c0, hc0, hrow⟩ := HIN.out.at_ hlt
      subst hA
      obtain rfl : n0 = 4 := by have := okR.len r (List.mem_of_getElem? hr); have := hrow.1; omega
      have hpb := HPB.out s wr hJs
      have hcell := (hpb.cell (p := ⟨b, off + s, none⟩) hb).trans hc0
      have hqs : s < (wunf st s).length := (List.getElem?_eq_some_iff.1 t1).1
      have hsl : (rs.map Prod.snd)[s]? = some wd := by rw [hP.eq, List.getElem?_map, t1]; rfl
      obtain ⟨p, hp, hp2⟩ : ∃ p, rs[s]? = some p ∧ p.2 = wd := by
        rw [List.getElem?_map] at hsl
        cases e : rs[s]? with
        | none => rw [e] at hsl; cases hsl
        | some p => rw [e] at hsl; exact ⟨p, rfl, Option.some.inj hsl⟩
      obtain ⟨vw, wd'⟩ := p
      dsimp only at hp2
      subst hp2
      have hwo : wr.ownsRow W0.heap.size 2 1 vw wd'.length (wd'.map ic) := hP.rows.own s _ hp
      obtain ⟨wl, hwl⟩ : ∃ wl, wd'.length = wl := ⟨_, rfl⟩
      have hwo2 := hwo
      rw [hwl] at hwo2
      obtain ⟨Av, cv, rfl, _⟩ := own_slice hwo2
      obtain ⟨ql, hql⟩ : ∃ ql, ((wunf st s).map Prod.snd).length = ql := ⟨_, rfl⟩
      have hql2 : (wunf st s).length = ql := by rw [← hql, List.length_map]
      have hout := hP.out
      rw [hql] at hout
      obtain ⟨gw, rfl⟩ : ∃ r, Aw = some ⟨r, 0, none⟩ := by
        rcases hout.2 with h' | ⟨r, cap, cur, k1, _⟩
        · have := h'.2; omega
        · injection k1 with k1; exact ⟨r, k1⟩
      have hwc : wr.cell? ⟨gw, s, none⟩ = some (.slice Av wl cv) := by rw [hout.cellAt s (by omega), List.getElem?_map, hp]; rfl
      have hNx : WNx st m s (s, Av, wl, cv) wr := ⟨rfl, hlt, (x, wd'), W0.heap.size, t1, hwl, hwo2⟩
      obtain ⟨fn, tmps, assign, body, hy, hR⟩ := HY.out s (s, Av, wl, cv) wr hsz hJs hNx
      (try dsimp only [wEnc] at hy)
      have i1 : (s : Int) < (m : Int) := by omega
      have i2 : (s : Int) < (ql : Int) := by omega
      have HP := Lib.hid hP
      have HT1 := Lib.hid t1
      have HR' := Lib.hid hr
      have HROW := Lib.hid hrow
      have HWL := Lib.hid hwl
      have HQL := Lib.hid hql2
      have HXL := Lib.hid (fun e (he : e ≤ 4) => wT_len hend t1 (by have := HRL.out; omega) he)
      have HX4 := Lib.hid (fun e (he : e < 4) => word_new hend hnd t1 (by have := HRL.out; omega) he)
      rw [hql]
      clear hout hP hp hsl hwo hwo2 hNx t1 t2 t3 hr hrow hpb hwl hql hql2
      gi_wp2
      refine ⟨fun _ => by omega, hR.mono ?_⟩
      rintro e W3 (⟨rfl, hsame, s', hs', hJ3⟩ | ⟨rfl, hJx3⟩)
      · obtain rfl : s' = s + 1 := hs'
        have HP3 := Lib.hid (HP.out.same hsame)
        have hsz3 := hsame.1
        have hpb3 := HPB.out (s + 1) W3 hJ3
        have hrow3 := HROW.out.next hpb3 (Nat.le_refl _)
        clear hcell hwc hy hR hsame hJs
        have hq4 : (wunf st (s + 1)) = wT st x wd' (wunf st s) 4 := wunf_next HT1.out
        have HQ4 := Lib.hid hq4
        have HJ3 := Lib.hid hJ3
        clear hq4 hJ3
        obtain ⟨ws, hws⟩ : ∃ ws : Value, .slice (some ⟨gw, 0, none⟩) ql cw = ws := ⟨_, rfl⟩
        have HWS := Lib.hid hws
        gi_wp2
        (try rw [hws])
        clear hws
        gi_loopw [4, 7, 8, 28] (fun v _ _ i wq => ∃ (e : Nat) (Aq : Option Addr) (cq : Nat) (rq : List (Value × List Int)), i = .int .i64 e ∧ e ≤ 4 ∧ v = .slice Aq ((wT st x wd' (wunf st s) e).map Prod.snd).length cq ∧ PolO wq W0.heap.size Aq cq ((wT st x wd' (wunf st s) e).map Prod.snd) rq ∧ Below W0.heap.size W3 wq) (fun _ _ _ i _ => 4 - (intOf i).toNat)
        case atStart =>
          refine ⟨0, some ⟨gw, 0, none⟩, cw, rs, rfl, by omega, ?_, HP3.out, Below.refl _ _⟩
          rw [← HWS.out]
          show Value.slice _ ql cw = Value.slice _ ((wunf st s).map Prod.snd).length cw
          rw [List.length_map, HQL.out]
        case round =>
          rename World => wq
          obtain ⟨e, Aq, cq, rq, rfl, he, rfl, hPq, hbq⟩ := hrel
          obtain ⟨qn, hqn⟩ : ∃ qn, ((wT st x wd' (wunf st s) e).map Prod.snd).length = qn := ⟨_, rfl⟩
          have hqn2 : (wT st x wd' (wunf st s) e).length = qn := by rw [← hqn, List.length_map]
          have hqge : ql ≤ qn := by
            have := (wT_pre (st := st) x wd' (wunf st s) e).length_le
            rw [hqn2, HQL.out] at this; exact this
          have hqb := hbq.size
          have hqnb : qn ≤ 144 := by have h1 := HXL.out e he; have h2 := HRL.out; rw [hqn2] at h1; omega
          by_cases he4 : e < 4
          · have hnew := HX4.out e he4
            rw [hqn2] at hnew
            have hpbq : Below B W3 wq ∨ True := .inr trivial
            obtain ⟨b2, off2, z, rfl, hb2, hz, hcz⟩ := (HROW.out.next ((HPB.out _ _ (HJ.out _ _ _ HJ3.out hbq))) (Nat.le_refl _)).2.int_at (k := e) (by have := okR.len r (List.mem_of_getElem? HR'.out); omega)
            have hzv : nxP R s e = z := by unfold nxP; simp [List.getD, HR'.out, hz]
            rw [hzv] at hnew
            have i3 : (e : Int) < 4 := by omega
            have HNEW := Lib.hid hnew
            have HPQ := Lib.hid hPq
            have HQN := Lib.hid hqn
            have HQN2 := Lib.hid hqn2
            by_cases hzq : z = (qn : Int)
            · obtain ⟨hok, hmem⟩ := hnew.1 hzq
              have hwnext : wT st x wd' (wunf st s) (e + 1) = wT st x wd' (wunf st s) e ++ [((st x e).1, wd' ++ [(e : Int)])] := by rw [wT, wS_yes hok hmem]
              have HWN := Lib.hid hwnext
              have r1 : (z == (qn : Int)) = true := by simp [hzq]
              obtain ⟨p, hp, hp2⟩ : ∃ p, rq[s]? = some p ∧ p.2 = wd' := by
                have hsl : (rq.map Prod.snd)[s]? = some wd' := by
                  rw [hPq.eq, List.getElem?_map]
                  obtain ⟨zz, hzz⟩ := wT_pre (st := st) x wd' (wunf st s) e
                  rw [← hzz, List.getElem?_append_left hqs, HT1.out]; rfl
                rw [List.getElem?_map] at hsl
                cases e9 : rq[s]? with
                | none => rw [e9] at hsl; cases hsl
                | some p => rw [e9] at hsl; exact ⟨p, rfl, Option.some.inj hsl⟩
              obtain ⟨vw2, wd2⟩ := p
              dsimp only at hp2
              subst hp2
              have hwo : wq.ownsRow W0.heap.size 2 1 vw2 wd2.length (wd2.map ic) := hPq.rows.own s _ hp
              rw [HWL.out] at hwo
              obtain ⟨A5, c5, rfl, _⟩ := own_slice hwo
              have hout := hPq.out
              rw [hqn] at hout
              obtain ⟨gq, rfl⟩ : ∃ r, Aq = some ⟨r, 0, none⟩ := by
                rcases hout.2 with h' | ⟨r, cap, cur, k1, _⟩
                · have := h'.2; omega
                · injection k1 with k1; exact ⟨r, k1⟩
              have hwc : wq.cell? ⟨gq, s, none⟩ = some (.slice A5 wl c5) := by rw [hout.cellAt s (by omega), List.getElem?_map, hp]; rfl
              have hcap : wl ≤ c5 ∧ (A5 = none → c5 = 0) := by
                rcases hwo.2 with ⟨e1, e2⟩ | ⟨g9, cap, cur, e1, _, _, e3, _⟩
                · injection e1 with e1 e4 e5; subst e2; exact ⟨by omega, fun _ => by omega⟩
                · injection e1 with e1 e4 e5; subst e5; exact ⟨e3, fun k => by rw [k] at e1; cases e1⟩
              have hwl2 : wl ≤ 1000 := by have := wunf_words (st := st) s _ (List.mem_of_getElem? HT1.out); have := HWL.out; dsimp only at *; omega
              have HMO := Lib.hid (withMore_c A5 wl c5 wq.heap.size wd2 (e : Int) wq ((OwnL.of_own hwo).inn) (Nat.le_refl _) hwl2 hcap.1 hcap.2)
              have i4 : (s : Int) < (qn : Int) := by omega
              have hz9 : z = (qn : Int) := hzq
              rw [hqn]
              clear hPq hqn hnew hok hmem hwnext hp hwo hzv hz
              subst hz9
              clear r1
              have r1 : ((qn : Int) == (qn : Int)) = true := beq_iff_eq.2 rfl
              gi_wp2_with (first
                | (refine ⟨trivial, fun _ => by omega, ?_⟩; gi_at_call 20; refine (callsIn_wide.2 HMO.out).mono ?_; rintro e8 w8 ⟨A8, c8, rfl, hown8, hb8⟩; have o8 := own_below hout hb8; have hs8 := hb8.size)
                | (gi_at_builtin; refine wpListIn_append_sep rfl _ _ 24 rfl W0.heap.size 29 j1 (.slice none 0 0) 1 24 Try.underlying24 hi' hz0' hz1' hz2' rfl (by decide) _ _ _ rfl (o8.alloc _) ⟨w8.heap.size, 0, none⟩ 1 1 [.slice A8 (wl + 1) c8] rfl rfl (cell_one_new _ _ _) (by simp [Value.oneCell']) (by unfold maxLen; omega) (by omega) (by simp; omega) (by omega) ?_; intro g9 cap9 w9 hown9 hgrow9 hsep9))
              go_roundw
              case rel =>
                have hle : W0.heap.size ≤ wq.heap.size := by omega
                refine ⟨e + 1, some ⟨g9, 0, none⟩, cap9, rq ++ [(.slice A8 (wl + 1) c8, wd2 ++ [(e : Int)])], by go_num, by omega, ?_, ?_, ?_⟩
                · rw [HWN.out, List.map_append, List.length_append, HQN.out]; rfl
                · rw [HWN.out, List.map_append]
                  exact HPQ.out.push (zs := wd2 ++ [(e : Int)]) hle (bon hb8 (bnew w8 (.cells #[.slice A8 (wl + 1) c8] 29))) (by have := HWL.out; rw [List.length_append, this]; exact own_below hown8 (bnew _ _)) hgrow9 (by rw [HQN.out]; exact hown9)
                · exact (hbq.trans ((bon hb8 (bnew w8 (.cells #[.slice A8 (wl + 1) c8] 29))).mono hle)).grown hgrow9 (by simp; omega) (fun k hk => (o8.lt k hk).1)
              case measure => simp [intOf]; omega
            · have hno : (st x e).2 = false ∨ (st x e).1 ∈ (wT st x wd' (wunf st s) e).map Prod.fst := by
                cases k : (st x e).2 with
                | false => exact .inl rfl
                | true =>
                  refine .inr (Classical.byContradiction fun k2 => hzq (hnew.2 ⟨k, k2⟩))
              have HWN : Hid (wT st x wd' (wunf st s) (e + 1) = wT st x wd' (wunf st s) e) := by show _ = _; rw [wT, wS_no hno]
              have r1 : (z == (qn : Int)) = false := by simpa using hzq
              rw [hqn]
              clear hPq hqn hnew hno hzv hz
              gi_wp2
              go_roundw
              case rel => exact ⟨e + 1, Aq, cq, rq, by go_num, by omega, by rw [HWN.out, HQN.out], by rw [HWN.out]; exact HPQ.out, hbq⟩
              case measure => simp [intOf]; omega
          · obtain rfl : e = 4 := by omega
            have HPQ := Lib.hid hPq
            rw [hqn]
            have HQN := Lib.hid hqn
            clear hPq hqn
            gi_wp2
            go_roundw
            case rel => exact ⟨s + 1, Aq, cq, rq, by go_num, by omega, by rw [HQ4.out, HQN.out], by rw [HQ4.out]; exact HPQ.out, HJ.out _ _ _ HJ3.out hbq, by omega⟩
            case measure => simp [intOf]; omega
      · clear hcell hwc
        gi_wp2
        refine bodyPost_ret (results_none rfl _ _ _) rfl ?_
        exact ⟨⟨_, rfl⟩, .inr hJx3⟩
    · obtain rfl : s = m := by omega
      have i1 : ¬ (s : Int) < (s : Int) := by omega
      have HJS := Lib.hid hJs
      obtain ⟨ql, hql⟩ : ∃ ql, ((wunf st s).map Prod.snd).length = ql := ⟨_, rfl⟩
      rw [hql]
      clear hP
      gi_wp2
      go_end0
      exact ⟨⟨_, rfl⟩, .inl (by first | exact ⟨s, rfl, HJS.out⟩ | exact HJS.out)⟩
end Go.Proofs.Ytpdgnmdjneakgaa

/-! DifferenceOf: the model. Conditions: at most 2^20 rows. -/
namespace Go.Proofs.Ytpdgnmdjneakgaa
set_option linter.unusedVariables false
open Go.RowKit

theorem OwnL.none_ {w : World} {lo : Nat} (h : lo ≤ w.heap.size) : OwnL w lo w.heap.size none 0 0 [] := ⟨rfl, World.ownsRow_nil _ _ _ _, (fun j hj => by cases hj), Nat.le_refl _⟩
def diffR (xs ys : List (List Int)) : List Int × Bool := if (polB xs && polB ys) = true then ((findP xs ys true).getD [], (findP xs ys true).isSome) else ([], false)
theorem diffR_one {xs ys : List (List Int)} (h : polB xs = false) : diffR xs ys = ([], false) := by unfold diffR; rw [h]; rfl
theorem diffR_two {xs ys : List (List Int)} (h : polB ys = false) : diffR xs ys = ([], false) := by unfold diffR; rw [h]; simp
theorem diffR_yes {xs ys : List (List Int)} (h : polB xs = true) (h' : polB ys = true) : diffR xs ys = ((findP xs ys true).getD [], (findP xs ys true).isSome) := by unfold diffR; rw [h, h']; rfl
theorem diffR_some {xs ys : List (List Int)} {z : List Int} (h : polB xs = true) (h' : polB ys = true) (hf : findP xs ys true = some z) : diffR xs ys = (z, true) := by rw [diffR_yes h h', hf]; rfl
theorem diffR_none {xs ys : List (List Int)} (h : polB xs = true) (h' : polB ys = true) (hf : findP xs ys true = none) : diffR xs ys = ([], false) := by rw [diffR_yes h h', hf]; rfl
theorem diffR_len (xs ys : List (List Int)) : (diffR xs ys).1.length ≤ 24 := by
  unfold diffR
  split
  · rename_i h
    rw [Bool.and_eq_true] at h
    have h1 := polOk_of h.1
    have h2 := polOk_of h.2
    cases hf : findP xs ys true with
    | none => simp
    | some w =>
      have := findP_len h1.rect h2.rect hf
      have := h1.hi
      have := h2.hi
      show w.length ≤ 24
      omega
  · simp

end Go.Proofs.Ytpdgnmdjneakgaa

/-! DifferenceOf: the program. Conditions: at most 2^20 rows and numbers. -/
namespace Go.Proofs.Ytpdgnmdjneakgaa
set_option linter.unusedVariables false
set_option linter.unusedSimpArgs false
open Go.RowKit Go.Shelf Go.Deep
attribute [local go_sem] Oper.semAt_some

theorem own_blk {w : World} {lo e n z k : Nat} {v : Value} {xs : List Value} (h : w.ownsRow lo e z v n xs) (hk : v.ownBlock = some k) : ∃ o : Obj, w.heap[k]? = some o ∧ o.isCells = true := by
  rcases h.2 with ⟨e1, _⟩ | ⟨g, cap, cur, e1, _, h3, _⟩
  · rw [e1] at hk; cases hk
  · rw [e1] at hk
    obtain rfl : g = k := Option.some.inj hk
    exact ⟨_, h3, rfl⟩
theorem own_turn {w w' : World} {lo e n z B : Nat} {v : Value} {xs : List Value} {row : Option Nat} (h : w.ownsRow lo e z v n xs) (hg : w.grownBy w' row) (hr : ∀ r, row = some r → B ≤ r ∧ ∃ o : Obj, w.heap[r]? = some o ∧ o.isCells = false) : w'.ownsRow lo e z v n xs :=
  own_same h fun k hk => hg.block k (h.lt k hk).2 fun e => by
    obtain ⟨o, h1, h2⟩ := own_blk h hk
    obtain ⟨_, o', h3, h4⟩ := hr k e.symm
    rw [h1] at h3
    obtain rfl := Option.some.inj h3
    rw [h2] at h4; cases h4
/-- What lies when the loop is left by its return. -/
def DifX (f : Option (List Int)) (w W : World) : Prop :=
  ∃ A z zn c, f = some z ∧ z.length = zn ∧ BlkIs W (w.heap.size + 1 + 1) 29 #[.slice A zn c] ∧ BlkIs W (w.heap.size + 1 + 1 + 1) 4 #[.bool true] ∧ W.ownsRow (w.heap.size + 4) 2 1 (.slice A zn c) zn (z.map ic) ∧ Below w.heap.size w W ∧ w.heap.size + 4 ≤ W.heap.size
theorem DifX.turn {f : Option (List Int)} {w W W' : World} {row : Option Nat} {B : Nat} (h : DifX f w W) (hB : w.heap.size + 4 ≤ B) (hg : W.grownBy W' row) (hr : ∀ r, row = some r → B ≤ r ∧ ∃ o : Obj, W.heap[r]? = some o ∧ o.isCells = false) : DifX f w W' := by
  obtain ⟨A, z, zn, c, h1, h2, h3, h4, h5, h6, h7⟩ := h
  exact ⟨A, z, zn, c, h1, h2, h3.by_grown hg (fun e => by have := (hr _ e).1; omega), h4.by_grown hg (fun e => by have := (hr _ e).1; omega), own_turn h5 hg hr, h6.grown hg h6.size (fun j e => by have := (hr j e).1; omega), Nat.le_trans h7 hg.size⟩
theorem WNx.turn {st : Int → Nat → Int × Bool} {m s : Nat} {x : Nat × Option Addr × Nat × Nat} {W1 W2 : World} {b : Nat} (h : WNx st m s x W1) (ho : ∃ o : Obj, W1.heap[b]? = some o ∧ o.isCells = false) (hk : ∀ k, k ≠ b → W2.heap[k]? = W1.heap[k]?) : WNx st m s x W2 := by
  obtain ⟨h1, h2, t, lo, h3, h4, h5⟩ := h
  refine ⟨h1, h2, t, lo, h3, h4, own_same h5 fun k e => hk k fun e' => ?_⟩
  subst e'
  obtain ⟨o, k1, k2⟩ := own_blk h5 e
  obtain ⟨o', k3, k4⟩ := ho
  rw [k1] at k3
  obtain rfl := Option.some.inj k3
  rw [k2] at k4; cases k4

theorem hit_is {p q : List (List Int)} {m : Nat} (hq : q.length = m) {x : Int} {e : Nat} : hitB p q true x e = ((stR p (x / (m : Int)).toNat e).2 != (stR q (x % (m : Int)).toNat e).2) := by
  subst hq
  unfold hitB stR
  by_cases h1 : nxP p (x / (q.length : Int)).toNat e < 0
  · by_cases h2 : nxP q (x % (q.length : Int)).toNat e < 0
    · rw [if_pos h1, if_pos h2]; simp [h1, h2]
    · rw [if_pos h1, if_neg h2]; simp [h1]; omega
  · by_cases h2 : nxP q (x % (q.length : Int)).toNat e < 0
    · rw [if_neg h1, if_pos h2]; simp [h1, h2]; omega
    · rw [if_neg h1, if_neg h2]; simp [h1, h2]

set_option maxRecDepth 100000 in
set_option maxHeartbeats 4000000 in
theorem implDiff_in (A : Option Addr) (n c : Nat) (A' : Option Addr) (m c' B : Nat) (xs ys : List (List Int)) (w : World) (h : InLL w B A n xs) (h' : InLL w B A' m ys) (hB : B ≤ w.heap.size) (hn : n ≤ 1048576) (hm : m ≤ 1048576) (hea : ∀ x ∈ xs, x.length ≤ 1048576) (hea' : ∀ x ∈ ys, x.length ≤ 1048576) (hv : polB xs = true) (hu : polB ys = true) :
    CallsIn Fence.wide 5 Try.prog 7 #[.agg #[.slice A n c], .agg #[.slice A' m c']] w fun e w' => ∃ A2 c2, e = .returned (.tuple #[.slice A2 (diffR xs ys).1.length c2, .bool (diffR xs ys).2]) ∧ OwnL w' w.heap.size w'.heap.size A2 (diffR xs ys).1.length c2 (diffR xs ys).1 ∧ Below w.heap.size w w' := by
  have hb0 := bnew w (.cells #[.slice A n c] 26)
  have hb1 := bnew (w.alloc (.cells #[.slice A n c] 26)) (.cells #[.slice A' m c'] 26)
  have hb2 := bnew ((w.alloc (.cells #[.slice A n c] 26)).alloc (.cells #[.slice A' m c'] 26)) (.cells #[.slice none 0 0] 29)
  have hb3 := bnew (((w.alloc (.cells #[.slice A n c] 26)).alloc (.cells #[.slice A' m c'] 26)).alloc (.cells #[.slice none 0 0] 29)) (.cells #[.bool false] 4)
  have hbb := bon (bon (bon hb0 hb1) hb2) hb3
  have hP : BlkIs ((((w.alloc (.cells #[.slice A n c] 26)).alloc (.cells #[.slice A' m c'] 26)).alloc (.cells #[.slice none 0 0] 29)).alloc (.cells #[.bool false] 4)) w.heap.size 26 #[.slice A n c] := (((blk_new _ _ _ _ rfl).next hb1).next hb2).next hb3
  have hQ : BlkIs ((((w.alloc (.cells #[.slice A n c] 26)).alloc (.cells #[.slice A' m c'] 26)).alloc (.cells #[.slice none 0 0] 29)).alloc (.cells #[.bool false] 4)) (w.heap.size + 1) 26 #[.slice A' m c'] := ((blk_new _ _ _ _ (by simp)).next hb2).next hb3
  have hR : BlkIs ((((w.alloc (.cells #[.slice A n c] 26)).alloc (.cells #[.slice A' m c'] 26)).alloc (.cells #[.slice none 0 0] 29)).alloc (.cells #[.bool false] 4)) (w.heap.size + 1 + 1) 29 #[.slice none 0 0] := (blk_new _ _ _ _ (by simp)).next hb3
  have hS : BlkIs ((((w.alloc (.cells #[.slice A n c] 26)).alloc (.cells #[.slice A' m c'] 26)).alloc (.cells #[.slice none 0 0] 29)).alloc (.cells #[.bool false] 4)) (w.heap.size + 1 + 1 + 1) 4 #[.bool false] := blk_new _ _ _ _ (by simp)
  have HX := Lib.hid (h.next hbb hB)
  have HY := Lib.hid (h'.next hbb hB)
  have hB2 := Nat.le_trans hB hbb.size
  have hsz : ((((w.alloc (.cells #[.slice A n c] 26)).alloc (.cells #[.slice A' m c'] 26)).alloc (.cells #[.slice none 0 0] 29)).alloc (.cells #[.bool false] 4)).heap.size = w.heap.size + 4 := by simp
  clear h h' hb0 hb1 hb2 hb3
  have HOK := Lib.hid (polOk_of hv)
  have HOK' := Lib.hid (polOk_of hu)
  have HD := Lib.hid (diffR_yes hv hu)
  refine callsIn_of_wp_marks Try.func7 rfl trivial ?_ rfl
  simp only [Try.ntmps7, List.size_toArray, List.length_cons, List.length_nil, Nat.reduceAdd, Nat.reduceSub, Array.replicate_succ, Array.replicate_zero, List.push_toArray, List.append_toArray, List.nil_append, List.cons_append]
  obtain ⟨W, hW⟩ : ∃ W, (((w.alloc (.cells #[.slice A n c] 26)).alloc (.cells #[.slice A' m c'] 26)).alloc (.cells #[.slice none 0 0] 29)).alloc (.cells #[.bool false] 4) = W := ⟨_, rfl⟩
  rw [hW] at hP hQ hR hS hbb HX HY hB2 hsz
  have HWW := Lib.hid hW
  clear hW
  have p0 : W.cell? ⟨w.heap.size, 0, none⟩ = some (.slice A n c) := hP.cell 0
  have HS1 := implPolicy_c A n c B xs W HX.out hB2 hn hea
  have HS2 := fun W1 (hb : Below W.heap.size W W1) => implPolicy_c A' m c' B ys W1 (HY.out.next hb hB2) (Nat.le_trans hB2 hb.size) hm hea'
  rw [hv] at HS1
  rw [hu] at HS2
  have HS := Lib.hid HS1
  have HT := Lib.hid HS2
  have hxn : xs.length = n := HX.out.1
  have hym : ys.length = m := HY.out.1
  have HPR := Lib.hid (fun W1 (hb : Below W.heap.size W W1) => product_c A n c A' m c' B xs ys W1 (HX.out.next hb hB2) (HY.out.next hb hB2) (Nat.le_trans hB2 hb.size) HOK.out HOK'.out)
  have HBM := Lib.hid (fun L R (h : UnfEnd (stP xs ys) 0 L R) => both_minL HOK.out.rect HOK'.out.rect h)
  clear hv hu HS1 HS2
  gi_wp2_with (first
    | (refine ⟨trivial, ?_⟩; gi_at_call 16; (try rw [HWW.out]); refine (callsIn_wide.2 HS.out).mono ?_; rintro e w1 ⟨rfl, hb1⟩; have q0 := (hQ.next hb1).cell 0; simp at q0; have HT1 := Lib.hid (HT.out w1 hb1); clear HS HT)
    | (refine ⟨trivial, ?_⟩; gi_at_call 16; refine (callsIn_wide.2 HT1.out).mono ?_; rintro e w2 ⟨rfl, hb2⟩; have hb12 := bon hb1 hb2; clear p0 q0; have p0 := (hP.next hb12).cell 0; have q0 := (hQ.next hb12).cell 0; simp at p0 q0; have HPC := Lib.hid (HPR.out w2 hb12); clear HT1)
    | (refine ⟨trivial, ?_⟩; gi_at_call 17; refine (callsIn_wide.2 HPC.out).mono ?_; rintro e w3 ⟨L, R, Aq, cq, rsq, A2, c2, rfl, hend, hpq, hown, hb3⟩)
    | fail "no arm")
  have hRL := hend.unfAt.len
  obtain ⟨okR, hRl, _⟩ := HBM.out L R hend
  have hN2 : xs.length * ys.length ≤ 144 := Nat.mul_le_mul (show xs.length ≤ 12 from HOK.out.hi) (show ys.length ≤ 12 from HOK'.out.hi)
  have hN1 := Nat.mul_pos HOK.out.lo HOK'.out.lo
  have hAM : Among (xs.length * ys.length) L := by
    obtain ⟨k, hk, _⟩ := hend
    have := unf_among (stP_stays HOK.out.rect HOK'.out.rect) (show (0 : Int) ≤ 0 ∧ (0 : Int) < ((xs.length * ys.length : Nat) : Int) by omega) k
    rw [hk] at this
    exact this
  have hb4 := bnew w3 (.cells #[.slice Aq R.length cq] 26)
  have hb5 := bnew (w3.alloc (.cells #[.slice Aq R.length cq] 26)) (.cells #[.slice A2 L.length c2] 45)
  have hb34 := bon hb4 hb5
  have hLB : BlkIs ((w3.alloc (.cells #[.slice Aq R.length cq] 26)).alloc (.cells #[.slice A2 L.length c2] 45)) (w3.heap.size + 1) 45 #[.slice A2 L.length c2] := blk_new _ _ _ _ (by simp)
  have hb24 := bon hb3 hb34
  have hW4 := bon hb12 hb24
  have hsz4 : ((w3.alloc (.cells #[.slice Aq R.length cq] 26)).alloc (.cells #[.slice A2 L.length c2] 45)).heap.size = w3.heap.size + 2 := by simp
  generalize (w3.alloc (.cells #[.slice Aq R.length cq] 26)).alloc (.cells #[.slice A2 L.length c2] 45) = W4 at hb34 hLB hb24 hW4 hsz4 ⊢
  have hP4 := hP.next hW4
  have hQ4 := hQ.next hW4
  have hR4 := hR.next hW4
  have hS4 := hS.next hW4
  have HX4 := Lib.hid (HX.out.next hW4 hB2)
  have HY4 := Lib.hid (HY.out.next hW4 hB2)
  have hpq4 := hpq.keep hb34
  have hown4 := own_below hown hb34
  have hBW4 : Below w.heap.size w W4 := bon hbb hW4
  have hB4 := Nat.le_trans hB2 hW4.size
  have hw4 : w.heap.size + 4 ≤ W4.heap.size := by have := hW4.size; omega
  clear hP hQ hR hS HX HY hb1 hb2 hb12 hb3 hpq hown p0 q0 HPC HPR HBM hb4 hb5 hb24 HWW
  obtain ⟨g2, rfl⟩ : ∃ r, A2 = some ⟨r, 0, none⟩ := by
    have hpos := okR.lo
    rcases hown4.2 with h' | ⟨r, cap, cur, k1, _⟩
    · have := h'.2; omega
    · injection k1 with k1; exact ⟨r, k1⟩
  refine range_boundW (σ := Nat) (α := Nat × Option Addr × Nat × Nat) rfl (by omega) (gf := 18) (bd := #[.agg #[.slice Aq R.length cq]]) rfl trivial (enters_of Try.func18 (by kernel_rfl) rfl) (encs := wEnc) (fun _ => rfl)
    (fun s W => Below W4.heap.size W4 W ∧ ∀ j, j < s → ∀ y, L[j]? = some y → ∀ e, e < 4 → hitB xs ys true y e = false)
    (fun cd W => cd = .ret ∧ DifX (findP xs ys true) w W) ?own ?ownx ?iw ?nx (s0 := 0) ⟨Below.refl _ _, fun j hj => by omega⟩
    (words_rounds (stP xs ys) L R hend hAM.1 okR (by omega) 4 (by omega) Aq cq W4.heap.size _ W4 hpq4.inn (Nat.le_refl _) (fun s W h => h.1)) ?Ax ?assign ?body ?done ?stop
  case own =>
    rintro s W' W'' row ⟨h1, h2⟩ hg hr
    exact ⟨h1.grown hg h1.size (fun j e => (hr j e).1), h2⟩
  case ownx =>
    rintro cd W' W'' row ⟨h1, h2⟩ hg hr
    exact ⟨h1, h2.turn hw4 hg hr⟩
  case iw =>
    rintro s W' W'' ⟨h1, h2⟩ hb
    exact ⟨h1.trans hb, h2⟩
  case nx =>
    intro s x W' W'' hx ho hk _
    exact hx.turn ho hk
  case assign =>
    intro l s x W' K hI hK
    (try dsimp only [wEnc])
    gi_wp2
    exact hK
  case body =>
    rintro l s ⟨s0, Av, wl, cv⟩ W' hl ⟨hBW, hno⟩ ⟨hs0, hsm, ⟨x, wd⟩, lo, ht, hwl, hwo⟩
    dsimp only at hs0 hsm hwl hwo
    subst hs0
    obtain ⟨t', k1, k2, k3⟩ := hend.item (s := s0) (by omega)
    rw [ht] at k1
    obtain rfl := Option.some.inj k1
    dsimp only at k3
    have hxr := hAM.2 x (List.mem_of_getElem? k3)
    have hm1 := HOK'.out.lo
    have d1 : 0 ≤ x / (m : Int) := Int.ediv_nonneg hxr.1 (by omega)
    have d2 : x / (m : Int) < (n : Int) := Int.ediv_lt_of_lt_mul (by omega) (by rw [← Int.natCast_mul, ← hxn, ← hym]; exact hxr.2)
    have d3 : 0 ≤ x % (m : Int) := Int.emod_nonneg _ (by omega)
    have d4 : x % (m : Int) < (m : Int) := Int.emod_lt_of_pos _ (by omega)
    have HHIT := Lib.hid (fun e => hit_is (p := xs) (q := ys) hym (x := x) (e := e))
    have hpv := pv_at (m : Int) L s0 x k3
    obtain ⟨a, ha⟩ : ∃ a : Nat, x / (m : Int) = a := ⟨(x / (m : Int)).toNat, by omega⟩
    obtain ⟨b, hb⟩ : ∃ b : Nat, x % (m : Int) = b := ⟨(x % (m : Int)).toNat, by omega⟩
    rw [ha, hb] at HHIT hpv
    rw [ha] at d1 d2
    rw [hb] at d3 d4
    simp only [Int.toNat_natCast] at HHIT
    have i1 : (s0 : Int) < (L.length : Int) := by omega
    have HT1 := Lib.hid ht
    have HK3 := Lib.hid k3
    have HWL := Lib.hid hwl
    have HWO := Lib.hid hwo
    have HNO := Lib.hid hno
    have HPV := Lib.hid hpv
    clear ht k1 k2 k3 hwl hwo hno hpv ha hb d1 d3
    gi_wp2
    gi_loopw [10, 11, 12, 13, 14, 33] (fun _ _ _ _ _ i wr => ∃ (e : Nat), e ≤ 4 ∧ i = .int .i64 e ∧ Below W'.heap.size W' wr ∧ ∀ j, j < e → hitB xs ys true x j = false) (fun _ _ _ _ _ i _ => 4 - (intOf i).toNat)
    case atStart => exact ⟨0, Nat.zero_le _, rfl, Below.refl _ _, fun j hj => by omega⟩
    case round =>
      obtain ⟨e, he, rfl, hbr, hne⟩ := hrel
      rename World => wr
      by_cases he4 : e < 4
      · have i2 : (e : Int) < 4 := by omega
        have hWr : Below W4.heap.size W4 wr := hBW.trans (hbr.mono hBW.size)
        have hPr := hP4.next hWr
        have hQr := hQ4.next hWr
        have hLr := hLB.next hWr
        have horr := own_below hown4 hWr
        have d0 : wr.cell? ⟨w.heap.size, 0, none⟩ = some (.slice A n c) := hPr.cell 0
        have d1 : wr.cell? ⟨w3.heap.size + 1, 0, none⟩ = some (.slice (some ⟨g2, 0, none⟩) L.length c2) := hLr.cell 0
        have d2 : wr.cell? ⟨g2, s0 * 2, none⟩ = some (.int .i64 (a : Int)) := by
          rw [horr.cellAt (s0 * 2) (by omega)]; exact HPV.out.1
        have HST1 := Lib.hid (stepR_c A n c B xs a e wr.drew ((HX4.out.next hWr hB4).drew) (Nat.le_trans hB4 hWr.size) HOK.out.rect (by omega) he4)
        have HST2 := Lib.hid (fun W1 (hb : Below wr.drew.heap.size wr.drew W1) => stepR_c A' m c' B ys b e W1 ((HY4.out.next hWr hB4).drew.next hb (Nat.le_trans hB4 hWr.size)) (Nat.le_trans (Nat.le_trans hB4 hWr.size) hb.size) HOK'.out.rect (by omega) he4)
        have HH := Lib.hid (HHIT.out e)
        have HNE := Lib.hid hne
        generalize (stR xs a e).1 = z1 at HST1
        generalize (stR ys b e).1 = z2 at HST2
        generalize (stR ys b e).2 = b2 at HST2 HH
        generalize (stR xs a e).2 = b1 at HST1 HH
        clear hne
        gi_wp2
        refine region_round (fun W' => W'.cell? ⟨w.heap.size, 0, none⟩ = some (.slice A n c) ∧ W'.cell? ⟨w3.heap.size + 1, 0, none⟩ = some (.slice (some ⟨g2, 0, none⟩) L.length c2) ∧ W'.cell? ⟨g2, s0 * 2, none⟩ = some (.int .i64 (a : Int))) (by kernel_rfl) (by kernel_rfl) ⟨d0, d1, d2⟩ ?_
        intro hHeld
        refine wpAnyH_take (i := 0) (v := ?_) rfl (by kernel_rfl) (by kernel_rfl) (by kernel_rfl) (fun _ _ _ h => h) (Or.inl ⟨by kernel_rfl, ?_⟩) (by assumption) ?_
        rotate_left
        · intro w9 hS9; (try dsimp only at hS9); go_simp; (try with_reducible rfl)
        try simp only [Act.put, List.getElem_toArray, List.getElem_cons_succ, List.getElem_cons_zero, List.setIfInBounds_toArray, List.set_cons_zero, List.set_cons_succ]
        refine wpAnyH_take (i := 1) (v := ?_) rfl (by kernel_rfl) (by kernel_rfl) (by kernel_rfl) (fun _ _ _ h => h) (Or.inl ⟨by kernel_rfl, ?_⟩) (by assumption) ?_
        rotate_left
        · intro w9 hS9; (try dsimp only at hS9); go_simp; (try with_reducible rfl)
        try simp only [Act.put, List.getElem_toArray, List.getElem_cons_succ, List.getElem_cons_zero, List.setIfInBounds_toArray, List.set_cons_zero, List.set_cons_succ]
        refine wpAnyH_take (i := 2) (v := ?_) rfl (by kernel_rfl) (by kernel_rfl) (by kernel_rfl) (fun _ _ _ h => h) (Or.inl ⟨by kernel_rfl, ?_⟩) (by assumption) ?_
        rotate_left
        · intro w9 hS9; (try dsimp only at hS9); go_simp; (try with_reducible rfl)
        try simp only [Act.put, List.getElem_toArray, List.getElem_cons_succ, List.getElem_cons_zero, List.setIfInBounds_toArray, List.set_cons_zero, List.set_cons_succ]
        refine wpAnyH_take (i := 3) (v := ?_) rfl (by kernel_rfl) (by kernel_rfl) (by kernel_rfl) (fun _ _ _ h => h) (Or.inl ⟨by kernel_rfl, ?_⟩) (by assumption) ?_
        rotate_left
        · intro w9 hS9; (try dsimp only at hS9); go_simp; (try with_reducible rfl)
        try simp only [Act.put, List.getElem_toArray, List.getElem_cons_succ, List.getElem_cons_zero, List.setIfInBounds_toArray, List.set_cons_zero, List.set_cons_succ]
        refine wpAnyH_take (i := 4) (v := ?_) rfl (by kernel_rfl) (by kernel_rfl) (by kernel_rfl) (fun _ _ _ h => h) (Or.inl ⟨by kernel_rfl, ?_⟩) (by assumption) ?_
        rotate_left
        · intro w9 hS9; (try dsimp only at hS9); go_simp; (try with_reducible rfl)
        try simp only [Act.put, List.getElem_toArray, List.getElem_cons_succ, List.getElem_cons_zero, List.setIfInBounds_toArray, List.set_cons_zero, List.set_cons_succ]
        refine wpAnyH_take (i := 5) (v := ?_) rfl (by kernel_rfl) (by kernel_rfl) (by kernel_rfl) (fun _ _ _ h => h) (Or.inl ⟨by kernel_rfl, ?_⟩) (by assumption) ?_
        rotate_left
        · intro w9 hS9; (try dsimp only at hS9); go_simp; (try with_reducible rfl)
        try simp only [Act.put, List.getElem_toArray, List.getElem_cons_succ, List.getElem_cons_zero, List.setIfInBounds_toArray, List.set_cons_zero, List.set_cons_succ]
        refine wpAnyH_take (i := 6) (v := ?_) rfl (by kernel_rfl) (by kernel_rfl) (by kernel_rfl) (fun _ _ _ h => h) (Or.inl ⟨by kernel_rfl, ?_⟩) (by assumption) ?_
        rotate_left
        · intro w9 hS9; (try dsimp only at hS9); go_simp; (try with_reducible rfl)
        try simp only [Act.put, List.getElem_toArray, List.getElem_cons_succ, List.getElem_cons_zero, List.setIfInBounds_toArray, List.set_cons_zero, List.set_cons_succ]
        refine wpAnyH_ready (rs := [7]) (by kernel_rfl) (by simp) ?_
        refine AllReadyH.cons rfl (fun K hK => ?_) AllReadyH.nil
        go_simp
        go_wp2_with (go_at_call 19; refine HST1.out.mono ?_; rintro e w5 ⟨rfl, hb5⟩)
        refine hK.out _ _ ⟨cell_on d0 hb5, cell_on d1 hb5, cell_on d2 hb5⟩ (fun hHeld2 => ?_)
        clear hK K hHeld
        refine wpAnyH_take (i := 8) (v := ?_) rfl (by kernel_rfl) (by kernel_rfl) (by kernel_rfl) (fun _ _ _ h => h) (Or.inl ⟨by kernel_rfl, ?_⟩) (by assumption) ?_
        rotate_left
        · intro w9 hS9; (try dsimp only at hS9); go_simp; (try with_reducible rfl)
        try simp only [Act.put, List.getElem_toArray, List.getElem_cons_succ, List.getElem_cons_zero, List.setIfInBounds_toArray, List.set_cons_zero, List.set_cons_succ]
        refine wpAnyH_take (i := 9) (v := ?_) rfl (by kernel_rfl) (by kernel_rfl) (by kernel_rfl) (fun _ _ _ h => h) (Or.inl ⟨by kernel_rfl, ?_⟩) (by assumption) ?_
        rotate_left
        · intro w9 hS9; (try dsimp only at hS9); go_simp; (try with_reducible rfl)
        try simp only [Act.put, List.getElem_toArray, List.getElem_cons_succ, List.getElem_cons_zero, List.setIfInBounds_toArray, List.set_cons_zero, List.set_cons_succ]
        refine wpAnyH_take (i := 10) (v := ?_) rfl (by kernel_rfl) (by kernel_rfl) (by kernel_rfl) (fun _ _ _ h => h) (Or.inl ⟨by kernel_rfl, ?_⟩) (by assumption) ?_
        rotate_left
        · intro w9 hS9; (try dsimp only at hS9); go_simp; (try with_reducible rfl)
        try simp only [Act.put, List.getElem_toArray, List.getElem_cons_succ, List.getElem_cons_zero, List.setIfInBounds_toArray, List.set_cons_zero, List.set_cons_succ]
        refine wpAnyH_take (i := 11) (v := ?_) rfl (by kernel_rfl) (by kernel_rfl) (by kernel_rfl) (fun _ _ _ h => h) (Or.inl ⟨by kernel_rfl, ?_⟩) (by assumption) ?_
        rotate_left
        · intro w9 hS9; (try dsimp only at hS9); go_simp; (try with_reducible rfl)
        try simp only [Act.put, List.getElem_toArray, List.getElem_cons_succ, List.getElem_cons_zero, List.setIfInBounds_toArray, List.set_cons_zero, List.set_cons_succ]
        refine wpAnyH_take (i := 12) (v := ?_) rfl (by kernel_rfl) (by kernel_rfl) (by kernel_rfl) (fun _ _ _ h => h) (Or.inl ⟨by kernel_rfl, ?_⟩) (by assumption) ?_
        rotate_left
        · intro w9 hS9; (try dsimp only at hS9); go_simp; (try with_reducible rfl)
        try simp only [Act.put, List.getElem_toArray, List.getElem_cons_succ, List.getElem_cons_zero, List.setIfInBounds_toArray, List.set_cons_zero, List.set_cons_succ]
        refine wpAnyH_done (by kernel_rfl) ?_ _
        refine NormOnly.normal ?_
        clear hHeld2
        have HST3 := Lib.hid (HST2.out w5.drew hb5.drew)
        have d3 : w5.cell? ⟨w.heap.size + 1, 0, none⟩ = some (.slice A' m c') := cell_on (show wr.cell? _ = _ from hQr.cell 0) hb5
        have d4 : w5.cell? ⟨w3.heap.size + 1, 0, none⟩ = some (.slice (some ⟨g2, 0, none⟩) L.length c2) := cell_on d1 hb5
        have d5 : w5.cell? ⟨g2, s0 * 2 + 1, none⟩ = some (.int .i64 (b : Int)) := by
          refine cell_on (w := wr) ?_ hb5
          rw [horr.cellAt (s0 * 2 + 1) (by omega)]; exact HPV.out.2
        gi_wp2
        refine region_round (fun W' => W'.cell? ⟨w.heap.size + 1, 0, none⟩ = some (.slice A' m c') ∧ W'.cell? ⟨w3.heap.size + 1, 0, none⟩ = some (.slice (some ⟨g2, 0, none⟩) L.length c2) ∧ W'.cell? ⟨g2, s0 * 2 + 1, none⟩ = some (.int .i64 (b : Int))) (by kernel_rfl) (by kernel_rfl) ⟨d3, d4, d5⟩ ?_
        intro hHeld
        refine wpAnyH_take (i := 0) (v := ?_) rfl (by kernel_rfl) (by kernel_rfl) (by kernel_rfl) (fun _ _ _ h => h) (Or.inl ⟨by kernel_rfl, ?_⟩) (by assumption) ?_
        rotate_left
        · intro w9 hS9; (try dsimp only at hS9); go_simp; (try with_reducible rfl)
        try simp only [Act.put, List.getElem_toArray, List.getElem_cons_succ, List.getElem_cons_zero, List.setIfInBounds_toArray, List.set_cons_zero, List.set_cons_succ]
        refine wpAnyH_take (i := 1) (v := ?_) rfl (by kernel_rfl) (by kernel_rfl) (by kernel_rfl) (fun _ _ _ h => h) (Or.inl ⟨by kernel_rfl, ?_⟩) (by assumption) ?_
        rotate_left
        · intro w9 hS9; (try dsimp only at hS9); go_simp; (try with_reducible rfl)
        try simp only [Act.put, List.getElem_toArray, List.getElem_cons_succ, List.getElem_cons_zero, List.setIfInBounds_toArray, List.set_cons_zero, List.set_cons_succ]
        refine wpAnyH_take (i := 2) (v := ?_) rfl (by kernel_rfl) (by kernel_rfl) (by kernel_rfl) (fun _ _ _ h => h) (Or.inl ⟨by kernel_rfl, ?_⟩) (by assumption) ?_
        rotate_left
        · intro w9 hS9; (try dsimp only at hS9); go_simp; (try with_reducible rfl)
        try simp only [Act.put, List.getElem_toArray, List.getElem_cons_succ, List.getElem_cons_zero, List.setIfInBounds_toArray, List.set_cons_zero, List.set_cons_succ]
        refine wpAnyH_take (i := 3) (v := ?_) rfl (by kernel_rfl) (by kernel_rfl) (by kernel_rfl) (fun _ _ _ h => h) (Or.inl ⟨by kernel_rfl, ?_⟩) (by assumption) ?_
        rotate_left
        · intro w9 hS9; (try dsimp only at hS9); go_simp; (try with_reducible rfl)
        try simp only [Act.put, List.getElem_toArray, List.getElem_cons_succ, List.getElem_cons_zero, List.setIfInBounds_toArray, List.set_cons_zero, List.set_cons_succ]
        refine wpAnyH_take (i := 4) (v := ?_) rfl (by kernel_rfl) (by kernel_rfl) (by kernel_rfl) (fun _ _ _ h => h) (Or.inl ⟨by kernel_rfl, ?_⟩) (by assumption) ?_
        rotate_left
        · intro w9 hS9; (try dsimp only at hS9); go_simp; (try with_reducible rfl)
        try simp only [Act.put, List.getElem_toArray, List.getElem_cons_succ, List.getElem_cons_zero, List.setIfInBounds_toArray, List.set_cons_zero, List.set_cons_succ]
        refine wpAnyH_take (i := 5) (v := ?_) rfl (by kernel_rfl) (by kernel_rfl) (by kernel_rfl) (fun _ _ _ h => h) (Or.inl ⟨by kernel_rfl, ?_⟩) (by assumption) ?_
        rotate_left
        · intro w9 hS9; (try dsimp only at hS9); go_simp; (try with_reducible rfl)
        try simp only [Act.put, List.getElem_toArray, List.getElem_cons_succ, List.getElem_cons_zero, List.setIfInBounds_toArray, List.set_cons_zero, List.set_cons_succ]
        refine wpAnyH_take (i := 6) (v := ?_) rfl (by kernel_rfl) (by kernel_rfl) (by kernel_rfl) (fun _ _ _ h => h) (Or.inl ⟨by kernel_rfl, ?_⟩) (by assumption) ?_
        rotate_left
        · intro w9 hS9; (try dsimp only at hS9); go_simp; (try with_reducible rfl)
        try simp only [Act.put, List.getElem_toArray, List.getElem_cons_succ, List.getElem_cons_zero, List.setIfInBounds_toArray, List.set_cons_zero, List.set_cons_succ]
        refine wpAnyH_ready (rs := [7]) (by kernel_rfl) (by simp) ?_
        refine AllReadyH.cons rfl (fun K hK => ?_) AllReadyH.nil
        go_simp
        go_wp2_with (go_at_call 19; refine HST3.out.mono ?_; rintro e w6 ⟨rfl, hb6⟩)
        refine hK.out _ _ ⟨cell_on d3 hb6, cell_on d4 hb6, cell_on d5 hb6⟩ (fun hHeld2 => ?_)
        clear hK K hHeld
        refine wpAnyH_take (i := 8) (v := ?_) rfl (by kernel_rfl) (by kernel_rfl) (by kernel_rfl) (fun _ _ _ h => h) (Or.inl ⟨by kernel_rfl, ?_⟩) (by assumption) ?_
        rotate_left
        · intro w9 hS9; (try dsimp only at hS9); go_simp; (try with_reducible rfl)
        try simp only [Act.put, List.getElem_toArray, List.getElem_cons_succ, List.getElem_cons_zero, List.setIfInBounds_toArray, List.set_cons_zero, List.set_cons_succ]
        refine wpAnyH_take (i := 9) (v := ?_) rfl (by kernel_rfl) (by kernel_rfl) (by kernel_rfl) (fun _ _ _ h => h) (Or.inl ⟨by kernel_rfl, ?_⟩) (by assumption) ?_
        rotate_left
        · intro w9 hS9; (try dsimp only at hS9); go_simp; (try with_reducible rfl)
        try simp only [Act.put, List.getElem_toArray, List.getElem_cons_succ, List.getElem_cons_zero, List.setIfInBounds_toArray, List.set_cons_zero, List.set_cons_succ]
        refine wpAnyH_take (i := 10) (v := ?_) rfl (by kernel_rfl) (by kernel_rfl) (by kernel_rfl) (fun _ _ _ h => h) (Or.inl ⟨by kernel_rfl, ?_⟩) (by assumption) ?_
        rotate_left
        · intro w9 hS9; (try dsimp only at hS9); go_simp; (try with_reducible rfl)
        try simp only [Act.put, List.getElem_toArray, List.getElem_cons_succ, List.getElem_cons_zero, List.setIfInBounds_toArray, List.set_cons_zero, List.set_cons_succ]
        refine wpAnyH_take (i := 11) (v := ?_) rfl (by kernel_rfl) (by kernel_rfl) (by kernel_rfl) (fun _ _ _ h => h) (Or.inl ⟨by kernel_rfl, ?_⟩) (by assumption) ?_
        rotate_left
        · intro w9 hS9; (try dsimp only at hS9); go_simp; (try with_reducible rfl)
        try simp only [Act.put, List.getElem_toArray, List.getElem_cons_succ, List.getElem_cons_zero, List.setIfInBounds_toArray, List.set_cons_zero, List.set_cons_succ]
        refine wpAnyH_take (i := 12) (v := ?_) rfl (by kernel_rfl) (by kernel_rfl) (by kernel_rfl) (fun _ _ _ h => h) (Or.inl ⟨by kernel_rfl, ?_⟩) (by assumption) ?_
        rotate_left
        · intro w9 hS9; (try dsimp only at hS9); go_simp; (try with_reducible rfl)
        try simp only [Act.put, List.getElem_toArray, List.getElem_cons_succ, List.getElem_cons_zero, List.setIfInBounds_toArray, List.set_cons_zero, List.set_cons_succ]
        refine wpAnyH_done (by kernel_rfl) ?_ _
        refine NormOnly.normal ?_
        clear hHeld2
        have hb6' : Below wr.heap.size wr w6 := bon (bstep hb5) (bstep hb6)
        have hbr6 : Below W'.heap.size W' w6 := bon hbr hb6'
        have hWr6 : Below W4.heap.size W4 w6 := hBW.trans (hbr6.mono hBW.size)
        clear HST1 HST2 HST3 d0 d1 d2 d3 d4 d5 hPr hQr hLr horr
        by_cases hbb12 : b1 = b2
        · subst hbb12
          have HF : Hid (hitB xs ys true x e = false) := by show _ = _; rw [HH.out]; cases b1 <;> rfl
          gi_wp2
          go_roundw
          case rel => exact ⟨e + 1, by omega, by go_num, hbr6, fun j hj => by rcases Nat.lt_or_eq_of_le (Nat.le_of_lt_succ hj) with k | k; exact HNE.out j k; subst k; exact HF.out⟩
          case measure => simp [intOf]; omega
        · have HF0 : hitB xs ys true x e = true := by rw [HH.out]; revert hbb12; cases b1 <;> cases b2 <;> decide
          have hfind : findP xs ys true = some (wd ++ [(e : Int)]) := findP_at (i := s0) (by omega) HT1.out he4 HF0 HNE.out (fun j u hj hu e he => by
            obtain ⟨d, hd⟩ := Nat.exists_eq_add_of_le (show s0 ≤ L.length by omega)
            obtain ⟨z, hz⟩ := wunf_pre (st := stP xs ys) s0 d
            have hj2 : (wunf (stP xs ys) L.length)[j]? = some u := by rw [hd, ← hz, List.getElem?_append_left (List.getElem?_eq_some_iff.1 hu).1]; exact hu
            have hj3 : L[j]? = some u.1 := by
              have e3 : L[j]? = ((wunf (stP xs ys) L.length).map Prod.fst)[j]? := by rw [hend.items]
              rw [e3, List.getElem?_map, hj2]; rfl
            exact HNO.out j hj _ hj3 e he)
          have HFI := Lib.hid hfind
          have hcap : wl ≤ cv ∧ (Av = none → cv = 0) := by
            rcases HWO.out.2 with ⟨e1, e2⟩ | ⟨g9, cap, cur, e1, _, _, e3, _⟩
            · injection e1 with e1 e4 e5; subst e2; exact ⟨by omega, fun _ => by omega⟩
            · injection e1 with e1 e4 e5; subst e5; exact ⟨e3, fun k => by rw [k] at e1; cases e1⟩
          have hwl2 : wl ≤ 1000 := by have := wunf_words (st := stP xs ys) s0 _ (List.mem_of_getElem? HT1.out); have := HWL.out; dsimp only at *; omega
          have hwo2 := HWO.out
          have HMO := Lib.hid (withMore_c Av wl cv W'.heap.size wd (e : Int) w6 (((OwnL.of_own (by exact hwo2)).inn).next hbr6 (Nat.le_refl _)) hbr6.size hwl2 hcap.1 hcap.2)
          have hR6 := hR4.next hWr6
          have hS6 := hS4.next hWr6
          have r1 : (b1 == b2) = false := by revert hbb12; cases b1 <;> cases b2 <;> decide
          clear hfind HF0 hcap hwo2
          gi_wp2_with (refine ⟨trivial, ?_⟩; gi_at_call 20; refine (CallsIn.inRound l (callsIn_wide.2 HMO.out)).mono ?_; rintro e8 w8 ⟨A8, c8, rfl, hown8, hb8⟩; have hR8 := hR6.next hb8; have hS8 := hS6.next hb8; have x0 := hR8.cell 0; have x1 := hR8.frozen 0; have x2 := hS8.cell 0; have x3 := hS8.frozen 0; simp at x0 x2)
          have hw8 : w.heap.size + 4 ≤ w6.heap.size := Nat.le_trans hw4 hWr6.size
          have hb68 : Below W'.heap.size W' w8 := bon hbr6 hb8
          have hbw8 : Below w.heap.size w w8 := bon hBW4 (bon hWr6 hb8)
          have hzl : (wd ++ [(e : Int)]).length = wl + 1 := by rw [List.length_append, HWL.out]; rfl
          have hR9 := hR8.set 0 (.slice A8 (wl + 1) c8)
          have hS9 := (hS8.far (by omega) 0 (.slice A8 (wl + 1) c8) (g' := w.heap.size + 1 + 1)).set 0 (.bool true)
          simp at hR9 hS9
          refine ⟨⟨Nat.le_trans hb68.size (by simp), fun k o hk ho _ => ?_⟩, rfl, A8, wd ++ [(e : Int)], wl + 1, c8, HFI.out, hzl, hR9.far (by omega) 0 _, hS9, ?_, ?_, ?_⟩
          · exact (Below.heap_setCell _ _ _ _ (by show k ≠ w.heap.size + 1 + 1 + 1; omega)).trans ((Below.heap_setCell _ _ _ _ (by show k ≠ w.heap.size + 1 + 1; omega)).trans ((hb68.block k (Array.getElem?_eq_some_iff.1 ho).1).trans ho))
          · exact own_same (own_less hown8 hw8) (fun k hk => by
              have := (hown8.lt k hk).1
              exact (Below.heap_setCell _ _ _ _ (by show k ≠ w.heap.size + 1 + 1 + 1; omega)).trans (Below.heap_setCell _ _ _ _ (by show k ≠ w.heap.size + 1 + 1; omega)))
          · exact (hbw8.setCell (p := ⟨w.heap.size + 1 + 1, 0, none⟩) (by simp; omega) _).setCell (p := ⟨w.heap.size + 1 + 1 + 1, 0, none⟩) (by simp; omega) _
          · have := hb8.size
            simp; omega
      · obtain rfl : e = 4 := by omega
        have HNE := Lib.hid hne
        clear hne
        gi_wp2
        refine ⟨hbr, s0 + 1, rfl, hBW.trans (hbr.mono hBW.size), fun j hj y hy e he => ?_⟩
        rcases Nat.lt_or_eq_of_le (Nat.le_of_lt_succ hj) with k | k
        · exact HNO.out j k y hy e he
        · subst k
          rw [HK3.out] at hy
          obtain rfl := Option.some.inj hy
          exact HNE.out e he
  case done =>
    rintro D s W' hD hF ⟨hBW, hno⟩ hK
    have hF' : s = R.length := hF
    have hfind : findP xs ys true = none := by
      have hil : (wunf (stP xs ys) L.length).length = L.length := by have := congrArg List.length hend.items; rwa [List.length_map] at this
      refine findP_none (i := L.length) (by omega) (by omega) (fun j u hj hu e he => ?_)
      have hj3 : L[j]? = some u.1 := by
        have e3 : L[j]? = ((wunf (stP xs ys) L.length).map Prod.fst)[j]? := by rw [hend.items]
        rw [e3, List.getElem?_map, hu]; rfl
      exact hno j (by omega) _ hj3 e he
    have hRW := hR4.next hBW
    have hSW := hS4.next hBW
    have x0 := hRW.cell 0
    have x1 := hRW.frozen 0
    have x2 := hSW.cell 0
    have x3 := hSW.frozen 0
    simp at x0 x2
    have hbw : Below w.heap.size w W' := bon hBW4 hBW
    gi_wp2
    have hR9 := hRW.set 0 (.slice none 0 0)
    have hS9 := (hSW.far (by omega) 0 (.slice none 0 0) (g' := w.heap.size + 1 + 1)).set 0 (.bool false)
    simp at hR9 hS9
    have hR10 := hR9.far (by omega) 0 (.bool false) (g' := w.heap.size + 1 + 1 + 1)
    have hb9 : Below w.heap.size w ((W'.setCell ⟨w.heap.size + 1 + 1, 0, none⟩ (.slice none 0 0)).setCell ⟨w.heap.size + 1 + 1 + 1, 0, none⟩ (.bool false)) := (hbw.setCell (p := ⟨w.heap.size + 1 + 1, 0, none⟩) (by simp; omega) _).setCell (p := ⟨w.heap.size + 1 + 1 + 1, 0, none⟩) (by simp; omega) _
    have hK9 : ((W'.setCell ⟨w.heap.size + 1 + 1, 0, none⟩ (.slice none 0 0)).setCell ⟨w.heap.size + 1 + 1 + 1, 0, none⟩ (.bool false)).heap[D]? = some (.deferred (some [])) := (Below.heap_setCell _ _ _ _ (by show D ≠ w.heap.size + 1 + 1 + 1; omega)).trans ((Below.heap_setCell _ _ _ _ (by show D ≠ w.heap.size + 1 + 1; omega)).trans hK)
    generalize (W'.setCell ⟨w.heap.size + 1 + 1, 0, none⟩ (.slice none 0 0)).setCell ⟨w.heap.size + 1 + 1 + 1, 0, none⟩ (.bool false) = W9 at hS9 hR10 hb9 hK9 ⊢
    have hg := grownBy_putObj' W9 D (.deferred none)
    have e1 := (hR10.by_grown hg (fun e => by injection e with e; omega)).cell 0
    have e2 := (hS9.by_grown hg (fun e => by injection e with e; omega)).cell 0
    simp at e1 e2
    have hb10 : Below w.heap.size w (W9.putObj D (.deferred none)) := hb9.grown hg hb9.size (fun j e => by injection e with e; omega)
    refine ⟨by simp, .inl ⟨_, _, rfl, run_takeDeferred hK9, ?_⟩⟩
    refine ⟨.tuple #[.slice none 0 0, .bool false], ?_, ?_⟩
    · simp [results, Try.f7, go_sem, e1, e2]
    · rw [HD.out, hfind]
      exact ⟨none, 0, rfl, OwnL.none_ hb10.size, hb10⟩
  case stop =>
    rintro D cd W' hD ⟨rfl, hX⟩ hK
    gi_wp2
    have hX2 := hX.turn (Nat.le_refl _) (grownBy_putObj' W' D (.deferred none)) (fun r e => ⟨by injection e with e; omega, _, by injection e with e; subst e; exact hK, rfl⟩)
    obtain ⟨A9, z, zn, c9, k1, k2, k3, k4, k5, k6, k7⟩ := hX2
    have e1 := k3.cell 0
    have e2 := k4.cell 0
    simp at e1 e2
    refine ⟨by simp, .inl ⟨_, _, rfl, run_takeDeferred hK, ?_⟩⟩
    refine ⟨.tuple #[.slice A9 zn c9, .bool true], ?_, ?_⟩
    · simp [results, Try.f7, go_sem, e1, e2]
    · rw [HD.out, k1]
      subst k2
      exact ⟨A9, c9, rfl, (OwnL.of_own k5).less (by omega), k6⟩

set_option maxRecDepth 100000 in
set_option maxHeartbeats 4000000 in
theorem implDiff_c (A : Option Addr) (n c : Nat) (A' : Option Addr) (m c' B : Nat) (xs ys : List (List Int)) (w : World) (h : InLL w B A n xs) (h' : InLL w B A' m ys) (hB : B ≤ w.heap.size) (hn : n ≤ 1048576) (hm : m ≤ 1048576) (hea : ∀ x ∈ xs, x.length ≤ 1048576) (hea' : ∀ x ∈ ys, x.length ≤ 1048576) :
    Calls Try.prog 7 #[.agg #[.slice A n c], .agg #[.slice A' m c']] w fun e w' => ∃ A2 c2, e = .returned (.tuple #[.slice A2 (diffR xs ys).1.length c2, .bool (diffR xs ys).2]) ∧ OwnL w' w.heap.size w'.heap.size A2 (diffR xs ys).1.length c2 (diffR xs ys).1 ∧ Below w.heap.size w w' := by
  have HYES := Lib.hid (fun hv hu => callsIn_wide.1 (implDiff_in A n c A' m c' B xs ys w h h' hB hn hm hea hea' hv hu))
  have hb0 := bnew w (.cells #[.slice A n c] 26)
  have hb1 := bnew (w.alloc (.cells #[.slice A n c] 26)) (.cells #[.slice A' m c'] 26)
  have hb2 := bnew ((w.alloc (.cells #[.slice A n c] 26)).alloc (.cells #[.slice A' m c'] 26)) (.cells #[.slice none 0 0] 29)
  have hb3 := bnew (((w.alloc (.cells #[.slice A n c] 26)).alloc (.cells #[.slice A' m c'] 26)).alloc (.cells #[.slice none 0 0] 29)) (.cells #[.bool false] 4)
  have hbb := bon (bon (bon hb0 hb1) hb2) hb3
  have hP : BlkIs ((((w.alloc (.cells #[.slice A n c] 26)).alloc (.cells #[.slice A' m c'] 26)).alloc (.cells #[.slice none 0 0] 29)).alloc (.cells #[.bool false] 4)) w.heap.size 26 #[.slice A n c] := (((blk_new _ _ _ _ rfl).next hb1).next hb2).next hb3
  have hQ : BlkIs ((((w.alloc (.cells #[.slice A n c] 26)).alloc (.cells #[.slice A' m c'] 26)).alloc (.cells #[.slice none 0 0] 29)).alloc (.cells #[.bool false] 4)) (w.heap.size + 1) 26 #[.slice A' m c'] := ((blk_new _ _ _ _ (by simp)).next hb2).next hb3
  have hR : BlkIs ((((w.alloc (.cells #[.slice A n c] 26)).alloc (.cells #[.slice A' m c'] 26)).alloc (.cells #[.slice none 0 0] 29)).alloc (.cells #[.bool false] 4)) (w.heap.size + 1 + 1) 29 #[.slice none 0 0] := (blk_new _ _ _ _ (by simp)).next hb3
  have hS : BlkIs ((((w.alloc (.cells #[.slice A n c] 26)).alloc (.cells #[.slice A' m c'] 26)).alloc (.cells #[.slice none 0 0] 29)).alloc (.cells #[.bool false] 4)) (w.heap.size + 1 + 1 + 1) 4 #[.bool false] := blk_new _ _ _ _ (by simp)
  have HX := Lib.hid (h.next hbb hB)
  have HY := Lib.hid (h'.next hbb hB)
  have hB2 := Nat.le_trans hB hbb.size
  have hsz : ((((w.alloc (.cells #[.slice A n c] 26)).alloc (.cells #[.slice A' m c'] 26)).alloc (.cells #[.slice none 0 0] 29)).alloc (.cells #[.bool false] 4)).heap.size = w.heap.size + 4 := by simp
  clear h h' hb0 hb1 hb2 hb3
  obtain ⟨W, hW⟩ : ∃ W, (((w.alloc (.cells #[.slice A n c] 26)).alloc (.cells #[.slice A' m c'] 26)).alloc (.cells #[.slice none 0 0] 29)).alloc (.cells #[.bool false] 4) = W := ⟨_, rfl⟩
  rw [hW] at hP hQ hR hS hbb HX HY hB2 hsz
  have HWW := Lib.hid hW
  clear hW
  have p0 : W.cell? ⟨w.heap.size, 0, none⟩ = some (.slice A n c) := hP.cell 0
  have HS1 := implPolicy_c A n c B xs W HX.out hB2 hn hea
  have HS2 := Lib.hid (fun W1 (hb : Below W.heap.size W W1) => implPolicy_c A' m c' B ys W1 (HY.out.next hb hB2) (Nat.le_trans hB2 hb.size) hm hea')
  have hfail : ∀ (W1 : World), Below W.heap.size W W1 → ((W1.setCell ⟨w.heap.size + 1 + 1, 0, none⟩ (.slice none 0 0)).setCell ⟨w.heap.size + 1 + 1 + 1, 0, none⟩ (.bool false)).cell? ⟨w.heap.size + 1 + 1, 0, none⟩ = some (.slice none 0 0) ∧ ((W1.setCell ⟨w.heap.size + 1 + 1, 0, none⟩ (.slice none 0 0)).setCell ⟨w.heap.size + 1 + 1 + 1, 0, none⟩ (.bool false)).cell? ⟨w.heap.size + 1 + 1 + 1, 0, none⟩ = some (.bool false) ∧ Below w.heap.size w ((W1.setCell ⟨w.heap.size + 1 + 1, 0, none⟩ (.slice none 0 0)).setCell ⟨w.heap.size + 1 + 1 + 1, 0, none⟩ (.bool false)) := fun W1 hb => by
    have hR9 := (hR.next hb).set 0 (.slice none 0 0)
    have hS9 := ((hS.next hb).far (by omega) 0 (.slice none 0 0) (g' := w.heap.size + 1 + 1)).set 0 (.bool false)
    simp at hR9 hS9
    have hR10 := hR9.far (by omega) 0 (.bool false) (g' := w.heap.size + 1 + 1 + 1)
    exact ⟨by simpa using hR10.cell 0, by simpa using hS9.cell 0, ((bon hbb hb).setCell (p := ⟨w.heap.size + 1 + 1, 0, none⟩) (by simp; omega) _).setCell (p := ⟨w.heap.size + 1 + 1 + 1, 0, none⟩) (by simp; omega) _⟩
  have HF := Lib.hid hfail
  clear hfail
  cases hv : polB xs with
  | false =>
    have HN := Lib.hid (diffR_one (ys := ys) hv)
    rw [HN.out]
    rw [hv] at HS1
    have HS := Lib.hid HS1
    clear hv HS1 HS2 HYES
    go_enter Try.func7, Try.ntmps7
    go_upto_region 1 with fail
    rw [HWW.out]
    go_wp2_with fail
    refine HS.out.mono ?_
    rintro v w1 ⟨rfl, hb1⟩
    have z0 := (hR.next hb1).cell 0
    have z1 := (hR.next hb1).frozen 0
    have z2 := (hS.next hb1).cell 0
    have z3 := (hS.next hb1).frozen 0
    simp at z0 z2
    go_wp2_with fail
    obtain ⟨k1, k2, k3⟩ := HF.out _ hb1
    exact bodyPost_ret (v := .tuple #[.slice none 0 0, .bool false]) (by simp [results, Try.results7, go_sem, k1, k2]) rfl ⟨none, 0, rfl, OwnL.none_ k3.size, k3⟩
  | true =>
    rw [hv] at HS1
    have HS := Lib.hid HS1
    clear HS1
    cases hu : polB ys with
    | false =>
      have HN := Lib.hid (diffR_two (xs := xs) hu)
      rw [HN.out]
      rw [hu] at HS2
      clear hv hu HYES
      go_enter Try.func7, Try.ntmps7
      go_upto_region 1 with fail
      rw [HWW.out]
      go_wp2_with fail
      refine HS.out.mono ?_
      rintro v w1 ⟨rfl, hb1⟩
      have q0 := (hQ.next hb1).cell 0
      simp at q0
      have HT := Lib.hid (HS2.out w1 hb1)
      clear HS2
      go_wp2_with fail
      refine HT.out.mono ?_
      rintro v w2 ⟨rfl, hb2⟩
      have hb12 := bon hb1 hb2
      have z0 := (hR.next hb12).cell 0
      have z1 := (hR.next hb12).frozen 0
      have z2 := (hS.next hb12).cell 0
      have z3 := (hS.next hb12).frozen 0
      simp at z0 z2
      go_wp2_with fail
      obtain ⟨k1, k2, k3⟩ := HF.out _ hb12
      exact bodyPost_ret (v := .tuple #[.slice none 0 0, .bool false]) (by simp [results, Try.results7, go_sem, k1, k2]) rfl ⟨none, 0, rfl, OwnL.none_ k3.size, k3⟩
    | true => exact HYES.out hv hu
end Go.Proofs.Ytpdgnmdjneakgaa
