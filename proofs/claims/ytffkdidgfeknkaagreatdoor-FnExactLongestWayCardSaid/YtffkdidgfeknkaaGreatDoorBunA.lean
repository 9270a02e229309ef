/-
  Several texts in one: Sum, Append, EvTo, Own64, MakeS, RowT, CopyO, HeldTS. Conditions: as each says.
-/
import Derived.Test.YtffkdidgfeknkaaGreatDoorTmB
import Derived.Test.YtffkdidgfeknkaaGreatDoorOwn
import Derived.Maps.AppendAt
import Derived.OwnWalk
import Derived.Test.YtffkdidgfeknkaaGreatDoorTermsC
import Derived.WalkSmall
import Derived.Lib.SliceRun
import Derived.Test.YtffkdidgfeknkaaGreatDoorValid
import Derived.Deep.RegionHeld3
import Derived.Deep.DeepCutAuto
import Derived.Test.YtffkdidgfeknkaaGreatDoorEq
import Derived.Test.YtffkdidgfeknkaaGreatDoorBlk
import Derived.Test.YtffkdidgfeknkaaGreatDoorMarkTS

/-! Sums of terms as functions of the symbol; the list of coefficients without its zeros at the end. Plain lemmas, of no program. No conditions. -/
namespace Go.Proofs.YtffkdidgfeknkaaGreatDoor

/-- The coefficient of a symbol in a term; the symbol -1 is the constant. -/
def tf (t : Int × List Int) (k : Int) : Int := if k = -1 then t.1 else if k < 0 then 0 else t.2.getD k.toNat 0
theorem tf_const (t : Int × List Int) : tf t (-1) = t.1 := by simp [tf]
theorem tf_nat (t : Int × List Int) (i : Nat) : tf t (i : Int) = t.2.getD i 0 := by
  unfold tf; rw [if_neg (by omega), if_neg (by omega)]; simp
/-- A coefficient is turned by a number. -/
def upd (g : Int → Int) (j v : Int) : Int → Int := fun k => if k = j then g k + v else g k
/-- The summands of a term, as far as its first k coefficients go. -/
def sumTo (t : Int × List Int) : Nat → List (Int × Int)
  | 0 => []
  | k + 1 => sumTo t k ++ (if t.2.getD k 0 = 0 then [] else [((k : Int), t.2.getD k 0)])
/-- All summands of a term. -/
def summ (t : Int × List Int) : List (Int × Int) := sumTo t t.2.length ++ (if t.1 = 0 then [] else [(-1, t.1)])
def addS (n : Int) (f : Int → Int) (l : List (Int × Int)) : Int → Int := l.foldl (fun g p => upd g p.1 (n * p.2)) f
/-- A multiple of a term is added. -/
def addT (f : Int → Int) (n : Int) (t : Int × List Int) : Int → Int := fun k => f k + n * tf t k
theorem addS_snoc (n : Int) (f : Int → Int) (l : List (Int × Int)) (p : Int × Int) : addS n f (l ++ [p]) = upd (addS n f l) p.1 (n * p.2) := by simp [addS, List.foldl_append]
theorem addS_sumTo (n : Int) (f : Int → Int) (t : Int × List Int) : ∀ k j, addS n f (sumTo t k) j = f j + n * (if 0 ≤ j ∧ j < (k : Int) then t.2.getD j.toNat 0 else 0)
  | 0, j => by
    have : ¬ (0 ≤ j ∧ j < ((0 : Nat) : Int)) := by omega
    rw [if_neg this]; simp [sumTo, addS]
  | k + 1, j => by
    have ih := addS_sumTo n f t k
    by_cases h0 : t.2.getD k 0 = 0
    · rw [sumTo, if_pos h0, List.append_nil, ih]
      by_cases hj : j = (k : Int)
      · subst hj
        rw [if_neg (by omega), if_pos (by omega)]
        simp only [Int.toNat_natCast]
        rw [h0]
      · by_cases h1 : 0 ≤ j ∧ j < (k : Int)
        · rw [if_pos h1, if_pos (by omega)]
        · rw [if_neg h1, if_neg (by omega)]
    · rw [sumTo, if_neg h0, addS_snoc]
      unfold upd
      by_cases hj : j = (k : Int)
      · subst hj
        rw [if_pos rfl, ih, if_neg (by omega), if_pos (by omega)]
        simp
      · rw [if_neg hj, ih]
        by_cases h1 : 0 ≤ j ∧ j < (k : Int)
        · rw [if_pos h1, if_pos (by omega)]
        · rw [if_neg h1, if_neg (by omega)]
theorem addS_summ (n : Int) (f : Int → Int) (t : Int × List Int) : addS n f (summ t) = addT f n t := by
  funext j
  have key : addS n f (sumTo t t.2.length) j = f j + n * (if 0 ≤ j then t.2.getD j.toNat 0 else 0) := by
    rw [addS_sumTo]
    by_cases h1 : 0 ≤ j
    · by_cases h2 : j < (t.2.length : Int)
      · rw [if_pos ⟨h1, h2⟩, if_pos h1]
      · rw [if_neg (fun h => h2 h.2), if_pos h1]
        have : t.2.getD j.toNat 0 = 0 := by
          rw [List.getD_eq_getElem?_getD, List.getElem?_eq_none (by omega)]; rfl
        rw [this]
    · rw [if_neg (fun h => h1 h.1), if_neg h1]
  unfold summ addT tf
  by_cases h0 : t.1 = 0
  · rw [if_pos h0, List.append_nil, key]
    by_cases hj : j = -1
    · subst hj; rw [if_neg (by omega), if_pos rfl, h0]
    · rw [if_neg hj]
      by_cases h1 : 0 ≤ j
      · rw [if_pos h1, if_neg (by omega)]
      · rw [if_neg h1, if_pos (by omega)]
  · rw [if_neg h0, addS_snoc]
    unfold upd
    by_cases hj : j = -1
    · subst hj
      rw [if_pos rfl, key, if_neg (by omega), if_pos rfl]; simp
    · rw [if_neg hj, key, if_neg hj]
      by_cases h1 : 0 ≤ j
      · rw [if_pos h1, if_neg (by omega)]
      · rw [if_neg h1, if_pos (by omega)]
theorem sumTo_mem {t : Int × List Int} : ∀ {k : Nat} {p : Int × Int}, p ∈ sumTo t k → 0 ≤ p.1 ∧ p.1 < (k : Int) ∧ p.2 = t.2.getD p.1.toNat 0 ∧ p.2 ≠ 0
  | 0, p, h => by simp [sumTo] at h
  | k + 1, p, h => by
    rw [sumTo, List.mem_append] at h
    rcases h with h | h
    · have := sumTo_mem h; omega
    · by_cases h0 : t.2.getD k 0 = 0
      · rw [if_pos h0] at h; simp at h
      · rw [if_neg h0] at h
        obtain rfl := List.mem_singleton.1 h
        refine ⟨by simp, by simp; omega, by simp, h0⟩
theorem sumTo_len (t : Int × List Int) : ∀ k, (sumTo t k).length ≤ k
  | 0 => by simp [sumTo]
  | k + 1 => by
    have := sumTo_len t k
    rw [sumTo, List.length_append]
    by_cases h0 : t.2.getD k 0 = 0
    · rw [if_pos h0]; simp; omega
    · rw [if_neg h0]; simp; omega
theorem summ_len (t : Int × List Int) : (summ t).length ≤ t.2.length + 1 := by
  have := sumTo_len t t.2.length
  unfold summ
  rw [List.length_append]
  by_cases h0 : t.1 = 0
  · rw [if_pos h0]; simp; omega
  · rw [if_neg h0]; simp; omega
theorem getD_mem {l : List Int} {i : Nat} (h : l.getD i 0 ≠ 0) : l.getD i 0 ∈ l := by
  rw [List.getD_eq_getElem?_getD] at h ⊢
  cases hx : l[i]? with
  | none => rw [hx] at h; exact absurd rfl h
  | some x => exact List.mem_of_getElem? hx
/-- What a summand of a valid term is. -/
theorem summ_ok {t : Int × List Int} (h : tmB t = true) {p : Int × Int} (hp : p ∈ summ t) : -1 ≤ p.1 ∧ p.1 ≤ 9 ∧ -1000000 ≤ p.2 ∧ p.2 ≤ 1000000 := by
  obtain ⟨h1, h2, h3, _⟩ := tmB_parts h
  unfold summ at hp
  rw [List.mem_append] at hp
  rcases hp with hp | hp
  · obtain ⟨a, b, c, d⟩ := sumTo_mem hp
    have := h3 p.2 (by rw [c]; exact getD_mem (by rw [← c]; exact d))
    omega
  · by_cases h0 : t.1 = 0
    · rw [if_pos h0] at hp; simp at hp
    · rw [if_neg h0] at hp
      obtain rfl := List.mem_singleton.1 hp
      exact ⟨by simp, by simp, h2.1, h2.2⟩
theorem upd_bound {g : Int → Int} {M j v : Int} (hg : ∀ k, -M ≤ g k ∧ g k ≤ M) (h1 : -1000000000000 ≤ v) (h2 : v ≤ 1000000000000) : ∀ k, -(M + 1000000000000) ≤ upd g j v k ∧ upd g j v k ≤ M + 1000000000000 := fun k => by
  have := hg k
  unfold upd
  by_cases h : k = j
  · rw [if_pos h]; omega
  · rw [if_neg h]; omega
theorem prod_le {a b : Int} (a1 : -1000000 ≤ a) (a2 : a ≤ 1000000) (b1 : -1000000 ≤ b) (b2 : b ≤ 1000000) : -1000000000000 ≤ a * b ∧ a * b ≤ 1000000000000 := by
  have h : (a * b).natAbs ≤ 1000000 * 1000000 := by
    rw [Int.natAbs_mul]
    exact Nat.mul_le_mul (by omega) (by omega)
  omega

/-! Without zeros at the end. -/
/-- n is how many numbers stay. -/
def Trim (zs : List Int) (n : Nat) : Prop := n ≤ zs.length ∧ (∀ k, n ≤ k → k < zs.length → zs[k]? = some 0) ∧ (n = 0 ∨ ∃ x, zs[n - 1]? = some x ∧ x ≠ 0)
theorem Trim.unique {zs : List Int} {n m : Nat} (h : Trim zs n) (k : Trim zs m) : n = m := by
  rcases Nat.lt_trichotomy n m with hlt | rfl | hlt
  · rcases k.2.2 with h0 | ⟨x, hx, hne⟩
    · omega
    · have := h.2.1 (m - 1) (by omega) (by have := k.1; omega)
      rw [this] at hx
      exact absurd (Option.some.inj hx).symm hne
  · rfl
  · rcases h.2.2 with h0 | ⟨x, hx, hne⟩
    · omega
    · have := k.2.1 (n - 1) (by omega) (by have := h.1; omega)
      rw [this] at hx
      exact absurd (Option.some.inj hx).symm hne
theorem trim_exists (zs : List Int) : ∀ n, n ≤ zs.length → (∀ k, n ≤ k → k < zs.length → zs[k]? = some 0) → ∃ m, Trim zs m
  | 0, h1, h2 => ⟨0, h1, h2, .inl rfl⟩
  | n + 1, h1, h2 => by
    obtain ⟨x, hx⟩ : ∃ x, zs[n]? = some x := ⟨_, List.getElem?_eq_getElem (by omega)⟩
    by_cases h0 : x = 0
    · subst h0
      refine trim_exists zs n (by omega) fun k hk hl => ?_
      rcases Nat.eq_or_lt_of_le hk with rfl | h
      · exact hx
      · exact h2 k h hl
    · exact ⟨n + 1, h1, h2, .inr ⟨x, by simpa using hx, h0⟩⟩
theorem trim_some (zs : List Int) : ∃ m, Trim zs m := trim_exists zs zs.length (Nat.le_refl _) fun k h1 h2 => by omega
/-- How many numbers stay. -/
def trimN (zs : List Int) : Nat := (zs.reverse.dropWhile (· == 0)).length
theorem trimN_rev : ∀ l : List Int, Trim l.reverse (l.dropWhile (· == 0)).length
  | [] => ⟨by simp, fun k _ h => by simp at h, .inl (by simp)⟩
  | x :: l => by
    rw [List.reverse_cons, List.dropWhile_cons]
    have hle : (l.dropWhile (· == 0)).length ≤ l.length := (List.dropWhile_sublist _).length_le
    by_cases hx : x = 0
    · subst hx
      rw [if_pos (by simp)]
      obtain ⟨h1, h2, h3⟩ := trimN_rev l
      refine ⟨by simp; omega, fun k hk hl => ?_, ?_⟩
      · rw [List.length_append, List.length_singleton] at hl
        by_cases hkl : k < l.reverse.length
        · rw [List.getElem?_append_left hkl]; exact h2 k hk hkl
        · rw [List.getElem?_append_right (by omega), show k - l.reverse.length = 0 by omega]; rfl
      · rcases h3 with h | ⟨y, hy, hne⟩
        · exact .inl h
        · by_cases h0 : (l.dropWhile (· == 0)).length = 0
          · exact .inl h0
          · refine .inr ⟨y, ?_, hne⟩
            rw [List.getElem?_append_left (by rw [List.length_reverse]; omega)]; exact hy
    · rw [if_neg (by simpa using hx)]
      refine ⟨by simp, fun k hk hl => ?_, .inr ⟨x, ?_, hx⟩⟩
      · simp at hk hl; omega
      · simp
theorem trimN_is (zs : List Int) : Trim zs (trimN zs) := by
  have := trimN_rev zs.reverse
  rwa [List.reverse_reverse] at this
theorem Trim.is {zs : List Int} {n : Nat} (h : Trim zs n) : n = trimN zs := h.unique (trimN_is zs)
/-- The term with some numbers, and whether it is valid. -/
def mkL (c : Int) (zs : List Int) : (Int × List Int) × Bool := if tmB (c, zs.take (trimN zs)) = true then ((c, zs.take (trimN zs)), true) else ((0, []), false)
theorem mkL_yes {c : Int} {zs : List Int} (h : tmB (c, zs.take (trimN zs)) = true) : mkL c zs = ((c, zs.take (trimN zs)), true) := if_pos h
theorem mkL_no {c : Int} {zs : List Int} (h : tmB (c, zs.take (trimN zs)) = false) : mkL c zs = ((0, []), false) := if_neg (by rw [h]; simp)
theorem mkL_len (c : Int) (zs : List Int) : (mkL c zs).1.2.length ≤ 10 := by
  cases h : tmB (c, zs.take (trimN zs)) with
  | true => rw [mkL_yes h]; exact (tmB_parts h).1
  | false => rw [mkL_no h]; simp
/-- Ten numbers of a function. -/
def ten (f : Int → Int) : List Int := (List.range 10).map fun i => f (i : Nat)
theorem ten_len (f : Int → Int) : (ten f).length = 10 := by simp [ten]
theorem ten_at (f : Int → Int) {i : Nat} (h : i < 10) : (ten f)[i]? = some (f (i : Nat)) := by simp [ten, h]
theorem ten_take (f : Int → Int) {n : Nat} (h : n ≤ 10) : (ten f).take n = (List.range n).map fun i => f (i : Nat) := by
  unfold ten
  rw [← List.map_take, List.take_range, Nat.min_eq_left h]
theorem ten_trim {f : Int → Int} {n : Nat} (hn : n ≤ 10) (h1 : ∀ k : Nat, n ≤ k → k < 10 → f (k : Nat) = 0) (h2 : n = 0 ∨ f ((n : Int) - 1) ≠ 0) : n = trimN (ten f) := by
  refine Trim.is ⟨by rw [ten_len]; exact hn, fun k hk hl => ?_, ?_⟩
  · rw [ten_len] at hl
    rw [ten_at f hl, h1 k hk hl]
  · rcases h2 with h | h
    · exact .inl h
    · by_cases h0 : n = 0
      · exact .inl h0
      · refine .inr ⟨_, ten_at f (by omega), ?_⟩
        rwa [show ((n - 1 : Nat) : Int) = (n : Int) - 1 by omega]
end Go.Proofs.YtffkdidgfeknkaaGreatDoor

/-! append of a list that a slice leads to, nil or not, onto a row of the call's own. No conditions. -/
namespace Go.Proofs.YtffkdidgfeknkaaGreatDoor
open Go.RowKit

section
variable {P : Program} (w : World)
theorem append_nil (base : Nat) (t ty e : TypeId) (i : TypeInfo) (size : Nat) (ht : P.underlying t = some (.slice e)) (hi : P.info? e = some i)
    (v : Value) (n : Nat) (xs : List Value) (hown : w.ownsRow base e size v n xs) (c : Nat) : (Builtin.append_ #[t, t] ty #[v, .slice none 0 c]).run P w = .ok v w := by
  rcases hown.2 with ⟨rfl, rfl⟩ | ⟨g, cap, cur, rfl, _, _, hnc, _⟩
  · simp [Builtin.append_, run_underlying ht, sizeOf, typeInfo, hi, Builtin.lenOf, Builtin.firstCells]
  · simp [Builtin.append_, run_underlying ht, sizeOf, typeInfo, hi, Builtin.lenOf, Builtin.firstCells, hnc, storeCells]
theorem wpList_append_row {ops : Array Oper} {rest : List Oper} {o : Oper} {a : Act} {Q : Exit → Act → World → Prop} (hgd : o.guard = none) (s x : Operand) (t : TypeId)
    (ho : o.op = .call { callee := .builtin .append, args := #[s, x], argTypes := #[t, t] })
    (base : Nat) (e : TypeId) (i : TypeInfo) (z : Value) (bytes : Nat) (ht : P.underlying t = some (.slice e)) (hi : P.info? e = some i) (hz : i.zero = some z)
    (hsize : i.size = 1) (hby : i.bytes = bytes) (hzs : z.cells.size = 1)
    (v : Value) (n : Nat) (xs : List Value) (hs : a.eval s = v) (hown : w.ownsRow base e 1 v n xs)
    (B : Nat) (A : Option Addr) (m c : Nat) (news : List Value) (hx : a.eval x = .slice A m c) (hl : news.length = m) (hr : Row w B A news) (h1 : ∀ u ∈ news, u.oneCell' = true)
    (h63 : n + m ≤ maxLen) (hbytes : (n + m) * bytes ≤ 140737488355328) (hbase : base ≤ w.heap.size)
    (h : ∀ v' w', w'.ownsRow base e 1 v' (n + m) (xs ++ news) → w.grownBy w' v.ownBlock → wpList P ops Q rest (a.put o.dst v') w') : wpList P ops Q (o :: rest) a w := by
  rcases A with _ | ad
  · have hm : m = 0 := by
      rcases Nat.eq_zero_or_pos m with h0 | h0
      · exact h0
      · obtain ⟨b, off, e', _⟩ := hr 0 (by omega)
        cases e'
    subst hm
    have hn : news = [] := List.eq_nil_of_length_eq_zero hl
    subst hn
    refine wpList_plain hgd fun K hK => ?_
    have hrun := append_nil (P := P) w base t o.type e i 1 ht hi v n xs hown c
    unfold Oper.wp
    simp [execOp, ho, resolve, invoke, builtin, hs, hx, hrun, Result.andThen]
    exact hK _ _ (h v w (by simpa using hown) (World.grownBy.refl _ _))
  · refine wpList_append_own w hgd s x t ho base e i z 1 bytes ht hi hz hsize hby hzs (by omega) v n xs hs hown ad m c news hx (by omega) (fun j u hj => ?_) h1 h63 hbytes hbase (fun v' w' h2 h3 _ => h v' w' h2 h3)
    obtain ⟨b, off, e', _, hc⟩ := hr j (List.getElem?_eq_some_iff.1 hj).1
    obtain rfl : ad = ⟨b, off, none⟩ := by injection e'
    have ha : (⟨b, off, none⟩ : Addr).add j = ⟨b, off + j, none⟩ := by unfold Addr.add; split <;> simp_all
    rw [ha, hc, hj]
end
theorem own_empty (w : World) (e : TypeId) : (w.alloc (.cells #[] e)).ownsRow w.heap.size e 1 (.slice (some ⟨w.heap.size, 0, none⟩) 0 0) 0 [] :=
  ⟨rfl, .inr ⟨w.heap.size, 0, #[], rfl, Nat.le_refl _, heap_alloc_new w _, Nat.le_refl _, Nat.zero_le _, rfl, rfl⟩⟩
theorem ints_one (zs : List Int) : ∀ u ∈ zs.map ic, u.oneCell' = true := by
  intro u hu
  obtain ⟨z, _, rfl⟩ := List.mem_map.1 hu
  rfl
end Go.Proofs.YtffkdidgfeknkaaGreatDoor

/-! What a term is for values, as far as its first coefficients go; a term that a pointer leads to. Plain lemmas, of no program. No conditions. -/
namespace Go.Proofs.YtffkdidgfeknkaaGreatDoor
open Go.RowKit

/-- A term that a pointer leads to, below block B. -/
def PtrT (w : World) (B : Nat) (b o : Nat) (t : Int × List Int) : Prop :=
  ∃ A n c, b < B ∧ w.cell? ⟨b, o, none⟩ = some (.int .i64 t.1) ∧ w.cell? ⟨b, o + 1, none⟩ = some (.slice A n c) ∧ InL w B A n t.2
theorem PtrT.next {w w' : World} {B B' b o : Nat} {t : Int × List Int} (h : PtrT w B b o t) (hb : Below B' w w') (hB : B ≤ B') : PtrT w' B b o t := by
  obtain ⟨A, n, c, h0, h1, h2, h3⟩ := h
  exact ⟨A, n, c, h0, (hb.cell (p := ⟨b, o, none⟩) (by show b < B'; omega)).trans h1, (hb.cell (p := ⟨b, o + 1, none⟩) (by show b < B'; omega)).trans h2, h3.next hb hB⟩
theorem getD_small {t : Int × List Int} (h : tmB t = true) (i : Nat) : -1000000 ≤ t.2.getD i 0 ∧ t.2.getD i 0 ≤ 1000000 := by
  by_cases h0 : t.2.getD i 0 = 0
  · omega
  · exact (tmB_parts h).2.2.1 _ (getD_mem h0)

/-- The number as far as the first k coefficients go. -/
def evTo (t : Int × List Int) (vs : List Int) : Nat → Int
  | 0 => t.1
  | k + 1 => evTo t vs k + t.2.getD k 0 * vs.getD k 0
theorem prod9_le {a b : Int} (a1 : -1000000 ≤ a) (a2 : a ≤ 1000000) (b1 : -1000000000 ≤ b) (b2 : b ≤ 1000000000) : -1000000000000000 ≤ a * b ∧ a * b ≤ 1000000000000000 := by
  have h : (a * b).natAbs ≤ 1000000 * 1000000000 := by
    rw [Int.natAbs_mul]
    exact Nat.mul_le_mul (by omega) (by omega)
  omega
end Go.Proofs.YtffkdidgfeknkaaGreatDoor

/-! Lists of numbers that a call copies: the model's l00Own, slices.Clone. Conditions: at most 100000 numbers. -/
namespace Go.Proofs.YtffkdidgfeknkaaGreatDoor
open Go.RowKit
set_option linter.unusedVariables false

theorem own_nil (w : World) (lo : Nat) : OwnL w lo w.heap.size none 0 0 [] := ⟨rfl, World.ownsRow_nil _ _ _ _, (fun j hj => by cases hj), Nat.le_refl _⟩

set_option maxRecDepth 100000 in
set_option maxHeartbeats 2000000 in
theorem clone64_c (A : Option Addr) (n c B : Nat) (zs : List Int) (w : World) (h : InL w B A n zs) (hB : B ≤ w.heap.size) (hn : n ≤ 100000) :
    Calls Tryz.prog 63 #[.slice A n c] w fun e w' => ∃ A' c', e = .returned (.slice A' n c') ∧ OwnL w' w.heap.size w'.heap.size A' n c' zs ∧ Below w.heap.size w w' := by
  obtain ⟨i0, hi, hz0, hz1, hz2⟩ := info_parts info64
  have hl := Lib.hid h.1
  have q22 : ∀ (w : World) (a : Option Addr) (n c n' c' : Nat), (binOp .eql 28 (.slice a n c) (.slice none n' c')).run Tryz.prog w = .ok (.bool a.isNone) w := fun w a n c n' c' => Lib.run_eql_slice_nil w _ _ a n c n' c' Tryz.underlying28
  have hr := h.2.below (bnew w (.cells #[] 2)) hB
  rcases A with _ | ad
  · have hn0 : n = 0 := by
      rcases Nat.eq_zero_or_pos n with h0 | h0
      · exact h0
      · obtain ⟨b, off, e', _⟩ := h.2 0 (by simp; have := hl.out; omega)
        cases e'
    subst hn0
    have hz : zs = [] := List.eq_nil_of_length_eq_zero hl.out
    subst hz
    clear h hr
    go_enter Tryz.func63, Tryz.ntmps63
    go_wp2
    go_ret
    exact ⟨none, 0, rfl, own_nil _ _, Below.refl _ _⟩
  · clear h
    go_enter Tryz.func63, Tryz.ntmps63
    go_wp2_with (at_builtin; refine wpList_append_row _ rfl _ _ 28 rfl w.heap.size 2 i0 (.int .i64 0) 8 Tryz.underlying28 hi hz0 hz1 hz2 rfl _ _ _ rfl (own_empty w 2) B (some ad) n c (zs.map ic) rfl (by rw [List.length_map]; exact hl.out) hr (ints_one zs) (by unfold maxLen; omega) (by omega) (by simp) ?_; intro v' w1 hown hg)
    have hb : Below w.heap.size w w1 := ((Below.refl _ _).alloc (Nat.le_refl _) _).grown hg (by simp) (fun k hk => by have hk' : some w.heap.size = some k := hk; injection hk' with hk'; omega)
    rw [Nat.zero_add, List.nil_append] at hown
    obtain ⟨A', c', rfl, _⟩ := own_slice hown
    go_wp2_with fail
    go_ret
    exact ⟨A', c', rfl, OwnL.of_own hown, hb⟩
end Go.Proofs.YtffkdidgfeknkaaGreatDoor

/-! The model's sums of terms. Conditions: valid terms, multipliers of at most 1000000. -/
namespace Go.Proofs.YtffkdidgfeknkaaGreatDoor
open Go.RowKit

theorem ret_int' {k : IntKind} {a b : Int} (h : a = b) : Ending.returned (.int k a) = .returned (.int k b) := by rw [h]
theorem cell_far {w : World} {b o g i : Nat} {v x : Value} (hc : w.cell? ⟨b, o, none⟩ = some v) (hne : b ≠ g) : (w.setCell ⟨g, i, none⟩ x).cell? ⟨b, o, none⟩ = some v :=
  (World.cell?_setCell_other w ⟨g, i, none⟩ ⟨b, o, none⟩ x (fun e => hne (by injection e with e1; exact e1.symm))).trans hc
theorem fro_on {w w1 : World} {b o : Nat} (hf : w.frozen? ⟨b, o, none⟩ = false) (hl : b < w.heap.size) (h : Below w.drew.heap.size w.drew w1) : w1.frozen? ⟨b, o, none⟩ = false := by
  have h1 : w.drew.frozen? ⟨b, o, none⟩ = false := hf
  exact (h.frozen (p := ⟨b, o, none⟩) hl).trans h1
/-- The numbers of a sum of two multiples. -/
def lin (a : Int × List Int) (m : Int) (b : Int × List Int) (n : Int) : Int → Int := fun k => m * tf a k + n * tf b k
theorem lin_nat (a : Int × List Int) (m : Int) (b : Int × List Int) (n : Int) (i : Nat) : lin a m b n (i : Nat) = m * a.2.getD i 0 + n * b.2.getD i 0 := by unfold lin; rw [tf_nat, tf_nat]
theorem lin_const (a : Int × List Int) (m : Int) (b : Int × List Int) (n : Int) : lin a m b n (-1) = m * a.1 + n * b.1 := by unfold lin; rw [tf_const, tf_const]
/-- What a function gives: a term in memory of its own, and whether there is one. -/
def GivesT (R : (Int × List Int) × Bool) (w : World) (e : Ending) (w' : World) : Prop :=
  ∃ A k c, e = .returned (.tuple #[.agg #[.int .i64 R.1.1, .slice A k c], .bool R.2]) ∧ OwnL w' w.heap.size w'.heap.size A k c R.1.2 ∧ Below w.heap.size w w'
theorem tmB_nil (c : Int) (h1 : -1000000 ≤ c) (h2 : c ≤ 1000000) : tmB (c, []) = true := tmB_empty rfl h1 h2

theorem give_end {w w1 w2 : World} {rb : Nat} {A : Option Addr} {k c : Nat} {zs : List Int} {x y : Value} (hb : Below w.heap.size w w1) (h1 : w.heap.size ≤ rb) (h2 : rb < w1.heap.size) (hown : OwnL w2 w1.heap.size w2.heap.size A k c zs) (hb2 : Below w1.heap.size w1 w2) :
    OwnL ((w2.setCell ⟨rb, 0, none⟩ x).setCell ⟨rb, 1, none⟩ y) w.heap.size ((w2.setCell ⟨rb, 0, none⟩ x).setCell ⟨rb, 1, none⟩ y).heap.size A k c zs ∧ Below w.heap.size w ((w2.setCell ⟨rb, 0, none⟩ x).setCell ⟨rb, 1, none⟩ y) := by
  have ho : Out rb (rb + 1) w2 ((w2.setCell ⟨rb, 0, none⟩ x).setCell ⟨rb, 1, none⟩ y) := (Out.of_grown (only_set (g := rb)) (fun j hj => by injection hj; omega)).trans (Out.of_grown (only_set (g := rb)) (fun j hj => by injection hj; omega))
  have hs := ho.size
  exact ⟨((hown.out ho (by omega)).less (by omega)).wide hs (Nat.le_refl _), ((hb.trans (hb2.mono hb.size)).setCell (p := ⟨rb, 0, none⟩) h1 _).setCell (p := ⟨rb, 1, none⟩) h1 _⟩
theorem give_no {w w1 : World} {rb : Nat} {x y : Value} (hb : Below w.heap.size w w1) (h1 : w.heap.size ≤ rb) : Below w.heap.size w ((w1.setCell ⟨rb, 0, none⟩ x).setCell ⟨rb, 1, none⟩ y) := (hb.setCell (p := ⟨rb, 0, none⟩) h1 _).setCell (p := ⟨rb, 1, none⟩) h1 _
end Go.Proofs.YtffkdidgfeknkaaGreatDoor

/-! Lists of terms that a call copies: the model's l02Own and l02OwnAll, the program's copyOf and eachOf. Conditions: at most 100000 terms and coefficients. -/
namespace Go.Proofs.YtffkdidgfeknkaaGreatDoor
open Go.RowKit
set_option linter.unusedVariables false

/-- Numbers that a slice leads to, in a block of whole numbers. -/
def IntL (w : World) (A : Option Addr) (n : Nat) (zs : List Int) : Prop :=
  zs.length = n ∧ ∀ j, j < n → ∃ b off x cs, A = some ⟨b, off, none⟩ ∧ w.heap[b]? = some (.cells cs 2 (0, 0)) ∧ zs[j]? = some x ∧ w.cell? ⟨b, off + j, none⟩ = some (.int .i64 x)
section
variable {w w' : World} {A : Option Addr} {n : Nat} {zs : List Int}
theorem blk_lt {b : Nat} {o : Obj} (h : w.heap[b]? = some o) : b < w.heap.size := by
  rcases Nat.lt_or_ge b w.heap.size with hlt | hge
  · exact hlt
  · rw [Array.getElem?_eq_none hge] at h; cases h
theorem IntL.inn (h : IntL w A n zs) : InL w w.heap.size A n zs := by
  refine ⟨h.1, fun j hj => ?_⟩
  rw [List.length_map, h.1] at hj
  obtain ⟨b, off, x, cs, e, hb, hx, hc⟩ := h.2 j hj
  exact ⟨b, off, e, blk_lt hb, by rw [hc, List.getElem?_map, hx]; rfl⟩
theorem IntL.kept {r : Option Nat} (h : IntL w A n zs) (hg : w.grownBy w' r) (hr : ∀ k cs, r = some k → w.heap[k]? ≠ some (.cells cs 2 (0, 0))) : IntL w' A n zs := by
  refine ⟨h.1, fun j hj => ?_⟩
  obtain ⟨b, off, x, cs, e, hb, hx, hc⟩ := h.2 j hj
  have hblk := hg.block b (blk_lt hb) (fun e => hr b cs e.symm hb)
  exact ⟨b, off, x, cs, e, hblk.trans hb, hx, (World.cell?_of_block (a := ⟨b, off + j, none⟩) hblk).trans hc⟩
theorem grown_of {r : Option Nat} (h : Below w.heap.size w w') : w.grownBy w' r := ⟨h.os, h.tape, h.output, h.size, fun i hi _ => h.block i hi⟩
theorem IntL.next (h : IntL w A n zs) (hb : Below w.heap.size w w') : IntL w' A n zs := h.kept (r := none) (grown_of hb) (fun k cs e => by cases e)
theorem IntL.of_own {lo hi c : Nat} (h : OwnL w lo hi A n c zs) : IntL w A n zs := by
  refine ⟨h.1, fun j hj => ?_⟩
  rcases h.2.1.2 with ⟨_, h2⟩ | ⟨g, cap, cur, h1, h2, h3, h4⟩
  · omega
  · have hA : A = some ⟨g, 0, none⟩ := by injection h1
    subst hA
    obtain ⟨x, hx⟩ : ∃ x, zs[j]? = some x := ⟨_, List.getElem?_eq_getElem (by have := h.1; omega)⟩
    refine ⟨g, 0, x, cur, rfl, h3, hx, ?_⟩
    rw [Nat.zero_add, h.2.1.cellAt j (by have := h.2.1.1; omega), List.getElem?_map, hx]; rfl
end
theorem own_noInts {w : World} {base n : Nat} {v : Value} {xs : List Value} (h : w.ownsRow base 93 2 v n xs) : ∀ k cs, v.ownBlock = some k → w.heap[k]? ≠ some (.cells cs 2 (0, 0)) := by
  intro k cs e hk
  rcases h.2 with ⟨rfl, _⟩ | ⟨g, cap, cur, rfl, _, h3, _⟩
  · cases e
  · have e' : some g = some k := e
    obtain rfl := Option.some.inj e'
    rw [h3] at hk
    injection hk with hk
    injection hk with _ h2 _
    revert h2
    decide

/-- Terms in a row of the call's own. -/
def FRow (w : World) (base : Nat) (v : Value) (n : Nat) (ts : List (Int × List Int)) : Prop :=
  ts.length = n ∧ ∃ xs, w.ownsRow base 93 2 v n xs ∧ ∀ j t, ts[j]? = some t → xs[j * 2]? = some (.int .i64 t.1) ∧ ∃ A' n' c', xs[j * 2 + 1]? = some (.slice A' n' c') ∧ IntL w A' n' t.2
section
variable {w w' : World} {base g : Nat} {v : Value} {n : Nat} {ts : List (Int × List Int)}
theorem FRow.next (h : FRow w base v n ts) (hb : Below w.heap.size w w') : FRow w' base v n ts := by
  obtain ⟨h1, xs, h3, h4⟩ := h
  refine ⟨h1, xs, own_below h3 hb, fun j t hj => ?_⟩
  obtain ⟨a, A', n', c', b, c⟩ := h4 j t hj
  exact ⟨a, A', n', c', b, c.next hb⟩
theorem FRow.inn (h : FRow w base v n ts) : ∃ A c, v = .slice A n c ∧ InTS w w.heap.size A n ts := by
  obtain ⟨h1, xs, h3, h4⟩ := h
  have h3' := h3
  rcases h3.2 with ⟨rfl, hn⟩ | ⟨b, cap, cur, rfl, k2, k3, k4⟩
  · have : ts = [] := List.eq_nil_of_length_eq_zero (by omega)
    subst this
    subst hn
    exact ⟨none, 0, rfl, rfl, TRow.nil⟩
  · refine ⟨some ⟨b, 0, none⟩, cap, rfl, h1, fun j t hj => ?_⟩
    have hjl : j < ts.length := (List.getElem?_eq_some_iff.1 hj).1
    have hxl := h3.1
    obtain ⟨a, A', n', c', bb, c⟩ := h4 j t hj
    refine ⟨b, 0, A', n', c', rfl, (h3.lt b rfl).2, ?_, ?_, c.1, c.inn.2⟩
    · rw [Nat.zero_add, h3.cellAt (j * 2) (by omega), a]
    · rw [Nat.zero_add, h3.cellAt (j * 2 + 1) (by omega), bb]
/-- Behind an append. -/
theorem FRow.push {t : Int × List Int} {A : Option Addr} {k c : Nat} {v' : Value} {xs : List Value} (hl : ts.length = n) (hi : IntL w A k t.2) (hx : w.ownsRow base 93 2 v n xs)
    (hxs : ∀ j t, ts[j]? = some t → xs[j * 2]? = some (.int .i64 t.1) ∧ ∃ A' n' c', xs[j * 2 + 1]? = some (.slice A' n' c') ∧ IntL w A' n' t.2)
    (hr : w'.ownsRow base 93 2 v' (n + 1) (xs ++ [.int .i64 t.1, .slice A k c])) (hg : w.grownBy w' v.ownBlock) : FRow w' base v' (n + 1) (ts ++ [t]) := by
  have hno := own_noInts hx
  have hxl := hx.1
  refine ⟨by simp [hl], _, hr, fun j u hj => ?_⟩
  by_cases hjn : j < ts.length
  · rw [List.getElem?_append_left hjn] at hj
    obtain ⟨a, A', n', c', b, c⟩ := hxs j u hj
    exact ⟨by rw [List.getElem?_append_left (by omega)]; exact a, A', n', c', by rw [List.getElem?_append_left (by omega)]; exact b, c.kept hg hno⟩
  · have hjl := (List.getElem?_eq_some_iff.1 hj).1
    have hje : j = ts.length := by simp at hjl; omega
    subst hje
    rw [List.getElem?_append_right (Nat.le_refl _), Nat.sub_self] at hj
    obtain rfl : t = u := by simpa using hj
    refine ⟨?_, A, k, c, ?_, hi.kept hg hno⟩
    · rw [List.getElem?_append_right (by omega), show ts.length * 2 - xs.length = 0 by omega]; rfl
    · rw [List.getElem?_append_right (by omega), show ts.length * 2 + 1 - xs.length = 1 by omega]; rfl
end
theorem infoTerm2 : (Tryz.prog.info? 93).map (fun i => (i.zero, i.size, i.bytes)) = some (some (.agg #[.int .i64 0, .slice none 0 0]), 2, 32) := by kernel_rfl

theorem set_far {w : World} {b o g i : Nat} {u v : Value} (hne : b ≠ g) (hc : w.cell? ⟨b, o, none⟩ = some v) : (w.setCell ⟨g, i, none⟩ u).cell? ⟨b, o, none⟩ = some v :=
  (World.cell?_of_block (a := ⟨b, o, none⟩) (Below.heap_setCell w ⟨g, i, none⟩ u b hne)).trans hc
theorem cell_two_at (w : World) (x y : Value) (t : TypeId) (g : Nat) (hg : g = w.heap.size) : ∀ j u, [x, y][j]? = some u → (w.alloc (.cells #[x, y] t)).cell? ((⟨g, 0, none⟩ : Addr).add j) = some u := by
  subst hg
  intro j u hj
  match j, hj with
  | 0, hj => simp at hj; subst hj; simp [Addr.add]
  | 1, hj => simp at hj; subst hj; simp [Addr.add]

/-- What the copy holds when k terms have been laid. -/
def LaidI (wr : World) (B n k : Nat) (ts : List (Int × List Int)) : Prop :=
  ∃ xs, wr.ownsRow B 93 2 (.slice (some ⟨B, 0, none⟩) n n) n xs ∧ ∀ j, j < k → ∀ t, ts[j]? = some t → xs[j * 2]? = some (.int .i64 t.1) ∧ ∃ A' n' c', xs[j * 2 + 1]? = some (.slice A' n' c') ∧ IntL wr A' n' t.2
theorem laidI_end {wr : World} {B n : Nat} {ts : List (Int × List Int)} (h : LaidI wr B n n ts) (hl : ts.length = n) : FRow wr B (.slice (some ⟨B, 0, none⟩) n n) n ts := by
  obtain ⟨xs, h1, h2⟩ := h
  exact ⟨hl, xs, h1, fun j t hj => h2 j (by have := (List.getElem?_eq_some_iff.1 hj).1; omega) t hj⟩
theorem laidI_step {wr w1 : World} {B n k : Nat} {ts : List (Int × List Int)} {t : Int × List Int} {A : Option Addr} {n' c' : Nat} (h : LaidI wr B n k ts) (ht : ts[k]? = some t) (hk : k < n) (hb : Below wr.heap.size wr w1) (hi : IntL w1 A n' t.2) :
    LaidI ((w1.setCell ⟨B, k * 2, none⟩ (.int .i64 t.1)).setCell ⟨B, k * 2 + 1, none⟩ (.slice A n' c')) B n (k + 1) ts := by
  obtain ⟨xs, h1, h2⟩ := h
  have h1' := own_below h1 hb
  have s0 := h1'.stored (k * 2) (.int .i64 t.1)
  have s1 := s0.1.stored (k * 2 + 1) (.slice A n' c')
  have n0 := own_noInts h1'
  have n1 := own_noInts s0.1
  have hxl : xs.length = n * 2 := h1.1
  refine ⟨_, s1.1, fun j hj u hu => ?_⟩
  by_cases e1 : j = k
  · subst e1
    rw [ht] at hu
    obtain rfl := Option.some.inj hu
    refine ⟨?_, A, n', c', ?_, (hi.kept s0.2 n0).kept s1.2 n1⟩
    · rw [List.getElem?_set_ne (by omega), List.getElem?_set_self (by omega)]
    · rw [List.getElem?_set_self (by rw [List.length_set]; omega)]
  · obtain ⟨a, A', m', d', b, i⟩ := h2 j (by omega) u hu
    refine ⟨?_, A', m', d', ?_, ((i.next hb).kept s0.2 n0).kept s1.2 n1⟩
    · rw [List.getElem?_set_ne (by omega), List.getElem?_set_ne (by omega)]; exact a
    · rw [List.getElem?_set_ne (by omega), List.getElem?_set_ne (by omega)]; exact b

end Go.Proofs.YtffkdidgfeknkaaGreatDoor

/-! Copies of terms in memory of the call's own, apart from each other. Conditions: at most 1000 terms, 100000 coefficients a term. -/
namespace Go.Proofs.YtffkdidgfeknkaaGreatDoor
set_option linter.unusedVariables false
open Go.RowKit

theorem ownTS_nil (w : World) (lo : Nat) : OwnTS w lo w.heap.size none 0 0 [] :=
  ⟨rfl, Nat.le_refl _, [], fun _ => undef, World.ownsRow_nil _ _ _ _, fun k hk => (by cases hk), fun j t hj => (by simp at hj), fun i j hi => (by omega), fun i hi => (by omega)⟩
theorem laid_stepG {wr w1 : World} {B n k : Nat} {ts : List (Int × List Int)} {t : Int × List Int} {A1 : Option Addr} {n' c' : Nat} (h : Laid wr B n k ts) (ht : ts[k]? = some t) (hk : k < n) (hB : B < wr.heap.size)
    (hb : Below wr.heap.size wr w1) (hown : OwnL w1 wr.heap.size w1.heap.size A1 n' c' t.2) :
    Laid ((w1.setCell ⟨B, k * 2, none⟩ (.int .i64 t.1)).setCell ⟨B, k * 2 + 1, none⟩ (.slice A1 n' c')) B n (k + 1) ts := by
  obtain ⟨xs, e, h1, h2, h3, h4⟩ := h
  have h1' := own_below h1 hb
  have s1 := (h1'.stored (k * 2) (.int .i64 t.1)).1
  have s2 := (s1.stored (k * 2 + 1) (.slice A1 n' c')).1
  have hxl : xs.length = n * 2 := h1.1
  have ho : Out B (B + 1) w1 ((w1.setCell ⟨B, k * 2, none⟩ (.int .i64 t.1)).setCell ⟨B, k * 2 + 1, none⟩ (.slice A1 n' c')) :=
    (Out.of_grown (only_set (g := B)) (fun j hj => by injection hj; omega)).trans (Out.of_grown (only_set (g := B)) (fun j hj => by injection hj; omega))
  have hos := ho.size
  have hbs := hb.size
  have hg1 : ∀ q, (Value.slice A1 n' c').ownBlock = some q → q < w1.heap.size := hown.2.2.1
  have hg2 : ∀ q, (Value.slice A1 n' c').ownBlock = some q → wr.heap.size ≤ q := fun q hq => (hown.2.1.lt q hq).1
  refine ⟨_, fun j => if j = k then .slice A1 n' c' else e j, s2, fun j hj u hu => ?_, fun i j hij hj q hq => ?_, fun i hi q hq => ?_⟩
  · by_cases e1 : j = k
    · subst e1
      rw [ht] at hu
      obtain rfl := Option.some.inj hu
      refine ⟨?_, ?_, ?_⟩
      · rw [List.getElem?_set_ne (by omega), List.getElem?_set_self (by omega)]
      · rw [List.getElem?_set_self (by rw [List.length_set]; omega)]; simp
      · exact ⟨A1, n', c', by simp, ((hown.out ho (by omega)).less (by omega)).wide hos (Nat.le_refl _)⟩
    · obtain ⟨a, b, A', m', c', d, f⟩ := h2 j (by omega) u hu
      refine ⟨?_, ?_, A', m', c', ?_, ?_⟩
      · rw [List.getElem?_set_ne (by omega), List.getElem?_set_ne (by omega)]; exact a
      · rw [List.getElem?_set_ne (by omega), List.getElem?_set_ne (by omega)]; simp only [e1, if_false]; exact b
      · simp only [e1, if_false]; exact d
      · exact ((f.next hb).out ho (by omega)).wide (by omega) (Nat.le_refl _)
  · by_cases e1 : j = k
    · have hi : i ≠ k := by omega
      simp only [hi, if_false] at hq
      have := h4 i (by omega) q hq
      simp only [e1, if_true]
      intro hq'
      have := hg2 q hq'
      omega
    · have hi : i ≠ k := by omega
      simp only [hi, if_false] at hq
      simp only [e1, if_false]
      exact h3 i j hij (by omega) q hq
  · by_cases e1 : i = k
    · simp only [e1, if_true] at hq
      have := hg1 q hq
      have := hg2 q hq
      omega
    · simp only [e1, if_false] at hq
      have := h4 i (by omega) q hq
      omega

end Go.Proofs.YtffkdidgfeknkaaGreatDoor

/-! The marks that the law writes into a list of terms, told by their numbers, and what it reads of them again. Conditions: at most 2^20 terms and coefficients. -/
namespace Go.Proofs.YtffkdidgfeknkaaGreatDoor
set_option linter.unusedVariables false
open Go.RowKit

/-- Marks that rise through a list of terms. -/
def riseT : Int → List (Int × List Int) → List (Int × List Int)
  | _, [] => []
  | k, t :: ts => (k, rise (k + 1) t.2.length) :: riseT (k + 1 + t.2.length) ts
theorem totT_cons (t : Int × List Int) (ts : List (Int × List Int)) : totT (t :: ts) = t.2.length + totT ts := by simp [totT]
theorem riseT_len : ∀ (k : Int) (ts : List (Int × List Int)), (riseT k ts).length = ts.length
  | _, [] => rfl
  | k, t :: ts => by simp [riseT, riseT_len]
theorem riseT_at : ∀ (k : Int) (ts : List (Int × List Int)) (j : Nat) (t : Int × List Int), ts[j]? = some t → (riseT k ts)[j]? = some (k + ((j + totT (ts.take j) : Nat) : Int), rise (k + ((j + totT (ts.take j) : Nat) : Int) + 1) t.2.length)
  | _, [], j, t, h => by simp at h
  | k, u :: ts, 0, t, h => by
    obtain rfl : u = t := by simpa using h
    simp [riseT, totT]
  | k, u :: ts, j + 1, t, h => by
    have ih := riseT_at (k + 1 + u.2.length) ts j t (by simpa using h)
    rw [riseT, List.getElem?_cons_succ, ih, List.take_succ_cons, totT_cons]
    have e : k + 1 + (u.2.length : Int) + ((j + totT (ts.take j) : Nat) : Int) = k + ((j + 1 + (u.2.length + totT (ts.take j)) : Nat) : Int) := by omega
    rw [e]
/-- Marks up to a place, and what was there behind it. -/
def mixT (k : Int) (ts : List (Int × List Int)) (j : Nat) : List (Int × List Int) := (riseT k ts).take j ++ ts.drop j
theorem mixT_zero (k : Int) (ts : List (Int × List Int)) : mixT k ts 0 = ts := by simp [mixT]
theorem mixT_end (k : Int) (ts : List (Int × List Int)) : mixT k ts ts.length = riseT k ts := by
  unfold mixT
  rw [List.take_of_length_le (by rw [riseT_len]; exact Nat.le_refl _)]; simp
theorem mixT_len (k : Int) (ts : List (Int × List Int)) {j : Nat} (h : j ≤ ts.length) : (mixT k ts j).length = ts.length := by
  unfold mixT
  rw [List.length_append, List.length_take, riseT_len, List.length_drop]; omega
theorem mixT_at (k : Int) {ts : List (Int × List Int)} {j : Nat} {t : Int × List Int} (h : ts[j]? = some t) : (mixT k ts j)[j]? = some t := by
  have hj := (List.getElem?_eq_some_iff.1 h).1
  have hl : ((riseT k ts).take j).length = j := by rw [List.length_take, riseT_len]; omega
  unfold mixT
  rw [List.getElem?_append_right (by omega), hl, Nat.sub_self, List.getElem?_drop]
  simpa using h
theorem mixT_next (k : Int) {ts : List (Int × List Int)} {j : Nat} {t : Int × List Int} (h : ts[j]? = some t) : mixT k ts (j + 1) = (mixT k ts j).set j (k + ((j + totT (ts.take j) : Nat) : Int), rise (k + ((j + totT (ts.take j) : Nat) : Int) + 1) t.2.length) := by
  have hj := (List.getElem?_eq_some_iff.1 h).1
  have hl : ((riseT k ts).take j).length = j := by rw [List.length_take, riseT_len]; omega
  unfold mixT
  rw [List.set_append_right _ _ (by omega), hl, Nat.sub_self, List.drop_eq_getElem_cons hj, List.set_cons_zero, List.take_add_one, riseT_at k ts j t h]
  simp

set_option maxRecDepth 100000 in
set_option maxHeartbeats 2000000 in
theorem markTermS_o (lo hi : Nat) (A : Option Addr) (n c : Nat) (ts : List (Int × List Int)) (k0 : Int) (w : World) (h : OwnTS w lo hi A n c ts) (hn : n ≤ 1048576) (he : totT ts ≤ 1048576) (hk1 : 0 ≤ k0) (hk2 : k0 ≤ 100000000) :
    Calls Tryz.prog 32 #[.slice A n c, .int .i64 k0] w fun e w' => e = .returned (.int .i64 (k0 + ((n + totT ts : Nat) : Int))) ∧ OwnTS w' lo hi A n c (riseT k0 ts) ∧ Out lo hi w w' := by
  have hlen := Lib.hid h.1
  have HR0 : Hid (OwnTS w lo hi A n c (mixT k0 ts 0)) := by show OwnTS w lo hi A n c (mixT k0 ts 0); rw [mixT_zero]; exact h
  clear h
  go_enter Tryz.func32, Tryz.ntmps32
  go_wp2_with fail
  go_loopw [1, 5] (fun kv i wr => ∃ j : Nat, j ≤ n ∧ i = .int .i64 j ∧ kv = .int .i64 (k0 + ((j + totT (ts.take j) : Nat) : Int)) ∧ Hid (OwnTS wr lo hi A n c (mixT k0 ts j)) ∧ Out lo hi w wr) (fun _ i _ => n - (intOf i).toNat)
  case atStart => exact ⟨0, Nat.zero_le _, rfl, by simp [totT], HR0, Out.refl _ _ _⟩
  case round =>
    clear HR0
    obtain ⟨j, hj, rfl, rfl, hR, hout⟩ := hrel
    by_cases hlt : j < n
    · obtain ⟨h1, h2, xs, e, h3, h4, h5, h6, h7⟩ := hR.out
      obtain ⟨t, ht⟩ : ∃ t, ts[j]? = some t := ⟨_, List.getElem?_eq_getElem (by have := hlen.out; omega)⟩
      obtain ⟨hxj, hxe, A', n', c', ee, hown⟩ := h5 j t (mixT_at k0 ht)
      have hxl := h3.1
      obtain ⟨g, rfl⟩ : ∃ g, A = some ⟨g, 0, none⟩ := by
        rcases h3.2 with h' | ⟨g, cap, cur, k1, _⟩
        · have := h'.2; omega
        · injection k1 with k1; exact ⟨g, k1⟩
      have hgl := h3.lt g rfl
      have hgh := h4 g rfl
      have hnl := Nat.le_trans (totT_mem (List.mem_of_getElem? ht)) he
      have hn' := hown.1
      have hts := totT_succ ht
      have htk := totT_take ts j
      have hnext := mixT_next k0 ht
      rw [hn'] at hnext
      obtain ⟨K, hK⟩ : ∃ K : Int, K = k0 + ((j + totT (ts.take j) : Nat) : Int) := ⟨_, rfl⟩
      have hKn : K + 1 + (n' : Int) = k0 + ((j + 1 + totT (ts.take (j + 1)) : Nat) : Int) := by rw [hts, hn', hK]; omega
      have hK1 : 0 ≤ K := by omega
      have hK2 : K ≤ 110000000 := by omega
      rw [← hK] at hnext ⊢
      have hst := h3.stored (j * 2) (.int .i64 K)
      have hfk := h3.frozenAt (j * 2)
      have hcl := h3.cellAt (j * 2) (by omega)
      rw [hxj] at hcl
      have hc1 := hst.1.cellAt (j * 2 + 1) (by omega)
      rw [List.getElem?_set_ne (by omega), hxe, ee] at hc1
      have hgr := hst.2
      have hs1 := hgr.size
      have hfar : ∀ i, i < n → ∀ A'' n'' c'' zs, e i = .slice A'' n'' c'' → OwnL wr lo hi A'' n'' c'' zs → OwnL (wr.setCell ⟨g, j * 2, none⟩ (.int .i64 K)) lo hi A'' n'' c'' zs := fun i hi A'' n'' c'' zs hee ho =>
        ho.far (fun q hq hql => hgr.block q hql (fun hh => h7 i hi q (by rw [hee]; exact hq) hh.symm)) hs1
      have hown1 := hfar j hlt A' n' c' t.2 ee hown
      have HM := Lib.hid (mark_c lo A' n' c' (t.2.map ic) (K + 1) _ hown1.2.1 (by omega) (by omega) (by omega))
      have hout1 : Out lo hi w (wr.setCell ⟨g, j * 2, none⟩ (.int .i64 K)) := hout.trans (Out.of_grown hgr (fun k hk => by injection hk with hk; omega))
      have hob := hown1.2.2.1
      have hol := fun q hq => (hown1.2.1.lt q hq).1
      have H := Lib.hid (And.intro h2 (And.intro h4 (And.intro h5 (And.intro h6 h7))))
      have HFAR := Lib.hid hfar
      have HRW := Lib.hid hst.1
      have EE := Lib.hid ee
      have HXE := Lib.hid hxe
      have HNX := Lib.hid hnext
      have HLN := Lib.hid h1
      have hxl2 := Lib.hid hxl
      clear hfar hst hown hown1 ht ee hR hts hxl h3 hK h1 h2 h4 h5 h6 h7 hxj hxe hnext
      go_wp2_with fail
      refine HM.out.mono ?_
      rintro e1 w2 ⟨rfl, hown2, hg2⟩
      have hs2 := hg2.size
      go_wp2_with fail
      go_roundw
      case rel =>
        obtain ⟨h2, h4, h5, h6, h7⟩ := H.out
        have hnot : ∀ v : Value, (∀ q, (e j).ownBlock = some q → v.ownBlock ≠ some q) → ∀ q, v.ownBlock = some q → q < (wr.setCell ⟨g, j * 2, none⟩ (.int .i64 K)).heap.size → w2.heap[q]? = (wr.setCell ⟨g, j * 2, none⟩ (.int .i64 K)).heap[q]? := fun v hv q hq hql =>
          hg2.block q hql (fun hr => hv q (by rw [EE.out]; exact hr.symm) hq)
        refine ⟨j + 1, by omega, by go_num, congrArg (Value.int .i64) (by omega), ?_, hout1.trans (Out.of_grown hg2 (fun q hq => ⟨hol q hq, hob q hq⟩))⟩
        show OwnTS w2 lo hi (some ⟨g, 0, none⟩) n c (mixT k0 ts (j + 1))
        rw [HNX.out]
        refine ⟨by rw [List.length_set]; exact HLN.out, by omega, xs.set (j * 2) (.int .i64 K), e, ⟨HRW.out.1, ?_⟩, h4, fun i u hu => ?_, h6, h7⟩
        · rcases HRW.out.2 with h' | ⟨g', cap, cur, k1, k2, k3, k4⟩
          · exact .inl h'
          · refine .inr ⟨g', cap, cur, k1, k2, ?_, k4⟩
            have hg : (Value.slice (some ⟨g, 0, none⟩) n c).ownBlock = some g' := by rw [k1]; rfl
            have hgg : g' = g := by have hg3 : some g = some g' := hg; injection hg3 with hg3; exact hg3.symm
            rw [hnot _ (fun q hq => h7 j hlt q hq) g' hg (by rw [hgg]; omega)]
            exact k3
        · have hil : i < n := by have := (List.getElem?_eq_some_iff.1 hu).1; rw [List.length_set] at this; have := HLN.out; omega
          by_cases e1 : i = j
          · subst e1
            rw [List.getElem?_set_self (by have := HLN.out; omega)] at hu
            obtain rfl := Option.some.inj hu
            refine ⟨?_, ?_, A', n', c', EE.out, rise_len _ _, hown2, hob, by omega⟩
            · rw [List.getElem?_set_self (by have := hxl2.out; omega)]
            · rw [List.getElem?_set_ne (by omega)]; exact HXE.out
          · rw [List.getElem?_set_ne (by omega)] at hu
            obtain ⟨a, b, A'', n'', c'', he', hown'⟩ := h5 i u hu
            refine ⟨?_, ?_, A'', n'', c'', he', (HFAR.out i hil A'' n'' c'' u.2 he' hown').far (hnot _ (fun q hq => by rw [← he']; exact h6 j i hlt hil (fun h => e1 h.symm) q hq)) hs2⟩
            · rw [List.getElem?_set_ne (by omega)]; exact a
            · rw [List.getElem?_set_ne (by omega)]; exact b
      case measure => simp [intOf]; omega
    · have e1 : j = n := by omega
      subst e1
      have e2 : totT (ts.take j) = totT ts := by rw [List.take_of_length_le (by have := hlen.out; omega)]
      have HF : Hid (OwnTS wr lo hi A j c (riseT k0 ts)) := by show OwnTS wr lo hi A j c (riseT k0 ts); have := hR.out; rw [← mixT_end]; rw [← hlen.out] at this ⊢; exact this
      rw [e2]
      clear e2 hR
      go_wp2_with fail
      go_ret
      exact ⟨rfl, HF.out, hout⟩

end Go.Proofs.YtffkdidgfeknkaaGreatDoor
