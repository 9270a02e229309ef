/-
  The code of a term, as a list; an instruction appended. No conditions.
-/
import Derived.Test.YtglbkbdljjaioaaCodeA
import Derived.Test.YtglbkbdljjaioaaOver
import Derived.Test.YtglbkbdljjaioaaSep
namespace Go.Proofs.Ytglbkbdljjaioaa
set_option linter.unusedVariables false
open Go.RowKit

def one1 (i : Nat) (z : Int) : List (Int × Int) := if z = 0 then [] else (1, (i : Int)) :: ((if z = 1 then [] else [(4, z)]) ++ [(3, 0)])
def cosC (zs : List Int) (k : Nat) : List (Int × Int) := (List.range k).flatMap fun i => one1 i (zs.getD i 0)
/-- The code of a term. -/
def ctL (t : Int × List Int) : List (Int × Int) := (0, t.1) :: cosC t.2 t.2.length
theorem cosC_zero (zs : List Int) : cosC zs 0 = [] := rfl
theorem cosC_succ {zs : List Int} {k : Nat} {z : Int} (h : zs[k]? = some z) : cosC zs (k + 1) = cosC zs k ++ one1 k z := by
  unfold cosC
  rw [List.range_succ, List.flatMap_append]
  simp [List.getD_eq_getElem?_getD, h]
theorem one1_len (i : Nat) (z : Int) : (one1 i z).length ≤ 3 := by
  unfold one1; split
  · simp
  · split <;> simp
theorem cosC_len (zs : List Int) (k : Nat) : (cosC zs k).length ≤ 3 * k := by
  induction k with
  | zero => simp [cosC]
  | succ k ih =>
    unfold cosC at ih ⊢
    rw [List.range_succ, List.flatMap_append, List.length_append]
    have := one1_len k (zs.getD k 0)
    rw [List.getD_eq_getElem?_getD] at this
    simp at ih ⊢
    omega
theorem one1_0 (i : Nat) : one1 i 0 = [] := rfl
theorem one1_1 (i : Nat) : one1 i 1 = [(1, (i : Int)), (3, 0)] := rfl
theorem one1_n (i : Nat) {z : Int} (h0 : z ≠ 0) (h1 : z ≠ 1) : one1 i z = [(1, (i : Int)), (4, z), (3, 0)] := by unfold one1; rw [if_neg h0, if_neg h1]; rfl
def ctR (t : Int × List Int) : List (Int × Int) × Bool := if overB t = true then (ctL t, true) else ([], false)
theorem ctR_no {t : Int × List Int} (h : overB t = false) : ctR t = ([], false) := if_neg (by rw [h]; simp)
theorem ctR_yes {t : Int × List Int} (h : overB t = true) : ctR t = (ctL t, true) := if_pos h
theorem ctL_len {t : Int × List Int} (h : overB t = true) : (ctL t).length ≤ 13 := by
  unfold overB at h
  simp only [Bool.and_eq_true, decide_eq_true_eq] at h
  have := cosC_len t.2 t.2.length
  unfold ctL
  simp only [List.length_cons]
  omega
theorem ctR_len (t : Int × List Int) : (ctR t).1.length ≤ 13 := by
  cases h : overB t with
  | true => rw [ctR_yes h]; exact ctL_len h
  | false => rw [ctR_no h]; simp

/-- One instruction in a block of its own. -/
theorem own_oneC (w : World) (p q : Int) : (w.alloc (.cells #[.int .i64 p, .int .i64 q] 66)).ownsRow w.heap.size 66 2 (.slice (some ⟨w.heap.size, 0, none⟩) 1 1) 1 (flatC [(p, q)]) :=
  ⟨rfl, .inr ⟨w.heap.size, 1, #[.int .i64 p, .int .i64 q], rfl, Nat.le_refl _, heap_alloc_new w _, Nat.le_refl _, by unfold maxLen; omega, rfl, rfl⟩⟩
/-- append of one instruction to a row of the call's own. -/
theorem app_oneC {w : World} {base : Nat} {v : Value} {ys : List (Int × Int)} (p q : Int) (hr : w.ownsRow base 66 2 v ys.length (flatC ys)) (hbw : base ≤ w.heap.size) (hk : ys.length ≤ 100000) :
    ∃ g' c' w', (Builtin.append_ #[32, 32] 32 #[v, .slice (some ⟨w.heap.size, 0, none⟩) 1 1]).run Try.prog (w.alloc (.cells #[.int .i64 p, .int .i64 q] 66)) = .ok (.slice (some ⟨g', 0, none⟩) (ys ++ [(p, q)]).length c') w' ∧
      w'.ownsRow base 66 2 (.slice (some ⟨g', 0, none⟩) (ys ++ [(p, q)]).length c') (ys ++ [(p, q)]).length (flatC (ys ++ [(p, q)])) ∧ Below base w w' ∧ (w.alloc (.cells #[.int .i64 p, .int .i64 q] 66)).grownBy w' v.ownBlock ∧ (some g' = v.ownBlock ∨ w.heap.size ≤ g') := by
  have hb := bnew w (.cells #[.int .i64 p, .int .i64 q] 66)
  have hin := (OwnC.of_own (own_oneC w p q) rfl).all
  obtain ⟨i0, hi, hz0, hz1, hz2⟩ := info_parts infoInstr
  have hr' := own_below hr hb
  obtain ⟨g', c', w', e1, e2, e3, e4⟩ := run_append_sep (P := Try.prog) (w := w.alloc (.cells #[.int .i64 p, .int .i64 q] 66)) base 32 32 66 i0 (.agg #[.int .i64 0, .int .i64 0]) 2 16 Try.underlying32 hi hz0 hz1 hz2 rfl (by decide) v ys.length _ hr' ⟨w.heap.size, 0, none⟩ 1 1 (flatC [(p, q)]) rfl (flatC_news hin) (flatC_one [(p, q)]) (by unfold maxLen; omega) (by omega) (Nat.le_trans hbw hb.size) (by omega)
  rw [← flatC_app] at e2
  have hl : (ys ++ [(p, q)]).length = ys.length + 1 := by simp
  rw [hl]
  exact ⟨g', c', w', e1, e2, (hb.mono hbw).trans ((Below.refl base _).grown e3 (Nat.le_trans hbw hb.size) (fun j hj => (hr'.lt j hj).1)), e3, e4.imp id (fun h => Nat.le_trans hb.size h)⟩
end Go.Proofs.Ytglbkbdljjaioaa
