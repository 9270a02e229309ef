/-
  Points of annotated code: when they are as they must be. No conditions.
-/
import Derived.Test.YtglbkbdljjaioaaGreatPoint
import Derived.Test.YtglbkbdljjaioaaGreatOver
import Derived.Test.YtglbkbdljjaioaaGreatInstrB
namespace Go.Proofs.YtglbkbdljjaioaaGreat

/-- Points from a place on, in code of so many instructions. -/
def ptsF (len : Int) : Int → List P2 → Bool
  | _, [] => true
  | least, p :: ps => (decide (least ≤ p.a) && decide (p.a ≤ len - 1)) && oversB 6 p.s && ptsF len (p.a + 1) ps
def ptsB (len : Int) (ps : List P2) : Bool := decide (ps.length ≤ 8) && ptsF len 0 ps
def annB (t0 t1 : List (Int × List Int)) (xs : List (Int × Int)) (ps : List P2) : Bool := codeB xs && oversB 6 t0 && oversB 6 t1 && ptsB (xs.length : Int) ps
theorem ptsB_long {len : Int} {ps : List P2} (h : 8 < ps.length) : ptsB len ps = false := by
  unfold ptsB; rw [decide_eq_false (by omega)]; rfl
theorem ptsB_is {len : Int} {ps : List P2} (h : ps.length ≤ 8) : ptsB len ps = ptsF len 0 ps := by
  unfold ptsB; rw [decide_eq_true h]; rfl
theorem drop_at {α : Type} {ps : List α} {k : Nat} {p : α} (h : ps[k]? = some p) : ps.drop k = p :: ps.drop (k + 1) := by
  have hl := (List.getElem?_eq_some_iff.1 h).1
  rw [List.drop_eq_getElem_cons hl]
  congr 1
  rw [List.getElem?_eq_getElem hl] at h
  exact Option.some.inj h
/-- The place from which the point k may be. -/
def leastP (ps : List P2) (k : Nat) : Int := if k = 0 then 0 else match ps[k - 1]? with | some q => q.a + 1 | none => 0
theorem leastP_zero (ps : List P2) : leastP ps 0 = 0 := rfl
theorem leastP_succ {ps : List P2} {k : Nat} {p : P2} (h : ps[k]? = some p) : leastP ps (k + 1) = p.a + 1 := by
  unfold leastP; rw [if_neg (by omega), show k + 1 - 1 = k by omega, h]
theorem ptsF_step {len l : Int} {ps : List P2} {k : Nat} {p : P2} (h : ps[k]? = some p) : ptsF len l (ps.drop k) = ((decide (l ≤ p.a) && decide (p.a ≤ len - 1)) && oversB 6 p.s && ptsF len (p.a + 1) (ps.drop (k + 1))) := by
  rw [drop_at h]; rfl
theorem ptsF_end {len l : Int} {ps : List P2} {k : Nat} (h : ps.length ≤ k) : ptsF len l (ps.drop k) = true := by
  rw [List.drop_of_length_le h]; rfl
theorem annB_code {t0 t1 : List (Int × List Int)} {xs : List (Int × Int)} {ps : List P2} (h : codeB xs = false) : annB t0 t1 xs ps = false := by unfold annB; rw [h]; rfl
theorem annB_pre {t0 t1 : List (Int × List Int)} {xs : List (Int × Int)} {ps : List P2} (h : oversB 6 t0 = false) : annB t0 t1 xs ps = false := by unfold annB; rw [h]; simp
theorem annB_post {t0 t1 : List (Int × List Int)} {xs : List (Int × Int)} {ps : List P2} (h : oversB 6 t1 = false) : annB t0 t1 xs ps = false := by unfold annB; rw [h]; simp
theorem annB_is {t0 t1 : List (Int × List Int)} {xs : List (Int × Int)} {ps : List P2} (h : codeB xs = true) (h0 : oversB 6 t0 = true) (h1 : oversB 6 t1 = true) : annB t0 t1 xs ps = ptsB (xs.length : Int) ps := by unfold annB; rw [h, h0, h1]; rfl
theorem annB_parts {t0 t1 : List (Int × List Int)} {xs : List (Int × Int)} {ps : List P2} (h : annB t0 t1 xs ps = true) : codeB xs = true ∧ oversB 6 t0 = true ∧ oversB 6 t1 = true ∧ ptsB (xs.length : Int) ps = true := by
  unfold annB at h
  simp only [Bool.and_eq_true] at h
  exact ⟨h.1.1.1, h.1.1.2, h.1.2, h.2⟩
end Go.Proofs.YtglbkbdljjaioaaGreat
