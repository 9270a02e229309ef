/-
  What is reached over code: the model's search and its list. Conditions: at most 2^20 instructions.
-/
import Derived.Test.YtffkdidgfeknkaaGreatDoorBunB
import Derived.Test.YtffkdidgfeknkaaGreatDoorBunD
import Derived.Test.YtffkdidgfeknkaaGreatDoorTarg
namespace Go.Proofs.YtffkdidgfeknkaaGreatDoor
set_option linter.unusedVariables false
open Go.RowKit

theorem infoBR : (Tryz.prog.info? 4).map (fun i => (i.zero, i.size, i.bytes)) = some (some (.bool false), 1, 1) := by kernel_rfl
/-- The marks that are missing, as memory tells. -/
def missB (w : World) (g : Nat) : Nat := match w.heap[g]? with
  | some (.cells cs _ _) => (cs.toList.filter fun u => match u with | .bool b => !b | _ => false).length
  | _ => 0
theorem missB_is {W : World} {lo g n : Nat} {ms : List Bool} (h : W.ownsRow lo 4 1 (.slice (some ⟨g, 0, none⟩) n n) n (ms.map Value.bool)) : missB W g = missing ms := by
  rcases h.2 with ⟨h', _⟩ | ⟨g', c', cur, h', hb, hg, hnc, hcm, hcs, htake⟩
  · simp at h'
  · simp only [Value.slice.injEq, Option.some.injEq, Addr.mk.injEq, and_true, true_and] at h'
    obtain ⟨rfl, rfl⟩ := h'
    rw [Nat.mul_one] at hcs htake
    rw [List.take_of_length_le (by rw [Array.length_toList]; omega)] at htake
    unfold missB missing
    rw [hg]
    show (cur.toList.filter _).length = _
    rw [htake, List.filter_map, List.length_map]
    rfl
def lenQ : Value → Nat
  | .slice _ n _ => n
  | _ => 0
/-- The model's search in memory. -/
structure SrchW (wc : World) (gs n : Nat) (xs : List (Int × Int)) (S : Int → Prop) (ms : List Bool) (q : List Int) (v : Value) (W : World) : Prop where
  srch : Srch xs S ms q
  que : Que W wc.heap.size v q
  marks : W.ownsRow wc.heap.size 4 1 (.slice (some ⟨gs, 0, none⟩) n n) n (ms.map Value.bool)
  apart : v.ownBlock ≠ some gs
  size : 3 * missing ms + q.length ≤ 400
  below : Below wc.heap.size wc W
/-- An instruction is marked, and the places behind it are appended. -/
theorem missing_le (ms : List Bool) : missing ms ≤ ms.length := List.length_filter_le _ _
theorem SrchW.mark {wc W W1 W2 : World} {gs n k : Nat} {xs : List (Int × Int)} {S : Int → Prop} {ms : List Bool} {q : List Int} {v v' : Value} (h : SrchW wc gs n xs S ms ((k : Int) :: q) v W) {v0 : Value}
    (hq : Que W wc.heap.size v0 q) (h0 : v0.ownBlock = v.ownBlock) (hk : k < xs.length) (hf : ms[k]? = some false) (hb : Below (W.setCell ⟨gs, k, none⟩ (.bool true)).heap.size (W.setCell ⟨gs, k, none⟩ (.bool true)) W1)
    (hq' : Que W2 wc.heap.size v' (q ++ tgtN xs k)) (hg : W1.grownBy W2 v0.ownBlock) (hv : v'.ownBlock = v0.ownBlock ∨ ∃ j, v'.ownBlock = some j ∧ W1.heap.size ≤ j) : SrchW wc gs n xs S (ms.set k true) (q ++ tgtN xs k) v' W2 := by
  have hm := h.marks
  have s1 := (hm.stored k (.bool true)).1
  have s2 := own_below s1 hb
  have s3 := s2.kept hg (.inr (fun e => h.apart (by rw [← h0, ← e]; rfl)))
  have hgs := hm.lt gs rfl
  refine ⟨h.srch.mark hk, hq', ?_, ?_, ?_, ?_⟩
  · rw [← List.map_set] at s3; exact s3
  · rcases hv with e | ⟨j, e, hj⟩
    · rw [e, h0]; exact h.apart
    · rw [e]; intro e'
      obtain rfl := Option.some.inj e'
      have h1 := hgs.2
      have h2 := hb.size
      simp at h2
      omega
  · have := missing_set hf
    have h1 := h.size
    have h2 := tgt_len (xs.getD k (0, 0)).1 (xs.getD k (0, 0)).2 k
    rw [List.length_append]
    unfold tgtN
    rw [List.length_cons] at h1
    omega
  · have b1 : Below wc.heap.size wc (W.setCell ⟨gs, k, none⟩ (.bool true)) := h.below.setCell (p := ⟨gs, k, none⟩) hgs.1 _
    refine (bon b1 hb).grown hg (Nat.le_trans b1.size hb.size) (fun j hj => ?_)
    obtain ⟨b, e, h1, _⟩ := hq.lt
    rw [e] at hj
    rw [← Option.some.inj hj]; exact h1
theorem SrchW.pop {wc W : World} {gs n : Nat} {t : Int} {xs : List (Int × Int)} {S : Int → Prop} {ms : List Bool} {q : List Int} {v v0 : Value} (h : SrchW wc gs n xs S ms (t :: q) v W)
    (hq : Que W wc.heap.size v0 q) (h0 : v0.ownBlock = v.ownBlock) (ht : (xs.length : Int) ≤ t ∨ ms[t.toNat]? = some true) : SrchW wc gs n xs S ms q v0 W :=
  ⟨h.srch.skip ht, hq, h.marks, by rw [h0]; exact h.apart, by have := h.size; rw [List.length_cons] at this; omega, h.below⟩

end Go.Proofs.YtffkdidgfeknkaaGreatDoor
