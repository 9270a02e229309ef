/-
  Heights over code: the model's search. Conditions: valid code.
-/
import Derived.Test.YtffkdidgfeknkaaGreatDoorBunB
import Derived.Test.YtffkdidgfeknkaaGreatDoorBunD
import Derived.Test.YtffkdidgfeknkaaGreatDoorTarg
import Derived.Test.YtffkdidgfeknkaaGreatDoorReachM
import Derived.Test.YtffkdidgfeknkaaGreatDoorBunA
import Derived.Test.YtffkdidgfeknkaaGreatDoorSep
import Derived.Deep.QuietTactic
import Derived.BigQuiet
import Derived.Deep.AppendLies
namespace Go.Proofs.YtffkdidgfeknkaaGreatDoor
set_option linter.unusedVariables false
open Go.RowKit

theorem popB_bound (op : Int) : 0 ≤ popB op ∧ popB op ≤ 2 := by unfold popB; split <;> (try split) <;> omega
theorem pushB_bound (op : Int) : 0 ≤ pushB op ∧ pushB op ≤ 1 := by unfold pushB; split <;> omega

/-- The negative numbers of a row, as memory tells. -/
def negW (w : World) (g n : Nat) : Nat := match w.heap[g]? with
  | some (.cells cs _ _) => ((cs.toList.take n).filter fun u => match u with | .int _ x => decide (x < 0) | _ => false).length
  | _ => 0
theorem negW_is {W : World} {lo g n c : Nat} {zs : List Int} (h : W.ownsRow lo 2 1 (.slice (some ⟨g, 0, none⟩) n c) n (zs.map ic)) : negW W g n = negN zs := by
  rcases h.2 with ⟨h', _⟩ | ⟨g', c', cur, h', hb, hg, hnc, hcm, hcs, htake⟩
  · simp at h'
  · simp only [Value.slice.injEq, Option.some.injEq, Addr.mk.injEq, and_true, true_and] at h'
    obtain ⟨rfl, rfl⟩ := h'
    rw [Nat.mul_one] at htake
    unfold negW negN
    rw [hg]
    show ((cur.toList.take n).filter _).length = _
    rw [htake, List.filter_map, List.length_map]
    rfl
/-- The search in memory: the queue and the heights. -/
structure HgtW (wc : World) (gO cO n : Nat) (out q : List Int) (v : Value) (W : World) : Prop where
  que : Que W wc.heap.size v q
  outs : W.ownsRow wc.heap.size 2 1 (.slice (some ⟨gO, 0, none⟩) n cO) n (out.map ic)
  apart : v.ownBlock ≠ some gO
  size : 2 * negN out + q.length ≤ 400
  top : ∀ z ∈ out, z ≤ 6
  below : Below wc.heap.size wc W
section
variable {wc W W' W1 W2 : World} {gO cO n k : Nat} {out q ys : List Int} {v v' v0 : Value} {t z a : Int}
theorem HgtW.keep (h : HgtW wc gO cO n out q v W) (hb : Below W.heap.size W W') : HgtW wc gO cO n out q v W' :=
  ⟨h.que.next hb, own_below h.outs hb, h.apart, h.size, h.top, bon h.below hb⟩
theorem HgtW.pop (h : HgtW wc gO cO n out (t :: q) v W) (hq : Que W wc.heap.size v0 q) (h0 : v0.ownBlock = v.ownBlock) : HgtW wc gO cO n out q v0 W :=
  ⟨hq, h.outs, by rw [h0]; exact h.apart, by have := h.size; rw [List.length_cons] at this; omega, h.top, h.below⟩
/-- A height is put, and its place appended. -/
theorem HgtW.put (h : HgtW wc gO cO n out q v W) (hk : out[k]? = some a) (ha : a < 0) (hz : 0 ≤ z) (hz6 : z ≤ 6) (hb : Below (W.setCell ⟨gO, k, none⟩ (.int .i64 z)).heap.size (W.setCell ⟨gO, k, none⟩ (.int .i64 z)) W1)
    (hq : Que W2 wc.heap.size v' (q ++ [t])) (hg : W1.grownBy W2 v.ownBlock) (hv : v'.ownBlock = v.ownBlock ∨ ∃ j, v'.ownBlock = some j ∧ W1.heap.size ≤ j) : HgtW wc gO cO n (out.set k z) (q ++ [t]) v' W2 := by
  have hm := h.outs
  have s1 := (hm.stored k (.int .i64 z)).1
  have s2 := own_below s1 hb
  have s3 := s2.kept hg (.inr (fun e => h.apart (by rw [← e]; rfl)))
  have hgs := hm.lt gO rfl
  refine ⟨hq, ?_, ?_, ?_, fun y hy => by rcases List.mem_or_eq_of_mem_set hy with e | rfl; exact h.top y e; exact hz6, ?_⟩
  · rw [List.map_set]; exact s3
  · rcases hv with e | ⟨j, e, hj⟩
    · rw [e]; exact h.apart
    · rw [e]; intro e'
      obtain rfl := Option.some.inj e'
      have h1 := hgs.2
      have h2 := hb.size
      simp at h2
      omega
  · have h1 := negN_set hk ha hz
    have h2 := h.size
    rw [List.length_append, List.length_singleton]
    omega
  · have b1 : Below wc.heap.size wc (W.setCell ⟨gO, k, none⟩ (.int .i64 z)) := h.below.setCell (p := ⟨gO, k, none⟩) hgs.1 _
    refine (bon b1 hb).grown hg (Nat.le_trans b1.size hb.size) (fun j hj => ?_)
    obtain ⟨b, e, h1, _⟩ := h.que.lt
    rw [e] at hj
    rw [← Option.some.inj hj]; exact h1
end

end Go.Proofs.YtffkdidgfeknkaaGreatDoor
