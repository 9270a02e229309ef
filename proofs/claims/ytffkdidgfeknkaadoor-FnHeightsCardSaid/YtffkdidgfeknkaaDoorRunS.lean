/-
  The model's run of code: the last config, the events, how it ends, the counts. Conditions: valid code and state, a fuel from 0 to 2000.
-/
import Derived.Test.YtffkdidgfeknkaaDoorStepS
import Derived.Test.YtffkdidgfeknkaaDoorBunB
import Derived.Test.YtffkdidgfeknkaaDoorBunD
namespace Go.Proofs.YtffkdidgfeknkaaDoor
set_option linter.unusedVariables false
open Go.RowKit

/-- What the model's run holds in memory: the config's block and rows, the events, the counts, all apart. -/
def RunM (w : World) (base cb gc ge : Nat) (X : Option Addr) (cx : Nat) (X' : Option Addr) (cx' : Nat) (X2 : Option Addr) (cx2 : Nat) (d : Cf) (k ne ce : Nat) (evs cnt : List Int) : Prop :=
  ∃ l h, BlkIs w cb 131 #[.slice X 4 cx, .slice X' 8 cx', .slice X2 d.2.2.1.length cx2, .int .i64 d.2.2.2] ∧ OwnL w l h X 4 cx d.1 ∧ OwnL w l h X' 8 cx' d.2.1 ∧ OwnL w l h X2 d.2.2.1.length cx2 d.2.2.1 ∧ OwnL w ge (ge + 1) (some ⟨ge, 0, none⟩) ne ce evs ∧ OwnL w gc (gc + 1) (some ⟨gc, 0, none⟩) k k cnt ∧
    (base ≤ cb ∧ base ≤ gc ∧ base ≤ ge ∧ base ≤ l) ∧ cb ≠ gc ∧ cb ≠ ge ∧ gc ≠ ge ∧ (cb < l ∨ h ≤ cb) ∧ (gc < l ∨ h ≤ gc) ∧ (ge < l ∨ h ≤ ge)
theorem RunM.next {w w' : World} {base cb gc ge cx cx' cx2 k ne ce : Nat} {X X' X2 : Option Addr} {d : Cf} {evs cnt : List Int} (m : RunM w base cb gc ge X cx X' cx' X2 cx2 d k ne ce evs cnt) (hb : Below w.heap.size w w') : RunM w' base cb gc ge X cx X' cx' X2 cx2 d k ne ce evs cnt := by
  obtain ⟨l, h, a, b, c, e, f, g, r⟩ := m
  exact ⟨l, h, a.next hb, b.next hb, c.next hb, e.next hb, f.next hb, g.next hb, r⟩
theorem OwnL.cap {w : World} {lo hi n c : Nat} {A : Option Addr} {l : List Int} (h : OwnL w lo hi A n c l) : n ≤ c := by
  rcases h.2.1.2 with ⟨h1, h2⟩ | ⟨b, cap, cur, h1, h2, h3, h4, _⟩
  · omega
  · injection h1 with _ _ e; omega
theorem OwnL.exact {w : World} {base n c g hi : Nat} {l : List Int} (h : OwnL w base hi (some ⟨g, 0, none⟩) n c l) : OwnL w g (g + 1) (some ⟨g, 0, none⟩) n c l := by
  have hlt := h.2.2.1 g rfl
  have hw := h.2.2.2
  refine ⟨h.1, ⟨h.2.1.1, ?_⟩, (fun k hk => by have hk' : some g = some k := hk; injection hk' with e; omega), by omega⟩
  rcases h.2.1.2 with ⟨h1, h2⟩ | ⟨b, cap, cur, h1, h2, r⟩
  · cases h1
  · have h1' := h1
    injection h1 with e _ _
    injection e with e
    injection e with e _ _
    exact .inr ⟨b, cap, cur, h1', by omega, r⟩
theorem OwnL.bound {w : World} {lo hi n c : Nat} {A : Option Addr} {l : List Int} (h : OwnL w lo hi A n c l) : InL w w.heap.size A n l := h.all
/-- What a run of the model gives. -/
def RunSQ (cs : List (Int × Int)) (k : Nat) (r : Cf × List Int × Int) (w : World) : Ending → World → Prop := fun e w' =>
  ∃ X cx X' cx' E ce K ck, e = .returned (.tuple #[.agg #[.slice X 4 cx, .slice X' 8 cx'], .slice E (evR cs r.2.1).length ce, .int .i64 r.2.2, .slice K k ck]) ∧ OwnL w' w.heap.size w'.heap.size X 4 cx r.1.1 ∧ OwnL w' w.heap.size w'.heap.size X' 8 cx' r.1.2.1 ∧
    OwnL w' w.heap.size w'.heap.size E (evR cs r.2.1).length ce (evR cs r.2.1) ∧ OwnL w' w.heap.size w'.heap.size K k ck (countR k r.2.1) ∧ Below w.heap.size w w'

end Go.Proofs.YtffkdidgfeknkaaDoor
