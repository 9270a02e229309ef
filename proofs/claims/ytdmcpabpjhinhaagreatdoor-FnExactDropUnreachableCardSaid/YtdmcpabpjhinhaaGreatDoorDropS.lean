/-
  The model's DropPoint. Conditions: at most 2^20 elements and numbers.
-/
import Derived.Test.YtdmcpabpjhinhaaGreatDoorPtOwn
import Derived.Test.YtdmcpabpjhinhaaGreatDoorAnnV
namespace Go.Proofs.YtdmcpabpjhinhaaGreatDoor
set_option linter.unusedVariables false
open Go.RowKit

theorem oversB_small {ts : List (Int × List Int)} (h : oversB 6 ts = true) : ts.length ≤ 1000 ∧ ∀ t ∈ ts, t.2.length ≤ 100000 := by
  unfold oversB at h
  simp only [Bool.and_eq_true, decide_eq_true_eq, List.all_eq_true] at h
  refine ⟨by omega, fun t ht => ?_⟩
  have := h.1 t ht
  unfold overB at this
  simp only [Bool.and_eq_true, decide_eq_true_eq] at this
  omega
theorem ptsF_small {len : Int} : ∀ {ps : List P2} {l : Int}, ptsF len l ps = true → ∀ p ∈ ps, p.s.length ≤ 1000 ∧ ∀ t ∈ p.s, t.2.length ≤ 100000 := by
  intro ps
  induction ps with
  | nil => intro l _ p hp; cases hp
  | cons q ps ih =>
    intro l h p hp
    unfold ptsF at h
    simp only [Bool.and_eq_true] at h
    rcases List.mem_cons.1 hp with rfl | hp
    · exact oversB_small h.1.2
    · exact ih h.2 p hp
theorem annB_small {t0 t1 : List (Int × List Int)} {xs : List (Int × Int)} {ps : List P2} (h : annB t0 t1 xs ps = true) :
    (t0.length ≤ 1000 ∧ ∀ t ∈ t0, t.2.length ≤ 100000) ∧ (t1.length ≤ 1000 ∧ ∀ t ∈ t1, t.2.length ≤ 100000) ∧ xs.length ≤ 80 ∧ ps.length ≤ 8 ∧ ∀ p ∈ ps, p.s.length ≤ 1000 ∧ ∀ t ∈ p.s, t.2.length ≤ 100000 := by
  obtain ⟨hc, h0, h1, hp⟩ := annB_parts h
  unfold ptsB at hp
  simp only [Bool.and_eq_true, decide_eq_true_eq] at hp
  have := (codeB_parts hc).2.1
  exact ⟨oversB_small h0, oversB_small h1, by omega, hp.1, ptsF_small hp.2⟩
theorem PRow.cap {w : World} {base n c : Nat} {A : Option Addr} {xs : List P2} (h : PRow w base (.slice A n c) n xs) (hn : 0 < n) : ∃ g, A = some ⟨g, 0, none⟩ ∧ n ≤ c := by
  obtain ⟨_, cs, h3, _⟩ := h
  rcases h3.2 with ⟨h', hn'⟩ | ⟨b, cap, cur, k1, k2, k3, k4, _⟩
  · omega
  · injection k1 with e1 e2 e3
    exact ⟨b, e1, by omega⟩
theorem prow_empty (w : World) : PRow (w.alloc (.cells #[] 83)) w.heap.size (.slice (some ⟨w.heap.size, 0, none⟩) 0 0) 0 [] := ⟨rfl, [], own_empty2 w _, fun j x hj => by simp at hj⟩

/-- A box of four cells that is filled. -/
theorem fill4 {w : World} {g : Nat} {T : TypeId} {x0 x1 x2 x3 : Value} (h : BlkIs w g T #[x0, x1, x2, x3]) (a b c d : Value) :
    BlkIs ((((w.setCell ⟨g, 0, none⟩ a).setCell ⟨g, 1, none⟩ b).setCell ⟨g, 2, none⟩ c).setCell ⟨g, 3, none⟩ d) g T #[a, b, c, d] ∧ w.grownBy ((((w.setCell ⟨g, 0, none⟩ a).setCell ⟨g, 1, none⟩ b).setCell ⟨g, 2, none⟩ c).setCell ⟨g, 3, none⟩ d) (some g) := by
  have hX := (((h.set 0 a).set 1 b).set 2 c).set 3 d
  simp at hX
  exact ⟨hX, only_trans (only_trans (only_trans only_set only_set) only_set) only_set⟩
/-- Annotated code as the model hands it out. -/
def AnS (w w' : World) (e : Ending) (n0 n1 n2 n3 : Nat) (t0 t1 : List (Int × List Int)) (t2 : List (Int × Int)) (t3 : List P2) (r : Bool) : Prop :=
  ∃ R0 d0 R1 d1 R2 d2 R3 d3, e = .returned (.tuple #[.agg #[.slice R0 n0 d0, .slice R1 n1 d1, .slice R2 n2 d2, .slice R3 n3 d3], .bool r]) ∧ InTS w' w'.heap.size R0 n0 t0 ∧ InTS w' w'.heap.size R1 n1 t1 ∧ InC w' w'.heap.size R2 n2 t2 ∧ InP2 w' w'.heap.size R3 n3 t3 ∧ Below w.heap.size w w'
theorem inTS_none (w : World) (B : Nat) : InTS w B none 0 [] := ⟨rfl, fun j t hj => by simp at hj⟩
theorem inC_none (w : World) (B : Nat) : InC w B none 0 [] := ⟨rfl, fun j t hj => by simp at hj⟩
theorem inP2_none (w : World) (B : Nat) : InP2 w B none 0 [] := ⟨rfl, fun j t hj => by simp at hj⟩

section
variable (A0 : Option Addr) (n0 c0 : Nat) (t0 : List (Int × List Int)) (A1 : Option Addr) (n1 c1 : Nat) (t1 : List (Int × List Int)) (A2 : Option Addr) (n2 c2 : Nat) (t2 : List (Int × Int)) (A3 : Option Addr) (n3 c3 : Nat) (t3 : List P2) (i : Int) (w : World) (h0 : InTS w w.heap.size A0 n0 t0) (h1 : InTS w w.heap.size A1 n1 t1) (h2 : InC w w.heap.size A2 n2 t2) (h3 : InP2 w w.heap.size A3 n3 t3) (hn0 : n0 ≤ 1048576) (he0 : totT t0 ≤ 1048576) (hn1 : n1 ≤ 1048576) (he1 : totT t1 ≤ 1048576) (hn2 : n2 ≤ 1048576) (hn3 : n3 ≤ 1048576) (he3 : totP2 t3 ≤ 1048576)
include h0 h1 h2 h3 hn0 he0 hn1 he1 hn2 hn3 he3
end
end Go.Proofs.YtdmcpabpjhinhaaGreatDoor