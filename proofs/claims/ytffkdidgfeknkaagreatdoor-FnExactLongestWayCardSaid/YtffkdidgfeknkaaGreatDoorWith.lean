/-
  The program's copy of annotated code with other points. Conditions: at most 2^20 elements and numbers.
-/
import Derived.Test.YtffkdidgfeknkaaGreatDoorBunG
import Derived.Test.YtffkdidgfeknkaaGreatDoorAnnI
namespace Go.Proofs.YtffkdidgfeknkaaGreatDoor
set_option linter.unusedVariables false
open Go.RowKit

/-- Annotated code as the program hands it out. -/
def AnI (w w' : World) (e : Ending) (n0 n1 n2 n3 : Nat) (t0 t1 : List (Int × List Int)) (t2 : List (Int × Int)) (t3 : List P2) (r : Bool) : Prop :=
  ∃ R0 d0 R1 d1 R2 d2 R3 d3, ∃ (md0 md1 md2 : Nat), e = .returned (.tuple #[.agg #[.slice R0 n0 d0, .slice R1 n1 d1, .slice R2 n2 d2, .slice R3 n3 d3], .bool r]) ∧ OwnTS w' w.heap.size md0 R0 n0 d0 t0 ∧ OwnTS w' md0 md1 R1 n1 d1 t1 ∧ OwnC w' md1 md2 R2 n2 d2 t2 ∧ OwnP2 w' md2 w'.heap.size R3 n3 d3 t3 ∧ (w.heap.size ≤ md0 ∧ md0 ≤ md1 ∧ md1 ≤ md2 ∧ md2 ≤ w'.heap.size) ∧ Below w.heap.size w w'

section
variable (A0 : Option Addr) (n0 c0 : Nat) (t0 : List (Int × List Int)) (A1 : Option Addr) (n1 c1 : Nat) (t1 : List (Int × List Int)) (A2 : Option Addr) (n2 c2 : Nat) (t2 : List (Int × Int)) (A3 : Option Addr) (n3 c3 : Nat) (t3 : List P2) (A4 : Option Addr) (n4 c4 : Nat) (t4 : List P2) (w : World) (h0 : InTS w w.heap.size A0 n0 t0) (h1 : InTS w w.heap.size A1 n1 t1) (h2 : InC w w.heap.size A2 n2 t2) (h3 : InP2 w w.heap.size A3 n3 t3) (h4 : InP2 w w.heap.size A4 n4 t4) (hn0 : n0 ≤ 1048576) (he0 : totT t0 ≤ 1048576) (hn1 : n1 ≤ 1048576) (he1 : totT t1 ≤ 1048576) (hn2 : n2 ≤ 1048576) (hn3 : n3 ≤ 1048576) (he3 : totP2 t3 ≤ 1048576) (hn4 : n4 ≤ 1048576) (he4 : totP2 t4 ≤ 1048576)
include h0 h1 h2 h3 h4 hn0 he0 hn1 he1 hn2 hn3 he3 hn4 he4
end
end Go.Proofs.YtffkdidgfeknkaaGreatDoor
