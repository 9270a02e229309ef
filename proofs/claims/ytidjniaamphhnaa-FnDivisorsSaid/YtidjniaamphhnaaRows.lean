/-
  No cell of these rows narrows 'for every input' (looked for: loops, veiled, ifaces, maps, wideKeys, modest, calm, conditions, laid).
  DERIVED. THE GIVEN ROWS OF THIS SEAT. 6 by the template 'for every input the law returns true; each argument reads behind the call as it read before'; 0 by the template 'total and deterministic' (their statements: YtidjniaamphhnaaTotals.lean).
  GIVEN WITH THE SEED: the statements are not yours to turn. If you find one false, say at which input.
  Laid BY PROGRAM, IN A SANDBOX (cutbox-rows.mjs): the forced cells as the released guide's own fill.sh prints them over the translation 542748a4a954e254… (all of the seat's roots in one cut). By AI agents, Wed Nov 11 2026. No macro, syntax, notation, axiom, sorry.
-/
import Derived.Test.YtidjniaamphhnaaChecked
import GoSem.Claim
import GoSem.ClaimJoined
import GoSem.ClaimMapViews
import Derived.JoinedTies
import Derived.KernelRfl
namespace Go.Proofs.Ytidjniaamphhnaa
/- THE CELL 'sum', in the pinned program and in every row, IS THE sha256 OF THE DUMP (.gsa) THAT YtidjniaamphhnaaProg.lean LOADS. Nothing in Lean hashes anything: it is a label: what it is worth is what the hold of that sum in a sandbox is worth. -/
noncomputable def Try.pinned : Pinned := { name := "ytidjniaamphhnaa", sum := "542748a4a954e254bdbe85a672ab4d4a11ede643b135c06a075b09fa32d2f5e2", checked := Try.checked }
namespace Rows
def none {H : Type} : Left H := { results := [], args := [] }

/-- 'laws.FnDivisors': WHATEVER THE INPUT: true; the input reads as it did. -/
def fnDivisorsSpec : ChangeSpec := { name := "fnDivisors", fn := fun _ => fun
  | [d1, d2] => { results := [.lit (.bool true)], args := [d1, d2] }
  | _ => none }
def fnDivisorsRow : OpenClaim := { program := "ytidjniaamphhnaa", sum := "542748a4a954e254bdbe85a672ab4d4a11ede643b135c06a075b09fa32d2f5e2", func := "loop.example/g01105/laws.FnDivisors", spec := "fnDivisors", apart := false }
def FnDivisorsSaid : Prop := fnDivisorsRow.holds Try.pinned (OpenSpec.ofChange fnDivisorsSpec)

/-- ITS FALSE NEIGHBOUR: 'it returns false'. Refute it at one input. -/
def fnDivisorsWrong : ChangeSpec := { name := "fnDivisors", fn := fun _ => fun
  | [d1, d2] => { results := [.lit (.bool false)], args := [d1, d2] }
  | _ => none }
def FnDivisorsWrongFalsely : Prop := fnDivisorsRow.holds Try.pinned (OpenSpec.ofChange fnDivisorsWrong)

/-- 'laws.FnExactIsName': WHATEVER THE INPUT: true; the input reads as it did. -/
def fnExactIsNameSpec : ChangeSpec := { name := "fnExactIsName", fn := fun _ => fun
  | [d] => { results := [.lit (.bool true)], args := [d] }
  | _ => none }
def fnExactIsNameRow : OpenClaim := { program := "ytidjniaamphhnaa", sum := "542748a4a954e254bdbe85a672ab4d4a11ede643b135c06a075b09fa32d2f5e2", func := "loop.example/g01105/laws.FnExactIsName", spec := "fnExactIsName", apart := false }
def FnExactIsNameSaid : Prop := fnExactIsNameRow.holds Try.pinned (OpenSpec.ofChange fnExactIsNameSpec)

/-- ITS FALSE NEIGHBOUR: 'it returns false'. Refute it at one input. -/
def fnExactIsNameWrong : ChangeSpec := { name := "fnExactIsName", fn := fun _ => fun
  | [d] => { results := [.lit (.bool false)], args := [d] }
  | _ => none }
def FnExactIsNameWrongFalsely : Prop := fnExactIsNameRow.holds Try.pinned (OpenSpec.ofChange fnExactIsNameWrong)

/-- 'laws.FnExactDivFloor': WHATEVER THE INPUT: true; the input reads as it did. -/
def fnExactDivFloorSpec : ChangeSpec := { name := "fnExactDivFloor", fn := fun _ => fun
  | [d1, d2] => { results := [.lit (.bool true)], args := [d1, d2] }
  | _ => none }
def fnExactDivFloorRow : OpenClaim := { program := "ytidjniaamphhnaa", sum := "542748a4a954e254bdbe85a672ab4d4a11ede643b135c06a075b09fa32d2f5e2", func := "loop.example/g01105/laws.FnExactDivFloor", spec := "fnExactDivFloor", apart := false }
def FnExactDivFloorSaid : Prop := fnExactDivFloorRow.holds Try.pinned (OpenSpec.ofChange fnExactDivFloorSpec)

/-- ITS FALSE NEIGHBOUR: 'it returns false'. Refute it at one input. -/
def fnExactDivFloorWrong : ChangeSpec := { name := "fnExactDivFloor", fn := fun _ => fun
  | [d1, d2] => { results := [.lit (.bool false)], args := [d1, d2] }
  | _ => none }
def FnExactDivFloorWrongFalsely : Prop := fnExactDivFloorRow.holds Try.pinned (OpenSpec.ofChange fnExactDivFloorWrong)

/-- 'laws.FnExactGcdOf': WHATEVER THE INPUT: true; the input reads as it did. -/
def fnExactGcdOfSpec : ChangeSpec := { name := "fnExactGcdOf", fn := fun _ => fun
  | [d] => { results := [.lit (.bool true)], args := [d] }
  | _ => none }
def fnExactGcdOfRow : OpenClaim := { program := "ytidjniaamphhnaa", sum := "542748a4a954e254bdbe85a672ab4d4a11ede643b135c06a075b09fa32d2f5e2", func := "loop.example/g01105/laws.FnExactGcdOf", spec := "fnExactGcdOf", apart := false }
def FnExactGcdOfSaid : Prop := fnExactGcdOfRow.holds Try.pinned (OpenSpec.ofChange fnExactGcdOfSpec)

/-- ITS FALSE NEIGHBOUR: 'it returns false'. Refute it at one input. -/
def fnExactGcdOfWrong : ChangeSpec := { name := "fnExactGcdOf", fn := fun _ => fun
  | [d] => { results := [.lit (.bool false)], args := [d] }
  | _ => none }
def FnExactGcdOfWrongFalsely : Prop := fnExactGcdOfRow.holds Try.pinned (OpenSpec.ofChange fnExactGcdOfWrong)

/-- 'laws.FnExactPutNumber': WHATEVER THE INPUT: true; the input reads as it did. -/
def fnExactPutNumberSpec : ChangeSpec := { name := "fnExactPutNumber", fn := fun _ => fun
  | [d] => { results := [.lit (.bool true)], args := [d] }
  | _ => none }
def fnExactPutNumberRow : OpenClaim := { program := "ytidjniaamphhnaa", sum := "542748a4a954e254bdbe85a672ab4d4a11ede643b135c06a075b09fa32d2f5e2", func := "loop.example/g01105/laws.FnExactPutNumber", spec := "fnExactPutNumber", apart := false }
def FnExactPutNumberSaid : Prop := fnExactPutNumberRow.holds Try.pinned (OpenSpec.ofChange fnExactPutNumberSpec)

/-- ITS FALSE NEIGHBOUR: 'it returns false'. Refute it at one input. -/
def fnExactPutNumberWrong : ChangeSpec := { name := "fnExactPutNumber", fn := fun _ => fun
  | [d] => { results := [.lit (.bool false)], args := [d] }
  | _ => none }
def FnExactPutNumberWrongFalsely : Prop := fnExactPutNumberRow.holds Try.pinned (OpenSpec.ofChange fnExactPutNumberWrong)

/-- 'laws.FnExactPutList': WHATEVER THE INPUT: true; the input reads as it did. -/
def fnExactPutListSpec : ChangeSpec := { name := "fnExactPutList", fn := fun _ => fun
  | [d] => { results := [.lit (.bool true)], args := [d] }
  | _ => none }
def fnExactPutListRow : OpenClaim := { program := "ytidjniaamphhnaa", sum := "542748a4a954e254bdbe85a672ab4d4a11ede643b135c06a075b09fa32d2f5e2", func := "loop.example/g01105/laws.FnExactPutList", spec := "fnExactPutList", apart := false }
def FnExactPutListSaid : Prop := fnExactPutListRow.holds Try.pinned (OpenSpec.ofChange fnExactPutListSpec)

/-- ITS FALSE NEIGHBOUR: 'it returns false'. Refute it at one input. -/
def fnExactPutListWrong : ChangeSpec := { name := "fnExactPutList", fn := fun _ => fun
  | [d] => { results := [.lit (.bool false)], args := [d] }
  | _ => none }
def FnExactPutListWrongFalsely : Prop := fnExactPutListRow.holds Try.pinned (OpenSpec.ofChange fnExactPutListWrong)

/- THE SECOND FORM. 'bulk': how many values and letters a reading holds, each counted each time it is reached (what is shared counts as often as it is met; a slice's spare places count too). A statement '..UptoSaid' is the law's where the arguments, and the package variables that the reading takes, are together of bulk at most 1048576: NARROWER than '..Said'. Prove '..Said' where nothing that the law and all that it calls make is longer than what came in: it says more and counts as full. Else prove '..UptoSaid'. A law counts once. -/
mutual
def uptoBulk {H : Type} : DataW H → Nat
  | .lit (.string bytes) => bytes.length + 1
  | .lit _ => 1
  | .nil => 1
  | .ptr d => uptoBulk d + 1
  | .slice elems spare => uptoBulkAll elems + uptoBulkAll spare + 1
  | .agg parts => uptoBulkAll parts + 1
  | .iface _ d => uptoBulk d + 1
  | .map entries => uptoBulkEntries entries + 1
  | .held _ => 1
def uptoBulkAll {H : Type} : List (DataW H) → Nat
  | [] => 0
  | d :: r => uptoBulk d + uptoBulkAll r
def uptoBulkEntries {H : Type} : List (Lit × DataW H) → Nat
  | [] => 0
  | x :: r => uptoBulkEntry x + uptoBulkEntries r
def uptoBulkEntry {H : Type} : Lit × DataW H → Nat
  | (.string bytes, d) => bytes.length + uptoBulk d + 1
  | (_, d) => uptoBulk d + 1
 end
def uptoSmall : (H : Type) → List (DataW H) → Bool := fun _ ds => decide (uptoBulkAll ds ≤ 1048576)
def OpenSpec.upto (s : _root_.Go.ChangeSpec) : _root_.Go.OpenSpec := { _root_.Go.OpenSpec.ofChange s with cond := some uptoSmall }

/-- 'laws.FnDivisors', WHERE WHAT IT READS IS OF BULK AT MOST 1048576: true; the input reads as it did. -/
def fnDivisorsUptoRow : OpenClaim := { program := "ytidjniaamphhnaa", sum := "542748a4a954e254bdbe85a672ab4d4a11ede643b135c06a075b09fa32d2f5e2", func := "loop.example/g01105/laws.FnDivisors", spec := "fnDivisors", apart := false, narrowed := true }
def FnDivisorsUptoSaid : Prop := fnDivisorsUptoRow.holds Try.pinned (OpenSpec.upto fnDivisorsSpec)

/-- 'laws.FnExactIsName', WHERE WHAT IT READS IS OF BULK AT MOST 1048576: true; the input reads as it did. -/
def fnExactIsNameUptoRow : OpenClaim := { program := "ytidjniaamphhnaa", sum := "542748a4a954e254bdbe85a672ab4d4a11ede643b135c06a075b09fa32d2f5e2", func := "loop.example/g01105/laws.FnExactIsName", spec := "fnExactIsName", apart := false, narrowed := true }
def FnExactIsNameUptoSaid : Prop := fnExactIsNameUptoRow.holds Try.pinned (OpenSpec.upto fnExactIsNameSpec)

/-- 'laws.FnExactDivFloor', WHERE WHAT IT READS IS OF BULK AT MOST 1048576: true; the input reads as it did. -/
def fnExactDivFloorUptoRow : OpenClaim := { program := "ytidjniaamphhnaa", sum := "542748a4a954e254bdbe85a672ab4d4a11ede643b135c06a075b09fa32d2f5e2", func := "loop.example/g01105/laws.FnExactDivFloor", spec := "fnExactDivFloor", apart := false, narrowed := true }
def FnExactDivFloorUptoSaid : Prop := fnExactDivFloorUptoRow.holds Try.pinned (OpenSpec.upto fnExactDivFloorSpec)

/-- 'laws.FnExactGcdOf', WHERE WHAT IT READS IS OF BULK AT MOST 1048576: true; the input reads as it did. -/
def fnExactGcdOfUptoRow : OpenClaim := { program := "ytidjniaamphhnaa", sum := "542748a4a954e254bdbe85a672ab4d4a11ede643b135c06a075b09fa32d2f5e2", func := "loop.example/g01105/laws.FnExactGcdOf", spec := "fnExactGcdOf", apart := false, narrowed := true }
def FnExactGcdOfUptoSaid : Prop := fnExactGcdOfUptoRow.holds Try.pinned (OpenSpec.upto fnExactGcdOfSpec)

/-- 'laws.FnExactPutNumber', WHERE WHAT IT READS IS OF BULK AT MOST 1048576: true; the input reads as it did. -/
def fnExactPutNumberUptoRow : OpenClaim := { program := "ytidjniaamphhnaa", sum := "542748a4a954e254bdbe85a672ab4d4a11ede643b135c06a075b09fa32d2f5e2", func := "loop.example/g01105/laws.FnExactPutNumber", spec := "fnExactPutNumber", apart := false, narrowed := true }
def FnExactPutNumberUptoSaid : Prop := fnExactPutNumberUptoRow.holds Try.pinned (OpenSpec.upto fnExactPutNumberSpec)

/-- 'laws.FnExactPutList', WHERE WHAT IT READS IS OF BULK AT MOST 1048576: true; the input reads as it did. -/
def fnExactPutListUptoRow : OpenClaim := { program := "ytidjniaamphhnaa", sum := "542748a4a954e254bdbe85a672ab4d4a11ede643b135c06a075b09fa32d2f5e2", func := "loop.example/g01105/laws.FnExactPutList", spec := "fnExactPutList", apart := false, narrowed := true }
def FnExactPutListUptoSaid : Prop := fnExactPutListUptoRow.holds Try.pinned (OpenSpec.upto fnExactPutListSpec)

end Rows
end Go.Proofs.Ytidjniaamphhnaa
