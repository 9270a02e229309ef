/-
  No cell of these rows narrows 'for every input' (looked for: loops, veiled, ifaces, maps, wideKeys, modest, calm, conditions, laid).
  DERIVED. THE GIVEN ROWS OF THIS SEAT. 4 by the template 'for every input the law returns true; each argument reads behind the call as it read before'; 0 by the template 'total and deterministic' (their statements: YtapndnkcmmpdjaaTotals.lean).
  GIVEN WITH THE SEED: the statements are not yours to turn. If you find one false, say at which input.
  Laid BY PROGRAM, IN A SANDBOX (cutbox-rows.mjs): the forced cells as the released guide's own fill.sh prints them over the translation 43b4b577ca4e67e8… (all of the seat's roots in one cut). By AI agents, Wed Nov 11 2026. No macro, syntax, notation, axiom, sorry.
-/
import Derived.Test.YtapndnkcmmpdjaaChecked
import GoSem.Claim
import GoSem.ClaimJoined
import GoSem.ClaimMapViews
import Derived.JoinedTies
import Derived.KernelRfl
namespace Go.Proofs.Ytapndnkcmmpdjaa
/- THE CELL 'sum', in the pinned program and in every row, IS THE sha256 OF THE DUMP (.gsa) THAT YtapndnkcmmpdjaaProg.lean LOADS. Nothing in Lean hashes anything: it is a label: what it is worth is what the hold of that sum in a sandbox is worth. -/
noncomputable def Try.pinned : Pinned := { name := "ytapndnkcmmpdjaa", sum := "43b4b577ca4e67e8c9dfe18215c1acdb7bade82a4813bb2f198c177619849f19", checked := Try.checked }
namespace Rows
def none {H : Type} : Left H := { results := [], args := [] }

/-- 'laws.FnExactSymbolsOf': WHATEVER THE INPUT: true; the input reads as it did. -/
def fnExactSymbolsOfSpec : ChangeSpec := { name := "fnExactSymbolsOf", fn := fun _ => fun
  | [d] => { results := [.lit (.bool true)], args := [d] }
  | _ => none }
def fnExactSymbolsOfRow : OpenClaim := { program := "ytapndnkcmmpdjaa", sum := "43b4b577ca4e67e8c9dfe18215c1acdb7bade82a4813bb2f198c177619849f19", func := "loop.example/g01105/laws.FnExactSymbolsOf", spec := "fnExactSymbolsOf", unfollowed := true, recurses := true, apart := false }
def FnExactSymbolsOfSaid : Prop := fnExactSymbolsOfRow.holds Try.pinned (OpenSpec.ofChange fnExactSymbolsOfSpec)

/-- ITS FALSE NEIGHBOUR: 'it returns false'. Refute it at one input. -/
def fnExactSymbolsOfWrong : ChangeSpec := { name := "fnExactSymbolsOf", fn := fun _ => fun
  | [d] => { results := [.lit (.bool false)], args := [d] }
  | _ => none }
def FnExactSymbolsOfWrongFalsely : Prop := fnExactSymbolsOfRow.holds Try.pinned (OpenSpec.ofChange fnExactSymbolsOfWrong)

/-- 'laws.FnExactContextOf': WHATEVER THE INPUT: true; the input reads as it did. -/
def fnExactContextOfSpec : ChangeSpec := { name := "fnExactContextOf", fn := fun _ => fun
  | [d] => { results := [.lit (.bool true)], args := [d] }
  | _ => none }
def fnExactContextOfRow : OpenClaim := { program := "ytapndnkcmmpdjaa", sum := "43b4b577ca4e67e8c9dfe18215c1acdb7bade82a4813bb2f198c177619849f19", func := "loop.example/g01105/laws.FnExactContextOf", spec := "fnExactContextOf", unfollowed := true, recurses := true, apart := false }
def FnExactContextOfSaid : Prop := fnExactContextOfRow.holds Try.pinned (OpenSpec.ofChange fnExactContextOfSpec)

/-- ITS FALSE NEIGHBOUR: 'it returns false'. Refute it at one input. -/
def fnExactContextOfWrong : ChangeSpec := { name := "fnExactContextOf", fn := fun _ => fun
  | [d] => { results := [.lit (.bool false)], args := [d] }
  | _ => none }
def FnExactContextOfWrongFalsely : Prop := fnExactContextOfRow.holds Try.pinned (OpenSpec.ofChange fnExactContextOfWrong)

/-- 'laws.FnExactLeastCounter': WHATEVER THE INPUT: true; the input reads as it did. -/
def fnExactLeastCounterSpec : ChangeSpec := { name := "fnExactLeastCounter", fn := fun _ => fun
  | [d1, d2] => { results := [.lit (.bool true)], args := [d1, d2] }
  | _ => none }
def fnExactLeastCounterRow : OpenClaim := { program := "ytapndnkcmmpdjaa", sum := "43b4b577ca4e67e8c9dfe18215c1acdb7bade82a4813bb2f198c177619849f19", func := "loop.example/g01105/laws.FnExactLeastCounter", spec := "fnExactLeastCounter", unfollowed := true, recurses := true, apart := false }
def FnExactLeastCounterSaid : Prop := fnExactLeastCounterRow.holds Try.pinned (OpenSpec.ofChange fnExactLeastCounterSpec)

/-- ITS FALSE NEIGHBOUR: 'it returns false'. Refute it at one input. -/
def fnExactLeastCounterWrong : ChangeSpec := { name := "fnExactLeastCounter", fn := fun _ => fun
  | [d1, d2] => { results := [.lit (.bool false)], args := [d1, d2] }
  | _ => none }
def FnExactLeastCounterWrongFalsely : Prop := fnExactLeastCounterRow.holds Try.pinned (OpenSpec.ofChange fnExactLeastCounterWrong)

/-- 'laws.FnExactTrivialProof': WHATEVER THE INPUT: true; the input reads as it did. -/
def fnExactTrivialProofSpec : ChangeSpec := { name := "fnExactTrivialProof", fn := fun _ => fun
  | [d] => { results := [.lit (.bool true)], args := [d] }
  | _ => none }
def fnExactTrivialProofRow : OpenClaim := { program := "ytapndnkcmmpdjaa", sum := "43b4b577ca4e67e8c9dfe18215c1acdb7bade82a4813bb2f198c177619849f19", func := "loop.example/g01105/laws.FnExactTrivialProof", spec := "fnExactTrivialProof", unfollowed := true, recurses := true, apart := false }
def FnExactTrivialProofSaid : Prop := fnExactTrivialProofRow.holds Try.pinned (OpenSpec.ofChange fnExactTrivialProofSpec)

/-- ITS FALSE NEIGHBOUR: 'it returns false'. Refute it at one input. -/
def fnExactTrivialProofWrong : ChangeSpec := { name := "fnExactTrivialProof", fn := fun _ => fun
  | [d] => { results := [.lit (.bool false)], args := [d] }
  | _ => none }
def FnExactTrivialProofWrongFalsely : Prop := fnExactTrivialProofRow.holds Try.pinned (OpenSpec.ofChange fnExactTrivialProofWrong)

/- THE SECOND FORM. 'bulk': how many values and letters a reading holds, each counted each time it is reached (what is shared counts as often as it is met; a slice's spare places count too). A statement '..UptoSaid' is the law's where the arguments, and the package variables that the reading takes, are together of bulk at most 1048576: NARROWER than '..Said'. Prove '..Said' where nothing that the law and all that it calls make is longer than what came in: it says more and counts as full. Else prove '..UptoSaid'. A law counts once. -/
mutual
def uptoBulk {H : Type} : DataW H → Nat
  | .lit (.string bytes) => bytes.length + 1
  | .lit _ => 1
  | .nil => 1
  | .ptr d => uptoBulk d + 1
  | .slice elems spare => uptoBulkAll elems + uptoBulkAll spare + 1
  | .agg parts => uptoBulkAll parts + 1
  | .iface _ d => uptoBulk d + 1
  | .map entries => uptoBulkEntries entries + 1
  | .held _ => 1
def uptoBulkAll {H : Type} : List (DataW H) → Nat
  | [] => 0
  | d :: r => uptoBulk d + uptoBulkAll r
def uptoBulkEntries {H : Type} : List (Lit × DataW H) → Nat
  | [] => 0
  | x :: r => uptoBulkEntry x + uptoBulkEntries r
def uptoBulkEntry {H : Type} : Lit × DataW H → Nat
  | (.string bytes, d) => bytes.length + uptoBulk d + 1
  | (_, d) => uptoBulk d + 1
 end
def uptoSmall : (H : Type) → List (DataW H) → Bool := fun _ ds => decide (uptoBulkAll ds ≤ 1048576)
def OpenSpec.upto (s : _root_.Go.ChangeSpec) : _root_.Go.OpenSpec := { _root_.Go.OpenSpec.ofChange s with cond := some uptoSmall }

/-- 'laws.FnExactSymbolsOf', WHERE WHAT IT READS IS OF BULK AT MOST 1048576: true; the input reads as it did. -/
def fnExactSymbolsOfUptoRow : OpenClaim := { program := "ytapndnkcmmpdjaa", sum := "43b4b577ca4e67e8c9dfe18215c1acdb7bade82a4813bb2f198c177619849f19", func := "loop.example/g01105/laws.FnExactSymbolsOf", spec := "fnExactSymbolsOf", unfollowed := true, recurses := true, apart := false, narrowed := true }
def FnExactSymbolsOfUptoSaid : Prop := fnExactSymbolsOfUptoRow.holds Try.pinned (OpenSpec.upto fnExactSymbolsOfSpec)

/-- 'laws.FnExactContextOf', WHERE WHAT IT READS IS OF BULK AT MOST 1048576: true; the input reads as it did. -/
def fnExactContextOfUptoRow : OpenClaim := { program := "ytapndnkcmmpdjaa", sum := "43b4b577ca4e67e8c9dfe18215c1acdb7bade82a4813bb2f198c177619849f19", func := "loop.example/g01105/laws.FnExactContextOf", spec := "fnExactContextOf", unfollowed := true, recurses := true, apart := false, narrowed := true }
def FnExactContextOfUptoSaid : Prop := fnExactContextOfUptoRow.holds Try.pinned (OpenSpec.upto fnExactContextOfSpec)

/-- 'laws.FnExactLeastCounter', WHERE WHAT IT READS IS OF BULK AT MOST 1048576: true; the input reads as it did. -/
def fnExactLeastCounterUptoRow : OpenClaim := { program := "ytapndnkcmmpdjaa", sum := "43b4b577ca4e67e8c9dfe18215c1acdb7bade82a4813bb2f198c177619849f19", func := "loop.example/g01105/laws.FnExactLeastCounter", spec := "fnExactLeastCounter", unfollowed := true, recurses := true, apart := false, narrowed := true }
def FnExactLeastCounterUptoSaid : Prop := fnExactLeastCounterUptoRow.holds Try.pinned (OpenSpec.upto fnExactLeastCounterSpec)

/-- 'laws.FnExactTrivialProof', WHERE WHAT IT READS IS OF BULK AT MOST 1048576: true; the input reads as it did. -/
def fnExactTrivialProofUptoRow : OpenClaim := { program := "ytapndnkcmmpdjaa", sum := "43b4b577ca4e67e8c9dfe18215c1acdb7bade82a4813bb2f198c177619849f19", func := "loop.example/g01105/laws.FnExactTrivialProof", spec := "fnExactTrivialProof", unfollowed := true, recurses := true, apart := false, narrowed := true }
def FnExactTrivialProofUptoSaid : Prop := fnExactTrivialProofUptoRow.holds Try.pinned (OpenSpec.upto fnExactTrivialProofSpec)

end Rows
end Go.Proofs.Ytapndnkcmmpdjaa
