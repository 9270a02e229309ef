/-
  NARROWER THAN 'FOR EVERY INPUT', by the rows' own cells (each row's printed sentence says how): FnExactIsProof: laid · FnExactSubproofAt: laid · FnExactDepthOf: laid · FnExactContextAt: laid · FnExactCheckProof: laid · FnExactUsedFacts: laid · FnExactAreProved: laid.
  DERIVED. THE GIVEN ROWS OF THIS SEAT. 7 by the template 'for every input the law returns true; each argument reads behind the call as it read before'; 0 by the template 'total and deterministic' (their statements: YtejgpooghengmaaDoorTotals.lean).
  GIVEN WITH THE SEED: the statements are not yours to turn. If you find one false, say at which input.
  Laid BY PROGRAM, IN A SANDBOX (cutbox-rows.mjs): the forced cells as the released guide's own fill.sh prints them over the translation d17fd523d608af1b… (all of the seat's roots in one cut). By AI agents, Wed Nov 11 2026. No macro, syntax, notation, axiom, sorry.
-/
import Derived.Test.YtejgpooghengmaaDoorChecked
import GoSem.Claim
import GoSem.ClaimJoined
import GoSem.ClaimMapViews
import Derived.JoinedTies
import Derived.KernelRfl
namespace Go.Proofs.YtejgpooghengmaaDoor
/- THE CELL 'sum', in the pinned program and in every row, IS THE sha256 OF THE DUMP (.gsa) THAT YtejgpooghengmaaDoorProg.lean LOADS. Nothing in Lean hashes anything: it is a label: what it is worth is what the hold of that sum in a sandbox is worth. -/
noncomputable def Tryd.pinned : Pinned := { name := "ytejgpooghengmaadoor", sum := "d17fd523d608af1b937b10b03ec0d1b78ff3d5f36a9e54f189639e8e2d7789d5", checked := Tryd.checked }
namespace Rows
def none {H : Type} : Left H := { results := [], args := [] }

/- WHAT THE LISTED PACKAGE-LEVEL VARIABLES READ AS WHEN THE CALL BEGINS. Each datum BY PROGRAM (the guide's laid-datum.mjs) off the statement by which the dump's own 'gosem.cut.vars' lays the variable. In a bare row this is a premise. The card (YtejgpooghengmaaDoorCards.lean) ties it to the program's text. -/
def laid_loop_example_g01105_impl_nodeForms {H : Type} : DataW H := .agg [.agg [.lit (.string []), .lit (.int .i64 0), .lit (.bool false), .lit (.int .i64 0), .lit (.int .i64 0)], .agg [.lit (.string [99]), .lit (.int .i64 0), .lit (.bool false), .lit (.int .i64 20), .lit (.int .i64 0)], .agg [.lit (.string [115]), .lit (.int .i64 0), .lit (.bool true), .lit (.int .i64 0), .lit (.int .i64 2)], .agg [.lit (.string [116]), .lit (.int .i64 19), .lit (.bool false), .lit (.int .i64 0), .lit (.int .i64 1)]]

/-- 'laws.FnExactIsProof': WHATEVER THE INPUT: true; the input reads as it did. -/
def fnExactIsProofSpec : ChangeSpec := { name := "fnExactIsProof", vars := ["loop.example/g01105/impl.nodeForms"], fn := fun _ => fun
  | [d, g1] => { results := [.lit (.bool true)], args := [d], vars := [g1] }
  | _ => none }
def fnExactIsProofRow : OpenClaim := { program := "ytejgpooghengmaadoor", sum := "d17fd523d608af1b937b10b03ec0d1b78ff3d5f36a9e54f189639e8e2d7789d5", func := "loop.example/g01105/laws.FnExactIsProof", spec := "fnExactIsProof", unfollowed := true, recurses := true, named := ["loop.example/g01105/impl.nodeForms"], apart := false, laid := [("loop.example/g01105/impl.nodeForms", laid_loop_example_g01105_impl_nodeForms)] }
def FnExactIsProofSaid : Prop := fnExactIsProofRow.holds Tryd.pinned (OpenSpec.ofChange fnExactIsProofSpec)

/-- ITS FALSE NEIGHBOUR: 'it returns false'. Refute it at one input. -/
def fnExactIsProofWrong : ChangeSpec := { name := "fnExactIsProof", vars := ["loop.example/g01105/impl.nodeForms"], fn := fun _ => fun
  | [d, g1] => { results := [.lit (.bool false)], args := [d], vars := [g1] }
  | _ => none }
def FnExactIsProofWrongFalsely : Prop := fnExactIsProofRow.holds Tryd.pinned (OpenSpec.ofChange fnExactIsProofWrong)

/-- 'laws.FnExactSubproofAt': WHATEVER THE INPUT: true; the input reads as it did. -/
def fnExactSubproofAtSpec : ChangeSpec := { name := "fnExactSubproofAt", vars := ["loop.example/g01105/impl.nodeForms"], fn := fun _ => fun
  | [d1, d2, g1] => { results := [.lit (.bool true)], args := [d1, d2], vars := [g1] }
  | _ => none }
def fnExactSubproofAtRow : OpenClaim := { program := "ytejgpooghengmaadoor", sum := "d17fd523d608af1b937b10b03ec0d1b78ff3d5f36a9e54f189639e8e2d7789d5", func := "loop.example/g01105/laws.FnExactSubproofAt", spec := "fnExactSubproofAt", unfollowed := true, recurses := true, named := ["loop.example/g01105/impl.nodeForms"], apart := false, laid := [("loop.example/g01105/impl.nodeForms", laid_loop_example_g01105_impl_nodeForms)] }
def FnExactSubproofAtSaid : Prop := fnExactSubproofAtRow.holds Tryd.pinned (OpenSpec.ofChange fnExactSubproofAtSpec)

/-- ITS FALSE NEIGHBOUR: 'it returns false'. Refute it at one input. -/
def fnExactSubproofAtWrong : ChangeSpec := { name := "fnExactSubproofAt", vars := ["loop.example/g01105/impl.nodeForms"], fn := fun _ => fun
  | [d1, d2, g1] => { results := [.lit (.bool false)], args := [d1, d2], vars := [g1] }
  | _ => none }
def FnExactSubproofAtWrongFalsely : Prop := fnExactSubproofAtRow.holds Tryd.pinned (OpenSpec.ofChange fnExactSubproofAtWrong)

/-- 'laws.FnExactDepthOf': WHATEVER THE INPUT: true; the input reads as it did. -/
def fnExactDepthOfSpec : ChangeSpec := { name := "fnExactDepthOf", vars := ["loop.example/g01105/impl.nodeForms"], fn := fun _ => fun
  | [d, g1] => { results := [.lit (.bool true)], args := [d], vars := [g1] }
  | _ => none }
def fnExactDepthOfRow : OpenClaim := { program := "ytejgpooghengmaadoor", sum := "d17fd523d608af1b937b10b03ec0d1b78ff3d5f36a9e54f189639e8e2d7789d5", func := "loop.example/g01105/laws.FnExactDepthOf", spec := "fnExactDepthOf", unfollowed := true, recurses := true, named := ["loop.example/g01105/impl.nodeForms"], apart := false, laid := [("loop.example/g01105/impl.nodeForms", laid_loop_example_g01105_impl_nodeForms)] }
def FnExactDepthOfSaid : Prop := fnExactDepthOfRow.holds Tryd.pinned (OpenSpec.ofChange fnExactDepthOfSpec)

/-- ITS FALSE NEIGHBOUR: 'it returns false'. Refute it at one input. -/
def fnExactDepthOfWrong : ChangeSpec := { name := "fnExactDepthOf", vars := ["loop.example/g01105/impl.nodeForms"], fn := fun _ => fun
  | [d, g1] => { results := [.lit (.bool false)], args := [d], vars := [g1] }
  | _ => none }
def FnExactDepthOfWrongFalsely : Prop := fnExactDepthOfRow.holds Tryd.pinned (OpenSpec.ofChange fnExactDepthOfWrong)

/-- 'laws.FnExactContextAt': WHATEVER THE INPUT: true; the input reads as it did. -/
def fnExactContextAtSpec : ChangeSpec := { name := "fnExactContextAt", vars := ["loop.example/g01105/impl.nodeForms"], fn := fun _ => fun
  | [d1, d2, d3, g1] => { results := [.lit (.bool true)], args := [d1, d2, d3], vars := [g1] }
  | _ => none }
def fnExactContextAtRow : OpenClaim := { program := "ytejgpooghengmaadoor", sum := "d17fd523d608af1b937b10b03ec0d1b78ff3d5f36a9e54f189639e8e2d7789d5", func := "loop.example/g01105/laws.FnExactContextAt", spec := "fnExactContextAt", unfollowed := true, recurses := true, named := ["loop.example/g01105/impl.nodeForms"], apart := false, laid := [("loop.example/g01105/impl.nodeForms", laid_loop_example_g01105_impl_nodeForms)] }
def FnExactContextAtSaid : Prop := fnExactContextAtRow.holds Tryd.pinned (OpenSpec.ofChange fnExactContextAtSpec)

/-- ITS FALSE NEIGHBOUR: 'it returns false'. Refute it at one input. -/
def fnExactContextAtWrong : ChangeSpec := { name := "fnExactContextAt", vars := ["loop.example/g01105/impl.nodeForms"], fn := fun _ => fun
  | [d1, d2, d3, g1] => { results := [.lit (.bool false)], args := [d1, d2, d3], vars := [g1] }
  | _ => none }
def FnExactContextAtWrongFalsely : Prop := fnExactContextAtRow.holds Tryd.pinned (OpenSpec.ofChange fnExactContextAtWrong)

/-- 'laws.FnExactCheckProof': WHATEVER THE INPUT: true; the input reads as it did. -/
def fnExactCheckProofSpec : ChangeSpec := { name := "fnExactCheckProof", vars := ["loop.example/g01105/impl.nodeForms"], fn := fun _ => fun
  | [d1, d2, g1] => { results := [.lit (.bool true)], args := [d1, d2], vars := [g1] }
  | _ => none }
def fnExactCheckProofRow : OpenClaim := { program := "ytejgpooghengmaadoor", sum := "d17fd523d608af1b937b10b03ec0d1b78ff3d5f36a9e54f189639e8e2d7789d5", func := "loop.example/g01105/laws.FnExactCheckProof", spec := "fnExactCheckProof", unfollowed := true, recurses := true, named := ["loop.example/g01105/impl.nodeForms"], apart := false, laid := [("loop.example/g01105/impl.nodeForms", laid_loop_example_g01105_impl_nodeForms)] }
def FnExactCheckProofSaid : Prop := fnExactCheckProofRow.holds Tryd.pinned (OpenSpec.ofChange fnExactCheckProofSpec)

/-- ITS FALSE NEIGHBOUR: 'it returns false'. Refute it at one input. -/
def fnExactCheckProofWrong : ChangeSpec := { name := "fnExactCheckProof", vars := ["loop.example/g01105/impl.nodeForms"], fn := fun _ => fun
  | [d1, d2, g1] => { results := [.lit (.bool false)], args := [d1, d2], vars := [g1] }
  | _ => none }
def FnExactCheckProofWrongFalsely : Prop := fnExactCheckProofRow.holds Tryd.pinned (OpenSpec.ofChange fnExactCheckProofWrong)

/-- 'laws.FnExactUsedFacts': WHATEVER THE INPUT: true; the input reads as it did. -/
def fnExactUsedFactsSpec : ChangeSpec := { name := "fnExactUsedFacts", vars := ["loop.example/g01105/impl.nodeForms"], fn := fun _ => fun
  | [d1, d2, g1] => { results := [.lit (.bool true)], args := [d1, d2], vars := [g1] }
  | _ => none }
def fnExactUsedFactsRow : OpenClaim := { program := "ytejgpooghengmaadoor", sum := "d17fd523d608af1b937b10b03ec0d1b78ff3d5f36a9e54f189639e8e2d7789d5", func := "loop.example/g01105/laws.FnExactUsedFacts", spec := "fnExactUsedFacts", unfollowed := true, recurses := true, named := ["loop.example/g01105/impl.nodeForms"], apart := false, laid := [("loop.example/g01105/impl.nodeForms", laid_loop_example_g01105_impl_nodeForms)] }
def FnExactUsedFactsSaid : Prop := fnExactUsedFactsRow.holds Tryd.pinned (OpenSpec.ofChange fnExactUsedFactsSpec)

/-- ITS FALSE NEIGHBOUR: 'it returns false'. Refute it at one input. -/
def fnExactUsedFactsWrong : ChangeSpec := { name := "fnExactUsedFacts", vars := ["loop.example/g01105/impl.nodeForms"], fn := fun _ => fun
  | [d1, d2, g1] => { results := [.lit (.bool false)], args := [d1, d2], vars := [g1] }
  | _ => none }
def FnExactUsedFactsWrongFalsely : Prop := fnExactUsedFactsRow.holds Tryd.pinned (OpenSpec.ofChange fnExactUsedFactsWrong)

/-- 'laws.FnExactAreProved': WHATEVER THE INPUT: true; the input reads as it did. -/
def fnExactAreProvedSpec : ChangeSpec := { name := "fnExactAreProved", vars := ["loop.example/g01105/impl.nodeForms"], fn := fun _ => fun
  | [d1, d2, g1] => { results := [.lit (.bool true)], args := [d1, d2], vars := [g1] }
  | _ => none }
def fnExactAreProvedRow : OpenClaim := { program := "ytejgpooghengmaadoor", sum := "d17fd523d608af1b937b10b03ec0d1b78ff3d5f36a9e54f189639e8e2d7789d5", func := "loop.example/g01105/laws.FnExactAreProved", spec := "fnExactAreProved", unfollowed := true, recurses := true, named := ["loop.example/g01105/impl.nodeForms"], apart := false, laid := [("loop.example/g01105/impl.nodeForms", laid_loop_example_g01105_impl_nodeForms)] }
def FnExactAreProvedSaid : Prop := fnExactAreProvedRow.holds Tryd.pinned (OpenSpec.ofChange fnExactAreProvedSpec)

/-- ITS FALSE NEIGHBOUR: 'it returns false'. Refute it at one input. -/
def fnExactAreProvedWrong : ChangeSpec := { name := "fnExactAreProved", vars := ["loop.example/g01105/impl.nodeForms"], fn := fun _ => fun
  | [d1, d2, g1] => { results := [.lit (.bool false)], args := [d1, d2], vars := [g1] }
  | _ => none }
def FnExactAreProvedWrongFalsely : Prop := fnExactAreProvedRow.holds Tryd.pinned (OpenSpec.ofChange fnExactAreProvedWrong)

/- THE SECOND FORM. 'bulk': how many values and letters a reading holds, each counted each time it is reached (what is shared counts as often as it is met; a slice's spare places count too). A statement '..UptoSaid' is the law's where the arguments, and the package variables that the reading takes, are together of bulk at most 1048576: NARROWER than '..Said'. Prove '..Said' where nothing that the law and all that it calls make is longer than what came in: it says more and counts as full. Else prove '..UptoSaid'. A law counts once. -/
mutual
def uptoBulk {H : Type} : DataW H → Nat
  | .lit (.string bytes) => bytes.length + 1
  | .lit _ => 1
  | .nil => 1
  | .ptr d => uptoBulk d + 1
  | .slice elems spare => uptoBulkAll elems + uptoBulkAll spare + 1
  | .agg parts => uptoBulkAll parts + 1
  | .iface _ d => uptoBulk d + 1
  | .map entries => uptoBulkEntries entries + 1
  | .held _ => 1
def uptoBulkAll {H : Type} : List (DataW H) → Nat
  | [] => 0
  | d :: r => uptoBulk d + uptoBulkAll r
def uptoBulkEntries {H : Type} : List (Lit × DataW H) → Nat
  | [] => 0
  | x :: r => uptoBulkEntry x + uptoBulkEntries r
def uptoBulkEntry {H : Type} : Lit × DataW H → Nat
  | (.string bytes, d) => bytes.length + uptoBulk d + 1
  | (_, d) => uptoBulk d + 1
 end
def uptoSmall : (H : Type) → List (DataW H) → Bool := fun _ ds => decide (uptoBulkAll ds ≤ 1048576)
def OpenSpec.upto (s : _root_.Go.ChangeSpec) : _root_.Go.OpenSpec := { _root_.Go.OpenSpec.ofChange s with cond := some uptoSmall }

/-- 'laws.FnExactIsProof', WHERE WHAT IT READS IS OF BULK AT MOST 1048576: true; the input reads as it did. -/
def fnExactIsProofUptoRow : OpenClaim := { program := "ytejgpooghengmaadoor", sum := "d17fd523d608af1b937b10b03ec0d1b78ff3d5f36a9e54f189639e8e2d7789d5", func := "loop.example/g01105/laws.FnExactIsProof", spec := "fnExactIsProof", unfollowed := true, recurses := true, named := ["loop.example/g01105/impl.nodeForms"], apart := false, laid := [("loop.example/g01105/impl.nodeForms", laid_loop_example_g01105_impl_nodeForms)], narrowed := true }
def FnExactIsProofUptoSaid : Prop := fnExactIsProofUptoRow.holds Tryd.pinned (OpenSpec.upto fnExactIsProofSpec)

/-- 'laws.FnExactSubproofAt', WHERE WHAT IT READS IS OF BULK AT MOST 1048576: true; the input reads as it did. -/
def fnExactSubproofAtUptoRow : OpenClaim := { program := "ytejgpooghengmaadoor", sum := "d17fd523d608af1b937b10b03ec0d1b78ff3d5f36a9e54f189639e8e2d7789d5", func := "loop.example/g01105/laws.FnExactSubproofAt", spec := "fnExactSubproofAt", unfollowed := true, recurses := true, named := ["loop.example/g01105/impl.nodeForms"], apart := false, laid := [("loop.example/g01105/impl.nodeForms", laid_loop_example_g01105_impl_nodeForms)], narrowed := true }
def FnExactSubproofAtUptoSaid : Prop := fnExactSubproofAtUptoRow.holds Tryd.pinned (OpenSpec.upto fnExactSubproofAtSpec)

/-- 'laws.FnExactDepthOf', WHERE WHAT IT READS IS OF BULK AT MOST 1048576: true; the input reads as it did. -/
def fnExactDepthOfUptoRow : OpenClaim := { program := "ytejgpooghengmaadoor", sum := "d17fd523d608af1b937b10b03ec0d1b78ff3d5f36a9e54f189639e8e2d7789d5", func := "loop.example/g01105/laws.FnExactDepthOf", spec := "fnExactDepthOf", unfollowed := true, recurses := true, named := ["loop.example/g01105/impl.nodeForms"], apart := false, laid := [("loop.example/g01105/impl.nodeForms", laid_loop_example_g01105_impl_nodeForms)], narrowed := true }
def FnExactDepthOfUptoSaid : Prop := fnExactDepthOfUptoRow.holds Tryd.pinned (OpenSpec.upto fnExactDepthOfSpec)

/-- 'laws.FnExactContextAt', WHERE WHAT IT READS IS OF BULK AT MOST 1048576: true; the input reads as it did. -/
def fnExactContextAtUptoRow : OpenClaim := { program := "ytejgpooghengmaadoor", sum := "d17fd523d608af1b937b10b03ec0d1b78ff3d5f36a9e54f189639e8e2d7789d5", func := "loop.example/g01105/laws.FnExactContextAt", spec := "fnExactContextAt", unfollowed := true, recurses := true, named := ["loop.example/g01105/impl.nodeForms"], apart := false, laid := [("loop.example/g01105/impl.nodeForms", laid_loop_example_g01105_impl_nodeForms)], narrowed := true }
def FnExactContextAtUptoSaid : Prop := fnExactContextAtUptoRow.holds Tryd.pinned (OpenSpec.upto fnExactContextAtSpec)

/-- 'laws.FnExactCheckProof', WHERE WHAT IT READS IS OF BULK AT MOST 1048576: true; the input reads as it did. -/
def fnExactCheckProofUptoRow : OpenClaim := { program := "ytejgpooghengmaadoor", sum := "d17fd523d608af1b937b10b03ec0d1b78ff3d5f36a9e54f189639e8e2d7789d5", func := "loop.example/g01105/laws.FnExactCheckProof", spec := "fnExactCheckProof", unfollowed := true, recurses := true, named := ["loop.example/g01105/impl.nodeForms"], apart := false, laid := [("loop.example/g01105/impl.nodeForms", laid_loop_example_g01105_impl_nodeForms)], narrowed := true }
def FnExactCheckProofUptoSaid : Prop := fnExactCheckProofUptoRow.holds Tryd.pinned (OpenSpec.upto fnExactCheckProofSpec)

/-- 'laws.FnExactUsedFacts', WHERE WHAT IT READS IS OF BULK AT MOST 1048576: true; the input reads as it did. -/
def fnExactUsedFactsUptoRow : OpenClaim := { program := "ytejgpooghengmaadoor", sum := "d17fd523d608af1b937b10b03ec0d1b78ff3d5f36a9e54f189639e8e2d7789d5", func := "loop.example/g01105/laws.FnExactUsedFacts", spec := "fnExactUsedFacts", unfollowed := true, recurses := true, named := ["loop.example/g01105/impl.nodeForms"], apart := false, laid := [("loop.example/g01105/impl.nodeForms", laid_loop_example_g01105_impl_nodeForms)], narrowed := true }
def FnExactUsedFactsUptoSaid : Prop := fnExactUsedFactsUptoRow.holds Tryd.pinned (OpenSpec.upto fnExactUsedFactsSpec)

/-- 'laws.FnExactAreProved', WHERE WHAT IT READS IS OF BULK AT MOST 1048576: true; the input reads as it did. -/
def fnExactAreProvedUptoRow : OpenClaim := { program := "ytejgpooghengmaadoor", sum := "d17fd523d608af1b937b10b03ec0d1b78ff3d5f36a9e54f189639e8e2d7789d5", func := "loop.example/g01105/laws.FnExactAreProved", spec := "fnExactAreProved", unfollowed := true, recurses := true, named := ["loop.example/g01105/impl.nodeForms"], apart := false, laid := [("loop.example/g01105/impl.nodeForms", laid_loop_example_g01105_impl_nodeForms)], narrowed := true }
def FnExactAreProvedUptoSaid : Prop := fnExactAreProvedUptoRow.holds Tryd.pinned (OpenSpec.upto fnExactAreProvedSpec)

end Rows
end Go.Proofs.YtejgpooghengmaaDoor
