/-
  No cell of these rows narrows 'for every input' (looked for: loops, veiled, ifaces, maps, wideKeys, modest, calm, conditions, laid).
  DERIVED. THE GIVEN ROWS OF THIS SEAT. 4 by the template 'for every input the law returns true; each argument reads behind the call as it read before'; 0 by the template 'total and deterministic' (their statements: YtopijecdhjnipaaTotals.lean).
  GIVEN WITH THE SEED: the statements are not yours to turn. If you find one false, say at which input.
  Laid BY PROGRAM, IN A SANDBOX (cutbox-rows.mjs): the forced cells as the released guide's own fill.sh prints them over the translation cba374c5f4b7fe42… (all of the seat's roots in one cut). By AI agents, Wed Nov 11 2026. No macro, syntax, notation, axiom, sorry.
-/
import Derived.Test.YtopijecdhjnipaaChecked
import GoSem.Claim
import GoSem.ClaimJoined
import GoSem.ClaimMapViews
import Derived.JoinedTies
import Derived.KernelRfl
namespace Go.Proofs.Ytopijecdhjnipaa
/- THE CELL 'sum', in the pinned program and in every row, IS THE sha256 OF THE DUMP (.gsa) THAT YtopijecdhjnipaaProg.lean LOADS. Nothing in Lean hashes anything: it is a label: what it is worth is what the hold of that sum in a sandbox is worth. -/
noncomputable def Try.pinned : Pinned := { name := "ytopijecdhjnipaa", sum := "cba374c5f4b7fe42a3d03c534a622157f621301b76a875523974c3b1ec1e37f6", checked := Try.checked }
namespace Rows
def none {H : Type} : Left H := { results := [], args := [] }

/-- 'laws.FnExactMinimalPolicy': WHATEVER THE INPUT: true; the input reads as it did. -/
def fnExactMinimalPolicySpec : ChangeSpec := { name := "fnExactMinimalPolicy", fn := fun _ => fun
  | [d] => { results := [.lit (.bool true)], args := [d] }
  | _ => none }
def fnExactMinimalPolicyRow : OpenClaim := { program := "ytopijecdhjnipaa", sum := "cba374c5f4b7fe42a3d03c534a622157f621301b76a875523974c3b1ec1e37f6", func := "loop.example/g01105/laws.FnExactMinimalPolicy", spec := "fnExactMinimalPolicy", unfollowed := true, recurses := true, plainKeys := false, apart := false }
def FnExactMinimalPolicySaid : Prop := fnExactMinimalPolicyRow.holds Try.pinned (OpenSpec.ofChange fnExactMinimalPolicySpec)

/-- ITS FALSE NEIGHBOUR: 'it returns false'. Refute it at one input. -/
def fnExactMinimalPolicyWrong : ChangeSpec := { name := "fnExactMinimalPolicy", fn := fun _ => fun
  | [d] => { results := [.lit (.bool false)], args := [d] }
  | _ => none }
def FnExactMinimalPolicyWrongFalsely : Prop := fnExactMinimalPolicyRow.holds Try.pinned (OpenSpec.ofChange fnExactMinimalPolicyWrong)

/-- 'laws.FnExactBothPolicies': WHATEVER THE INPUT: true; the input reads as it did. -/
def fnExactBothPoliciesSpec : ChangeSpec := { name := "fnExactBothPolicies", fn := fun _ => fun
  | [d1, d2] => { results := [.lit (.bool true)], args := [d1, d2] }
  | _ => none }
def fnExactBothPoliciesRow : OpenClaim := { program := "ytopijecdhjnipaa", sum := "cba374c5f4b7fe42a3d03c534a622157f621301b76a875523974c3b1ec1e37f6", func := "loop.example/g01105/laws.FnExactBothPolicies", spec := "fnExactBothPolicies", unfollowed := true, recurses := true, plainKeys := false, apart := false }
def FnExactBothPoliciesSaid : Prop := fnExactBothPoliciesRow.holds Try.pinned (OpenSpec.ofChange fnExactBothPoliciesSpec)

/-- ITS FALSE NEIGHBOUR: 'it returns false'. Refute it at one input. -/
def fnExactBothPoliciesWrong : ChangeSpec := { name := "fnExactBothPolicies", fn := fun _ => fun
  | [d1, d2] => { results := [.lit (.bool false)], args := [d1, d2] }
  | _ => none }
def FnExactBothPoliciesWrongFalsely : Prop := fnExactBothPoliciesRow.holds Try.pinned (OpenSpec.ofChange fnExactBothPoliciesWrong)

/-- 'laws.FnExactIsStricter': WHATEVER THE INPUT: true; the input reads as it did. -/
def fnExactIsStricterSpec : ChangeSpec := { name := "fnExactIsStricter", fn := fun _ => fun
  | [d1, d2] => { results := [.lit (.bool true)], args := [d1, d2] }
  | _ => none }
def fnExactIsStricterRow : OpenClaim := { program := "ytopijecdhjnipaa", sum := "cba374c5f4b7fe42a3d03c534a622157f621301b76a875523974c3b1ec1e37f6", func := "loop.example/g01105/laws.FnExactIsStricter", spec := "fnExactIsStricter", unfollowed := true, recurses := true, plainKeys := false, apart := false }
def FnExactIsStricterSaid : Prop := fnExactIsStricterRow.holds Try.pinned (OpenSpec.ofChange fnExactIsStricterSpec)

/-- ITS FALSE NEIGHBOUR: 'it returns false'. Refute it at one input. -/
def fnExactIsStricterWrong : ChangeSpec := { name := "fnExactIsStricter", fn := fun _ => fun
  | [d1, d2] => { results := [.lit (.bool false)], args := [d1, d2] }
  | _ => none }
def FnExactIsStricterWrongFalsely : Prop := fnExactIsStricterRow.holds Try.pinned (OpenSpec.ofChange fnExactIsStricterWrong)

/-- 'laws.FnExactDifferenceOf': WHATEVER THE INPUT: true; the input reads as it did. -/
def fnExactDifferenceOfSpec : ChangeSpec := { name := "fnExactDifferenceOf", fn := fun _ => fun
  | [d1, d2] => { results := [.lit (.bool true)], args := [d1, d2] }
  | _ => none }
def fnExactDifferenceOfRow : OpenClaim := { program := "ytopijecdhjnipaa", sum := "cba374c5f4b7fe42a3d03c534a622157f621301b76a875523974c3b1ec1e37f6", func := "loop.example/g01105/laws.FnExactDifferenceOf", spec := "fnExactDifferenceOf", unfollowed := true, recurses := true, plainKeys := false, apart := false }
def FnExactDifferenceOfSaid : Prop := fnExactDifferenceOfRow.holds Try.pinned (OpenSpec.ofChange fnExactDifferenceOfSpec)

/-- ITS FALSE NEIGHBOUR: 'it returns false'. Refute it at one input. -/
def fnExactDifferenceOfWrong : ChangeSpec := { name := "fnExactDifferenceOf", fn := fun _ => fun
  | [d1, d2] => { results := [.lit (.bool false)], args := [d1, d2] }
  | _ => none }
def FnExactDifferenceOfWrongFalsely : Prop := fnExactDifferenceOfRow.holds Try.pinned (OpenSpec.ofChange fnExactDifferenceOfWrong)

/- THE SECOND FORM. 'bulk': how many values and letters a reading holds, each counted each time it is reached (what is shared counts as often as it is met; a slice's spare places count too). A statement '..UptoSaid' is the law's where the arguments, and the package variables that the reading takes, are together of bulk at most 1048576: NARROWER than '..Said'. Prove '..Said' where nothing that the law and all that it calls make is longer than what came in: it says more and counts as full. Else prove '..UptoSaid'. A law counts once. -/
mutual
def uptoBulk {H : Type} : DataW H → Nat
  | .lit (.string bytes) => bytes.length + 1
  | .lit _ => 1
  | .nil => 1
  | .ptr d => uptoBulk d + 1
  | .slice elems spare => uptoBulkAll elems + uptoBulkAll spare + 1
  | .agg parts => uptoBulkAll parts + 1
  | .iface _ d => uptoBulk d + 1
  | .map entries => uptoBulkEntries entries + 1
  | .held _ => 1
def uptoBulkAll {H : Type} : List (DataW H) → Nat
  | [] => 0
  | d :: r => uptoBulk d + uptoBulkAll r
def uptoBulkEntries {H : Type} : List (Lit × DataW H) → Nat
  | [] => 0
  | x :: r => uptoBulkEntry x + uptoBulkEntries r
def uptoBulkEntry {H : Type} : Lit × DataW H → Nat
  | (.string bytes, d) => bytes.length + uptoBulk d + 1
  | (_, d) => uptoBulk d + 1
 end
def uptoSmall : (H : Type) → List (DataW H) → Bool := fun _ ds => decide (uptoBulkAll ds ≤ 1048576)
def OpenSpec.upto (s : _root_.Go.ChangeSpec) : _root_.Go.OpenSpec := { _root_.Go.OpenSpec.ofChange s with cond := some uptoSmall }

/-- 'laws.FnExactMinimalPolicy', WHERE WHAT IT READS IS OF BULK AT MOST 1048576: true; the input reads as it did. -/
def fnExactMinimalPolicyUptoRow : OpenClaim := { program := "ytopijecdhjnipaa", sum := "cba374c5f4b7fe42a3d03c534a622157f621301b76a875523974c3b1ec1e37f6", func := "loop.example/g01105/laws.FnExactMinimalPolicy", spec := "fnExactMinimalPolicy", unfollowed := true, recurses := true, plainKeys := false, apart := false, narrowed := true }
def FnExactMinimalPolicyUptoSaid : Prop := fnExactMinimalPolicyUptoRow.holds Try.pinned (OpenSpec.upto fnExactMinimalPolicySpec)

/-- 'laws.FnExactBothPolicies', WHERE WHAT IT READS IS OF BULK AT MOST 1048576: true; the input reads as it did. -/
def fnExactBothPoliciesUptoRow : OpenClaim := { program := "ytopijecdhjnipaa", sum := "cba374c5f4b7fe42a3d03c534a622157f621301b76a875523974c3b1ec1e37f6", func := "loop.example/g01105/laws.FnExactBothPolicies", spec := "fnExactBothPolicies", unfollowed := true, recurses := true, plainKeys := false, apart := false, narrowed := true }
def FnExactBothPoliciesUptoSaid : Prop := fnExactBothPoliciesUptoRow.holds Try.pinned (OpenSpec.upto fnExactBothPoliciesSpec)

/-- 'laws.FnExactIsStricter', WHERE WHAT IT READS IS OF BULK AT MOST 1048576: true; the input reads as it did. -/
def fnExactIsStricterUptoRow : OpenClaim := { program := "ytopijecdhjnipaa", sum := "cba374c5f4b7fe42a3d03c534a622157f621301b76a875523974c3b1ec1e37f6", func := "loop.example/g01105/laws.FnExactIsStricter", spec := "fnExactIsStricter", unfollowed := true, recurses := true, plainKeys := false, apart := false, narrowed := true }
def FnExactIsStricterUptoSaid : Prop := fnExactIsStricterUptoRow.holds Try.pinned (OpenSpec.upto fnExactIsStricterSpec)

/-- 'laws.FnExactDifferenceOf', WHERE WHAT IT READS IS OF BULK AT MOST 1048576: true; the input reads as it did. -/
def fnExactDifferenceOfUptoRow : OpenClaim := { program := "ytopijecdhjnipaa", sum := "cba374c5f4b7fe42a3d03c534a622157f621301b76a875523974c3b1ec1e37f6", func := "loop.example/g01105/laws.FnExactDifferenceOf", spec := "fnExactDifferenceOf", unfollowed := true, recurses := true, plainKeys := false, apart := false, narrowed := true }
def FnExactDifferenceOfUptoSaid : Prop := fnExactDifferenceOfUptoRow.holds Try.pinned (OpenSpec.upto fnExactDifferenceOfSpec)

end Rows
end Go.Proofs.Ytopijecdhjnipaa
