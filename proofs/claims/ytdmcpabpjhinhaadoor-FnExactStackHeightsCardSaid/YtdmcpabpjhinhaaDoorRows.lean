/-
  NARROWER THAN 'FOR EVERY INPUT', by the rows' own cells (each row's printed sentence says how): FnExactReachableCode: ifaces, laid · FnExactStackHeights: ifaces, laid.
  DERIVED. THE GIVEN ROWS OF THIS SEAT. 2 by the template 'for every input the law returns true; each argument reads behind the call as it read before'; 0 by the template 'total and deterministic' (their statements: YtdmcpabpjhinhaaDoorTotals.lean).
  GIVEN WITH THE SEED: the statements are not yours to turn. If you find one false, say at which input.
  Laid BY PROGRAM, IN A SANDBOX (cutbox-rows.mjs): the forced cells as the released guide's own fill.sh prints them over the translation b782964019014015… (all of the seat's roots in one cut). By AI agents, Wed Nov 11 2026. No macro, syntax, notation, axiom, sorry.
-/
import Derived.Test.YtdmcpabpjhinhaaDoorChecked
import GoSem.Claim
import GoSem.ClaimJoined
import GoSem.ClaimMapViews
import Derived.JoinedTies
import Derived.KernelRfl
namespace Go.Proofs.YtdmcpabpjhinhaaDoor
/- THE CELL 'sum', in the pinned program and in every row, IS THE sha256 OF THE DUMP (.gsa) THAT YtdmcpabpjhinhaaDoorProg.lean LOADS. Nothing in Lean hashes anything: it is a label: what it is worth is what the hold of that sum in a sandbox is worth. -/
noncomputable def Tryd.pinned : Pinned := { name := "ytdmcpabpjhinhaadoor", sum := "b78296401901401595557d36ac748196d47e3f094e8d64d2168b626e3114b243", checked := Tryd.checked }
namespace Rows
def none {H : Type} : Left H := { results := [], args := [] }

/- WHAT THE LISTED PACKAGE-LEVEL VARIABLES READ AS WHEN THE CALL BEGINS. Each datum BY PROGRAM (the guide's laid-datum.mjs) off the statement by which the dump's own 'gosem.cut.vars' lays the variable. In a bare row this is a premise. The card (YtdmcpabpjhinhaaDoorCards.lean) ties it to the program's text. -/
def laid_loop_example_g01105_impl_errStuck {H : Type} : DataW H := .iface "*errors.errorString" (.ptr (.agg [.lit (.string [110, 111, 32, 119, 97, 121, 32, 111, 110, 32, 119, 105, 116, 104, 105, 110, 32, 116, 104, 101, 32, 108, 105, 109, 105, 116, 115])]))

/-- 'laws.FnExactReachableCode': WHATEVER THE INPUT: true; the input reads as it did. -/
def fnExactReachableCodeSpec : ChangeSpec := { name := "fnExactReachableCode", vars := ["loop.example/g01105/impl.errStuck"], fn := fun _ => fun
  | [d, g1] => { results := [.lit (.bool true)], args := [d], vars := [g1] }
  | _ => none }
def fnExactReachableCodeRow : OpenClaim := { program := "ytdmcpabpjhinhaadoor", sum := "b78296401901401595557d36ac748196d47e3f094e8d64d2168b626e3114b243", func := "loop.example/g01105/laws.FnExactReachableCode", spec := "fnExactReachableCode", unfollowed := true, recurses := true, named := ["loop.example/g01105/impl.errStuck"], ifaces := true, apart := false, laid := [("loop.example/g01105/impl.errStuck", laid_loop_example_g01105_impl_errStuck)] }
def FnExactReachableCodeSaid : Prop := fnExactReachableCodeRow.holds Tryd.pinned (OpenSpec.ofChange fnExactReachableCodeSpec)

/-- ITS FALSE NEIGHBOUR: 'it returns false'. Refute it at one input. -/
def fnExactReachableCodeWrong : ChangeSpec := { name := "fnExactReachableCode", vars := ["loop.example/g01105/impl.errStuck"], fn := fun _ => fun
  | [d, g1] => { results := [.lit (.bool false)], args := [d], vars := [g1] }
  | _ => none }
def FnExactReachableCodeWrongFalsely : Prop := fnExactReachableCodeRow.holds Tryd.pinned (OpenSpec.ofChange fnExactReachableCodeWrong)

/-- 'laws.FnExactStackHeights': WHATEVER THE INPUT: true; the input reads as it did. -/
def fnExactStackHeightsSpec : ChangeSpec := { name := "fnExactStackHeights", vars := ["loop.example/g01105/impl.errStuck"], fn := fun _ => fun
  | [d, g1] => { results := [.lit (.bool true)], args := [d], vars := [g1] }
  | _ => none }
def fnExactStackHeightsRow : OpenClaim := { program := "ytdmcpabpjhinhaadoor", sum := "b78296401901401595557d36ac748196d47e3f094e8d64d2168b626e3114b243", func := "loop.example/g01105/laws.FnExactStackHeights", spec := "fnExactStackHeights", unfollowed := true, recurses := true, named := ["loop.example/g01105/impl.errStuck"], ifaces := true, apart := false, laid := [("loop.example/g01105/impl.errStuck", laid_loop_example_g01105_impl_errStuck)] }
def FnExactStackHeightsSaid : Prop := fnExactStackHeightsRow.holds Tryd.pinned (OpenSpec.ofChange fnExactStackHeightsSpec)

/-- ITS FALSE NEIGHBOUR: 'it returns false'. Refute it at one input. -/
def fnExactStackHeightsWrong : ChangeSpec := { name := "fnExactStackHeights", vars := ["loop.example/g01105/impl.errStuck"], fn := fun _ => fun
  | [d, g1] => { results := [.lit (.bool false)], args := [d], vars := [g1] }
  | _ => none }
def FnExactStackHeightsWrongFalsely : Prop := fnExactStackHeightsRow.holds Tryd.pinned (OpenSpec.ofChange fnExactStackHeightsWrong)

/- THE SECOND FORM. 'bulk': how many values and letters a reading holds, each counted each time it is reached (what is shared counts as often as it is met; a slice's spare places count too). A statement '..UptoSaid' is the law's where the arguments, and the package variables that the reading takes, are together of bulk at most 1048576: NARROWER than '..Said'. Prove '..Said' where nothing that the law and all that it calls make is longer than what came in: it says more and counts as full. Else prove '..UptoSaid'. A law counts once. -/
mutual
def uptoBulk {H : Type} : DataW H → Nat
  | .lit (.string bytes) => bytes.length + 1
  | .lit _ => 1
  | .nil => 1
  | .ptr d => uptoBulk d + 1
  | .slice elems spare => uptoBulkAll elems + uptoBulkAll spare + 1
  | .agg parts => uptoBulkAll parts + 1
  | .iface _ d => uptoBulk d + 1
  | .map entries => uptoBulkEntries entries + 1
  | .held _ => 1
def uptoBulkAll {H : Type} : List (DataW H) → Nat
  | [] => 0
  | d :: r => uptoBulk d + uptoBulkAll r
def uptoBulkEntries {H : Type} : List (Lit × DataW H) → Nat
  | [] => 0
  | x :: r => uptoBulkEntry x + uptoBulkEntries r
def uptoBulkEntry {H : Type} : Lit × DataW H → Nat
  | (.string bytes, d) => bytes.length + uptoBulk d + 1
  | (_, d) => uptoBulk d + 1
 end
def uptoSmall : (H : Type) → List (DataW H) → Bool := fun _ ds => decide (uptoBulkAll ds ≤ 1048576)
def OpenSpec.upto (s : _root_.Go.ChangeSpec) : _root_.Go.OpenSpec := { _root_.Go.OpenSpec.ofChange s with cond := some uptoSmall }

/-- 'laws.FnExactReachableCode', WHERE WHAT IT READS IS OF BULK AT MOST 1048576: true; the input reads as it did. -/
def fnExactReachableCodeUptoRow : OpenClaim := { program := "ytdmcpabpjhinhaadoor", sum := "b78296401901401595557d36ac748196d47e3f094e8d64d2168b626e3114b243", func := "loop.example/g01105/laws.FnExactReachableCode", spec := "fnExactReachableCode", unfollowed := true, recurses := true, named := ["loop.example/g01105/impl.errStuck"], ifaces := true, apart := false, laid := [("loop.example/g01105/impl.errStuck", laid_loop_example_g01105_impl_errStuck)], narrowed := true }
def FnExactReachableCodeUptoSaid : Prop := fnExactReachableCodeUptoRow.holds Tryd.pinned (OpenSpec.upto fnExactReachableCodeSpec)

/-- 'laws.FnExactStackHeights', WHERE WHAT IT READS IS OF BULK AT MOST 1048576: true; the input reads as it did. -/
def fnExactStackHeightsUptoRow : OpenClaim := { program := "ytdmcpabpjhinhaadoor", sum := "b78296401901401595557d36ac748196d47e3f094e8d64d2168b626e3114b243", func := "loop.example/g01105/laws.FnExactStackHeights", spec := "fnExactStackHeights", unfollowed := true, recurses := true, named := ["loop.example/g01105/impl.errStuck"], ifaces := true, apart := false, laid := [("loop.example/g01105/impl.errStuck", laid_loop_example_g01105_impl_errStuck)], narrowed := true }
def FnExactStackHeightsUptoSaid : Prop := fnExactStackHeightsUptoRow.holds Tryd.pinned (OpenSpec.upto fnExactStackHeightsSpec)

end Rows
end Go.Proofs.YtdmcpabpjhinhaaDoor
