/-
  No cell of these rows narrows 'for every input' (looked for: loops, veiled, ifaces, maps, wideKeys, modest, calm, conditions, laid).
  DERIVED. THE GIVEN ROWS OF THIS SEAT. 5 by the template 'for every input the law returns true; each argument reads behind the call as it read before'; 0 by the template 'total and deterministic' (their statements: YtglbkbdljjaioaaTotals.lean).
  GIVEN WITH THE SEED: the statements are not yours to turn. If you find one false, say at which input.
  Laid BY PROGRAM, IN A SANDBOX (cutbox-rows.mjs): the forced cells as the released guide's own fill.sh prints them over the translation 77de98b3205ca3e6… (all of the seat's roots in one cut). By AI agents, Wed Nov 11 2026. No macro, syntax, notation, axiom, sorry.
-/
import Derived.Test.YtglbkbdljjaioaaChecked
import GoSem.Claim
import GoSem.ClaimJoined
import GoSem.ClaimMapViews
import Derived.JoinedTies
import Derived.KernelRfl
namespace Go.Proofs.Ytglbkbdljjaioaa
/- THE CELL 'sum', in the pinned program and in every row, IS THE sha256 OF THE DUMP (.gsa) THAT YtglbkbdljjaioaaProg.lean LOADS. Nothing in Lean hashes anything: it is a label: what it is worth is what the hold of that sum in a sandbox is worth. -/
noncomputable def Try.pinned : Pinned := { name := "ytglbkbdljjaioaa", sum := "77de98b3205ca3e682138487780bbe91d6a3e4214b3857cbc08fe8acfd110a71", checked := Try.checked }
namespace Rows
def none {H : Type} : Left H := { results := [], args := [] }

/-- 'laws.FnExactAddPoint': WHATEVER THE INPUT: true; the input reads as it did. -/
def fnExactAddPointSpec : ChangeSpec := { name := "fnExactAddPoint", fn := fun _ => fun
  | [d1, d2] => { results := [.lit (.bool true)], args := [d1, d2] }
  | _ => none }
def fnExactAddPointRow : OpenClaim := { program := "ytglbkbdljjaioaa", sum := "77de98b3205ca3e682138487780bbe91d6a3e4214b3857cbc08fe8acfd110a71", func := "loop.example/g01105/laws.FnExactAddPoint", spec := "fnExactAddPoint", inPlace := ["slices.overlaps[loop.example/g01105/impl.Point]"], unfollowed := true, recurses := true, apart := false }
def FnExactAddPointSaid : Prop := fnExactAddPointRow.holds Try.pinned (OpenSpec.ofChange fnExactAddPointSpec)

/-- ITS FALSE NEIGHBOUR: 'it returns false'. Refute it at one input. -/
def fnExactAddPointWrong : ChangeSpec := { name := "fnExactAddPoint", fn := fun _ => fun
  | [d1, d2] => { results := [.lit (.bool false)], args := [d1, d2] }
  | _ => none }
def FnExactAddPointWrongFalsely : Prop := fnExactAddPointRow.holds Try.pinned (OpenSpec.ofChange fnExactAddPointWrong)

/-- 'laws.FnExactDropPoint': WHATEVER THE INPUT: true; the input reads as it did. -/
def fnExactDropPointSpec : ChangeSpec := { name := "fnExactDropPoint", fn := fun _ => fun
  | [d1, d2] => { results := [.lit (.bool true)], args := [d1, d2] }
  | _ => none }
def fnExactDropPointRow : OpenClaim := { program := "ytglbkbdljjaioaa", sum := "77de98b3205ca3e682138487780bbe91d6a3e4214b3857cbc08fe8acfd110a71", func := "loop.example/g01105/laws.FnExactDropPoint", spec := "fnExactDropPoint", unfollowed := true, recurses := true, apart := false }
def FnExactDropPointSaid : Prop := fnExactDropPointRow.holds Try.pinned (OpenSpec.ofChange fnExactDropPointSpec)

/-- ITS FALSE NEIGHBOUR: 'it returns false'. Refute it at one input. -/
def fnExactDropPointWrong : ChangeSpec := { name := "fnExactDropPoint", fn := fun _ => fun
  | [d1, d2] => { results := [.lit (.bool false)], args := [d1, d2] }
  | _ => none }
def FnExactDropPointWrongFalsely : Prop := fnExactDropPointRow.holds Try.pinned (OpenSpec.ofChange fnExactDropPointWrong)

/-- 'laws.FnSteps': WHATEVER THE INPUT: true; the input reads as it did. -/
def fnStepsSpec : ChangeSpec := { name := "fnSteps", fn := fun _ => fun
  | [d1, d2] => { results := [.lit (.bool true)], args := [d1, d2] }
  | _ => none }
def fnStepsRow : OpenClaim := { program := "ytglbkbdljjaioaa", sum := "77de98b3205ca3e682138487780bbe91d6a3e4214b3857cbc08fe8acfd110a71", func := "loop.example/g01105/laws.FnSteps", spec := "fnSteps", unfollowed := true, recurses := true, apart := false }
def FnStepsSaid : Prop := fnStepsRow.holds Try.pinned (OpenSpec.ofChange fnStepsSpec)

/-- ITS FALSE NEIGHBOUR: 'it returns false'. Refute it at one input. -/
def fnStepsWrong : ChangeSpec := { name := "fnSteps", fn := fun _ => fun
  | [d1, d2] => { results := [.lit (.bool false)], args := [d1, d2] }
  | _ => none }
def FnStepsWrongFalsely : Prop := fnStepsRow.holds Try.pinned (OpenSpec.ofChange fnStepsWrong)

/-- 'laws.FnExactCompileTerm': WHATEVER THE INPUT: true; the input reads as it did. -/
def fnExactCompileTermSpec : ChangeSpec := { name := "fnExactCompileTerm", fn := fun _ => fun
  | [d] => { results := [.lit (.bool true)], args := [d] }
  | _ => none }
def fnExactCompileTermRow : OpenClaim := { program := "ytglbkbdljjaioaa", sum := "77de98b3205ca3e682138487780bbe91d6a3e4214b3857cbc08fe8acfd110a71", func := "loop.example/g01105/laws.FnExactCompileTerm", spec := "fnExactCompileTerm", apart := false }
def FnExactCompileTermSaid : Prop := fnExactCompileTermRow.holds Try.pinned (OpenSpec.ofChange fnExactCompileTermSpec)

/-- ITS FALSE NEIGHBOUR: 'it returns false'. Refute it at one input. -/
def fnExactCompileTermWrong : ChangeSpec := { name := "fnExactCompileTerm", fn := fun _ => fun
  | [d] => { results := [.lit (.bool false)], args := [d] }
  | _ => none }
def FnExactCompileTermWrongFalsely : Prop := fnExactCompileTermRow.holds Try.pinned (OpenSpec.ofChange fnExactCompileTermWrong)

/-- 'laws.FnExactDropIdleJumps': WHATEVER THE INPUT: true; the input reads as it did. -/
def fnExactDropIdleJumpsSpec : ChangeSpec := { name := "fnExactDropIdleJumps", fn := fun _ => fun
  | [d] => { results := [.lit (.bool true)], args := [d] }
  | _ => none }
def fnExactDropIdleJumpsRow : OpenClaim := { program := "ytglbkbdljjaioaa", sum := "77de98b3205ca3e682138487780bbe91d6a3e4214b3857cbc08fe8acfd110a71", func := "loop.example/g01105/laws.FnExactDropIdleJumps", spec := "fnExactDropIdleJumps", unfollowed := true, recurses := true, apart := false }
def FnExactDropIdleJumpsSaid : Prop := fnExactDropIdleJumpsRow.holds Try.pinned (OpenSpec.ofChange fnExactDropIdleJumpsSpec)

/-- ITS FALSE NEIGHBOUR: 'it returns false'. Refute it at one input. -/
def fnExactDropIdleJumpsWrong : ChangeSpec := { name := "fnExactDropIdleJumps", fn := fun _ => fun
  | [d] => { results := [.lit (.bool false)], args := [d] }
  | _ => none }
def FnExactDropIdleJumpsWrongFalsely : Prop := fnExactDropIdleJumpsRow.holds Try.pinned (OpenSpec.ofChange fnExactDropIdleJumpsWrong)

/- THE SECOND FORM. 'bulk': how many values and letters a reading holds, each counted each time it is reached (what is shared counts as often as it is met; a slice's spare places count too). A statement '..UptoSaid' is the law's where the arguments, and the package variables that the reading takes, are together of bulk at most 1048576: NARROWER than '..Said'. Prove '..Said' where nothing that the law and all that it calls make is longer than what came in: it says more and counts as full. Else prove '..UptoSaid'. A law counts once. -/
mutual
def uptoBulk {H : Type} : DataW H → Nat
  | .lit (.string bytes) => bytes.length + 1
  | .lit _ => 1
  | .nil => 1
  | .ptr d => uptoBulk d + 1
  | .slice elems spare => uptoBulkAll elems + uptoBulkAll spare + 1
  | .agg parts => uptoBulkAll parts + 1
  | .iface _ d => uptoBulk d + 1
  | .map entries => uptoBulkEntries entries + 1
  | .held _ => 1
def uptoBulkAll {H : Type} : List (DataW H) → Nat
  | [] => 0
  | d :: r => uptoBulk d + uptoBulkAll r
def uptoBulkEntries {H : Type} : List (Lit × DataW H) → Nat
  | [] => 0
  | x :: r => uptoBulkEntry x + uptoBulkEntries r
def uptoBulkEntry {H : Type} : Lit × DataW H → Nat
  | (.string bytes, d) => bytes.length + uptoBulk d + 1
  | (_, d) => uptoBulk d + 1
 end
def uptoSmall : (H : Type) → List (DataW H) → Bool := fun _ ds => decide (uptoBulkAll ds ≤ 1048576)
def OpenSpec.upto (s : _root_.Go.ChangeSpec) : _root_.Go.OpenSpec := { _root_.Go.OpenSpec.ofChange s with cond := some uptoSmall }

/-- 'laws.FnExactAddPoint', WHERE WHAT IT READS IS OF BULK AT MOST 1048576: true; the input reads as it did. -/
def fnExactAddPointUptoRow : OpenClaim := { program := "ytglbkbdljjaioaa", sum := "77de98b3205ca3e682138487780bbe91d6a3e4214b3857cbc08fe8acfd110a71", func := "loop.example/g01105/laws.FnExactAddPoint", spec := "fnExactAddPoint", inPlace := ["slices.overlaps[loop.example/g01105/impl.Point]"], unfollowed := true, recurses := true, apart := false, narrowed := true }
def FnExactAddPointUptoSaid : Prop := fnExactAddPointUptoRow.holds Try.pinned (OpenSpec.upto fnExactAddPointSpec)

/-- 'laws.FnExactDropPoint', WHERE WHAT IT READS IS OF BULK AT MOST 1048576: true; the input reads as it did. -/
def fnExactDropPointUptoRow : OpenClaim := { program := "ytglbkbdljjaioaa", sum := "77de98b3205ca3e682138487780bbe91d6a3e4214b3857cbc08fe8acfd110a71", func := "loop.example/g01105/laws.FnExactDropPoint", spec := "fnExactDropPoint", unfollowed := true, recurses := true, apart := false, narrowed := true }
def FnExactDropPointUptoSaid : Prop := fnExactDropPointUptoRow.holds Try.pinned (OpenSpec.upto fnExactDropPointSpec)

/-- 'laws.FnSteps', WHERE WHAT IT READS IS OF BULK AT MOST 1048576: true; the input reads as it did. -/
def fnStepsUptoRow : OpenClaim := { program := "ytglbkbdljjaioaa", sum := "77de98b3205ca3e682138487780bbe91d6a3e4214b3857cbc08fe8acfd110a71", func := "loop.example/g01105/laws.FnSteps", spec := "fnSteps", unfollowed := true, recurses := true, apart := false, narrowed := true }
def FnStepsUptoSaid : Prop := fnStepsUptoRow.holds Try.pinned (OpenSpec.upto fnStepsSpec)

/-- 'laws.FnExactCompileTerm', WHERE WHAT IT READS IS OF BULK AT MOST 1048576: true; the input reads as it did. -/
def fnExactCompileTermUptoRow : OpenClaim := { program := "ytglbkbdljjaioaa", sum := "77de98b3205ca3e682138487780bbe91d6a3e4214b3857cbc08fe8acfd110a71", func := "loop.example/g01105/laws.FnExactCompileTerm", spec := "fnExactCompileTerm", apart := false, narrowed := true }
def FnExactCompileTermUptoSaid : Prop := fnExactCompileTermUptoRow.holds Try.pinned (OpenSpec.upto fnExactCompileTermSpec)

/-- 'laws.FnExactDropIdleJumps', WHERE WHAT IT READS IS OF BULK AT MOST 1048576: true; the input reads as it did. -/
def fnExactDropIdleJumpsUptoRow : OpenClaim := { program := "ytglbkbdljjaioaa", sum := "77de98b3205ca3e682138487780bbe91d6a3e4214b3857cbc08fe8acfd110a71", func := "loop.example/g01105/laws.FnExactDropIdleJumps", spec := "fnExactDropIdleJumps", unfollowed := true, recurses := true, apart := false, narrowed := true }
def FnExactDropIdleJumpsUptoSaid : Prop := fnExactDropIdleJumpsUptoRow.holds Try.pinned (OpenSpec.upto fnExactDropIdleJumpsSpec)

end Rows
end Go.Proofs.Ytglbkbdljjaioaa
