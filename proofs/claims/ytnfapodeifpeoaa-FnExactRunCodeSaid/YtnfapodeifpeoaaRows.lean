/-
  No cell of these rows narrows 'for every input' (looked for: loops, veiled, ifaces, maps, wideKeys, modest, calm, conditions, laid).
  DERIVED. THE GIVEN ROWS OF THIS SEAT. 10 by the template 'for every input the law returns true; each argument reads behind the call as it read before'; 0 by the template 'total and deterministic' (their statements: YtnfapodeifpeoaaTotals.lean).
  GIVEN WITH THE SEED: the statements are not yours to turn. If you find one false, say at which input.
  Laid BY PROGRAM, IN A SANDBOX (cutbox-rows.mjs): the forced cells as the released guide's own fill.sh prints them over the translation 382ae2dc9ce50e0e… (all of the seat's roots in one cut). By AI agents, Wed Nov 11 2026. No macro, syntax, notation, axiom, sorry.
-/
import Derived.Test.YtnfapodeifpeoaaChecked
import GoSem.Claim
import GoSem.ClaimJoined
import GoSem.ClaimMapViews
import Derived.JoinedTies
import Derived.KernelRfl
namespace Go.Proofs.Ytnfapodeifpeoaa
/- THE CELL 'sum', in the pinned program and in every row, IS THE sha256 OF THE DUMP (.gsa) THAT YtnfapodeifpeoaaProg.lean LOADS. Nothing in Lean hashes anything: it is a label: what it is worth is what the hold of that sum in a sandbox is worth. -/
noncomputable def Try.pinned : Pinned := { name := "ytnfapodeifpeoaa", sum := "382ae2dc9ce50e0e2c479af36dda4e4b536c5efb86a5d9838bbf714c0a4151a2", checked := Try.checked }
namespace Rows
def none {H : Type} : Left H := { results := [], args := [] }

/-- 'laws.FnExactValidInstr': WHATEVER THE INPUT: true; the input reads as it did. -/
def fnExactValidInstrSpec : ChangeSpec := { name := "fnExactValidInstr", fn := fun _ => fun
  | [d] => { results := [.lit (.bool true)], args := [d] }
  | _ => none }
def fnExactValidInstrRow : OpenClaim := { program := "ytnfapodeifpeoaa", sum := "382ae2dc9ce50e0e2c479af36dda4e4b536c5efb86a5d9838bbf714c0a4151a2", func := "loop.example/g01105/laws.FnExactValidInstr", spec := "fnExactValidInstr", apart := false }
def FnExactValidInstrSaid : Prop := fnExactValidInstrRow.holds Try.pinned (OpenSpec.ofChange fnExactValidInstrSpec)

/-- ITS FALSE NEIGHBOUR: 'it returns false'. Refute it at one input. -/
def fnExactValidInstrWrong : ChangeSpec := { name := "fnExactValidInstr", fn := fun _ => fun
  | [d] => { results := [.lit (.bool false)], args := [d] }
  | _ => none }
def FnExactValidInstrWrongFalsely : Prop := fnExactValidInstrRow.holds Try.pinned (OpenSpec.ofChange fnExactValidInstrWrong)

/-- 'laws.FnExactValidCode': WHATEVER THE INPUT: true; the input reads as it did. -/
def fnExactValidCodeSpec : ChangeSpec := { name := "fnExactValidCode", fn := fun _ => fun
  | [d] => { results := [.lit (.bool true)], args := [d] }
  | _ => none }
def fnExactValidCodeRow : OpenClaim := { program := "ytnfapodeifpeoaa", sum := "382ae2dc9ce50e0e2c479af36dda4e4b536c5efb86a5d9838bbf714c0a4151a2", func := "loop.example/g01105/laws.FnExactValidCode", spec := "fnExactValidCode", apart := false }
def FnExactValidCodeSaid : Prop := fnExactValidCodeRow.holds Try.pinned (OpenSpec.ofChange fnExactValidCodeSpec)

/-- ITS FALSE NEIGHBOUR: 'it returns false'. Refute it at one input. -/
def fnExactValidCodeWrong : ChangeSpec := { name := "fnExactValidCode", fn := fun _ => fun
  | [d] => { results := [.lit (.bool false)], args := [d] }
  | _ => none }
def FnExactValidCodeWrongFalsely : Prop := fnExactValidCodeRow.holds Try.pinned (OpenSpec.ofChange fnExactValidCodeWrong)

/-- 'laws.FnExactValidConfig': WHATEVER THE INPUT: true; the input reads as it did. -/
def fnExactValidConfigSpec : ChangeSpec := { name := "fnExactValidConfig", fn := fun _ => fun
  | [d1, d2] => { results := [.lit (.bool true)], args := [d1, d2] }
  | _ => none }
def fnExactValidConfigRow : OpenClaim := { program := "ytnfapodeifpeoaa", sum := "382ae2dc9ce50e0e2c479af36dda4e4b536c5efb86a5d9838bbf714c0a4151a2", func := "loop.example/g01105/laws.FnExactValidConfig", spec := "fnExactValidConfig", apart := false }
def FnExactValidConfigSaid : Prop := fnExactValidConfigRow.holds Try.pinned (OpenSpec.ofChange fnExactValidConfigSpec)

/-- ITS FALSE NEIGHBOUR: 'it returns false'. Refute it at one input. -/
def fnExactValidConfigWrong : ChangeSpec := { name := "fnExactValidConfig", fn := fun _ => fun
  | [d1, d2] => { results := [.lit (.bool false)], args := [d1, d2] }
  | _ => none }
def FnExactValidConfigWrongFalsely : Prop := fnExactValidConfigRow.holds Try.pinned (OpenSpec.ofChange fnExactValidConfigWrong)

/-- 'laws.FnExactStepCode': WHATEVER THE INPUT: true; the input reads as it did. -/
def fnExactStepCodeSpec : ChangeSpec := { name := "fnExactStepCode", fn := fun _ => fun
  | [d1, d2] => { results := [.lit (.bool true)], args := [d1, d2] }
  | _ => none }
def fnExactStepCodeRow : OpenClaim := { program := "ytnfapodeifpeoaa", sum := "382ae2dc9ce50e0e2c479af36dda4e4b536c5efb86a5d9838bbf714c0a4151a2", func := "loop.example/g01105/laws.FnExactStepCode", spec := "fnExactStepCode", unfollowed := true, recurses := true, apart := false }
def FnExactStepCodeSaid : Prop := fnExactStepCodeRow.holds Try.pinned (OpenSpec.ofChange fnExactStepCodeSpec)

/-- ITS FALSE NEIGHBOUR: 'it returns false'. Refute it at one input. -/
def fnExactStepCodeWrong : ChangeSpec := { name := "fnExactStepCode", fn := fun _ => fun
  | [d1, d2] => { results := [.lit (.bool false)], args := [d1, d2] }
  | _ => none }
def FnExactStepCodeWrongFalsely : Prop := fnExactStepCodeRow.holds Try.pinned (OpenSpec.ofChange fnExactStepCodeWrong)

/-- 'laws.FnExactRunCode': WHATEVER THE INPUT: true; the input reads as it did. -/
def fnExactRunCodeSpec : ChangeSpec := { name := "fnExactRunCode", fn := fun _ => fun
  | [d1, d2, d3] => { results := [.lit (.bool true)], args := [d1, d2, d3] }
  | _ => none }
def fnExactRunCodeRow : OpenClaim := { program := "ytnfapodeifpeoaa", sum := "382ae2dc9ce50e0e2c479af36dda4e4b536c5efb86a5d9838bbf714c0a4151a2", func := "loop.example/g01105/laws.FnExactRunCode", spec := "fnExactRunCode", unfollowed := true, recurses := true, apart := false }
def FnExactRunCodeSaid : Prop := fnExactRunCodeRow.holds Try.pinned (OpenSpec.ofChange fnExactRunCodeSpec)

/-- ITS FALSE NEIGHBOUR: 'it returns false'. Refute it at one input. -/
def fnExactRunCodeWrong : ChangeSpec := { name := "fnExactRunCode", fn := fun _ => fun
  | [d1, d2, d3] => { results := [.lit (.bool false)], args := [d1, d2, d3] }
  | _ => none }
def FnExactRunCodeWrongFalsely : Prop := fnExactRunCodeRow.holds Try.pinned (OpenSpec.ofChange fnExactRunCodeWrong)

/-- 'laws.FnExactCountCode': WHATEVER THE INPUT: true; the input reads as it did. -/
def fnExactCountCodeSpec : ChangeSpec := { name := "fnExactCountCode", fn := fun _ => fun
  | [d1, d2, d3] => { results := [.lit (.bool true)], args := [d1, d2, d3] }
  | _ => none }
def fnExactCountCodeRow : OpenClaim := { program := "ytnfapodeifpeoaa", sum := "382ae2dc9ce50e0e2c479af36dda4e4b536c5efb86a5d9838bbf714c0a4151a2", func := "loop.example/g01105/laws.FnExactCountCode", spec := "fnExactCountCode", unfollowed := true, recurses := true, apart := false }
def FnExactCountCodeSaid : Prop := fnExactCountCodeRow.holds Try.pinned (OpenSpec.ofChange fnExactCountCodeSpec)

/-- ITS FALSE NEIGHBOUR: 'it returns false'. Refute it at one input. -/
def fnExactCountCodeWrong : ChangeSpec := { name := "fnExactCountCode", fn := fun _ => fun
  | [d1, d2, d3] => { results := [.lit (.bool false)], args := [d1, d2, d3] }
  | _ => none }
def FnExactCountCodeWrongFalsely : Prop := fnExactCountCodeRow.holds Try.pinned (OpenSpec.ofChange fnExactCountCodeWrong)

/-- 'laws.FnExactTargetsOf': WHATEVER THE INPUT: true; the input reads as it did. -/
def fnExactTargetsOfSpec : ChangeSpec := { name := "fnExactTargetsOf", fn := fun _ => fun
  | [d1, d2] => { results := [.lit (.bool true)], args := [d1, d2] }
  | _ => none }
def fnExactTargetsOfRow : OpenClaim := { program := "ytnfapodeifpeoaa", sum := "382ae2dc9ce50e0e2c479af36dda4e4b536c5efb86a5d9838bbf714c0a4151a2", func := "loop.example/g01105/laws.FnExactTargetsOf", spec := "fnExactTargetsOf", unfollowed := true, recurses := true, apart := false }
def FnExactTargetsOfSaid : Prop := fnExactTargetsOfRow.holds Try.pinned (OpenSpec.ofChange fnExactTargetsOfSpec)

/-- ITS FALSE NEIGHBOUR: 'it returns false'. Refute it at one input. -/
def fnExactTargetsOfWrong : ChangeSpec := { name := "fnExactTargetsOf", fn := fun _ => fun
  | [d1, d2] => { results := [.lit (.bool false)], args := [d1, d2] }
  | _ => none }
def FnExactTargetsOfWrongFalsely : Prop := fnExactTargetsOfRow.holds Try.pinned (OpenSpec.ofChange fnExactTargetsOfWrong)

/-- 'laws.FnExactLeadersOf': WHATEVER THE INPUT: true; the input reads as it did. -/
def fnExactLeadersOfSpec : ChangeSpec := { name := "fnExactLeadersOf", fn := fun _ => fun
  | [d] => { results := [.lit (.bool true)], args := [d] }
  | _ => none }
def fnExactLeadersOfRow : OpenClaim := { program := "ytnfapodeifpeoaa", sum := "382ae2dc9ce50e0e2c479af36dda4e4b536c5efb86a5d9838bbf714c0a4151a2", func := "loop.example/g01105/laws.FnExactLeadersOf", spec := "fnExactLeadersOf", unfollowed := true, recurses := true, apart := false }
def FnExactLeadersOfSaid : Prop := fnExactLeadersOfRow.holds Try.pinned (OpenSpec.ofChange fnExactLeadersOfSpec)

/-- ITS FALSE NEIGHBOUR: 'it returns false'. Refute it at one input. -/
def fnExactLeadersOfWrong : ChangeSpec := { name := "fnExactLeadersOf", fn := fun _ => fun
  | [d] => { results := [.lit (.bool false)], args := [d] }
  | _ => none }
def FnExactLeadersOfWrongFalsely : Prop := fnExactLeadersOfRow.holds Try.pinned (OpenSpec.ofChange fnExactLeadersOfWrong)

/-- 'laws.FnExactShiftCode': WHATEVER THE INPUT: true; the input reads as it did. -/
def fnExactShiftCodeSpec : ChangeSpec := { name := "fnExactShiftCode", fn := fun _ => fun
  | [d1, d2] => { results := [.lit (.bool true)], args := [d1, d2] }
  | _ => none }
def fnExactShiftCodeRow : OpenClaim := { program := "ytnfapodeifpeoaa", sum := "382ae2dc9ce50e0e2c479af36dda4e4b536c5efb86a5d9838bbf714c0a4151a2", func := "loop.example/g01105/laws.FnExactShiftCode", spec := "fnExactShiftCode", unfollowed := true, recurses := true, apart := false }
def FnExactShiftCodeSaid : Prop := fnExactShiftCodeRow.holds Try.pinned (OpenSpec.ofChange fnExactShiftCodeSpec)

/-- ITS FALSE NEIGHBOUR: 'it returns false'. Refute it at one input. -/
def fnExactShiftCodeWrong : ChangeSpec := { name := "fnExactShiftCode", fn := fun _ => fun
  | [d1, d2] => { results := [.lit (.bool false)], args := [d1, d2] }
  | _ => none }
def FnExactShiftCodeWrongFalsely : Prop := fnExactShiftCodeRow.holds Try.pinned (OpenSpec.ofChange fnExactShiftCodeWrong)

/-- 'laws.FnExactJoinCode': WHATEVER THE INPUT: true; the input reads as it did. -/
def fnExactJoinCodeSpec : ChangeSpec := { name := "fnExactJoinCode", fn := fun _ => fun
  | [d1, d2] => { results := [.lit (.bool true)], args := [d1, d2] }
  | _ => none }
def fnExactJoinCodeRow : OpenClaim := { program := "ytnfapodeifpeoaa", sum := "382ae2dc9ce50e0e2c479af36dda4e4b536c5efb86a5d9838bbf714c0a4151a2", func := "loop.example/g01105/laws.FnExactJoinCode", spec := "fnExactJoinCode", unfollowed := true, recurses := true, apart := false }
def FnExactJoinCodeSaid : Prop := fnExactJoinCodeRow.holds Try.pinned (OpenSpec.ofChange fnExactJoinCodeSpec)

/-- ITS FALSE NEIGHBOUR: 'it returns false'. Refute it at one input. -/
def fnExactJoinCodeWrong : ChangeSpec := { name := "fnExactJoinCode", fn := fun _ => fun
  | [d1, d2] => { results := [.lit (.bool false)], args := [d1, d2] }
  | _ => none }
def FnExactJoinCodeWrongFalsely : Prop := fnExactJoinCodeRow.holds Try.pinned (OpenSpec.ofChange fnExactJoinCodeWrong)

/- THE SECOND FORM. 'bulk': how many values and letters a reading holds, each counted each time it is reached (what is shared counts as often as it is met; a slice's spare places count too). A statement '..UptoSaid' is the law's where the arguments, and the package variables that the reading takes, are together of bulk at most 1048576: NARROWER than '..Said'. Prove '..Said' where nothing that the law and all that it calls make is longer than what came in: it says more and counts as full. Else prove '..UptoSaid'. A law counts once. -/
mutual
def uptoBulk {H : Type} : DataW H → Nat
  | .lit (.string bytes) => bytes.length + 1
  | .lit _ => 1
  | .nil => 1
  | .ptr d => uptoBulk d + 1
  | .slice elems spare => uptoBulkAll elems + uptoBulkAll spare + 1
  | .agg parts => uptoBulkAll parts + 1
  | .iface _ d => uptoBulk d + 1
  | .map entries => uptoBulkEntries entries + 1
  | .held _ => 1
def uptoBulkAll {H : Type} : List (DataW H) → Nat
  | [] => 0
  | d :: r => uptoBulk d + uptoBulkAll r
def uptoBulkEntries {H : Type} : List (Lit × DataW H) → Nat
  | [] => 0
  | x :: r => uptoBulkEntry x + uptoBulkEntries r
def uptoBulkEntry {H : Type} : Lit × DataW H → Nat
  | (.string bytes, d) => bytes.length + uptoBulk d + 1
  | (_, d) => uptoBulk d + 1
 end
def uptoSmall : (H : Type) → List (DataW H) → Bool := fun _ ds => decide (uptoBulkAll ds ≤ 1048576)
def OpenSpec.upto (s : _root_.Go.ChangeSpec) : _root_.Go.OpenSpec := { _root_.Go.OpenSpec.ofChange s with cond := some uptoSmall }

/-- 'laws.FnExactValidInstr', WHERE WHAT IT READS IS OF BULK AT MOST 1048576: true; the input reads as it did. -/
def fnExactValidInstrUptoRow : OpenClaim := { program := "ytnfapodeifpeoaa", sum := "382ae2dc9ce50e0e2c479af36dda4e4b536c5efb86a5d9838bbf714c0a4151a2", func := "loop.example/g01105/laws.FnExactValidInstr", spec := "fnExactValidInstr", apart := false, narrowed := true }
def FnExactValidInstrUptoSaid : Prop := fnExactValidInstrUptoRow.holds Try.pinned (OpenSpec.upto fnExactValidInstrSpec)

/-- 'laws.FnExactValidCode', WHERE WHAT IT READS IS OF BULK AT MOST 1048576: true; the input reads as it did. -/
def fnExactValidCodeUptoRow : OpenClaim := { program := "ytnfapodeifpeoaa", sum := "382ae2dc9ce50e0e2c479af36dda4e4b536c5efb86a5d9838bbf714c0a4151a2", func := "loop.example/g01105/laws.FnExactValidCode", spec := "fnExactValidCode", apart := false, narrowed := true }
def FnExactValidCodeUptoSaid : Prop := fnExactValidCodeUptoRow.holds Try.pinned (OpenSpec.upto fnExactValidCodeSpec)

/-- 'laws.FnExactValidConfig', WHERE WHAT IT READS IS OF BULK AT MOST 1048576: true; the input reads as it did. -/
def fnExactValidConfigUptoRow : OpenClaim := { program := "ytnfapodeifpeoaa", sum := "382ae2dc9ce50e0e2c479af36dda4e4b536c5efb86a5d9838bbf714c0a4151a2", func := "loop.example/g01105/laws.FnExactValidConfig", spec := "fnExactValidConfig", apart := false, narrowed := true }
def FnExactValidConfigUptoSaid : Prop := fnExactValidConfigUptoRow.holds Try.pinned (OpenSpec.upto fnExactValidConfigSpec)

/-- 'laws.FnExactStepCode', WHERE WHAT IT READS IS OF BULK AT MOST 1048576: true; the input reads as it did. -/
def fnExactStepCodeUptoRow : OpenClaim := { program := "ytnfapodeifpeoaa", sum := "382ae2dc9ce50e0e2c479af36dda4e4b536c5efb86a5d9838bbf714c0a4151a2", func := "loop.example/g01105/laws.FnExactStepCode", spec := "fnExactStepCode", unfollowed := true, recurses := true, apart := false, narrowed := true }
def FnExactStepCodeUptoSaid : Prop := fnExactStepCodeUptoRow.holds Try.pinned (OpenSpec.upto fnExactStepCodeSpec)

/-- 'laws.FnExactRunCode', WHERE WHAT IT READS IS OF BULK AT MOST 1048576: true; the input reads as it did. -/
def fnExactRunCodeUptoRow : OpenClaim := { program := "ytnfapodeifpeoaa", sum := "382ae2dc9ce50e0e2c479af36dda4e4b536c5efb86a5d9838bbf714c0a4151a2", func := "loop.example/g01105/laws.FnExactRunCode", spec := "fnExactRunCode", unfollowed := true, recurses := true, apart := false, narrowed := true }
def FnExactRunCodeUptoSaid : Prop := fnExactRunCodeUptoRow.holds Try.pinned (OpenSpec.upto fnExactRunCodeSpec)

/-- 'laws.FnExactCountCode', WHERE WHAT IT READS IS OF BULK AT MOST 1048576: true; the input reads as it did. -/
def fnExactCountCodeUptoRow : OpenClaim := { program := "ytnfapodeifpeoaa", sum := "382ae2dc9ce50e0e2c479af36dda4e4b536c5efb86a5d9838bbf714c0a4151a2", func := "loop.example/g01105/laws.FnExactCountCode", spec := "fnExactCountCode", unfollowed := true, recurses := true, apart := false, narrowed := true }
def FnExactCountCodeUptoSaid : Prop := fnExactCountCodeUptoRow.holds Try.pinned (OpenSpec.upto fnExactCountCodeSpec)

/-- 'laws.FnExactTargetsOf', WHERE WHAT IT READS IS OF BULK AT MOST 1048576: true; the input reads as it did. -/
def fnExactTargetsOfUptoRow : OpenClaim := { program := "ytnfapodeifpeoaa", sum := "382ae2dc9ce50e0e2c479af36dda4e4b536c5efb86a5d9838bbf714c0a4151a2", func := "loop.example/g01105/laws.FnExactTargetsOf", spec := "fnExactTargetsOf", unfollowed := true, recurses := true, apart := false, narrowed := true }
def FnExactTargetsOfUptoSaid : Prop := fnExactTargetsOfUptoRow.holds Try.pinned (OpenSpec.upto fnExactTargetsOfSpec)

/-- 'laws.FnExactLeadersOf', WHERE WHAT IT READS IS OF BULK AT MOST 1048576: true; the input reads as it did. -/
def fnExactLeadersOfUptoRow : OpenClaim := { program := "ytnfapodeifpeoaa", sum := "382ae2dc9ce50e0e2c479af36dda4e4b536c5efb86a5d9838bbf714c0a4151a2", func := "loop.example/g01105/laws.FnExactLeadersOf", spec := "fnExactLeadersOf", unfollowed := true, recurses := true, apart := false, narrowed := true }
def FnExactLeadersOfUptoSaid : Prop := fnExactLeadersOfUptoRow.holds Try.pinned (OpenSpec.upto fnExactLeadersOfSpec)

/-- 'laws.FnExactShiftCode', WHERE WHAT IT READS IS OF BULK AT MOST 1048576: true; the input reads as it did. -/
def fnExactShiftCodeUptoRow : OpenClaim := { program := "ytnfapodeifpeoaa", sum := "382ae2dc9ce50e0e2c479af36dda4e4b536c5efb86a5d9838bbf714c0a4151a2", func := "loop.example/g01105/laws.FnExactShiftCode", spec := "fnExactShiftCode", unfollowed := true, recurses := true, apart := false, narrowed := true }
def FnExactShiftCodeUptoSaid : Prop := fnExactShiftCodeUptoRow.holds Try.pinned (OpenSpec.upto fnExactShiftCodeSpec)

/-- 'laws.FnExactJoinCode', WHERE WHAT IT READS IS OF BULK AT MOST 1048576: true; the input reads as it did. -/
def fnExactJoinCodeUptoRow : OpenClaim := { program := "ytnfapodeifpeoaa", sum := "382ae2dc9ce50e0e2c479af36dda4e4b536c5efb86a5d9838bbf714c0a4151a2", func := "loop.example/g01105/laws.FnExactJoinCode", spec := "fnExactJoinCode", unfollowed := true, recurses := true, apart := false, narrowed := true }
def FnExactJoinCodeUptoSaid : Prop := fnExactJoinCodeUptoRow.holds Try.pinned (OpenSpec.upto fnExactJoinCodeSpec)

end Rows
end Go.Proofs.Ytnfapodeifpeoaa
