/-
  NARROWER THAN 'FOR EVERY INPUT', by the rows' own cells (each row's printed sentence says how): FnExactLinesOf: laid · FnExactIsBody: laid · FnExactValidProgram: laid · FnExactEndOf: laid · FnExactEventsIn: laid · FnExactLoopsOf: laid · FnExactStartFacts: laid · FnExactHoldsAt: laid.
  DERIVED. THE GIVEN ROWS OF THIS SEAT. 8 by the template 'for every input the law returns true; each argument reads behind the call as it read before'; 0 by the template 'total and deterministic' (their statements: YtpgbihiibdiohaaDoorTotals.lean).
  GIVEN WITH THE SEED: the statements are not yours to turn. If you find one false, say at which input.
  Laid BY PROGRAM, IN A SANDBOX (cutbox-rows.mjs): the forced cells as the released guide's own fill.sh prints them over the translation 5522f28e9aa778c6… (all of the seat's roots in one cut). By AI agents, Wed Nov 11 2026. No macro, syntax, notation, axiom, sorry.
-/
import Derived.Test.YtpgbihiibdiohaaDoorChecked
import GoSem.PinnedTables
import GoSem.Claim
import GoSem.ClaimJoined
import GoSem.ClaimMapViews
import Derived.JoinedTies
import Derived.KernelRfl
namespace Go.Proofs.YtpgbihiibdiohaaDoor
/- THE CELL 'sum', in the pinned program and in every row, IS THE sha256 OF THE DUMP (.gsa) THAT YtpgbihiibdiohaaDoorProg.lean LOADS. Nothing in Lean hashes anything: it is a label: what it is worth is what the hold of that sum in a sandbox is worth. -/
noncomputable def Tryd.pinned : Pinned := { name := "ytpgbihiibdiohaadoor", sum := "5522f28e9aa778c6be19c0bf89dc3451d0518853e09448c8e125739eb89537f9", checked := Tryd.checked }
namespace Rows
def none {H : Type} : Left H := { results := [], args := [] }

/- WHAT THE LISTED PACKAGE-LEVEL VARIABLES READ AS WHEN THE CALL BEGINS. Each datum BY PROGRAM (the guide's laid-datum.mjs) off the statement by which the dump's own 'gosem.cut.vars' lays the variable. In a bare row this is a premise. The card (YtpgbihiibdiohaaDoorCards.lean) ties it to the program's text. -/
def laid_unicode_utf8_acceptRanges {H : Type} : DataW H := .agg [.agg [.lit (.int .u8 128), .lit (.int .u8 191)], .agg [.lit (.int .u8 160), .lit (.int .u8 191)], .agg [.lit (.int .u8 128), .lit (.int .u8 159)], .agg [.lit (.int .u8 144), .lit (.int .u8 191)], .agg [.lit (.int .u8 128), .lit (.int .u8 143)], .agg [.lit (.int .u8 0), .lit (.int .u8 0)], .agg [.lit (.int .u8 0), .lit (.int .u8 0)], .agg [.lit (.int .u8 0), .lit (.int .u8 0)], .agg [.lit (.int .u8 0), .lit (.int .u8 0)], .agg [.lit (.int .u8 0), .lit (.int .u8 0)], .agg [.lit (.int .u8 0), .lit (.int .u8 0)], .agg [.lit (.int .u8 0), .lit (.int .u8 0)], .agg [.lit (.int .u8 0), .lit (.int .u8 0)], .agg [.lit (.int .u8 0), .lit (.int .u8 0)], .agg [.lit (.int .u8 0), .lit (.int .u8 0)], .agg [.lit (.int .u8 0), .lit (.int .u8 0)]]
/-- One of Go's own tables, pinned by name: the form's constant. -/
def laid_unicode_utf8_first : DataW Unit := Go.Pinned.utf8First
def laid_loop_example_g01105_impl_elementForms {H : Type} : DataW H := .agg [.agg [.lit (.int .i64 0), .lit (.int .i64 0), .lit (.bool false), .lit (.bool false), .lit (.int .i64 0), .lit (.int .i64 0)], .agg [.lit (.int .i64 0), .lit (.int .i64 0), .lit (.bool false), .lit (.bool false), .lit (.int .i64 0), .lit (.int .i64 2)], .agg [.lit (.int .i64 3), .lit (.int .i64 0), .lit (.bool true), .lit (.bool false), .lit (.int .i64 0), .lit (.int .i64 0)], .agg [.lit (.int .i64 3), .lit (.int .i64 0), .lit (.bool false), .lit (.bool true), .lit (.int .i64 0), .lit (.int .i64 0)], .agg [.lit (.int .i64 0), .lit (.int .i64 0), .lit (.bool true), .lit (.bool true), .lit (.int .i64 0), .lit (.int .i64 0)], .agg [.lit (.int .i64 0), .lit (.int .i64 3), .lit (.bool false), .lit (.bool false), .lit (.int .i64 0), .lit (.int .i64 0)], .agg [.lit (.int .i64 0), .lit (.int .i64 0), .lit (.bool true), .lit (.bool false), .lit (.int .i64 0), .lit (.int .i64 0)], .agg [.lit (.int .i64 0), .lit (.int .i64 0), .lit (.bool true), .lit (.bool false), .lit (.int .i64 0), .lit (.int .i64 2)], .agg [.lit (.int .i64 0), .lit (.int .i64 0), .lit (.bool true), .lit (.bool false), .lit (.int .i64 6), .lit (.int .i64 1)]]

/-- 'laws.FnExactLinesOf': WHATEVER THE INPUT: true; the input reads as it did. -/
def fnExactLinesOfSpec : ChangeSpec := { name := "fnExactLinesOf", fn := fun _ => fun
  | [d] => { results := [.lit (.bool true)], args := [d] }
  | _ => none }
def fnExactLinesOfRow : OpenClaim := { program := "ytpgbihiibdiohaadoor", sum := "5522f28e9aa778c6be19c0bf89dc3451d0518853e09448c8e125739eb89537f9", func := "loop.example/g01105/laws.FnExactLinesOf", spec := "fnExactLinesOf", inPlace := ["internal/bytealg.CountString", "internal/bytealg.IndexByteString", "internal/bytealg.IndexString"], unfollowed := true, recurses := true, named := ["unicode/utf8.first", "unicode/utf8.acceptRanges", "internal/bytealg.MaxLen"], apart := false, laid := [("unicode/utf8.acceptRanges", laid_unicode_utf8_acceptRanges), ("unicode/utf8.first", laid_unicode_utf8_first)] }
def FnExactLinesOfSaid : Prop := fnExactLinesOfRow.holds Tryd.pinned (OpenSpec.ofChange fnExactLinesOfSpec)

/-- ITS FALSE NEIGHBOUR: 'it returns false'. Refute it at one input. -/
def fnExactLinesOfWrong : ChangeSpec := { name := "fnExactLinesOf", fn := fun _ => fun
  | [d] => { results := [.lit (.bool false)], args := [d] }
  | _ => none }
def FnExactLinesOfWrongFalsely : Prop := fnExactLinesOfRow.holds Tryd.pinned (OpenSpec.ofChange fnExactLinesOfWrong)

/-- 'laws.FnExactIsBody': WHATEVER THE INPUT: true; the input reads as it did. -/
def fnExactIsBodySpec : ChangeSpec := { name := "fnExactIsBody", vars := ["loop.example/g01105/impl.elementForms"], fn := fun _ => fun
  | [d, g1] => { results := [.lit (.bool true)], args := [d], vars := [g1] }
  | _ => none }
def fnExactIsBodyRow : OpenClaim := { program := "ytpgbihiibdiohaadoor", sum := "5522f28e9aa778c6be19c0bf89dc3451d0518853e09448c8e125739eb89537f9", func := "loop.example/g01105/laws.FnExactIsBody", spec := "fnExactIsBody", named := ["loop.example/g01105/impl.elementForms"], apart := false, laid := [("loop.example/g01105/impl.elementForms", laid_loop_example_g01105_impl_elementForms)] }
def FnExactIsBodySaid : Prop := fnExactIsBodyRow.holds Tryd.pinned (OpenSpec.ofChange fnExactIsBodySpec)

/-- ITS FALSE NEIGHBOUR: 'it returns false'. Refute it at one input. -/
def fnExactIsBodyWrong : ChangeSpec := { name := "fnExactIsBody", vars := ["loop.example/g01105/impl.elementForms"], fn := fun _ => fun
  | [d, g1] => { results := [.lit (.bool false)], args := [d], vars := [g1] }
  | _ => none }
def FnExactIsBodyWrongFalsely : Prop := fnExactIsBodyRow.holds Tryd.pinned (OpenSpec.ofChange fnExactIsBodyWrong)

/-- 'laws.FnExactValidProgram': WHATEVER THE INPUT: true; the input reads as it did. -/
def fnExactValidProgramSpec : ChangeSpec := { name := "fnExactValidProgram", vars := ["loop.example/g01105/impl.elementForms"], fn := fun _ => fun
  | [d, g1] => { results := [.lit (.bool true)], args := [d], vars := [g1] }
  | _ => none }
def fnExactValidProgramRow : OpenClaim := { program := "ytpgbihiibdiohaadoor", sum := "5522f28e9aa778c6be19c0bf89dc3451d0518853e09448c8e125739eb89537f9", func := "loop.example/g01105/laws.FnExactValidProgram", spec := "fnExactValidProgram", named := ["loop.example/g01105/impl.elementForms"], apart := false, laid := [("loop.example/g01105/impl.elementForms", laid_loop_example_g01105_impl_elementForms)] }
def FnExactValidProgramSaid : Prop := fnExactValidProgramRow.holds Tryd.pinned (OpenSpec.ofChange fnExactValidProgramSpec)

/-- ITS FALSE NEIGHBOUR: 'it returns false'. Refute it at one input. -/
def fnExactValidProgramWrong : ChangeSpec := { name := "fnExactValidProgram", vars := ["loop.example/g01105/impl.elementForms"], fn := fun _ => fun
  | [d, g1] => { results := [.lit (.bool false)], args := [d], vars := [g1] }
  | _ => none }
def FnExactValidProgramWrongFalsely : Prop := fnExactValidProgramRow.holds Tryd.pinned (OpenSpec.ofChange fnExactValidProgramWrong)

/-- 'laws.FnExactEndOf': WHATEVER THE INPUT: true; the input reads as it did. -/
def fnExactEndOfSpec : ChangeSpec := { name := "fnExactEndOf", vars := ["loop.example/g01105/impl.elementForms"], fn := fun _ => fun
  | [d1, d2, g1] => { results := [.lit (.bool true)], args := [d1, d2], vars := [g1] }
  | _ => none }
def fnExactEndOfRow : OpenClaim := { program := "ytpgbihiibdiohaadoor", sum := "5522f28e9aa778c6be19c0bf89dc3451d0518853e09448c8e125739eb89537f9", func := "loop.example/g01105/laws.FnExactEndOf", spec := "fnExactEndOf", named := ["loop.example/g01105/impl.elementForms"], apart := false, laid := [("loop.example/g01105/impl.elementForms", laid_loop_example_g01105_impl_elementForms)] }
def FnExactEndOfSaid : Prop := fnExactEndOfRow.holds Tryd.pinned (OpenSpec.ofChange fnExactEndOfSpec)

/-- ITS FALSE NEIGHBOUR: 'it returns false'. Refute it at one input. -/
def fnExactEndOfWrong : ChangeSpec := { name := "fnExactEndOf", vars := ["loop.example/g01105/impl.elementForms"], fn := fun _ => fun
  | [d1, d2, g1] => { results := [.lit (.bool false)], args := [d1, d2], vars := [g1] }
  | _ => none }
def FnExactEndOfWrongFalsely : Prop := fnExactEndOfRow.holds Tryd.pinned (OpenSpec.ofChange fnExactEndOfWrong)

/-- 'laws.FnExactEventsIn': WHATEVER THE INPUT: true; the input reads as it did. -/
def fnExactEventsInSpec : ChangeSpec := { name := "fnExactEventsIn", vars := ["loop.example/g01105/impl.elementForms"], fn := fun _ => fun
  | [d, g1] => { results := [.lit (.bool true)], args := [d], vars := [g1] }
  | _ => none }
def fnExactEventsInRow : OpenClaim := { program := "ytpgbihiibdiohaadoor", sum := "5522f28e9aa778c6be19c0bf89dc3451d0518853e09448c8e125739eb89537f9", func := "loop.example/g01105/laws.FnExactEventsIn", spec := "fnExactEventsIn", unfollowed := true, recurses := true, named := ["loop.example/g01105/impl.elementForms"], apart := false, laid := [("loop.example/g01105/impl.elementForms", laid_loop_example_g01105_impl_elementForms)] }
def FnExactEventsInSaid : Prop := fnExactEventsInRow.holds Tryd.pinned (OpenSpec.ofChange fnExactEventsInSpec)

/-- ITS FALSE NEIGHBOUR: 'it returns false'. Refute it at one input. -/
def fnExactEventsInWrong : ChangeSpec := { name := "fnExactEventsIn", vars := ["loop.example/g01105/impl.elementForms"], fn := fun _ => fun
  | [d, g1] => { results := [.lit (.bool false)], args := [d], vars := [g1] }
  | _ => none }
def FnExactEventsInWrongFalsely : Prop := fnExactEventsInRow.holds Tryd.pinned (OpenSpec.ofChange fnExactEventsInWrong)

/-- 'laws.FnExactLoopsOf': WHATEVER THE INPUT: true; the input reads as it did. -/
def fnExactLoopsOfSpec : ChangeSpec := { name := "fnExactLoopsOf", vars := ["loop.example/g01105/impl.elementForms"], fn := fun _ => fun
  | [d, g1] => { results := [.lit (.bool true)], args := [d], vars := [g1] }
  | _ => none }
def fnExactLoopsOfRow : OpenClaim := { program := "ytpgbihiibdiohaadoor", sum := "5522f28e9aa778c6be19c0bf89dc3451d0518853e09448c8e125739eb89537f9", func := "loop.example/g01105/laws.FnExactLoopsOf", spec := "fnExactLoopsOf", named := ["loop.example/g01105/impl.elementForms"], apart := false, laid := [("loop.example/g01105/impl.elementForms", laid_loop_example_g01105_impl_elementForms)] }
def FnExactLoopsOfSaid : Prop := fnExactLoopsOfRow.holds Tryd.pinned (OpenSpec.ofChange fnExactLoopsOfSpec)

/-- ITS FALSE NEIGHBOUR: 'it returns false'. Refute it at one input. -/
def fnExactLoopsOfWrong : ChangeSpec := { name := "fnExactLoopsOf", vars := ["loop.example/g01105/impl.elementForms"], fn := fun _ => fun
  | [d, g1] => { results := [.lit (.bool false)], args := [d], vars := [g1] }
  | _ => none }
def FnExactLoopsOfWrongFalsely : Prop := fnExactLoopsOfRow.holds Tryd.pinned (OpenSpec.ofChange fnExactLoopsOfWrong)

/-- 'laws.FnExactStartFacts': WHATEVER THE INPUT: true; the input reads as it did. -/
def fnExactStartFactsSpec : ChangeSpec := { name := "fnExactStartFacts", vars := ["loop.example/g01105/impl.elementForms"], fn := fun _ => fun
  | [d1, d2, g1] => { results := [.lit (.bool true)], args := [d1, d2], vars := [g1] }
  | _ => none }
def fnExactStartFactsRow : OpenClaim := { program := "ytpgbihiibdiohaadoor", sum := "5522f28e9aa778c6be19c0bf89dc3451d0518853e09448c8e125739eb89537f9", func := "loop.example/g01105/laws.FnExactStartFacts", spec := "fnExactStartFacts", unfollowed := true, recurses := true, named := ["loop.example/g01105/impl.elementForms"], apart := false, laid := [("loop.example/g01105/impl.elementForms", laid_loop_example_g01105_impl_elementForms)] }
def FnExactStartFactsSaid : Prop := fnExactStartFactsRow.holds Tryd.pinned (OpenSpec.ofChange fnExactStartFactsSpec)

/-- ITS FALSE NEIGHBOUR: 'it returns false'. Refute it at one input. -/
def fnExactStartFactsWrong : ChangeSpec := { name := "fnExactStartFacts", vars := ["loop.example/g01105/impl.elementForms"], fn := fun _ => fun
  | [d1, d2, g1] => { results := [.lit (.bool false)], args := [d1, d2], vars := [g1] }
  | _ => none }
def FnExactStartFactsWrongFalsely : Prop := fnExactStartFactsRow.holds Tryd.pinned (OpenSpec.ofChange fnExactStartFactsWrong)

/-- 'laws.FnExactHoldsAt': WHATEVER THE INPUT: true; the input reads as it did. -/
def fnExactHoldsAtSpec : ChangeSpec := { name := "fnExactHoldsAt", vars := ["loop.example/g01105/impl.elementForms"], fn := fun _ => fun
  | [d1, d2, d3, g1] => { results := [.lit (.bool true)], args := [d1, d2, d3], vars := [g1] }
  | _ => none }
def fnExactHoldsAtRow : OpenClaim := { program := "ytpgbihiibdiohaadoor", sum := "5522f28e9aa778c6be19c0bf89dc3451d0518853e09448c8e125739eb89537f9", func := "loop.example/g01105/laws.FnExactHoldsAt", spec := "fnExactHoldsAt", unfollowed := true, recurses := true, named := ["loop.example/g01105/impl.elementForms"], apart := false, laid := [("loop.example/g01105/impl.elementForms", laid_loop_example_g01105_impl_elementForms)] }
def FnExactHoldsAtSaid : Prop := fnExactHoldsAtRow.holds Tryd.pinned (OpenSpec.ofChange fnExactHoldsAtSpec)

/-- ITS FALSE NEIGHBOUR: 'it returns false'. Refute it at one input. -/
def fnExactHoldsAtWrong : ChangeSpec := { name := "fnExactHoldsAt", vars := ["loop.example/g01105/impl.elementForms"], fn := fun _ => fun
  | [d1, d2, d3, g1] => { results := [.lit (.bool false)], args := [d1, d2, d3], vars := [g1] }
  | _ => none }
def FnExactHoldsAtWrongFalsely : Prop := fnExactHoldsAtRow.holds Tryd.pinned (OpenSpec.ofChange fnExactHoldsAtWrong)

/- THE SECOND FORM. 'bulk': how many values and letters a reading holds, each counted each time it is reached (what is shared counts as often as it is met; a slice's spare places count too). A statement '..UptoSaid' is the law's where the arguments, and the package variables that the reading takes, are together of bulk at most 1048576: NARROWER than '..Said'. Prove '..Said' where nothing that the law and all that it calls make is longer than what came in: it says more and counts as full. Else prove '..UptoSaid'. A law counts once. -/
mutual
def uptoBulk {H : Type} : DataW H → Nat
  | .lit (.string bytes) => bytes.length + 1
  | .lit _ => 1
  | .nil => 1
  | .ptr d => uptoBulk d + 1
  | .slice elems spare => uptoBulkAll elems + uptoBulkAll spare + 1
  | .agg parts => uptoBulkAll parts + 1
  | .iface _ d => uptoBulk d + 1
  | .map entries => uptoBulkEntries entries + 1
  | .held _ => 1
def uptoBulkAll {H : Type} : List (DataW H) → Nat
  | [] => 0
  | d :: r => uptoBulk d + uptoBulkAll r
def uptoBulkEntries {H : Type} : List (Lit × DataW H) → Nat
  | [] => 0
  | x :: r => uptoBulkEntry x + uptoBulkEntries r
def uptoBulkEntry {H : Type} : Lit × DataW H → Nat
  | (.string bytes, d) => bytes.length + uptoBulk d + 1
  | (_, d) => uptoBulk d + 1
 end
def uptoSmall : (H : Type) → List (DataW H) → Bool := fun _ ds => decide (uptoBulkAll ds ≤ 1048576)
def OpenSpec.upto (s : _root_.Go.ChangeSpec) : _root_.Go.OpenSpec := { _root_.Go.OpenSpec.ofChange s with cond := some uptoSmall }

/-- 'laws.FnExactLinesOf', WHERE WHAT IT READS IS OF BULK AT MOST 1048576: true; the input reads as it did. -/
def fnExactLinesOfUptoRow : OpenClaim := { program := "ytpgbihiibdiohaadoor", sum := "5522f28e9aa778c6be19c0bf89dc3451d0518853e09448c8e125739eb89537f9", func := "loop.example/g01105/laws.FnExactLinesOf", spec := "fnExactLinesOf", inPlace := ["internal/bytealg.CountString", "internal/bytealg.IndexByteString", "internal/bytealg.IndexString"], unfollowed := true, recurses := true, named := ["unicode/utf8.first", "unicode/utf8.acceptRanges", "internal/bytealg.MaxLen"], apart := false, laid := [("unicode/utf8.acceptRanges", laid_unicode_utf8_acceptRanges), ("unicode/utf8.first", laid_unicode_utf8_first)], narrowed := true }
def FnExactLinesOfUptoSaid : Prop := fnExactLinesOfUptoRow.holds Tryd.pinned (OpenSpec.upto fnExactLinesOfSpec)

/-- 'laws.FnExactIsBody', WHERE WHAT IT READS IS OF BULK AT MOST 1048576: true; the input reads as it did. -/
def fnExactIsBodyUptoRow : OpenClaim := { program := "ytpgbihiibdiohaadoor", sum := "5522f28e9aa778c6be19c0bf89dc3451d0518853e09448c8e125739eb89537f9", func := "loop.example/g01105/laws.FnExactIsBody", spec := "fnExactIsBody", named := ["loop.example/g01105/impl.elementForms"], apart := false, laid := [("loop.example/g01105/impl.elementForms", laid_loop_example_g01105_impl_elementForms)], narrowed := true }
def FnExactIsBodyUptoSaid : Prop := fnExactIsBodyUptoRow.holds Tryd.pinned (OpenSpec.upto fnExactIsBodySpec)

/-- 'laws.FnExactValidProgram', WHERE WHAT IT READS IS OF BULK AT MOST 1048576: true; the input reads as it did. -/
def fnExactValidProgramUptoRow : OpenClaim := { program := "ytpgbihiibdiohaadoor", sum := "5522f28e9aa778c6be19c0bf89dc3451d0518853e09448c8e125739eb89537f9", func := "loop.example/g01105/laws.FnExactValidProgram", spec := "fnExactValidProgram", named := ["loop.example/g01105/impl.elementForms"], apart := false, laid := [("loop.example/g01105/impl.elementForms", laid_loop_example_g01105_impl_elementForms)], narrowed := true }
def FnExactValidProgramUptoSaid : Prop := fnExactValidProgramUptoRow.holds Tryd.pinned (OpenSpec.upto fnExactValidProgramSpec)

/-- 'laws.FnExactEndOf', WHERE WHAT IT READS IS OF BULK AT MOST 1048576: true; the input reads as it did. -/
def fnExactEndOfUptoRow : OpenClaim := { program := "ytpgbihiibdiohaadoor", sum := "5522f28e9aa778c6be19c0bf89dc3451d0518853e09448c8e125739eb89537f9", func := "loop.example/g01105/laws.FnExactEndOf", spec := "fnExactEndOf", named := ["loop.example/g01105/impl.elementForms"], apart := false, laid := [("loop.example/g01105/impl.elementForms", laid_loop_example_g01105_impl_elementForms)], narrowed := true }
def FnExactEndOfUptoSaid : Prop := fnExactEndOfUptoRow.holds Tryd.pinned (OpenSpec.upto fnExactEndOfSpec)

/-- 'laws.FnExactEventsIn', WHERE WHAT IT READS IS OF BULK AT MOST 1048576: true; the input reads as it did. -/
def fnExactEventsInUptoRow : OpenClaim := { program := "ytpgbihiibdiohaadoor", sum := "5522f28e9aa778c6be19c0bf89dc3451d0518853e09448c8e125739eb89537f9", func := "loop.example/g01105/laws.FnExactEventsIn", spec := "fnExactEventsIn", unfollowed := true, recurses := true, named := ["loop.example/g01105/impl.elementForms"], apart := false, laid := [("loop.example/g01105/impl.elementForms", laid_loop_example_g01105_impl_elementForms)], narrowed := true }
def FnExactEventsInUptoSaid : Prop := fnExactEventsInUptoRow.holds Tryd.pinned (OpenSpec.upto fnExactEventsInSpec)

/-- 'laws.FnExactLoopsOf', WHERE WHAT IT READS IS OF BULK AT MOST 1048576: true; the input reads as it did. -/
def fnExactLoopsOfUptoRow : OpenClaim := { program := "ytpgbihiibdiohaadoor", sum := "5522f28e9aa778c6be19c0bf89dc3451d0518853e09448c8e125739eb89537f9", func := "loop.example/g01105/laws.FnExactLoopsOf", spec := "fnExactLoopsOf", named := ["loop.example/g01105/impl.elementForms"], apart := false, laid := [("loop.example/g01105/impl.elementForms", laid_loop_example_g01105_impl_elementForms)], narrowed := true }
def FnExactLoopsOfUptoSaid : Prop := fnExactLoopsOfUptoRow.holds Tryd.pinned (OpenSpec.upto fnExactLoopsOfSpec)

/-- 'laws.FnExactStartFacts', WHERE WHAT IT READS IS OF BULK AT MOST 1048576: true; the input reads as it did. -/
def fnExactStartFactsUptoRow : OpenClaim := { program := "ytpgbihiibdiohaadoor", sum := "5522f28e9aa778c6be19c0bf89dc3451d0518853e09448c8e125739eb89537f9", func := "loop.example/g01105/laws.FnExactStartFacts", spec := "fnExactStartFacts", unfollowed := true, recurses := true, named := ["loop.example/g01105/impl.elementForms"], apart := false, laid := [("loop.example/g01105/impl.elementForms", laid_loop_example_g01105_impl_elementForms)], narrowed := true }
def FnExactStartFactsUptoSaid : Prop := fnExactStartFactsUptoRow.holds Tryd.pinned (OpenSpec.upto fnExactStartFactsSpec)

/-- 'laws.FnExactHoldsAt', WHERE WHAT IT READS IS OF BULK AT MOST 1048576: true; the input reads as it did. -/
def fnExactHoldsAtUptoRow : OpenClaim := { program := "ytpgbihiibdiohaadoor", sum := "5522f28e9aa778c6be19c0bf89dc3451d0518853e09448c8e125739eb89537f9", func := "loop.example/g01105/laws.FnExactHoldsAt", spec := "fnExactHoldsAt", unfollowed := true, recurses := true, named := ["loop.example/g01105/impl.elementForms"], apart := false, laid := [("loop.example/g01105/impl.elementForms", laid_loop_example_g01105_impl_elementForms)], narrowed := true }
def FnExactHoldsAtUptoSaid : Prop := fnExactHoldsAtUptoRow.holds Tryd.pinned (OpenSpec.upto fnExactHoldsAtSpec)

end Rows
end Go.Proofs.YtpgbihiibdiohaaDoor
