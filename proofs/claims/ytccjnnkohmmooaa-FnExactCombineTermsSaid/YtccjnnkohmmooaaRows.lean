/-
  No cell of these rows narrows 'for every input' (looked for: loops, veiled, ifaces, maps, wideKeys, modest, calm, conditions, laid).
  DERIVED. THE GIVEN ROWS OF THIS SEAT. 12 by the template 'for every input the law returns true; each argument reads behind the call as it read before'; 0 by the template 'total and deterministic' (their statements: YtccjnnkohmmooaaTotals.lean).
  GIVEN WITH THE SEED: the statements are not yours to turn. If you find one false, say at which input.
  Laid BY PROGRAM, IN A SANDBOX (cutbox-rows.mjs): the forced cells as the released guide's own fill.sh prints them over the translation 1f38850166f08f7b… (all of the seat's roots in one cut). By AI agents, Wed Nov 11 2026. No macro, syntax, notation, axiom, sorry.
-/
import Derived.Test.YtccjnnkohmmooaaChecked
import GoSem.Claim
import GoSem.ClaimJoined
import GoSem.ClaimMapViews
import Derived.JoinedTies
import Derived.KernelRfl
namespace Go.Proofs.Ytccjnnkohmmooaa
/- THE CELL 'sum', in the pinned program and in every row, IS THE sha256 OF THE DUMP (.gsa) THAT YtccjnnkohmmooaaProg.lean LOADS. Nothing in Lean hashes anything: it is a label: what it is worth is what the hold of that sum in a sandbox is worth. -/
noncomputable def Try.pinned : Pinned := { name := "ytccjnnkohmmooaa", sum := "1f38850166f08f7b81455a4cd222b5e972643487565ecc8c6a0a8855e4e74c02", checked := Try.checked }
namespace Rows
def none {H : Type} : Left H := { results := [], args := [] }

/-- 'laws.FnExactValidTerm': WHATEVER THE INPUT: true; the input reads as it did. -/
def fnExactValidTermSpec : ChangeSpec := { name := "fnExactValidTerm", fn := fun _ => fun
  | [d] => { results := [.lit (.bool true)], args := [d] }
  | _ => none }
def fnExactValidTermRow : OpenClaim := { program := "ytccjnnkohmmooaa", sum := "1f38850166f08f7b81455a4cd222b5e972643487565ecc8c6a0a8855e4e74c02", func := "loop.example/g01105/laws.FnExactValidTerm", spec := "fnExactValidTerm", apart := false }
def FnExactValidTermSaid : Prop := fnExactValidTermRow.holds Try.pinned (OpenSpec.ofChange fnExactValidTermSpec)

/-- ITS FALSE NEIGHBOUR: 'it returns false'. Refute it at one input. -/
def fnExactValidTermWrong : ChangeSpec := { name := "fnExactValidTerm", fn := fun _ => fun
  | [d] => { results := [.lit (.bool false)], args := [d] }
  | _ => none }
def FnExactValidTermWrongFalsely : Prop := fnExactValidTermRow.holds Try.pinned (OpenSpec.ofChange fnExactValidTermWrong)

/-- 'laws.FnExactValidFacts': WHATEVER THE INPUT: true; the input reads as it did. -/
def fnExactValidFactsSpec : ChangeSpec := { name := "fnExactValidFacts", fn := fun _ => fun
  | [d] => { results := [.lit (.bool true)], args := [d] }
  | _ => none }
def fnExactValidFactsRow : OpenClaim := { program := "ytccjnnkohmmooaa", sum := "1f38850166f08f7b81455a4cd222b5e972643487565ecc8c6a0a8855e4e74c02", func := "loop.example/g01105/laws.FnExactValidFacts", spec := "fnExactValidFacts", apart := false }
def FnExactValidFactsSaid : Prop := fnExactValidFactsRow.holds Try.pinned (OpenSpec.ofChange fnExactValidFactsSpec)

/-- ITS FALSE NEIGHBOUR: 'it returns false'. Refute it at one input. -/
def fnExactValidFactsWrong : ChangeSpec := { name := "fnExactValidFacts", fn := fun _ => fun
  | [d] => { results := [.lit (.bool false)], args := [d] }
  | _ => none }
def FnExactValidFactsWrongFalsely : Prop := fnExactValidFactsRow.holds Try.pinned (OpenSpec.ofChange fnExactValidFactsWrong)

/-- 'laws.FnExactValidSequent': WHATEVER THE INPUT: true; the input reads as it did. -/
def fnExactValidSequentSpec : ChangeSpec := { name := "fnExactValidSequent", fn := fun _ => fun
  | [d] => { results := [.lit (.bool true)], args := [d] }
  | _ => none }
def fnExactValidSequentRow : OpenClaim := { program := "ytccjnnkohmmooaa", sum := "1f38850166f08f7b81455a4cd222b5e972643487565ecc8c6a0a8855e4e74c02", func := "loop.example/g01105/laws.FnExactValidSequent", spec := "fnExactValidSequent", apart := false }
def FnExactValidSequentSaid : Prop := fnExactValidSequentRow.holds Try.pinned (OpenSpec.ofChange fnExactValidSequentSpec)

/-- ITS FALSE NEIGHBOUR: 'it returns false'. Refute it at one input. -/
def fnExactValidSequentWrong : ChangeSpec := { name := "fnExactValidSequent", fn := fun _ => fun
  | [d] => { results := [.lit (.bool false)], args := [d] }
  | _ => none }
def FnExactValidSequentWrongFalsely : Prop := fnExactValidSequentRow.holds Try.pinned (OpenSpec.ofChange fnExactValidSequentWrong)

/-- 'laws.FnExactSameTerm': WHATEVER THE INPUT: true; the input reads as it did. -/
def fnExactSameTermSpec : ChangeSpec := { name := "fnExactSameTerm", fn := fun _ => fun
  | [d1, d2] => { results := [.lit (.bool true)], args := [d1, d2] }
  | _ => none }
def fnExactSameTermRow : OpenClaim := { program := "ytccjnnkohmmooaa", sum := "1f38850166f08f7b81455a4cd222b5e972643487565ecc8c6a0a8855e4e74c02", func := "loop.example/g01105/laws.FnExactSameTerm", spec := "fnExactSameTerm", apart := false }
def FnExactSameTermSaid : Prop := fnExactSameTermRow.holds Try.pinned (OpenSpec.ofChange fnExactSameTermSpec)

/-- ITS FALSE NEIGHBOUR: 'it returns false'. Refute it at one input. -/
def fnExactSameTermWrong : ChangeSpec := { name := "fnExactSameTerm", fn := fun _ => fun
  | [d1, d2] => { results := [.lit (.bool false)], args := [d1, d2] }
  | _ => none }
def FnExactSameTermWrongFalsely : Prop := fnExactSameTermRow.holds Try.pinned (OpenSpec.ofChange fnExactSameTermWrong)

/-- 'laws.FnExactEvalTerm': WHATEVER THE INPUT: true; the input reads as it did. -/
def fnExactEvalTermSpec : ChangeSpec := { name := "fnExactEvalTerm", fn := fun _ => fun
  | [d1, d2] => { results := [.lit (.bool true)], args := [d1, d2] }
  | _ => none }
def fnExactEvalTermRow : OpenClaim := { program := "ytccjnnkohmmooaa", sum := "1f38850166f08f7b81455a4cd222b5e972643487565ecc8c6a0a8855e4e74c02", func := "loop.example/g01105/laws.FnExactEvalTerm", spec := "fnExactEvalTerm", apart := false }
def FnExactEvalTermSaid : Prop := fnExactEvalTermRow.holds Try.pinned (OpenSpec.ofChange fnExactEvalTermSpec)

/-- ITS FALSE NEIGHBOUR: 'it returns false'. Refute it at one input. -/
def fnExactEvalTermWrong : ChangeSpec := { name := "fnExactEvalTerm", fn := fun _ => fun
  | [d1, d2] => { results := [.lit (.bool false)], args := [d1, d2] }
  | _ => none }
def FnExactEvalTermWrongFalsely : Prop := fnExactEvalTermRow.holds Try.pinned (OpenSpec.ofChange fnExactEvalTermWrong)

/-- 'laws.FnExactIsCounter': WHATEVER THE INPUT: true; the input reads as it did. -/
def fnExactIsCounterSpec : ChangeSpec := { name := "fnExactIsCounter", fn := fun _ => fun
  | [d1, d2] => { results := [.lit (.bool true)], args := [d1, d2] }
  | _ => none }
def fnExactIsCounterRow : OpenClaim := { program := "ytccjnnkohmmooaa", sum := "1f38850166f08f7b81455a4cd222b5e972643487565ecc8c6a0a8855e4e74c02", func := "loop.example/g01105/laws.FnExactIsCounter", spec := "fnExactIsCounter", apart := false }
def FnExactIsCounterSaid : Prop := fnExactIsCounterRow.holds Try.pinned (OpenSpec.ofChange fnExactIsCounterSpec)

/-- ITS FALSE NEIGHBOUR: 'it returns false'. Refute it at one input. -/
def fnExactIsCounterWrong : ChangeSpec := { name := "fnExactIsCounter", fn := fun _ => fun
  | [d1, d2] => { results := [.lit (.bool false)], args := [d1, d2] }
  | _ => none }
def FnExactIsCounterWrongFalsely : Prop := fnExactIsCounterRow.holds Try.pinned (OpenSpec.ofChange fnExactIsCounterWrong)

/-- 'laws.FnExactOppositeOf': WHATEVER THE INPUT: true; the input reads as it did. -/
def fnExactOppositeOfSpec : ChangeSpec := { name := "fnExactOppositeOf", fn := fun _ => fun
  | [d] => { results := [.lit (.bool true)], args := [d] }
  | _ => none }
def fnExactOppositeOfRow : OpenClaim := { program := "ytccjnnkohmmooaa", sum := "1f38850166f08f7b81455a4cd222b5e972643487565ecc8c6a0a8855e4e74c02", func := "loop.example/g01105/laws.FnExactOppositeOf", spec := "fnExactOppositeOf", apart := false }
def FnExactOppositeOfSaid : Prop := fnExactOppositeOfRow.holds Try.pinned (OpenSpec.ofChange fnExactOppositeOfSpec)

/-- ITS FALSE NEIGHBOUR: 'it returns false'. Refute it at one input. -/
def fnExactOppositeOfWrong : ChangeSpec := { name := "fnExactOppositeOf", fn := fun _ => fun
  | [d] => { results := [.lit (.bool false)], args := [d] }
  | _ => none }
def FnExactOppositeOfWrongFalsely : Prop := fnExactOppositeOfRow.holds Try.pinned (OpenSpec.ofChange fnExactOppositeOfWrong)

/-- 'laws.FnExactContextOf': WHATEVER THE INPUT: true; the input reads as it did. -/
def fnExactContextOfSpec : ChangeSpec := { name := "fnExactContextOf", fn := fun _ => fun
  | [d] => { results := [.lit (.bool true)], args := [d] }
  | _ => none }
def fnExactContextOfRow : OpenClaim := { program := "ytccjnnkohmmooaa", sum := "1f38850166f08f7b81455a4cd222b5e972643487565ecc8c6a0a8855e4e74c02", func := "loop.example/g01105/laws.FnExactContextOf", spec := "fnExactContextOf", unfollowed := true, recurses := true, apart := false }
def FnExactContextOfSaid : Prop := fnExactContextOfRow.holds Try.pinned (OpenSpec.ofChange fnExactContextOfSpec)

/-- ITS FALSE NEIGHBOUR: 'it returns false'. Refute it at one input. -/
def fnExactContextOfWrong : ChangeSpec := { name := "fnExactContextOf", fn := fun _ => fun
  | [d] => { results := [.lit (.bool false)], args := [d] }
  | _ => none }
def FnExactContextOfWrongFalsely : Prop := fnExactContextOfRow.holds Try.pinned (OpenSpec.ofChange fnExactContextOfWrong)

/-- 'laws.FnExactScaleTerm': WHATEVER THE INPUT: true; the input reads as it did. -/
def fnExactScaleTermSpec : ChangeSpec := { name := "fnExactScaleTerm", fn := fun _ => fun
  | [d1, d2] => { results := [.lit (.bool true)], args := [d1, d2] }
  | _ => none }
def fnExactScaleTermRow : OpenClaim := { program := "ytccjnnkohmmooaa", sum := "1f38850166f08f7b81455a4cd222b5e972643487565ecc8c6a0a8855e4e74c02", func := "loop.example/g01105/laws.FnExactScaleTerm", spec := "fnExactScaleTerm", apart := false }
def FnExactScaleTermSaid : Prop := fnExactScaleTermRow.holds Try.pinned (OpenSpec.ofChange fnExactScaleTermSpec)

/-- ITS FALSE NEIGHBOUR: 'it returns false'. Refute it at one input. -/
def fnExactScaleTermWrong : ChangeSpec := { name := "fnExactScaleTerm", fn := fun _ => fun
  | [d1, d2] => { results := [.lit (.bool false)], args := [d1, d2] }
  | _ => none }
def FnExactScaleTermWrongFalsely : Prop := fnExactScaleTermRow.holds Try.pinned (OpenSpec.ofChange fnExactScaleTermWrong)

/-- 'laws.FnExactAddTerms': WHATEVER THE INPUT: true; the input reads as it did. -/
def fnExactAddTermsSpec : ChangeSpec := { name := "fnExactAddTerms", fn := fun _ => fun
  | [d1, d2] => { results := [.lit (.bool true)], args := [d1, d2] }
  | _ => none }
def fnExactAddTermsRow : OpenClaim := { program := "ytccjnnkohmmooaa", sum := "1f38850166f08f7b81455a4cd222b5e972643487565ecc8c6a0a8855e4e74c02", func := "loop.example/g01105/laws.FnExactAddTerms", spec := "fnExactAddTerms", apart := false }
def FnExactAddTermsSaid : Prop := fnExactAddTermsRow.holds Try.pinned (OpenSpec.ofChange fnExactAddTermsSpec)

/-- ITS FALSE NEIGHBOUR: 'it returns false'. Refute it at one input. -/
def fnExactAddTermsWrong : ChangeSpec := { name := "fnExactAddTerms", fn := fun _ => fun
  | [d1, d2] => { results := [.lit (.bool false)], args := [d1, d2] }
  | _ => none }
def FnExactAddTermsWrongFalsely : Prop := fnExactAddTermsRow.holds Try.pinned (OpenSpec.ofChange fnExactAddTermsWrong)

/-- 'laws.FnExactCombineTerms': WHATEVER THE INPUT: true; the input reads as it did. -/
def fnExactCombineTermsSpec : ChangeSpec := { name := "fnExactCombineTerms", fn := fun _ => fun
  | [d1, d2] => { results := [.lit (.bool true)], args := [d1, d2] }
  | _ => none }
def fnExactCombineTermsRow : OpenClaim := { program := "ytccjnnkohmmooaa", sum := "1f38850166f08f7b81455a4cd222b5e972643487565ecc8c6a0a8855e4e74c02", func := "loop.example/g01105/laws.FnExactCombineTerms", spec := "fnExactCombineTerms", apart := false }
def FnExactCombineTermsSaid : Prop := fnExactCombineTermsRow.holds Try.pinned (OpenSpec.ofChange fnExactCombineTermsSpec)

/-- ITS FALSE NEIGHBOUR: 'it returns false'. Refute it at one input. -/
def fnExactCombineTermsWrong : ChangeSpec := { name := "fnExactCombineTerms", fn := fun _ => fun
  | [d1, d2] => { results := [.lit (.bool false)], args := [d1, d2] }
  | _ => none }
def FnExactCombineTermsWrongFalsely : Prop := fnExactCombineTermsRow.holds Try.pinned (OpenSpec.ofChange fnExactCombineTermsWrong)

/-- 'laws.FnExactSubstituteTerm': WHATEVER THE INPUT: true; the input reads as it did. -/
def fnExactSubstituteTermSpec : ChangeSpec := { name := "fnExactSubstituteTerm", fn := fun _ => fun
  | [d1, d2] => { results := [.lit (.bool true)], args := [d1, d2] }
  | _ => none }
def fnExactSubstituteTermRow : OpenClaim := { program := "ytccjnnkohmmooaa", sum := "1f38850166f08f7b81455a4cd222b5e972643487565ecc8c6a0a8855e4e74c02", func := "loop.example/g01105/laws.FnExactSubstituteTerm", spec := "fnExactSubstituteTerm", apart := false }
def FnExactSubstituteTermSaid : Prop := fnExactSubstituteTermRow.holds Try.pinned (OpenSpec.ofChange fnExactSubstituteTermSpec)

/-- ITS FALSE NEIGHBOUR: 'it returns false'. Refute it at one input. -/
def fnExactSubstituteTermWrong : ChangeSpec := { name := "fnExactSubstituteTerm", fn := fun _ => fun
  | [d1, d2] => { results := [.lit (.bool false)], args := [d1, d2] }
  | _ => none }
def FnExactSubstituteTermWrongFalsely : Prop := fnExactSubstituteTermRow.holds Try.pinned (OpenSpec.ofChange fnExactSubstituteTermWrong)

/- THE SECOND FORM. 'bulk': how many values and letters a reading holds, each counted each time it is reached (what is shared counts as often as it is met; a slice's spare places count too). A statement '..UptoSaid' is the law's where the arguments, and the package variables that the reading takes, are together of bulk at most 1048576: NARROWER than '..Said'. Prove '..Said' where nothing that the law and all that it calls make is longer than what came in: it says more and counts as full. Else prove '..UptoSaid'. A law counts once. -/
mutual
def uptoBulk {H : Type} : DataW H → Nat
  | .lit (.string bytes) => bytes.length + 1
  | .lit _ => 1
  | .nil => 1
  | .ptr d => uptoBulk d + 1
  | .slice elems spare => uptoBulkAll elems + uptoBulkAll spare + 1
  | .agg parts => uptoBulkAll parts + 1
  | .iface _ d => uptoBulk d + 1
  | .map entries => uptoBulkEntries entries + 1
  | .held _ => 1
def uptoBulkAll {H : Type} : List (DataW H) → Nat
  | [] => 0
  | d :: r => uptoBulk d + uptoBulkAll r
def uptoBulkEntries {H : Type} : List (Lit × DataW H) → Nat
  | [] => 0
  | x :: r => uptoBulkEntry x + uptoBulkEntries r
def uptoBulkEntry {H : Type} : Lit × DataW H → Nat
  | (.string bytes, d) => bytes.length + uptoBulk d + 1
  | (_, d) => uptoBulk d + 1
 end
def uptoSmall : (H : Type) → List (DataW H) → Bool := fun _ ds => decide (uptoBulkAll ds ≤ 1048576)
def OpenSpec.upto (s : _root_.Go.ChangeSpec) : _root_.Go.OpenSpec := { _root_.Go.OpenSpec.ofChange s with cond := some uptoSmall }

/-- 'laws.FnExactValidTerm', WHERE WHAT IT READS IS OF BULK AT MOST 1048576: true; the input reads as it did. -/
def fnExactValidTermUptoRow : OpenClaim := { program := "ytccjnnkohmmooaa", sum := "1f38850166f08f7b81455a4cd222b5e972643487565ecc8c6a0a8855e4e74c02", func := "loop.example/g01105/laws.FnExactValidTerm", spec := "fnExactValidTerm", apart := false, narrowed := true }
def FnExactValidTermUptoSaid : Prop := fnExactValidTermUptoRow.holds Try.pinned (OpenSpec.upto fnExactValidTermSpec)

/-- 'laws.FnExactValidFacts', WHERE WHAT IT READS IS OF BULK AT MOST 1048576: true; the input reads as it did. -/
def fnExactValidFactsUptoRow : OpenClaim := { program := "ytccjnnkohmmooaa", sum := "1f38850166f08f7b81455a4cd222b5e972643487565ecc8c6a0a8855e4e74c02", func := "loop.example/g01105/laws.FnExactValidFacts", spec := "fnExactValidFacts", apart := false, narrowed := true }
def FnExactValidFactsUptoSaid : Prop := fnExactValidFactsUptoRow.holds Try.pinned (OpenSpec.upto fnExactValidFactsSpec)

/-- 'laws.FnExactValidSequent', WHERE WHAT IT READS IS OF BULK AT MOST 1048576: true; the input reads as it did. -/
def fnExactValidSequentUptoRow : OpenClaim := { program := "ytccjnnkohmmooaa", sum := "1f38850166f08f7b81455a4cd222b5e972643487565ecc8c6a0a8855e4e74c02", func := "loop.example/g01105/laws.FnExactValidSequent", spec := "fnExactValidSequent", apart := false, narrowed := true }
def FnExactValidSequentUptoSaid : Prop := fnExactValidSequentUptoRow.holds Try.pinned (OpenSpec.upto fnExactValidSequentSpec)

/-- 'laws.FnExactSameTerm', WHERE WHAT IT READS IS OF BULK AT MOST 1048576: true; the input reads as it did. -/
def fnExactSameTermUptoRow : OpenClaim := { program := "ytccjnnkohmmooaa", sum := "1f38850166f08f7b81455a4cd222b5e972643487565ecc8c6a0a8855e4e74c02", func := "loop.example/g01105/laws.FnExactSameTerm", spec := "fnExactSameTerm", apart := false, narrowed := true }
def FnExactSameTermUptoSaid : Prop := fnExactSameTermUptoRow.holds Try.pinned (OpenSpec.upto fnExactSameTermSpec)

/-- 'laws.FnExactEvalTerm', WHERE WHAT IT READS IS OF BULK AT MOST 1048576: true; the input reads as it did. -/
def fnExactEvalTermUptoRow : OpenClaim := { program := "ytccjnnkohmmooaa", sum := "1f38850166f08f7b81455a4cd222b5e972643487565ecc8c6a0a8855e4e74c02", func := "loop.example/g01105/laws.FnExactEvalTerm", spec := "fnExactEvalTerm", apart := false, narrowed := true }
def FnExactEvalTermUptoSaid : Prop := fnExactEvalTermUptoRow.holds Try.pinned (OpenSpec.upto fnExactEvalTermSpec)

/-- 'laws.FnExactIsCounter', WHERE WHAT IT READS IS OF BULK AT MOST 1048576: true; the input reads as it did. -/
def fnExactIsCounterUptoRow : OpenClaim := { program := "ytccjnnkohmmooaa", sum := "1f38850166f08f7b81455a4cd222b5e972643487565ecc8c6a0a8855e4e74c02", func := "loop.example/g01105/laws.FnExactIsCounter", spec := "fnExactIsCounter", apart := false, narrowed := true }
def FnExactIsCounterUptoSaid : Prop := fnExactIsCounterUptoRow.holds Try.pinned (OpenSpec.upto fnExactIsCounterSpec)

/-- 'laws.FnExactOppositeOf', WHERE WHAT IT READS IS OF BULK AT MOST 1048576: true; the input reads as it did. -/
def fnExactOppositeOfUptoRow : OpenClaim := { program := "ytccjnnkohmmooaa", sum := "1f38850166f08f7b81455a4cd222b5e972643487565ecc8c6a0a8855e4e74c02", func := "loop.example/g01105/laws.FnExactOppositeOf", spec := "fnExactOppositeOf", apart := false, narrowed := true }
def FnExactOppositeOfUptoSaid : Prop := fnExactOppositeOfUptoRow.holds Try.pinned (OpenSpec.upto fnExactOppositeOfSpec)

/-- 'laws.FnExactContextOf', WHERE WHAT IT READS IS OF BULK AT MOST 1048576: true; the input reads as it did. -/
def fnExactContextOfUptoRow : OpenClaim := { program := "ytccjnnkohmmooaa", sum := "1f38850166f08f7b81455a4cd222b5e972643487565ecc8c6a0a8855e4e74c02", func := "loop.example/g01105/laws.FnExactContextOf", spec := "fnExactContextOf", unfollowed := true, recurses := true, apart := false, narrowed := true }
def FnExactContextOfUptoSaid : Prop := fnExactContextOfUptoRow.holds Try.pinned (OpenSpec.upto fnExactContextOfSpec)

/-- 'laws.FnExactScaleTerm', WHERE WHAT IT READS IS OF BULK AT MOST 1048576: true; the input reads as it did. -/
def fnExactScaleTermUptoRow : OpenClaim := { program := "ytccjnnkohmmooaa", sum := "1f38850166f08f7b81455a4cd222b5e972643487565ecc8c6a0a8855e4e74c02", func := "loop.example/g01105/laws.FnExactScaleTerm", spec := "fnExactScaleTerm", apart := false, narrowed := true }
def FnExactScaleTermUptoSaid : Prop := fnExactScaleTermUptoRow.holds Try.pinned (OpenSpec.upto fnExactScaleTermSpec)

/-- 'laws.FnExactAddTerms', WHERE WHAT IT READS IS OF BULK AT MOST 1048576: true; the input reads as it did. -/
def fnExactAddTermsUptoRow : OpenClaim := { program := "ytccjnnkohmmooaa", sum := "1f38850166f08f7b81455a4cd222b5e972643487565ecc8c6a0a8855e4e74c02", func := "loop.example/g01105/laws.FnExactAddTerms", spec := "fnExactAddTerms", apart := false, narrowed := true }
def FnExactAddTermsUptoSaid : Prop := fnExactAddTermsUptoRow.holds Try.pinned (OpenSpec.upto fnExactAddTermsSpec)

/-- 'laws.FnExactCombineTerms', WHERE WHAT IT READS IS OF BULK AT MOST 1048576: true; the input reads as it did. -/
def fnExactCombineTermsUptoRow : OpenClaim := { program := "ytccjnnkohmmooaa", sum := "1f38850166f08f7b81455a4cd222b5e972643487565ecc8c6a0a8855e4e74c02", func := "loop.example/g01105/laws.FnExactCombineTerms", spec := "fnExactCombineTerms", apart := false, narrowed := true }
def FnExactCombineTermsUptoSaid : Prop := fnExactCombineTermsUptoRow.holds Try.pinned (OpenSpec.upto fnExactCombineTermsSpec)

/-- 'laws.FnExactSubstituteTerm', WHERE WHAT IT READS IS OF BULK AT MOST 1048576: true; the input reads as it did. -/
def fnExactSubstituteTermUptoRow : OpenClaim := { program := "ytccjnnkohmmooaa", sum := "1f38850166f08f7b81455a4cd222b5e972643487565ecc8c6a0a8855e4e74c02", func := "loop.example/g01105/laws.FnExactSubstituteTerm", spec := "fnExactSubstituteTerm", apart := false, narrowed := true }
def FnExactSubstituteTermUptoSaid : Prop := fnExactSubstituteTermUptoRow.holds Try.pinned (OpenSpec.upto fnExactSubstituteTermSpec)

end Rows
end Go.Proofs.Ytccjnnkohmmooaa
