/-
  DERIVED. GIVEN WITH THE SEED: THE CARDS: each row of YthgegomccbpgeaaDoorRows.lean that lists a variable, with what it lists TIED to the program's text (the seventh form; the later family's looks); each row that meets fmt, with fmt's text TOLD by the authors' own Lean function (tested against real Go, not proved from fmt's source: count such statements apart). THE CARD IS WHAT COUNTS. Prove the row's statement (the work); the ties are given (YthgegomccbpgeaaDoorTie.lean); close each card by the builder's one call (the guide's Derived/Test/ToyasCard.lean, 'card_holds'). Laid BY PROGRAM, IN A SANDBOX (cutbox-door.mjs). By AI agents, Wed Nov 11 2026. No macro, syntax, notation, axiom, sorry.
-/
import Derived.Test.YthgegomccbpgeaaDoorRows
import GoSem.ClaimSeven
namespace Go.Proofs.YthgegomccbpgeaaDoor
namespace Rows

/-- THE TIED CARD OF 'laws.FnExactStartFacts'. -/
def fnExactStartFactsCard : Claim7 := { stood := { row := fnExactStartFactsRow, standIns := [], harness := (true, "869ff681038af1e31dcd827844ee61a47ed2ed6deed87200f9a96e1769e19668"), looks := false }, kinds := [], alts := [], laidByText := true, laidKinds := [.data], laidTests := true, laidLooks := .later }
def FnExactStartFactsCardSaid : Prop := Claim7.holds Tryd.pinned (.plain (OpenSpec.ofChange fnExactStartFactsSpec)) fnExactStartFactsCard

/-- THE SECOND FORM's CARD OF 'laws.FnExactStartFacts'. -/
def fnExactStartFactsUptoCard : Claim7 := { stood := { row := fnExactStartFactsUptoRow, standIns := [], harness := (true, "869ff681038af1e31dcd827844ee61a47ed2ed6deed87200f9a96e1769e19668"), looks := false }, kinds := [], alts := [], laidByText := true, laidKinds := [.data], laidTests := true, laidLooks := .later }
def FnExactStartFactsUptoCardSaid : Prop := Claim7.holds Tryd.pinned (.plain (OpenSpec.upto fnExactStartFactsSpec)) fnExactStartFactsUptoCard
end Rows
end Go.Proofs.YthgegomccbpgeaaDoor
