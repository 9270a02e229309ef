/-
  DERIVED. GIVEN WITH THE SEED: THE CARDS: each row of YtapndnkcmmpdjaaDoorRows.lean that lists a variable, with what it lists TIED to the program's text (the seventh form; the later family's looks); each row that meets fmt, with fmt's text TOLD by the authors' own Lean function (tested against real Go, not proved from fmt's source: count such statements apart). THE CARD IS WHAT COUNTS. Prove the row's statement (the work); the ties are given (YtapndnkcmmpdjaaDoorTie.lean); close each card by the builder's one call (the guide's Derived/Test/ToyasCard.lean, 'card_holds'). Laid BY PROGRAM, IN A SANDBOX (cutbox-door.mjs). By AI agents, Wed Nov 11 2026. No macro, syntax, notation, axiom, sorry.
-/
import Derived.Test.YtapndnkcmmpdjaaDoorRows
import GoSem.ClaimSeven
namespace Go.Proofs.YtapndnkcmmpdjaaDoor
namespace Rows

/-- THE TIED CARD OF 'laws.FnExactEventsIn'. -/
def fnExactEventsInCard : Claim7 := { stood := { row := fnExactEventsInRow, standIns := [], harness := (true, "7170d02cb50b82d80474c3b23f9f1ed653d042245943a389103bdf0503ee41d3"), looks := false }, kinds := [], alts := [], laidByText := true, laidKinds := [.data], laidTests := true, laidLooks := .later }
def FnExactEventsInCardSaid : Prop := Claim7.holds Tryd.pinned (.plain (OpenSpec.ofChange fnExactEventsInSpec)) fnExactEventsInCard

/-- THE TIED CARD OF 'laws.FnExactIsProof'. -/
def fnExactIsProofCard : Claim7 := { stood := { row := fnExactIsProofRow, standIns := [], harness := (true, "7170d02cb50b82d80474c3b23f9f1ed653d042245943a389103bdf0503ee41d3"), looks := false }, kinds := [], alts := [], laidByText := true, laidKinds := [.data], laidTests := true, laidLooks := .later }
def FnExactIsProofCardSaid : Prop := Claim7.holds Tryd.pinned (.plain (OpenSpec.ofChange fnExactIsProofSpec)) fnExactIsProofCard

/-- THE TIED CARD OF 'laws.FnExactSubproofAt'. -/
def fnExactSubproofAtCard : Claim7 := { stood := { row := fnExactSubproofAtRow, standIns := [], harness := (true, "7170d02cb50b82d80474c3b23f9f1ed653d042245943a389103bdf0503ee41d3"), looks := false }, kinds := [], alts := [], laidByText := true, laidKinds := [.data], laidTests := true, laidLooks := .later }
def FnExactSubproofAtCardSaid : Prop := Claim7.holds Tryd.pinned (.plain (OpenSpec.ofChange fnExactSubproofAtSpec)) fnExactSubproofAtCard

/-- THE TIED CARD OF 'laws.FnExactDepthOf'. -/
def fnExactDepthOfCard : Claim7 := { stood := { row := fnExactDepthOfRow, standIns := [], harness := (true, "7170d02cb50b82d80474c3b23f9f1ed653d042245943a389103bdf0503ee41d3"), looks := false }, kinds := [], alts := [], laidByText := true, laidKinds := [.data], laidTests := true, laidLooks := .later }
def FnExactDepthOfCardSaid : Prop := Claim7.holds Tryd.pinned (.plain (OpenSpec.ofChange fnExactDepthOfSpec)) fnExactDepthOfCard

/-- THE TIED CARD OF 'laws.FnExactContextAt'. -/
def fnExactContextAtCard : Claim7 := { stood := { row := fnExactContextAtRow, standIns := [], harness := (true, "7170d02cb50b82d80474c3b23f9f1ed653d042245943a389103bdf0503ee41d3"), looks := false }, kinds := [], alts := [], laidByText := true, laidKinds := [.data], laidTests := true, laidLooks := .later }
def FnExactContextAtCardSaid : Prop := Claim7.holds Tryd.pinned (.plain (OpenSpec.ofChange fnExactContextAtSpec)) fnExactContextAtCard

/-- THE TIED CARD OF 'laws.FnExactCheckProof'. -/
def fnExactCheckProofCard : Claim7 := { stood := { row := fnExactCheckProofRow, standIns := [], harness := (true, "7170d02cb50b82d80474c3b23f9f1ed653d042245943a389103bdf0503ee41d3"), looks := false }, kinds := [], alts := [], laidByText := true, laidKinds := [.data], laidTests := true, laidLooks := .later }
def FnExactCheckProofCardSaid : Prop := Claim7.holds Tryd.pinned (.plain (OpenSpec.ofChange fnExactCheckProofSpec)) fnExactCheckProofCard

/-- THE TIED CARD OF 'laws.FnExactUsedFacts'. -/
def fnExactUsedFactsCard : Claim7 := { stood := { row := fnExactUsedFactsRow, standIns := [], harness := (true, "7170d02cb50b82d80474c3b23f9f1ed653d042245943a389103bdf0503ee41d3"), looks := false }, kinds := [], alts := [], laidByText := true, laidKinds := [.data], laidTests := true, laidLooks := .later }
def FnExactUsedFactsCardSaid : Prop := Claim7.holds Tryd.pinned (.plain (OpenSpec.ofChange fnExactUsedFactsSpec)) fnExactUsedFactsCard

/-- THE SECOND FORM's CARD OF 'laws.FnExactEventsIn'. -/
def fnExactEventsInUptoCard : Claim7 := { stood := { row := fnExactEventsInUptoRow, standIns := [], harness := (true, "7170d02cb50b82d80474c3b23f9f1ed653d042245943a389103bdf0503ee41d3"), looks := false }, kinds := [], alts := [], laidByText := true, laidKinds := [.data], laidTests := true, laidLooks := .later }
def FnExactEventsInUptoCardSaid : Prop := Claim7.holds Tryd.pinned (.plain (OpenSpec.upto fnExactEventsInSpec)) fnExactEventsInUptoCard

/-- THE SECOND FORM's CARD OF 'laws.FnExactIsProof'. -/
def fnExactIsProofUptoCard : Claim7 := { stood := { row := fnExactIsProofUptoRow, standIns := [], harness := (true, "7170d02cb50b82d80474c3b23f9f1ed653d042245943a389103bdf0503ee41d3"), looks := false }, kinds := [], alts := [], laidByText := true, laidKinds := [.data], laidTests := true, laidLooks := .later }
def FnExactIsProofUptoCardSaid : Prop := Claim7.holds Tryd.pinned (.plain (OpenSpec.upto fnExactIsProofSpec)) fnExactIsProofUptoCard

/-- THE SECOND FORM's CARD OF 'laws.FnExactSubproofAt'. -/
def fnExactSubproofAtUptoCard : Claim7 := { stood := { row := fnExactSubproofAtUptoRow, standIns := [], harness := (true, "7170d02cb50b82d80474c3b23f9f1ed653d042245943a389103bdf0503ee41d3"), looks := false }, kinds := [], alts := [], laidByText := true, laidKinds := [.data], laidTests := true, laidLooks := .later }
def FnExactSubproofAtUptoCardSaid : Prop := Claim7.holds Tryd.pinned (.plain (OpenSpec.upto fnExactSubproofAtSpec)) fnExactSubproofAtUptoCard

/-- THE SECOND FORM's CARD OF 'laws.FnExactDepthOf'. -/
def fnExactDepthOfUptoCard : Claim7 := { stood := { row := fnExactDepthOfUptoRow, standIns := [], harness := (true, "7170d02cb50b82d80474c3b23f9f1ed653d042245943a389103bdf0503ee41d3"), looks := false }, kinds := [], alts := [], laidByText := true, laidKinds := [.data], laidTests := true, laidLooks := .later }
def FnExactDepthOfUptoCardSaid : Prop := Claim7.holds Tryd.pinned (.plain (OpenSpec.upto fnExactDepthOfSpec)) fnExactDepthOfUptoCard

/-- THE SECOND FORM's CARD OF 'laws.FnExactContextAt'. -/
def fnExactContextAtUptoCard : Claim7 := { stood := { row := fnExactContextAtUptoRow, standIns := [], harness := (true, "7170d02cb50b82d80474c3b23f9f1ed653d042245943a389103bdf0503ee41d3"), looks := false }, kinds := [], alts := [], laidByText := true, laidKinds := [.data], laidTests := true, laidLooks := .later }
def FnExactContextAtUptoCardSaid : Prop := Claim7.holds Tryd.pinned (.plain (OpenSpec.upto fnExactContextAtSpec)) fnExactContextAtUptoCard

/-- THE SECOND FORM's CARD OF 'laws.FnExactCheckProof'. -/
def fnExactCheckProofUptoCard : Claim7 := { stood := { row := fnExactCheckProofUptoRow, standIns := [], harness := (true, "7170d02cb50b82d80474c3b23f9f1ed653d042245943a389103bdf0503ee41d3"), looks := false }, kinds := [], alts := [], laidByText := true, laidKinds := [.data], laidTests := true, laidLooks := .later }
def FnExactCheckProofUptoCardSaid : Prop := Claim7.holds Tryd.pinned (.plain (OpenSpec.upto fnExactCheckProofSpec)) fnExactCheckProofUptoCard

/-- THE SECOND FORM's CARD OF 'laws.FnExactUsedFacts'. -/
def fnExactUsedFactsUptoCard : Claim7 := { stood := { row := fnExactUsedFactsUptoRow, standIns := [], harness := (true, "7170d02cb50b82d80474c3b23f9f1ed653d042245943a389103bdf0503ee41d3"), looks := false }, kinds := [], alts := [], laidByText := true, laidKinds := [.data], laidTests := true, laidLooks := .later }
def FnExactUsedFactsUptoCardSaid : Prop := Claim7.holds Tryd.pinned (.plain (OpenSpec.upto fnExactUsedFactsSpec)) fnExactUsedFactsUptoCard
end Rows
end Go.Proofs.YtapndnkcmmpdjaaDoor
