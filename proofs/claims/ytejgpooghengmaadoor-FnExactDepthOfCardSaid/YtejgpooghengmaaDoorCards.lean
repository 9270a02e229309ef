/-
  DERIVED. GIVEN WITH THE SEED: THE CARDS: each row of YtejgpooghengmaaDoorRows.lean that lists a variable, with what it lists TIED to the program's text (the seventh form; the later family's looks); each row that meets fmt, with fmt's text TOLD by the authors' own Lean function (tested against real Go, not proved from fmt's source: count such statements apart). THE CARD IS WHAT COUNTS. Prove the row's statement (the work); the ties are given (YtejgpooghengmaaDoorTie.lean); close each card by the builder's one call (the guide's Derived/Test/ToyasCard.lean, 'card_holds'). Laid BY PROGRAM, IN A SANDBOX (cutbox-door.mjs). By AI agents, Wed Nov 11 2026. No macro, syntax, notation, axiom, sorry.
-/
import Derived.Test.YtejgpooghengmaaDoorRows
import GoSem.ClaimSeven
namespace Go.Proofs.YtejgpooghengmaaDoor
namespace Rows

/-- THE TIED CARD OF 'laws.FnExactIsProof'. -/
def fnExactIsProofCard : Claim7 := { stood := { row := fnExactIsProofRow, standIns := [], harness := (true, "14f2b6b14541f3c82ee81645942d843f5ee30b2f48790792d555ed516241defd"), looks := false }, kinds := [], alts := [], laidByText := true, laidKinds := [.data], laidTests := true, laidLooks := .later }
def FnExactIsProofCardSaid : Prop := Claim7.holds Tryd.pinned (.plain (OpenSpec.ofChange fnExactIsProofSpec)) fnExactIsProofCard

/-- THE TIED CARD OF 'laws.FnExactSubproofAt'. -/
def fnExactSubproofAtCard : Claim7 := { stood := { row := fnExactSubproofAtRow, standIns := [], harness := (true, "14f2b6b14541f3c82ee81645942d843f5ee30b2f48790792d555ed516241defd"), looks := false }, kinds := [], alts := [], laidByText := true, laidKinds := [.data], laidTests := true, laidLooks := .later }
def FnExactSubproofAtCardSaid : Prop := Claim7.holds Tryd.pinned (.plain (OpenSpec.ofChange fnExactSubproofAtSpec)) fnExactSubproofAtCard

/-- THE TIED CARD OF 'laws.FnExactDepthOf'. -/
def fnExactDepthOfCard : Claim7 := { stood := { row := fnExactDepthOfRow, standIns := [], harness := (true, "14f2b6b14541f3c82ee81645942d843f5ee30b2f48790792d555ed516241defd"), looks := false }, kinds := [], alts := [], laidByText := true, laidKinds := [.data], laidTests := true, laidLooks := .later }
def FnExactDepthOfCardSaid : Prop := Claim7.holds Tryd.pinned (.plain (OpenSpec.ofChange fnExactDepthOfSpec)) fnExactDepthOfCard

/-- THE TIED CARD OF 'laws.FnExactContextAt'. -/
def fnExactContextAtCard : Claim7 := { stood := { row := fnExactContextAtRow, standIns := [], harness := (true, "14f2b6b14541f3c82ee81645942d843f5ee30b2f48790792d555ed516241defd"), looks := false }, kinds := [], alts := [], laidByText := true, laidKinds := [.data], laidTests := true, laidLooks := .later }
def FnExactContextAtCardSaid : Prop := Claim7.holds Tryd.pinned (.plain (OpenSpec.ofChange fnExactContextAtSpec)) fnExactContextAtCard

/-- THE TIED CARD OF 'laws.FnExactCheckProof'. -/
def fnExactCheckProofCard : Claim7 := { stood := { row := fnExactCheckProofRow, standIns := [], harness := (true, "14f2b6b14541f3c82ee81645942d843f5ee30b2f48790792d555ed516241defd"), looks := false }, kinds := [], alts := [], laidByText := true, laidKinds := [.data], laidTests := true, laidLooks := .later }
def FnExactCheckProofCardSaid : Prop := Claim7.holds Tryd.pinned (.plain (OpenSpec.ofChange fnExactCheckProofSpec)) fnExactCheckProofCard

/-- THE TIED CARD OF 'laws.FnExactUsedFacts'. -/
def fnExactUsedFactsCard : Claim7 := { stood := { row := fnExactUsedFactsRow, standIns := [], harness := (true, "14f2b6b14541f3c82ee81645942d843f5ee30b2f48790792d555ed516241defd"), looks := false }, kinds := [], alts := [], laidByText := true, laidKinds := [.data], laidTests := true, laidLooks := .later }
def FnExactUsedFactsCardSaid : Prop := Claim7.holds Tryd.pinned (.plain (OpenSpec.ofChange fnExactUsedFactsSpec)) fnExactUsedFactsCard

/-- THE TIED CARD OF 'laws.FnExactAreProved'. -/
def fnExactAreProvedCard : Claim7 := { stood := { row := fnExactAreProvedRow, standIns := [], harness := (true, "14f2b6b14541f3c82ee81645942d843f5ee30b2f48790792d555ed516241defd"), looks := false }, kinds := [], alts := [], laidByText := true, laidKinds := [.data], laidTests := true, laidLooks := .later }
def FnExactAreProvedCardSaid : Prop := Claim7.holds Tryd.pinned (.plain (OpenSpec.ofChange fnExactAreProvedSpec)) fnExactAreProvedCard

/-- THE SECOND FORM's CARD OF 'laws.FnExactIsProof'. -/
def fnExactIsProofUptoCard : Claim7 := { stood := { row := fnExactIsProofUptoRow, standIns := [], harness := (true, "14f2b6b14541f3c82ee81645942d843f5ee30b2f48790792d555ed516241defd"), looks := false }, kinds := [], alts := [], laidByText := true, laidKinds := [.data], laidTests := true, laidLooks := .later }
def FnExactIsProofUptoCardSaid : Prop := Claim7.holds Tryd.pinned (.plain (OpenSpec.upto fnExactIsProofSpec)) fnExactIsProofUptoCard

/-- THE SECOND FORM's CARD OF 'laws.FnExactSubproofAt'. -/
def fnExactSubproofAtUptoCard : Claim7 := { stood := { row := fnExactSubproofAtUptoRow, standIns := [], harness := (true, "14f2b6b14541f3c82ee81645942d843f5ee30b2f48790792d555ed516241defd"), looks := false }, kinds := [], alts := [], laidByText := true, laidKinds := [.data], laidTests := true, laidLooks := .later }
def FnExactSubproofAtUptoCardSaid : Prop := Claim7.holds Tryd.pinned (.plain (OpenSpec.upto fnExactSubproofAtSpec)) fnExactSubproofAtUptoCard

/-- THE SECOND FORM's CARD OF 'laws.FnExactDepthOf'. -/
def fnExactDepthOfUptoCard : Claim7 := { stood := { row := fnExactDepthOfUptoRow, standIns := [], harness := (true, "14f2b6b14541f3c82ee81645942d843f5ee30b2f48790792d555ed516241defd"), looks := false }, kinds := [], alts := [], laidByText := true, laidKinds := [.data], laidTests := true, laidLooks := .later }
def FnExactDepthOfUptoCardSaid : Prop := Claim7.holds Tryd.pinned (.plain (OpenSpec.upto fnExactDepthOfSpec)) fnExactDepthOfUptoCard

/-- THE SECOND FORM's CARD OF 'laws.FnExactContextAt'. -/
def fnExactContextAtUptoCard : Claim7 := { stood := { row := fnExactContextAtUptoRow, standIns := [], harness := (true, "14f2b6b14541f3c82ee81645942d843f5ee30b2f48790792d555ed516241defd"), looks := false }, kinds := [], alts := [], laidByText := true, laidKinds := [.data], laidTests := true, laidLooks := .later }
def FnExactContextAtUptoCardSaid : Prop := Claim7.holds Tryd.pinned (.plain (OpenSpec.upto fnExactContextAtSpec)) fnExactContextAtUptoCard

/-- THE SECOND FORM's CARD OF 'laws.FnExactCheckProof'. -/
def fnExactCheckProofUptoCard : Claim7 := { stood := { row := fnExactCheckProofUptoRow, standIns := [], harness := (true, "14f2b6b14541f3c82ee81645942d843f5ee30b2f48790792d555ed516241defd"), looks := false }, kinds := [], alts := [], laidByText := true, laidKinds := [.data], laidTests := true, laidLooks := .later }
def FnExactCheckProofUptoCardSaid : Prop := Claim7.holds Tryd.pinned (.plain (OpenSpec.upto fnExactCheckProofSpec)) fnExactCheckProofUptoCard

/-- THE SECOND FORM's CARD OF 'laws.FnExactUsedFacts'. -/
def fnExactUsedFactsUptoCard : Claim7 := { stood := { row := fnExactUsedFactsUptoRow, standIns := [], harness := (true, "14f2b6b14541f3c82ee81645942d843f5ee30b2f48790792d555ed516241defd"), looks := false }, kinds := [], alts := [], laidByText := true, laidKinds := [.data], laidTests := true, laidLooks := .later }
def FnExactUsedFactsUptoCardSaid : Prop := Claim7.holds Tryd.pinned (.plain (OpenSpec.upto fnExactUsedFactsSpec)) fnExactUsedFactsUptoCard

/-- THE SECOND FORM's CARD OF 'laws.FnExactAreProved'. -/
def fnExactAreProvedUptoCard : Claim7 := { stood := { row := fnExactAreProvedUptoRow, standIns := [], harness := (true, "14f2b6b14541f3c82ee81645942d843f5ee30b2f48790792d555ed516241defd"), looks := false }, kinds := [], alts := [], laidByText := true, laidKinds := [.data], laidTests := true, laidLooks := .later }
def FnExactAreProvedUptoCardSaid : Prop := Claim7.holds Tryd.pinned (.plain (OpenSpec.upto fnExactAreProvedSpec)) fnExactAreProvedUptoCard
end Rows
end Go.Proofs.YtejgpooghengmaaDoor
