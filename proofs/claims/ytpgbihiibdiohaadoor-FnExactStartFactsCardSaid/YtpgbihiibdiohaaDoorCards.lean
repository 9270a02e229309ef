/-
  DERIVED. GIVEN WITH THE SEED: THE CARDS: each row of YtpgbihiibdiohaaDoorRows.lean that lists a variable, with what it lists TIED to the program's text (the seventh form; the later family's looks); each row that meets fmt, with fmt's text TOLD by the authors' own Lean function (tested against real Go, not proved from fmt's source: count such statements apart). THE CARD IS WHAT COUNTS. Prove the row's statement (the work); the ties are given (YtpgbihiibdiohaaDoorTie.lean); close each card by the builder's one call (the guide's Derived/Test/ToyasCard.lean, 'card_holds'). Laid BY PROGRAM, IN A SANDBOX (cutbox-door.mjs). By AI agents, Wed Nov 11 2026. No macro, syntax, notation, axiom, sorry.
-/
import Derived.Test.YtpgbihiibdiohaaDoorRows
import GoSem.ClaimSeven
namespace Go.Proofs.YtpgbihiibdiohaaDoor
namespace Rows

/-- THE TIED CARD OF 'laws.FnExactLinesOf'. -/
def fnExactLinesOfCard : Claim7 := { stood := { row := fnExactLinesOfRow, standIns := [], harness := (true, "c4d0187ddc7bde1a5b2ab10580f786da0aa057cfae351f2ecd6db91f9fdb60e6"), looks := false }, kinds := [], alts := [], laidByText := true, laidKinds := [.data, .pinned], laidTests := true, laidLooks := .later }
def FnExactLinesOfCardSaid : Prop := Claim7.holds Tryd.pinned (.plain (OpenSpec.ofChange fnExactLinesOfSpec)) fnExactLinesOfCard

/-- THE TIED CARD OF 'laws.FnExactIsBody'. -/
def fnExactIsBodyCard : Claim7 := { stood := { row := fnExactIsBodyRow, standIns := [], harness := (true, "c4d0187ddc7bde1a5b2ab10580f786da0aa057cfae351f2ecd6db91f9fdb60e6"), looks := false }, kinds := [], alts := [], laidByText := true, laidKinds := [.data], laidTests := true, laidLooks := .later }
def FnExactIsBodyCardSaid : Prop := Claim7.holds Tryd.pinned (.plain (OpenSpec.ofChange fnExactIsBodySpec)) fnExactIsBodyCard

/-- THE TIED CARD OF 'laws.FnExactValidProgram'. -/
def fnExactValidProgramCard : Claim7 := { stood := { row := fnExactValidProgramRow, standIns := [], harness := (true, "c4d0187ddc7bde1a5b2ab10580f786da0aa057cfae351f2ecd6db91f9fdb60e6"), looks := false }, kinds := [], alts := [], laidByText := true, laidKinds := [.data], laidTests := true, laidLooks := .later }
def FnExactValidProgramCardSaid : Prop := Claim7.holds Tryd.pinned (.plain (OpenSpec.ofChange fnExactValidProgramSpec)) fnExactValidProgramCard

/-- THE TIED CARD OF 'laws.FnExactEndOf'. -/
def fnExactEndOfCard : Claim7 := { stood := { row := fnExactEndOfRow, standIns := [], harness := (true, "c4d0187ddc7bde1a5b2ab10580f786da0aa057cfae351f2ecd6db91f9fdb60e6"), looks := false }, kinds := [], alts := [], laidByText := true, laidKinds := [.data], laidTests := true, laidLooks := .later }
def FnExactEndOfCardSaid : Prop := Claim7.holds Tryd.pinned (.plain (OpenSpec.ofChange fnExactEndOfSpec)) fnExactEndOfCard

/-- THE TIED CARD OF 'laws.FnExactEventsIn'. -/
def fnExactEventsInCard : Claim7 := { stood := { row := fnExactEventsInRow, standIns := [], harness := (true, "c4d0187ddc7bde1a5b2ab10580f786da0aa057cfae351f2ecd6db91f9fdb60e6"), looks := false }, kinds := [], alts := [], laidByText := true, laidKinds := [.data], laidTests := true, laidLooks := .later }
def FnExactEventsInCardSaid : Prop := Claim7.holds Tryd.pinned (.plain (OpenSpec.ofChange fnExactEventsInSpec)) fnExactEventsInCard

/-- THE TIED CARD OF 'laws.FnExactLoopsOf'. -/
def fnExactLoopsOfCard : Claim7 := { stood := { row := fnExactLoopsOfRow, standIns := [], harness := (true, "c4d0187ddc7bde1a5b2ab10580f786da0aa057cfae351f2ecd6db91f9fdb60e6"), looks := false }, kinds := [], alts := [], laidByText := true, laidKinds := [.data], laidTests := true, laidLooks := .later }
def FnExactLoopsOfCardSaid : Prop := Claim7.holds Tryd.pinned (.plain (OpenSpec.ofChange fnExactLoopsOfSpec)) fnExactLoopsOfCard

/-- THE TIED CARD OF 'laws.FnExactStartFacts'. -/
def fnExactStartFactsCard : Claim7 := { stood := { row := fnExactStartFactsRow, standIns := [], harness := (true, "c4d0187ddc7bde1a5b2ab10580f786da0aa057cfae351f2ecd6db91f9fdb60e6"), looks := false }, kinds := [], alts := [], laidByText := true, laidKinds := [.data], laidTests := true, laidLooks := .later }
def FnExactStartFactsCardSaid : Prop := Claim7.holds Tryd.pinned (.plain (OpenSpec.ofChange fnExactStartFactsSpec)) fnExactStartFactsCard

/-- THE TIED CARD OF 'laws.FnExactHoldsAt'. -/
def fnExactHoldsAtCard : Claim7 := { stood := { row := fnExactHoldsAtRow, standIns := [], harness := (true, "c4d0187ddc7bde1a5b2ab10580f786da0aa057cfae351f2ecd6db91f9fdb60e6"), looks := false }, kinds := [], alts := [], laidByText := true, laidKinds := [.data], laidTests := true, laidLooks := .later }
def FnExactHoldsAtCardSaid : Prop := Claim7.holds Tryd.pinned (.plain (OpenSpec.ofChange fnExactHoldsAtSpec)) fnExactHoldsAtCard

/-- THE SECOND FORM's CARD OF 'laws.FnExactLinesOf'. -/
def fnExactLinesOfUptoCard : Claim7 := { stood := { row := fnExactLinesOfUptoRow, standIns := [], harness := (true, "c4d0187ddc7bde1a5b2ab10580f786da0aa057cfae351f2ecd6db91f9fdb60e6"), looks := false }, kinds := [], alts := [], laidByText := true, laidKinds := [.data, .pinned], laidTests := true, laidLooks := .later }
def FnExactLinesOfUptoCardSaid : Prop := Claim7.holds Tryd.pinned (.plain (OpenSpec.upto fnExactLinesOfSpec)) fnExactLinesOfUptoCard

/-- THE SECOND FORM's CARD OF 'laws.FnExactIsBody'. -/
def fnExactIsBodyUptoCard : Claim7 := { stood := { row := fnExactIsBodyUptoRow, standIns := [], harness := (true, "c4d0187ddc7bde1a5b2ab10580f786da0aa057cfae351f2ecd6db91f9fdb60e6"), looks := false }, kinds := [], alts := [], laidByText := true, laidKinds := [.data], laidTests := true, laidLooks := .later }
def FnExactIsBodyUptoCardSaid : Prop := Claim7.holds Tryd.pinned (.plain (OpenSpec.upto fnExactIsBodySpec)) fnExactIsBodyUptoCard

/-- THE SECOND FORM's CARD OF 'laws.FnExactValidProgram'. -/
def fnExactValidProgramUptoCard : Claim7 := { stood := { row := fnExactValidProgramUptoRow, standIns := [], harness := (true, "c4d0187ddc7bde1a5b2ab10580f786da0aa057cfae351f2ecd6db91f9fdb60e6"), looks := false }, kinds := [], alts := [], laidByText := true, laidKinds := [.data], laidTests := true, laidLooks := .later }
def FnExactValidProgramUptoCardSaid : Prop := Claim7.holds Tryd.pinned (.plain (OpenSpec.upto fnExactValidProgramSpec)) fnExactValidProgramUptoCard

/-- THE SECOND FORM's CARD OF 'laws.FnExactEndOf'. -/
def fnExactEndOfUptoCard : Claim7 := { stood := { row := fnExactEndOfUptoRow, standIns := [], harness := (true, "c4d0187ddc7bde1a5b2ab10580f786da0aa057cfae351f2ecd6db91f9fdb60e6"), looks := false }, kinds := [], alts := [], laidByText := true, laidKinds := [.data], laidTests := true, laidLooks := .later }
def FnExactEndOfUptoCardSaid : Prop := Claim7.holds Tryd.pinned (.plain (OpenSpec.upto fnExactEndOfSpec)) fnExactEndOfUptoCard

/-- THE SECOND FORM's CARD OF 'laws.FnExactEventsIn'. -/
def fnExactEventsInUptoCard : Claim7 := { stood := { row := fnExactEventsInUptoRow, standIns := [], harness := (true, "c4d0187ddc7bde1a5b2ab10580f786da0aa057cfae351f2ecd6db91f9fdb60e6"), looks := false }, kinds := [], alts := [], laidByText := true, laidKinds := [.data], laidTests := true, laidLooks := .later }
def FnExactEventsInUptoCardSaid : Prop := Claim7.holds Tryd.pinned (.plain (OpenSpec.upto fnExactEventsInSpec)) fnExactEventsInUptoCard

/-- THE SECOND FORM's CARD OF 'laws.FnExactLoopsOf'. -/
def fnExactLoopsOfUptoCard : Claim7 := { stood := { row := fnExactLoopsOfUptoRow, standIns := [], harness := (true, "c4d0187ddc7bde1a5b2ab10580f786da0aa057cfae351f2ecd6db91f9fdb60e6"), looks := false }, kinds := [], alts := [], laidByText := true, laidKinds := [.data], laidTests := true, laidLooks := .later }
def FnExactLoopsOfUptoCardSaid : Prop := Claim7.holds Tryd.pinned (.plain (OpenSpec.upto fnExactLoopsOfSpec)) fnExactLoopsOfUptoCard

/-- THE SECOND FORM's CARD OF 'laws.FnExactStartFacts'. -/
def fnExactStartFactsUptoCard : Claim7 := { stood := { row := fnExactStartFactsUptoRow, standIns := [], harness := (true, "c4d0187ddc7bde1a5b2ab10580f786da0aa057cfae351f2ecd6db91f9fdb60e6"), looks := false }, kinds := [], alts := [], laidByText := true, laidKinds := [.data], laidTests := true, laidLooks := .later }
def FnExactStartFactsUptoCardSaid : Prop := Claim7.holds Tryd.pinned (.plain (OpenSpec.upto fnExactStartFactsSpec)) fnExactStartFactsUptoCard

/-- THE SECOND FORM's CARD OF 'laws.FnExactHoldsAt'. -/
def fnExactHoldsAtUptoCard : Claim7 := { stood := { row := fnExactHoldsAtUptoRow, standIns := [], harness := (true, "c4d0187ddc7bde1a5b2ab10580f786da0aa057cfae351f2ecd6db91f9fdb60e6"), looks := false }, kinds := [], alts := [], laidByText := true, laidKinds := [.data], laidTests := true, laidLooks := .later }
def FnExactHoldsAtUptoCardSaid : Prop := Claim7.holds Tryd.pinned (.plain (OpenSpec.upto fnExactHoldsAtSpec)) fnExactHoldsAtUptoCard
end Rows
end Go.Proofs.YtpgbihiibdiohaaDoor
