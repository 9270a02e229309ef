/-
  DERIVED. GIVEN WITH THE SEED: THE CARDS: each row of YtajmbnimdngjhaaGreatDoorRows.lean that lists a variable, with what it lists TIED to the program's text (the seventh form; the later family's looks); each row that meets fmt, with fmt's text TOLD by the authors' own Lean function (tested against real Go, not proved from fmt's source: count such statements apart). THE CARD IS WHAT COUNTS. Prove the row's statement (the work); the ties are given (YtajmbnimdngjhaaGreatDoorTie.lean); close each card by the builder's one call (the guide's Derived/Test/ToyasCard.lean, 'card_holds'). Laid BY PROGRAM, IN A SANDBOX (cutbox-door.mjs). By AI agents, Wed Nov 11 2026. No macro, syntax, notation, axiom, sorry.
-/
import Derived.Test.YtajmbnimdngjhaaGreatDoorRows
import GoSem.ClaimSeven
namespace Go.Proofs.YtajmbnimdngjhaaGreatDoor
namespace Rows

/-- THE TIED CARD OF 'laws.FnExactRunProgram'. -/
def fnExactRunProgramCard : Claim7 := { stood := { row := fnExactRunProgramRow, standIns := [], harness := (true, "cb5f9ce69be7f2245146fc79f87e5ab8c9da3f7726d50648b1356c79d06641b0"), looks := true }, kinds := [], alts := [], laidByText := true, laidKinds := [.data], laidTests := true, laidLooks := .later }
def FnExactRunProgramCardSaid : Prop := Claim7.holds Tryz.pinned (.plain (OpenSpec.ofChange fnExactRunProgramSpec)) fnExactRunProgramCard

/-- THE TIED CARD OF 'laws.FnExactStepsOf'. -/
def fnExactStepsOfCard : Claim7 := { stood := { row := fnExactStepsOfRow, standIns := [], harness := (true, "cb5f9ce69be7f2245146fc79f87e5ab8c9da3f7726d50648b1356c79d06641b0"), looks := true }, kinds := [], alts := [], laidByText := true, laidKinds := [.data], laidTests := true, laidLooks := .later }
def FnExactStepsOfCardSaid : Prop := Claim7.holds Tryz.pinned (.plain (OpenSpec.ofChange fnExactStepsOfSpec)) fnExactStepsOfCard

/-- THE TIED CARD OF 'laws.FnExactJoinPrograms'. -/
def fnExactJoinProgramsCard : Claim7 := { stood := { row := fnExactJoinProgramsRow, standIns := [], harness := (true, "cb5f9ce69be7f2245146fc79f87e5ab8c9da3f7726d50648b1356c79d06641b0"), looks := true }, kinds := [], alts := [], laidByText := true, laidKinds := [.data], laidTests := true, laidLooks := .later }
def FnExactJoinProgramsCardSaid : Prop := Claim7.holds Tryz.pinned (.plain (OpenSpec.ofChange fnExactJoinProgramsSpec)) fnExactJoinProgramsCard

/-- THE TIED CARD OF 'laws.FnExactReadCode'. -/
def fnExactReadCodeCard : Claim7 := { stood := { row := fnExactReadCodeRow, standIns := [], harness := (true, "cb5f9ce69be7f2245146fc79f87e5ab8c9da3f7726d50648b1356c79d06641b0"), looks := true }, kinds := [], alts := [], laidByText := true, laidKinds := [.data, .data, .data, .data, .sentinel, .sentinel, .pinned], laidTests := true, laidLooks := .later }
def FnExactReadCodeCardSaid : Prop := Claim7.holds Tryz.pinned (.plain (OpenSpec.ofChange fnExactReadCodeSpec)) fnExactReadCodeCard

/-- THE SECOND FORM's CARD OF 'laws.FnExactRunProgram'. -/
def fnExactRunProgramUptoCard : Claim7 := { stood := { row := fnExactRunProgramUptoRow, standIns := [], harness := (true, "cb5f9ce69be7f2245146fc79f87e5ab8c9da3f7726d50648b1356c79d06641b0"), looks := true }, kinds := [], alts := [], laidByText := true, laidKinds := [.data], laidTests := true, laidLooks := .later }
def FnExactRunProgramUptoCardSaid : Prop := Claim7.holds Tryz.pinned (.plain (OpenSpec.upto fnExactRunProgramSpec)) fnExactRunProgramUptoCard

/-- THE SECOND FORM's CARD OF 'laws.FnExactStepsOf'. -/
def fnExactStepsOfUptoCard : Claim7 := { stood := { row := fnExactStepsOfUptoRow, standIns := [], harness := (true, "cb5f9ce69be7f2245146fc79f87e5ab8c9da3f7726d50648b1356c79d06641b0"), looks := true }, kinds := [], alts := [], laidByText := true, laidKinds := [.data], laidTests := true, laidLooks := .later }
def FnExactStepsOfUptoCardSaid : Prop := Claim7.holds Tryz.pinned (.plain (OpenSpec.upto fnExactStepsOfSpec)) fnExactStepsOfUptoCard

/-- THE SECOND FORM's CARD OF 'laws.FnExactJoinPrograms'. -/
def fnExactJoinProgramsUptoCard : Claim7 := { stood := { row := fnExactJoinProgramsUptoRow, standIns := [], harness := (true, "cb5f9ce69be7f2245146fc79f87e5ab8c9da3f7726d50648b1356c79d06641b0"), looks := true }, kinds := [], alts := [], laidByText := true, laidKinds := [.data], laidTests := true, laidLooks := .later }
def FnExactJoinProgramsUptoCardSaid : Prop := Claim7.holds Tryz.pinned (.plain (OpenSpec.upto fnExactJoinProgramsSpec)) fnExactJoinProgramsUptoCard

/-- THE SECOND FORM's CARD OF 'laws.FnExactReadCode'. -/
def fnExactReadCodeUptoCard : Claim7 := { stood := { row := fnExactReadCodeUptoRow, standIns := [], harness := (true, "cb5f9ce69be7f2245146fc79f87e5ab8c9da3f7726d50648b1356c79d06641b0"), looks := true }, kinds := [], alts := [], laidByText := true, laidKinds := [.data, .data, .data, .data, .sentinel, .sentinel, .pinned], laidTests := true, laidLooks := .later }
def FnExactReadCodeUptoCardSaid : Prop := Claim7.holds Tryz.pinned (.plain (OpenSpec.upto fnExactReadCodeSpec)) fnExactReadCodeUptoCard
end Rows
end Go.Proofs.YtajmbnimdngjhaaGreatDoor
