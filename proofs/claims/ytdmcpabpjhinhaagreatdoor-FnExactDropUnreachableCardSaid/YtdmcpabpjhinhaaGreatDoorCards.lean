/-
  DERIVED. GIVEN WITH THE SEED: THE CARDS: each row of YtdmcpabpjhinhaaGreatDoorRows.lean that lists a variable, with what it lists TIED to the program's text (the seventh form; the later family's looks); each row that meets fmt, with fmt's text TOLD by the authors' own Lean function (tested against real Go, not proved from fmt's source: count such statements apart). THE CARD IS WHAT COUNTS. Prove the row's statement (the work); the ties are given (YtdmcpabpjhinhaaGreatDoorTie.lean); close each card by the builder's one call (the guide's Derived/Test/ToyasCard.lean, 'card_holds'). Laid BY PROGRAM, IN A SANDBOX (cutbox-door.mjs). By AI agents, Wed Nov 11 2026. No macro, syntax, notation, axiom, sorry.
-/
import Derived.Test.YtdmcpabpjhinhaaGreatDoorRows
import GoSem.ClaimSeven
namespace Go.Proofs.YtdmcpabpjhinhaaGreatDoor
namespace Rows

/-- THE TIED CARD OF 'laws.FnExactDropUnreachable'. -/
def fnExactDropUnreachableCard : Claim7 := { stood := { row := fnExactDropUnreachableRow, standIns := [], harness := (true, "9365362d396612c7e5a43d16629a940d0604e9e8f36df5583ec25d1f8364ed1b"), looks := true }, kinds := [], alts := [], laidByText := true, laidKinds := [.data], laidTests := true, laidLooks := .later }
def FnExactDropUnreachableCardSaid : Prop := Claim7.holds Tryz.pinned (.plain (OpenSpec.ofChange fnExactDropUnreachableSpec)) fnExactDropUnreachableCard

/-- THE TIED CARD OF 'laws.FnExactReadCode'. -/
def fnExactReadCodeCard : Claim7 := { stood := { row := fnExactReadCodeRow, standIns := [], harness := (true, "9365362d396612c7e5a43d16629a940d0604e9e8f36df5583ec25d1f8364ed1b"), looks := true }, kinds := [], alts := [], laidByText := true, laidKinds := [.data, .data, .data, .data, .sentinel, .sentinel, .pinned], laidTests := true, laidLooks := .later }
def FnExactReadCodeCardSaid : Prop := Claim7.holds Tryz.pinned (.plain (OpenSpec.ofChange fnExactReadCodeSpec)) fnExactReadCodeCard

/-- THE SECOND FORM's CARD OF 'laws.FnExactDropUnreachable'. -/
def fnExactDropUnreachableUptoCard : Claim7 := { stood := { row := fnExactDropUnreachableUptoRow, standIns := [], harness := (true, "9365362d396612c7e5a43d16629a940d0604e9e8f36df5583ec25d1f8364ed1b"), looks := true }, kinds := [], alts := [], laidByText := true, laidKinds := [.data], laidTests := true, laidLooks := .later }
def FnExactDropUnreachableUptoCardSaid : Prop := Claim7.holds Tryz.pinned (.plain (OpenSpec.upto fnExactDropUnreachableSpec)) fnExactDropUnreachableUptoCard

/-- THE SECOND FORM's CARD OF 'laws.FnExactReadCode'. -/
def fnExactReadCodeUptoCard : Claim7 := { stood := { row := fnExactReadCodeUptoRow, standIns := [], harness := (true, "9365362d396612c7e5a43d16629a940d0604e9e8f36df5583ec25d1f8364ed1b"), looks := true }, kinds := [], alts := [], laidByText := true, laidKinds := [.data, .data, .data, .data, .sentinel, .sentinel, .pinned], laidTests := true, laidLooks := .later }
def FnExactReadCodeUptoCardSaid : Prop := Claim7.holds Tryz.pinned (.plain (OpenSpec.upto fnExactReadCodeSpec)) fnExactReadCodeUptoCard
end Rows
end Go.Proofs.YtdmcpabpjhinhaaGreatDoor
