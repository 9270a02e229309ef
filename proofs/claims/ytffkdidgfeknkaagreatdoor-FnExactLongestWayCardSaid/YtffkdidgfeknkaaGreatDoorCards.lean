/-
  DERIVED. GIVEN WITH THE SEED: THE CARDS: each row of YtffkdidgfeknkaaGreatDoorRows.lean that lists a variable, with what it lists TIED to the program's text (the seventh form; the later family's looks); each row that meets fmt, with fmt's text TOLD by the authors' own Lean function (tested against real Go, not proved from fmt's source: count such statements apart). THE CARD IS WHAT COUNTS. Prove the row's statement (the work); the ties are given (YtffkdidgfeknkaaGreatDoorTie.lean); close each card by the builder's one call (the guide's Derived/Test/ToyasCard.lean, 'card_holds'). Laid BY PROGRAM, IN A SANDBOX (cutbox-door.mjs). By AI agents, Wed Nov 11 2026. No macro, syntax, notation, axiom, sorry.
-/
import Derived.Test.YtffkdidgfeknkaaGreatDoorRows
import GoSem.ClaimSeven
namespace Go.Proofs.YtffkdidgfeknkaaGreatDoor
namespace Rows

/-- THE TIED CARD OF 'laws.FnExactHeightsOf'. -/
def fnExactHeightsOfCard : Claim7 := { stood := { row := fnExactHeightsOfRow, standIns := [], harness := (true, "04d4a2b4e10e61e83f185bcb34331c71819d8e81bcb7ac2bbef32303bb31df11"), looks := false }, kinds := [], alts := [], laidByText := true, laidKinds := [.sentinel], laidTests := true, laidLooks := .later }
def FnExactHeightsOfCardSaid : Prop := Claim7.holds Tryz.pinned (.plain (OpenSpec.ofChange fnExactHeightsOfSpec)) fnExactHeightsOfCard

/-- THE TIED CARD OF 'laws.FnExactOpenLoops'. -/
def fnExactOpenLoopsCard : Claim7 := { stood := { row := fnExactOpenLoopsRow, standIns := [], harness := (true, "04d4a2b4e10e61e83f185bcb34331c71819d8e81bcb7ac2bbef32303bb31df11"), looks := false }, kinds := [], alts := [], laidByText := true, laidKinds := [.data], laidTests := true, laidLooks := .later }
def FnExactOpenLoopsCardSaid : Prop := Claim7.holds Tryz.pinned (.plain (OpenSpec.ofChange fnExactOpenLoopsSpec)) fnExactOpenLoopsCard

/-- THE TIED CARD OF 'laws.FnExactLongestWay'. -/
def fnExactLongestWayCard : Claim7 := { stood := { row := fnExactLongestWayRow, standIns := [], harness := (true, "04d4a2b4e10e61e83f185bcb34331c71819d8e81bcb7ac2bbef32303bb31df11"), looks := false }, kinds := [], alts := [], laidByText := true, laidKinds := [.data, .sentinel], laidTests := true, laidLooks := .later }
def FnExactLongestWayCardSaid : Prop := Claim7.holds Tryz.pinned (.plain (OpenSpec.ofChange fnExactLongestWaySpec)) fnExactLongestWayCard

/-- THE SECOND FORM's CARD OF 'laws.FnExactHeightsOf'. -/
def fnExactHeightsOfUptoCard : Claim7 := { stood := { row := fnExactHeightsOfUptoRow, standIns := [], harness := (true, "04d4a2b4e10e61e83f185bcb34331c71819d8e81bcb7ac2bbef32303bb31df11"), looks := false }, kinds := [], alts := [], laidByText := true, laidKinds := [.sentinel], laidTests := true, laidLooks := .later }
def FnExactHeightsOfUptoCardSaid : Prop := Claim7.holds Tryz.pinned (.plain (OpenSpec.upto fnExactHeightsOfSpec)) fnExactHeightsOfUptoCard

/-- THE SECOND FORM's CARD OF 'laws.FnExactOpenLoops'. -/
def fnExactOpenLoopsUptoCard : Claim7 := { stood := { row := fnExactOpenLoopsUptoRow, standIns := [], harness := (true, "04d4a2b4e10e61e83f185bcb34331c71819d8e81bcb7ac2bbef32303bb31df11"), looks := false }, kinds := [], alts := [], laidByText := true, laidKinds := [.data], laidTests := true, laidLooks := .later }
def FnExactOpenLoopsUptoCardSaid : Prop := Claim7.holds Tryz.pinned (.plain (OpenSpec.upto fnExactOpenLoopsSpec)) fnExactOpenLoopsUptoCard

/-- THE SECOND FORM's CARD OF 'laws.FnExactLongestWay'. -/
def fnExactLongestWayUptoCard : Claim7 := { stood := { row := fnExactLongestWayUptoRow, standIns := [], harness := (true, "04d4a2b4e10e61e83f185bcb34331c71819d8e81bcb7ac2bbef32303bb31df11"), looks := false }, kinds := [], alts := [], laidByText := true, laidKinds := [.data, .sentinel], laidTests := true, laidLooks := .later }
def FnExactLongestWayUptoCardSaid : Prop := Claim7.holds Tryz.pinned (.plain (OpenSpec.upto fnExactLongestWaySpec)) fnExactLongestWayUptoCard
end Rows
end Go.Proofs.YtffkdidgfeknkaaGreatDoor
