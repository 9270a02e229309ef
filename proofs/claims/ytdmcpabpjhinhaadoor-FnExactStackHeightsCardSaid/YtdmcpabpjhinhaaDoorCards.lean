/-
  DERIVED. GIVEN WITH THE SEED: THE CARDS: each row of YtdmcpabpjhinhaaDoorRows.lean that lists a variable, with what it lists TIED to the program's text (the seventh form; the later family's looks); each row that meets fmt, with fmt's text TOLD by the authors' own Lean function (tested against real Go, not proved from fmt's source: count such statements apart). THE CARD IS WHAT COUNTS. Prove the row's statement (the work); the ties are given (YtdmcpabpjhinhaaDoorTie.lean); close each card by the builder's one call (the guide's Derived/Test/ToyasCard.lean, 'card_holds'). Laid BY PROGRAM, IN A SANDBOX (cutbox-door.mjs). By AI agents, Wed Nov 11 2026. No macro, syntax, notation, axiom, sorry.
-/
import Derived.Test.YtdmcpabpjhinhaaDoorRows
import GoSem.ClaimSeven
namespace Go.Proofs.YtdmcpabpjhinhaaDoor
namespace Rows

/-- THE TIED CARD OF 'laws.FnExactReachableCode'. -/
def fnExactReachableCodeCard : Claim7 := { stood := { row := fnExactReachableCodeRow, standIns := [], harness := (true, "abcba2095bb3bc8e8cb603bf8ffe0d7fb509fee2c7bf3f7b040af866016e2b88"), looks := false }, kinds := [], alts := [], laidByText := true, laidKinds := [.sentinel], laidTests := true, laidLooks := .later }
def FnExactReachableCodeCardSaid : Prop := Claim7.holds Tryd.pinned (.plain (OpenSpec.ofChange fnExactReachableCodeSpec)) fnExactReachableCodeCard

/-- THE TIED CARD OF 'laws.FnExactStackHeights'. -/
def fnExactStackHeightsCard : Claim7 := { stood := { row := fnExactStackHeightsRow, standIns := [], harness := (true, "abcba2095bb3bc8e8cb603bf8ffe0d7fb509fee2c7bf3f7b040af866016e2b88"), looks := false }, kinds := [], alts := [], laidByText := true, laidKinds := [.sentinel], laidTests := true, laidLooks := .later }
def FnExactStackHeightsCardSaid : Prop := Claim7.holds Tryd.pinned (.plain (OpenSpec.ofChange fnExactStackHeightsSpec)) fnExactStackHeightsCard

/-- THE SECOND FORM's CARD OF 'laws.FnExactReachableCode'. -/
def fnExactReachableCodeUptoCard : Claim7 := { stood := { row := fnExactReachableCodeUptoRow, standIns := [], harness := (true, "abcba2095bb3bc8e8cb603bf8ffe0d7fb509fee2c7bf3f7b040af866016e2b88"), looks := false }, kinds := [], alts := [], laidByText := true, laidKinds := [.sentinel], laidTests := true, laidLooks := .later }
def FnExactReachableCodeUptoCardSaid : Prop := Claim7.holds Tryd.pinned (.plain (OpenSpec.upto fnExactReachableCodeSpec)) fnExactReachableCodeUptoCard

/-- THE SECOND FORM's CARD OF 'laws.FnExactStackHeights'. -/
def fnExactStackHeightsUptoCard : Claim7 := { stood := { row := fnExactStackHeightsUptoRow, standIns := [], harness := (true, "abcba2095bb3bc8e8cb603bf8ffe0d7fb509fee2c7bf3f7b040af866016e2b88"), looks := false }, kinds := [], alts := [], laidByText := true, laidKinds := [.sentinel], laidTests := true, laidLooks := .later }
def FnExactStackHeightsUptoCardSaid : Prop := Claim7.holds Tryd.pinned (.plain (OpenSpec.upto fnExactStackHeightsSpec)) fnExactStackHeightsUptoCard
end Rows
end Go.Proofs.YtdmcpabpjhinhaaDoor
