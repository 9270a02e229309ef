/-
  DERIVED. GIVEN WITH THE SEED: THE CARDS: each row of YtidjniaamphhnaaDoorRows.lean that lists a variable, with what it lists TIED to the program's text (the seventh form; the later family's looks); each row that meets fmt, with fmt's text TOLD by the authors' own Lean function (tested against real Go, not proved from fmt's source: count such statements apart). THE CARD IS WHAT COUNTS. Prove the row's statement (the work); the ties are given (YtidjniaamphhnaaDoorTie.lean); close each card by the builder's one call (the guide's Derived/Test/ToyasCard.lean, 'card_holds'). Laid BY PROGRAM, IN A SANDBOX (cutbox-door.mjs). By AI agents, Wed Nov 11 2026. No macro, syntax, notation, axiom, sorry.
-/
import Derived.Test.YtidjniaamphhnaaDoorRows
import GoSem.ClaimSeven
namespace Go.Proofs.YtidjniaamphhnaaDoor
namespace Rows

/-- THE TIED CARD OF 'laws.FnCoded'. -/
def fnCodedCard : Claim7 := { stood := { row := fnCodedRow, standIns := [], harness := (true, "28ec5fb22f9422c878d85e3b888842c70d1af917f3cd9c3654365919b2630e18"), looks := true }, kinds := [], alts := [], laidByText := true, laidKinds := [.handle], laidTests := true, laidLooks := .later }
def FnCodedCardSaid : Prop := Claim7.holds Tryd.pinned (.plain (OpenSpec.ofChange fnCodedSpec)) fnCodedCard

/-- THE TIED CARD OF 'laws.FnTexts'. -/
def fnTextsCard : Claim7 := { stood := { row := fnTextsRow, standIns := [], harness := (true, "28ec5fb22f9422c878d85e3b888842c70d1af917f3cd9c3654365919b2630e18"), looks := true }, kinds := [], alts := [], laidByText := true, laidKinds := [.data, .pinned], laidTests := true, laidLooks := .later }
def FnTextsCardSaid : Prop := Claim7.holds Tryd.pinned (.plain (OpenSpec.ofChange fnTextsSpec)) fnTextsCard

/-- THE TIED CARD OF 'laws.FnExactDecimal'. -/
def fnExactDecimalCard : Claim7 := { stood := { row := fnExactDecimalRow, standIns := [], harness := (true, "28ec5fb22f9422c878d85e3b888842c70d1af917f3cd9c3654365919b2630e18"), looks := true }, kinds := [], alts := [], laidByText := true, laidKinds := [.data, .data, .data], laidTests := true, laidLooks := .later }
def FnExactDecimalCardSaid : Prop := Claim7.holds Tryd.pinned (.plain (OpenSpec.ofChange fnExactDecimalSpec)) fnExactDecimalCard

/-- THE TIED CARD OF 'laws.FnExactReadDecimal'. -/
def fnExactReadDecimalCard : Claim7 := { stood := { row := fnExactReadDecimalRow, standIns := [], harness := (true, "28ec5fb22f9422c878d85e3b888842c70d1af917f3cd9c3654365919b2630e18"), looks := true }, kinds := [], alts := [], laidByText := true, laidKinds := [.data, .data, .data, .sentinel, .sentinel], laidTests := true, laidLooks := .later }
def FnExactReadDecimalCardSaid : Prop := Claim7.holds Tryd.pinned (.plain (OpenSpec.ofChange fnExactReadDecimalSpec)) fnExactReadDecimalCard

/-- THE TIED CARD OF 'laws.FnExactGetNumber'. -/
def fnExactGetNumberCard : Claim7 := { stood := { row := fnExactGetNumberRow, standIns := [], harness := (true, "28ec5fb22f9422c878d85e3b888842c70d1af917f3cd9c3654365919b2630e18"), looks := true }, kinds := [], alts := [], laidByText := true, laidKinds := [.handle], laidTests := true, laidLooks := .later }
def FnExactGetNumberCardSaid : Prop := Claim7.holds Tryd.pinned (.plain (OpenSpec.ofChange fnExactGetNumberSpec)) fnExactGetNumberCard

/-- THE TIED CARD OF 'laws.FnExactGetList'. -/
def fnExactGetListCard : Claim7 := { stood := { row := fnExactGetListRow, standIns := [], harness := (true, "28ec5fb22f9422c878d85e3b888842c70d1af917f3cd9c3654365919b2630e18"), looks := true }, kinds := [], alts := [], laidByText := true, laidKinds := [.handle], laidTests := true, laidLooks := .later }
def FnExactGetListCardSaid : Prop := Claim7.holds Tryd.pinned (.plain (OpenSpec.ofChange fnExactGetListSpec)) fnExactGetListCard

/-- THE SECOND FORM's CARD OF 'laws.FnCoded'. -/
def fnCodedUptoCard : Claim7 := { stood := { row := fnCodedUptoRow, standIns := [], harness := (true, "28ec5fb22f9422c878d85e3b888842c70d1af917f3cd9c3654365919b2630e18"), looks := true }, kinds := [], alts := [], laidByText := true, laidKinds := [.handle], laidTests := true, laidLooks := .later }
def FnCodedUptoCardSaid : Prop := Claim7.holds Tryd.pinned (.plain (OpenSpec.upto fnCodedSpec)) fnCodedUptoCard

/-- THE SECOND FORM's CARD OF 'laws.FnTexts'. -/
def fnTextsUptoCard : Claim7 := { stood := { row := fnTextsUptoRow, standIns := [], harness := (true, "28ec5fb22f9422c878d85e3b888842c70d1af917f3cd9c3654365919b2630e18"), looks := true }, kinds := [], alts := [], laidByText := true, laidKinds := [.data, .pinned], laidTests := true, laidLooks := .later }
def FnTextsUptoCardSaid : Prop := Claim7.holds Tryd.pinned (.plain (OpenSpec.upto fnTextsSpec)) fnTextsUptoCard

/-- THE SECOND FORM's CARD OF 'laws.FnExactDecimal'. -/
def fnExactDecimalUptoCard : Claim7 := { stood := { row := fnExactDecimalUptoRow, standIns := [], harness := (true, "28ec5fb22f9422c878d85e3b888842c70d1af917f3cd9c3654365919b2630e18"), looks := true }, kinds := [], alts := [], laidByText := true, laidKinds := [.data, .data, .data], laidTests := true, laidLooks := .later }
def FnExactDecimalUptoCardSaid : Prop := Claim7.holds Tryd.pinned (.plain (OpenSpec.upto fnExactDecimalSpec)) fnExactDecimalUptoCard

/-- THE SECOND FORM's CARD OF 'laws.FnExactReadDecimal'. -/
def fnExactReadDecimalUptoCard : Claim7 := { stood := { row := fnExactReadDecimalUptoRow, standIns := [], harness := (true, "28ec5fb22f9422c878d85e3b888842c70d1af917f3cd9c3654365919b2630e18"), looks := true }, kinds := [], alts := [], laidByText := true, laidKinds := [.data, .data, .data, .sentinel, .sentinel], laidTests := true, laidLooks := .later }
def FnExactReadDecimalUptoCardSaid : Prop := Claim7.holds Tryd.pinned (.plain (OpenSpec.upto fnExactReadDecimalSpec)) fnExactReadDecimalUptoCard

/-- THE SECOND FORM's CARD OF 'laws.FnExactGetNumber'. -/
def fnExactGetNumberUptoCard : Claim7 := { stood := { row := fnExactGetNumberUptoRow, standIns := [], harness := (true, "28ec5fb22f9422c878d85e3b888842c70d1af917f3cd9c3654365919b2630e18"), looks := true }, kinds := [], alts := [], laidByText := true, laidKinds := [.handle], laidTests := true, laidLooks := .later }
def FnExactGetNumberUptoCardSaid : Prop := Claim7.holds Tryd.pinned (.plain (OpenSpec.upto fnExactGetNumberSpec)) fnExactGetNumberUptoCard

/-- THE SECOND FORM's CARD OF 'laws.FnExactGetList'. -/
def fnExactGetListUptoCard : Claim7 := { stood := { row := fnExactGetListUptoRow, standIns := [], harness := (true, "28ec5fb22f9422c878d85e3b888842c70d1af917f3cd9c3654365919b2630e18"), looks := true }, kinds := [], alts := [], laidByText := true, laidKinds := [.handle], laidTests := true, laidLooks := .later }
def FnExactGetListUptoCardSaid : Prop := Claim7.holds Tryd.pinned (.plain (OpenSpec.upto fnExactGetListSpec)) fnExactGetListUptoCard
end Rows
end Go.Proofs.YtidjniaamphhnaaDoor
