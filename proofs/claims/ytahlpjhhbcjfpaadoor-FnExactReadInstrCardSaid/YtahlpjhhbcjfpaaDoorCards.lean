/-
  DERIVED. GIVEN WITH THE SEED: THE CARDS: each row of YtahlpjhhbcjfpaaDoorRows.lean that lists a variable, with what it lists TIED to the program's text (the seventh form; the later family's looks); each row that meets fmt, with fmt's text TOLD by the authors' own Lean function (tested against real Go, not proved from fmt's source: count such statements apart). THE CARD IS WHAT COUNTS. Prove the row's statement (the work); the ties are given (YtahlpjhhbcjfpaaDoorTie.lean); close each card by the builder's one call (the guide's Derived/Test/ToyasCard.lean, 'card_holds'). Laid BY PROGRAM, IN A SANDBOX (cutbox-door.mjs). By AI agents, Wed Nov 11 2026. No macro, syntax, notation, axiom, sorry.
-/
import Derived.Test.YtahlpjhhbcjfpaaDoorRows
import GoSem.ClaimSeven
namespace Go.Proofs.YtahlpjhhbcjfpaaDoor
namespace Rows

/-- THE TIED CARD OF 'laws.FnExactInstrText'. -/
def fnExactInstrTextCard : Claim7 := { stood := { row := fnExactInstrTextRow, standIns := [], harness := (true, "d95fbb202efc5e764491a97e689bc28c40d06e9addc475cfb792f931396fdb49"), looks := true }, kinds := [], alts := [], laidByText := true, laidKinds := [.data, .data, .data], laidTests := true, laidLooks := .later }
def FnExactInstrTextCardSaid : Prop := Claim7.holds Tryd.pinned (.plain (OpenSpec.ofChange fnExactInstrTextSpec)) fnExactInstrTextCard

/-- THE TIED CARD OF 'laws.FnExactReadInstr'. -/
def fnExactReadInstrCard : Claim7 := { stood := { row := fnExactReadInstrRow, standIns := [], harness := (true, "d95fbb202efc5e764491a97e689bc28c40d06e9addc475cfb792f931396fdb49"), looks := true }, kinds := [], alts := [], laidByText := true, laidKinds := [.data, .data, .data, .sentinel, .sentinel], laidTests := true, laidLooks := .later }
def FnExactReadInstrCardSaid : Prop := Claim7.holds Tryd.pinned (.plain (OpenSpec.ofChange fnExactReadInstrSpec)) fnExactReadInstrCard

/-- THE TIED CARD OF 'laws.FnExactCodeText'. -/
def fnExactCodeTextCard : Claim7 := { stood := { row := fnExactCodeTextRow, standIns := [], harness := (true, "d95fbb202efc5e764491a97e689bc28c40d06e9addc475cfb792f931396fdb49"), looks := true }, kinds := [], alts := [], laidByText := true, laidKinds := [.data, .data, .data], laidTests := true, laidLooks := .later }
def FnExactCodeTextCardSaid : Prop := Claim7.holds Tryd.pinned (.plain (OpenSpec.ofChange fnExactCodeTextSpec)) fnExactCodeTextCard

/-- THE TIED CARD OF 'laws.FnExactTermText'. -/
def fnExactTermTextCard : Claim7 := { stood := { row := fnExactTermTextRow, standIns := [], harness := (true, "d95fbb202efc5e764491a97e689bc28c40d06e9addc475cfb792f931396fdb49"), looks := true }, kinds := [], alts := [], laidByText := true, laidKinds := [.data, .data, .data], laidTests := true, laidLooks := .later }
def FnExactTermTextCardSaid : Prop := Claim7.holds Tryd.pinned (.plain (OpenSpec.ofChange fnExactTermTextSpec)) fnExactTermTextCard

/-- THE TIED CARD OF 'laws.FnExactSequentText'. -/
def fnExactSequentTextCard : Claim7 := { stood := { row := fnExactSequentTextRow, standIns := [], harness := (true, "d95fbb202efc5e764491a97e689bc28c40d06e9addc475cfb792f931396fdb49"), looks := true }, kinds := [], alts := [], laidByText := true, laidKinds := [.data, .data, .data], laidTests := true, laidLooks := .later }
def FnExactSequentTextCardSaid : Prop := Claim7.holds Tryd.pinned (.plain (OpenSpec.ofChange fnExactSequentTextSpec)) fnExactSequentTextCard

/-- THE TIED CARD OF 'laws.FnExactJoinPrograms'. -/
def fnExactJoinProgramsCard : Claim7 := { stood := { row := fnExactJoinProgramsRow, standIns := [], harness := (true, "d95fbb202efc5e764491a97e689bc28c40d06e9addc475cfb792f931396fdb49"), looks := true }, kinds := [], alts := [], laidByText := true, laidKinds := [.data], laidTests := true, laidLooks := .later }
def FnExactJoinProgramsCardSaid : Prop := Claim7.holds Tryd.pinned (.plain (OpenSpec.ofChange fnExactJoinProgramsSpec)) fnExactJoinProgramsCard

/-- THE TIED CARD OF 'laws.FnExactNormalBody'. -/
def fnExactNormalBodyCard : Claim7 := { stood := { row := fnExactNormalBodyRow, standIns := [], harness := (true, "d95fbb202efc5e764491a97e689bc28c40d06e9addc475cfb792f931396fdb49"), looks := true }, kinds := [], alts := [], laidByText := true, laidKinds := [.data], laidTests := true, laidLooks := .later }
def FnExactNormalBodyCardSaid : Prop := Claim7.holds Tryd.pinned (.plain (OpenSpec.ofChange fnExactNormalBodySpec)) fnExactNormalBodyCard

/-- THE SECOND FORM's CARD OF 'laws.FnExactInstrText'. -/
def fnExactInstrTextUptoCard : Claim7 := { stood := { row := fnExactInstrTextUptoRow, standIns := [], harness := (true, "d95fbb202efc5e764491a97e689bc28c40d06e9addc475cfb792f931396fdb49"), looks := true }, kinds := [], alts := [], laidByText := true, laidKinds := [.data, .data, .data], laidTests := true, laidLooks := .later }
def FnExactInstrTextUptoCardSaid : Prop := Claim7.holds Tryd.pinned (.plain (OpenSpec.upto fnExactInstrTextSpec)) fnExactInstrTextUptoCard

/-- THE SECOND FORM's CARD OF 'laws.FnExactReadInstr'. -/
def fnExactReadInstrUptoCard : Claim7 := { stood := { row := fnExactReadInstrUptoRow, standIns := [], harness := (true, "d95fbb202efc5e764491a97e689bc28c40d06e9addc475cfb792f931396fdb49"), looks := true }, kinds := [], alts := [], laidByText := true, laidKinds := [.data, .data, .data, .sentinel, .sentinel], laidTests := true, laidLooks := .later }
def FnExactReadInstrUptoCardSaid : Prop := Claim7.holds Tryd.pinned (.plain (OpenSpec.upto fnExactReadInstrSpec)) fnExactReadInstrUptoCard

/-- THE SECOND FORM's CARD OF 'laws.FnExactCodeText'. -/
def fnExactCodeTextUptoCard : Claim7 := { stood := { row := fnExactCodeTextUptoRow, standIns := [], harness := (true, "d95fbb202efc5e764491a97e689bc28c40d06e9addc475cfb792f931396fdb49"), looks := true }, kinds := [], alts := [], laidByText := true, laidKinds := [.data, .data, .data], laidTests := true, laidLooks := .later }
def FnExactCodeTextUptoCardSaid : Prop := Claim7.holds Tryd.pinned (.plain (OpenSpec.upto fnExactCodeTextSpec)) fnExactCodeTextUptoCard

/-- THE SECOND FORM's CARD OF 'laws.FnExactTermText'. -/
def fnExactTermTextUptoCard : Claim7 := { stood := { row := fnExactTermTextUptoRow, standIns := [], harness := (true, "d95fbb202efc5e764491a97e689bc28c40d06e9addc475cfb792f931396fdb49"), looks := true }, kinds := [], alts := [], laidByText := true, laidKinds := [.data, .data, .data], laidTests := true, laidLooks := .later }
def FnExactTermTextUptoCardSaid : Prop := Claim7.holds Tryd.pinned (.plain (OpenSpec.upto fnExactTermTextSpec)) fnExactTermTextUptoCard

/-- THE SECOND FORM's CARD OF 'laws.FnExactSequentText'. -/
def fnExactSequentTextUptoCard : Claim7 := { stood := { row := fnExactSequentTextUptoRow, standIns := [], harness := (true, "d95fbb202efc5e764491a97e689bc28c40d06e9addc475cfb792f931396fdb49"), looks := true }, kinds := [], alts := [], laidByText := true, laidKinds := [.data, .data, .data], laidTests := true, laidLooks := .later }
def FnExactSequentTextUptoCardSaid : Prop := Claim7.holds Tryd.pinned (.plain (OpenSpec.upto fnExactSequentTextSpec)) fnExactSequentTextUptoCard

/-- THE SECOND FORM's CARD OF 'laws.FnExactJoinPrograms'. -/
def fnExactJoinProgramsUptoCard : Claim7 := { stood := { row := fnExactJoinProgramsUptoRow, standIns := [], harness := (true, "d95fbb202efc5e764491a97e689bc28c40d06e9addc475cfb792f931396fdb49"), looks := true }, kinds := [], alts := [], laidByText := true, laidKinds := [.data], laidTests := true, laidLooks := .later }
def FnExactJoinProgramsUptoCardSaid : Prop := Claim7.holds Tryd.pinned (.plain (OpenSpec.upto fnExactJoinProgramsSpec)) fnExactJoinProgramsUptoCard

/-- THE SECOND FORM's CARD OF 'laws.FnExactNormalBody'. -/
def fnExactNormalBodyUptoCard : Claim7 := { stood := { row := fnExactNormalBodyUptoRow, standIns := [], harness := (true, "d95fbb202efc5e764491a97e689bc28c40d06e9addc475cfb792f931396fdb49"), looks := true }, kinds := [], alts := [], laidByText := true, laidKinds := [.data], laidTests := true, laidLooks := .later }
def FnExactNormalBodyUptoCardSaid : Prop := Claim7.holds Tryd.pinned (.plain (OpenSpec.upto fnExactNormalBodySpec)) fnExactNormalBodyUptoCard
end Rows
end Go.Proofs.YtahlpjhhbcjfpaaDoor
