/-
  DERIVED. GIVEN WITH THE SEED: THE CARDS: each row of YtegnhinognpgcabGreatDoorRows.lean that lists a variable, with what it lists TIED to the program's text (the seventh form; the later family's looks); each row that meets fmt, with fmt's text TOLD by the authors' own Lean function (tested against real Go, not proved from fmt's source: count such statements apart). THE CARD IS WHAT COUNTS. Prove the row's statement (the work); the ties are given (YtegnhinognpgcabGreatDoorTie.lean); close each card by the builder's one call (the guide's Derived/Test/ToyasCard.lean, 'card_holds'). Laid BY PROGRAM, IN A SANDBOX (cutbox-door.mjs). By AI agents, Wed Nov 11 2026. No macro, syntax, notation, axiom, sorry.
-/
import Derived.Test.YtegnhinognpgcabGreatDoorRows
import GoSem.ClaimSeven
namespace Go.Proofs.YtegnhinognpgcabGreatDoor
namespace Rows

/-- THE TIED CARD OF 'kilnlaw02.FloInts'. -/
def floIntsCard : Claim7 := { stood := { row := floIntsRow, standIns := [], harness := (true, "3b1214f06c9c6462e4d82e50b9a37d36a32823e413e03af36c38bd0a04de101a"), looks := true }, kinds := [], alts := [], laidByText := true, laidKinds := [.data, .data, .data, .data, .data, .sentinel, .sentinel, .pinned, .pinned, .pinned], laidTests := true, laidLooks := .later }
def FloIntsCardSaid : Prop := Claim7.holds Tryz.pinned (.plain (OpenSpec.ofChange floIntsSpec)) floIntsCard

/-- THE TIED CARD OF 'kilnlaw02.FloTexts'. -/
def floTextsCard : Claim7 := { stood := { row := floTextsRow, standIns := [], harness := (true, "3b1214f06c9c6462e4d82e50b9a37d36a32823e413e03af36c38bd0a04de101a"), looks := true }, kinds := [], alts := [], laidByText := true, laidKinds := [.data, .data, .data, .data, .data, .sentinel, .sentinel, .pinned, .pinned, .pinned], laidTests := true, laidLooks := .later }
def FloTextsCardSaid : Prop := Claim7.holds Tryz.pinned (.plain (OpenSpec.ofChange floTextsSpec)) floTextsCard

/-- THE TIED CARD OF 'kilnlaw02.FloParses'. -/
def floParsesCard : Claim7 := { stood := { row := floParsesRow, standIns := [], harness := (true, "3b1214f06c9c6462e4d82e50b9a37d36a32823e413e03af36c38bd0a04de101a"), looks := true }, kinds := [], alts := [], laidByText := true, laidKinds := [.data, .data, .widerDeep, .widerDeep, .data, .data, .data, .data, .data, .data, .sentinel, .sentinel, .pinned, .pinned, .pinned], laidTests := true, laidLooks := .later }
def FloParsesCardSaid : Prop := Claim7.holds Tryz.pinned (.plain (OpenSpec.ofChange floParsesSpec)) floParsesCard

/-- THE TIED CARD OF 'kilnlaw02.FloBack'. -/
def floBackCard : Claim7 := { stood := { row := floBackRow, standIns := [], harness := (true, "3b1214f06c9c6462e4d82e50b9a37d36a32823e413e03af36c38bd0a04de101a"), looks := true }, kinds := [], alts := [], laidByText := true, laidKinds := [.data, .data, .widerDeep, .widerDeep, .data, .data, .data, .data, .data, .data, .sentinel, .sentinel, .pinned, .pinned, .pinned], laidTests := true, laidLooks := .later }
def FloBackCardSaid : Prop := Claim7.holds Tryz.pinned (.plain (OpenSpec.ofChange floBackSpec)) floBackCard

/-- THE TIED CARD OF 'kilnlaw02.FloRises'. -/
def floRisesCard : Claim7 := { stood := { row := floRisesRow, standIns := [], harness := (true, "3b1214f06c9c6462e4d82e50b9a37d36a32823e413e03af36c38bd0a04de101a"), looks := true }, kinds := [], alts := [], laidByText := true, laidKinds := [.data, .data, .data, .data, .data, .sentinel, .sentinel, .pinned, .pinned, .pinned], laidTests := true, laidLooks := .later }
def FloRisesCardSaid : Prop := Claim7.holds Tryz.pinned (.plain (OpenSpec.ofChange floRisesSpec)) floRisesCard

/-- THE TIED CARD OF 'kilnlaw02.FloLine'. -/
def floLineCard : Claim7 := { stood := { row := floLineRow, standIns := [], harness := (true, "3b1214f06c9c6462e4d82e50b9a37d36a32823e413e03af36c38bd0a04de101a"), looks := true }, kinds := [], alts := [], laidByText := true, laidKinds := [.data, .data, .data, .data, .data, .sentinel, .sentinel, .pinned, .pinned, .pinned], laidTests := true, laidLooks := .later }
def FloLineCardSaid : Prop := Claim7.holds Tryz.pinned (.plain (OpenSpec.ofChange floLineSpec)) floLineCard

/-- THE SECOND FORM's CARD OF 'kilnlaw02.FloInts'. -/
def floIntsUptoCard : Claim7 := { stood := { row := floIntsUptoRow, standIns := [], harness := (true, "3b1214f06c9c6462e4d82e50b9a37d36a32823e413e03af36c38bd0a04de101a"), looks := true }, kinds := [], alts := [], laidByText := true, laidKinds := [.data, .data, .data, .data, .data, .sentinel, .sentinel, .pinned, .pinned, .pinned], laidTests := true, laidLooks := .later }
def FloIntsUptoCardSaid : Prop := Claim7.holds Tryz.pinned (.plain (OpenSpec.upto floIntsSpec)) floIntsUptoCard

/-- THE SECOND FORM's CARD OF 'kilnlaw02.FloTexts'. -/
def floTextsUptoCard : Claim7 := { stood := { row := floTextsUptoRow, standIns := [], harness := (true, "3b1214f06c9c6462e4d82e50b9a37d36a32823e413e03af36c38bd0a04de101a"), looks := true }, kinds := [], alts := [], laidByText := true, laidKinds := [.data, .data, .data, .data, .data, .sentinel, .sentinel, .pinned, .pinned, .pinned], laidTests := true, laidLooks := .later }
def FloTextsUptoCardSaid : Prop := Claim7.holds Tryz.pinned (.plain (OpenSpec.upto floTextsSpec)) floTextsUptoCard

/-- THE SECOND FORM's CARD OF 'kilnlaw02.FloParses'. -/
def floParsesUptoCard : Claim7 := { stood := { row := floParsesUptoRow, standIns := [], harness := (true, "3b1214f06c9c6462e4d82e50b9a37d36a32823e413e03af36c38bd0a04de101a"), looks := true }, kinds := [], alts := [], laidByText := true, laidKinds := [.data, .data, .widerDeep, .widerDeep, .data, .data, .data, .data, .data, .data, .sentinel, .sentinel, .pinned, .pinned, .pinned], laidTests := true, laidLooks := .later }
def FloParsesUptoCardSaid : Prop := Claim7.holds Tryz.pinned (.plain (OpenSpec.upto floParsesSpec)) floParsesUptoCard

/-- THE SECOND FORM's CARD OF 'kilnlaw02.FloBack'. -/
def floBackUptoCard : Claim7 := { stood := { row := floBackUptoRow, standIns := [], harness := (true, "3b1214f06c9c6462e4d82e50b9a37d36a32823e413e03af36c38bd0a04de101a"), looks := true }, kinds := [], alts := [], laidByText := true, laidKinds := [.data, .data, .widerDeep, .widerDeep, .data, .data, .data, .data, .data, .data, .sentinel, .sentinel, .pinned, .pinned, .pinned], laidTests := true, laidLooks := .later }
def FloBackUptoCardSaid : Prop := Claim7.holds Tryz.pinned (.plain (OpenSpec.upto floBackSpec)) floBackUptoCard

/-- THE SECOND FORM's CARD OF 'kilnlaw02.FloRises'. -/
def floRisesUptoCard : Claim7 := { stood := { row := floRisesUptoRow, standIns := [], harness := (true, "3b1214f06c9c6462e4d82e50b9a37d36a32823e413e03af36c38bd0a04de101a"), looks := true }, kinds := [], alts := [], laidByText := true, laidKinds := [.data, .data, .data, .data, .data, .sentinel, .sentinel, .pinned, .pinned, .pinned], laidTests := true, laidLooks := .later }
def FloRisesUptoCardSaid : Prop := Claim7.holds Tryz.pinned (.plain (OpenSpec.upto floRisesSpec)) floRisesUptoCard

/-- THE SECOND FORM's CARD OF 'kilnlaw02.FloLine'. -/
def floLineUptoCard : Claim7 := { stood := { row := floLineUptoRow, standIns := [], harness := (true, "3b1214f06c9c6462e4d82e50b9a37d36a32823e413e03af36c38bd0a04de101a"), looks := true }, kinds := [], alts := [], laidByText := true, laidKinds := [.data, .data, .data, .data, .data, .sentinel, .sentinel, .pinned, .pinned, .pinned], laidTests := true, laidLooks := .later }
def FloLineUptoCardSaid : Prop := Claim7.holds Tryz.pinned (.plain (OpenSpec.upto floLineSpec)) floLineUptoCard
end Rows
end Go.Proofs.YtegnhinognpgcabGreatDoor
