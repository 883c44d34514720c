/-
  DERIVED. GIVEN WITH THE SEED: THE CARDS: each row of YtiglacchpmooeaaGreatDoorRows.lean that lists a variable, with what it lists TIED to the program's text (the seventh form; the later family's looks); each row that meets fmt, with fmt's text TOLD by the authors' own Lean function (tested against real Go, not proved from fmt's source: count such statements apart). THE CARD IS WHAT COUNTS. Prove the row's statement (the work); the ties are given (YtiglacchpmooeaaGreatDoorTie.lean); close each card by the builder's one call (the guide's Derived/Test/ToyasCard.lean, 'card_holds'). Laid BY PROGRAM, IN A SANDBOX (cutbox-door.mjs). By AI agents, Wed Nov 11 2026. No macro, syntax, notation, axiom, sorry.
-/
import Derived.Test.YtiglacchpmooeaaGreatDoorRows
import GoSem.ClaimSeven
namespace Go.Proofs.YtiglacchpmooeaaGreatDoor
namespace Rows

/-- THE TIED CARD OF 'kilnlaw02.FloSums'. -/
def floSumsCard : Claim7 := { stood := { row := floSumsRow, standIns := [], harness := (true, "b819260c3d3342793ecb9aa6ea80b5c44a3d1b3b1ed0a1552b240f2c336ea182"), looks := true }, kinds := [], alts := [], laidByText := true, laidKinds := [.data, .data, .data, .data, .data, .sentinel, .sentinel, .pinned, .pinned, .pinned], laidTests := true, laidLooks := .later }
def FloSumsCardSaid : Prop := Claim7.holds Tryz.pinned (.plain (OpenSpec.ofChange floSumsSpec)) floSumsCard

/-- THE TIED CARD OF 'kilnlaw02.FloProducts'. -/
def floProductsCard : Claim7 := { stood := { row := floProductsRow, standIns := [], harness := (true, "b819260c3d3342793ecb9aa6ea80b5c44a3d1b3b1ed0a1552b240f2c336ea182"), looks := true }, kinds := [], alts := [], laidByText := true, laidKinds := [.data, .data, .data, .data, .data, .sentinel, .sentinel, .pinned, .pinned, .pinned], laidTests := true, laidLooks := .later }
def FloProductsCardSaid : Prop := Claim7.holds Tryz.pinned (.plain (OpenSpec.ofChange floProductsSpec)) floProductsCard

/-- THE TIED CARD OF 'kilnlaw02.FloToInts'. -/
def floToIntsCard : Claim7 := { stood := { row := floToIntsRow, standIns := [], harness := (true, "b819260c3d3342793ecb9aa6ea80b5c44a3d1b3b1ed0a1552b240f2c336ea182"), looks := true }, kinds := [], alts := [], laidByText := true, laidKinds := [.data, .data, .data, .data, .data, .sentinel, .sentinel, .pinned, .pinned, .pinned], laidTests := true, laidLooks := .later }
def FloToIntsCardSaid : Prop := Claim7.holds Tryz.pinned (.plain (OpenSpec.ofChange floToIntsSpec)) floToIntsCard

/-- THE SECOND FORM's CARD OF 'kilnlaw02.FloSums'. -/
def floSumsUptoCard : Claim7 := { stood := { row := floSumsUptoRow, standIns := [], harness := (true, "b819260c3d3342793ecb9aa6ea80b5c44a3d1b3b1ed0a1552b240f2c336ea182"), looks := true }, kinds := [], alts := [], laidByText := true, laidKinds := [.data, .data, .data, .data, .data, .sentinel, .sentinel, .pinned, .pinned, .pinned], laidTests := true, laidLooks := .later }
def FloSumsUptoCardSaid : Prop := Claim7.holds Tryz.pinned (.plain (OpenSpec.upto floSumsSpec)) floSumsUptoCard

/-- THE SECOND FORM's CARD OF 'kilnlaw02.FloProducts'. -/
def floProductsUptoCard : Claim7 := { stood := { row := floProductsUptoRow, standIns := [], harness := (true, "b819260c3d3342793ecb9aa6ea80b5c44a3d1b3b1ed0a1552b240f2c336ea182"), looks := true }, kinds := [], alts := [], laidByText := true, laidKinds := [.data, .data, .data, .data, .data, .sentinel, .sentinel, .pinned, .pinned, .pinned], laidTests := true, laidLooks := .later }
def FloProductsUptoCardSaid : Prop := Claim7.holds Tryz.pinned (.plain (OpenSpec.upto floProductsSpec)) floProductsUptoCard

/-- THE SECOND FORM's CARD OF 'kilnlaw02.FloToInts'. -/
def floToIntsUptoCard : Claim7 := { stood := { row := floToIntsUptoRow, standIns := [], harness := (true, "b819260c3d3342793ecb9aa6ea80b5c44a3d1b3b1ed0a1552b240f2c336ea182"), looks := true }, kinds := [], alts := [], laidByText := true, laidKinds := [.data, .data, .data, .data, .data, .sentinel, .sentinel, .pinned, .pinned, .pinned], laidTests := true, laidLooks := .later }
def FloToIntsUptoCardSaid : Prop := Claim7.holds Tryz.pinned (.plain (OpenSpec.upto floToIntsSpec)) floToIntsUptoCard
end Rows
end Go.Proofs.YtiglacchpmooeaaGreatDoor
