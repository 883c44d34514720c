/-
  DERIVED. GIVEN WITH THE SEED: THE CARDS: each row of YtgjcbgconkiedabDoorRows.lean that lists a variable, with what it lists TIED to the program's text (the seventh form; the later family's looks); each row that meets fmt, with fmt's text TOLD by the authors' own Lean function (tested against real Go, not proved from fmt's source: count such statements apart). THE CARD IS WHAT COUNTS. Prove the row's statement (the work); the ties are given (YtgjcbgconkiedabDoorTie.lean); close each card by the builder's one call (the guide's Derived/Test/ToyasCard.lean, 'card_holds'). Laid BY PROGRAM, IN A SANDBOX (cutbox-door.mjs). By AI agents, Wed Nov 11 2026. No macro, syntax, notation, axiom, sorry.
-/
import Derived.Test.YtgjcbgconkiedabDoorRows
import GoSem.ClaimSeven
namespace Go.Proofs.YtgjcbgconkiedabDoor
namespace Rows

/-- THE TIED CARD OF 'kilnlaw03.StrGaps'. -/
def strGapsCard : Claim7 := { stood := { row := strGapsRow, standIns := [], harness := (true, "f230bf79cf50160f4374b2853c02aa61701348540c609954b43a4688ebf45d69"), looks := true }, kinds := [], alts := [], laidByText := true, laidKinds := [.data, .data, .data, .data, .sentinel, .sentinel, .pinned], laidTests := true, laidLooks := .later }
def StrGapsCardSaid : Prop := Claim7.holds Tryd.pinned (.plain (OpenSpec.ofChange strGapsSpec)) strGapsCard

/-- THE SECOND FORM's CARD OF 'kilnlaw03.StrGaps'. -/
def strGapsUptoCard : Claim7 := { stood := { row := strGapsUptoRow, standIns := [], harness := (true, "f230bf79cf50160f4374b2853c02aa61701348540c609954b43a4688ebf45d69"), looks := true }, kinds := [], alts := [], laidByText := true, laidKinds := [.data, .data, .data, .data, .sentinel, .sentinel, .pinned], laidTests := true, laidLooks := .later }
def StrGapsUptoCardSaid : Prop := Claim7.holds Tryd.pinned (.plain (OpenSpec.upto strGapsSpec)) strGapsUptoCard
end Rows
end Go.Proofs.YtgjcbgconkiedabDoor
