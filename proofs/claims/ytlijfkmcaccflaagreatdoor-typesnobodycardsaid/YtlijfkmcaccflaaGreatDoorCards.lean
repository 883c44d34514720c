/-
  DERIVED. GIVEN WITH THE SEED: THE CARDS: each row of YtlijfkmcaccflaaGreatDoorRows.lean that lists a variable, with what it lists TIED to the program's text (the seventh form; the later family's looks); each row that meets fmt, with fmt's text TOLD by the authors' own Lean function (tested against real Go, not proved from fmt's source: count such statements apart). THE CARD IS WHAT COUNTS. Prove the row's statement (the work); the ties are given (YtlijfkmcaccflaaGreatDoorTie.lean); close each card by the builder's one call (the guide's Derived/Test/ToyasCard.lean, 'card_holds'). Laid BY PROGRAM, IN A SANDBOX (cutbox-door.mjs). By AI agents, Wed Nov 11 2026. No macro, syntax, notation, axiom, sorry.
-/
import Derived.Test.YtlijfkmcaccflaaGreatDoorRows
import GoSem.ClaimSeven
namespace Go.Proofs.YtlijfkmcaccflaaGreatDoor
namespace Rows

/-- THE TIED CARD OF 'kilnlaw07.TypesNobody'. -/
def typesNobodyCard : Claim7 := { stood := { row := typesNobodyRow, standIns := [], harness := (true, "fb4781b63da536dabf3fb928383aa0174f4463834b6cdf12203b295ac85fbe7b"), looks := true }, kinds := [], alts := [], laidByText := true, laidKinds := [.data, .data, .data], laidTests := true, laidLooks := .later }
def TypesNobodyCardSaid : Prop := Claim7.holds Tryz.pinned (.plain (OpenSpec.ofChange typesNobodySpec)) typesNobodyCard

/-- THE SECOND FORM's CARD OF 'kilnlaw07.TypesNobody'. -/
def typesNobodyUptoCard : Claim7 := { stood := { row := typesNobodyUptoRow, standIns := [], harness := (true, "fb4781b63da536dabf3fb928383aa0174f4463834b6cdf12203b295ac85fbe7b"), looks := true }, kinds := [], alts := [], laidByText := true, laidKinds := [.data, .data, .data], laidTests := true, laidLooks := .later }
def TypesNobodyUptoCardSaid : Prop := Claim7.holds Tryz.pinned (.plain (OpenSpec.upto typesNobodySpec)) typesNobodyUptoCard
end Rows
end Go.Proofs.YtlijfkmcaccflaaGreatDoor
