/-
  DERIVED. GIVEN WITH THE SEED: THE CARDS: each row of YtegnhinognpgcacGreatDoorRows.lean that lists a variable, with what it lists TIED to the program's text (the seventh form; the later family's looks); each row that meets fmt, with fmt's text TOLD by the authors' own Lean function (tested against real Go, not proved from fmt's source: count such statements apart). THE CARD IS WHAT COUNTS. Prove the row's statement (the work); the ties are given (YtegnhinognpgcacGreatDoorTie.lean); close each card by the builder's one call (the guide's Derived/Test/ToyasCard.lean, 'card_holds'). Laid BY PROGRAM, IN A SANDBOX (cutbox-door.mjs). By AI agents, Wed Nov 11 2026. No macro, syntax, notation, axiom, sorry.
-/
import Derived.Test.YtegnhinognpgcacGreatDoorRows
import GoSem.ClaimSeven
namespace Go.Proofs.YtegnhinognpgcacGreatDoor
namespace Rows

/-- THE TIED CARD OF 'kilnlaw02.FloNear'. -/
def floNearCard : Claim7 := { stood := { row := floNearRow, standIns := [], harness := (true, "5d4461b43b5bd5e18eb960b3e2618cfb166356144d6c67ce9964eebc6681f039"), looks := true }, kinds := [], alts := [], laidByText := true, laidKinds := [.data, .data, .data, .data, .data, .sentinel, .sentinel, .pinned, .pinned, .pinned], laidTests := true, laidLooks := .later }
def FloNearCardSaid : Prop := Claim7.holds Tryz.pinned (.plain (OpenSpec.ofChange floNearSpec)) floNearCard

/-- THE TIED CARD OF 'kilnlaw02.FloOrder'. -/
def floOrderCard : Claim7 := { stood := { row := floOrderRow, standIns := [], harness := (true, "5d4461b43b5bd5e18eb960b3e2618cfb166356144d6c67ce9964eebc6681f039"), looks := true }, kinds := [], alts := [], laidByText := true, laidKinds := [.data, .data, .data, .data, .data, .sentinel, .sentinel, .pinned, .pinned, .pinned], laidTests := true, laidLooks := .later }
def FloOrderCardSaid : Prop := Claim7.holds Tryz.pinned (.plain (OpenSpec.ofChange floOrderSpec)) floOrderCard

/-- THE TIED CARD OF 'kilnlaw02.FloWhole'. -/
def floWholeCard : Claim7 := { stood := { row := floWholeRow, standIns := [], harness := (true, "5d4461b43b5bd5e18eb960b3e2618cfb166356144d6c67ce9964eebc6681f039"), looks := true }, kinds := [], alts := [], laidByText := true, laidKinds := [.data, .data, .data, .data, .data, .sentinel, .sentinel, .pinned, .pinned, .pinned], laidTests := true, laidLooks := .later }
def FloWholeCardSaid : Prop := Claim7.holds Tryz.pinned (.plain (OpenSpec.ofChange floWholeSpec)) floWholeCard

/-- THE SECOND FORM's CARD OF 'kilnlaw02.FloNear'. -/
def floNearUptoCard : Claim7 := { stood := { row := floNearUptoRow, standIns := [], harness := (true, "5d4461b43b5bd5e18eb960b3e2618cfb166356144d6c67ce9964eebc6681f039"), looks := true }, kinds := [], alts := [], laidByText := true, laidKinds := [.data, .data, .data, .data, .data, .sentinel, .sentinel, .pinned, .pinned, .pinned], laidTests := true, laidLooks := .later }
def FloNearUptoCardSaid : Prop := Claim7.holds Tryz.pinned (.plain (OpenSpec.upto floNearSpec)) floNearUptoCard

/-- THE SECOND FORM's CARD OF 'kilnlaw02.FloOrder'. -/
def floOrderUptoCard : Claim7 := { stood := { row := floOrderUptoRow, standIns := [], harness := (true, "5d4461b43b5bd5e18eb960b3e2618cfb166356144d6c67ce9964eebc6681f039"), looks := true }, kinds := [], alts := [], laidByText := true, laidKinds := [.data, .data, .data, .data, .data, .sentinel, .sentinel, .pinned, .pinned, .pinned], laidTests := true, laidLooks := .later }
def FloOrderUptoCardSaid : Prop := Claim7.holds Tryz.pinned (.plain (OpenSpec.upto floOrderSpec)) floOrderUptoCard

/-- THE SECOND FORM's CARD OF 'kilnlaw02.FloWhole'. -/
def floWholeUptoCard : Claim7 := { stood := { row := floWholeUptoRow, standIns := [], harness := (true, "5d4461b43b5bd5e18eb960b3e2618cfb166356144d6c67ce9964eebc6681f039"), looks := true }, kinds := [], alts := [], laidByText := true, laidKinds := [.data, .data, .data, .data, .data, .sentinel, .sentinel, .pinned, .pinned, .pinned], laidTests := true, laidLooks := .later }
def FloWholeUptoCardSaid : Prop := Claim7.holds Tryz.pinned (.plain (OpenSpec.upto floWholeSpec)) floWholeUptoCard
end Rows
end Go.Proofs.YtegnhinognpgcacGreatDoor
