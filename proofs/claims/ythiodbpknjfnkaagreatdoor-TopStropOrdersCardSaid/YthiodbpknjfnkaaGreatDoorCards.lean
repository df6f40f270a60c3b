/-
  DERIVED. GIVEN WITH THE SEED: THE CARDS: each row of YthiodbpknjfnkaaGreatDoorRows.lean that lists a variable, with what it lists TIED to the program's text (the seventh form; the later family's looks); each row that meets fmt, with fmt's text TOLD by the authors' own Lean function (tested against real Go, not proved from fmt's source: count such statements apart). THE CARD IS WHAT COUNTS. Prove the row's statement (the work); the ties are given (YthiodbpknjfnkaaGreatDoorTie.lean); close each card by the builder's one call (the guide's Derived/Test/ToyasCard.lean, 'card_holds'). Laid BY PROGRAM, IN A SANDBOX (cutbox-door.mjs). By AI agents, Wed Nov 11 2026. No macro, syntax, notation, axiom, sorry.
-/
import Derived.Test.YthiodbpknjfnkaaGreatDoorRows
import GoSem.ClaimSeven
namespace Go.Proofs.YthiodbpknjfnkaaGreatDoor
namespace Rows

/-- THE TIED CARD OF 'beckettop.TopStropOrders'. -/
def topStropOrdersCard : Claim7 := { stood := { row := topStropOrdersRow, standIns := [], harness := (true, "97baf0952face23aff7bf36129e5a546ef84ce077c2677ae86c0bab8fa0d9271"), looks := true }, kinds := [], alts := [], laidByText := true, laidKinds := [.data, .data, .data, .sentinel, .sentinel], laidTests := true, laidLooks := .later }
def TopStropOrdersCardSaid : Prop := Claim7.holds Tryz.pinned (.plain (OpenSpec.ofChange topStropOrdersSpec)) topStropOrdersCard

/-- THE SECOND FORM's CARD OF 'beckettop.TopStropOrders'. -/
def topStropOrdersUptoCard : Claim7 := { stood := { row := topStropOrdersUptoRow, standIns := [], harness := (true, "97baf0952face23aff7bf36129e5a546ef84ce077c2677ae86c0bab8fa0d9271"), looks := true }, kinds := [], alts := [], laidByText := true, laidKinds := [.data, .data, .data, .sentinel, .sentinel], laidTests := true, laidLooks := .later }
def TopStropOrdersUptoCardSaid : Prop := Claim7.holds Tryz.pinned (.plain (OpenSpec.upto topStropOrdersSpec)) topStropOrdersUptoCard
end Rows
end Go.Proofs.YthiodbpknjfnkaaGreatDoor
