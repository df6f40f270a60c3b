/-
  DERIVED. GIVEN WITH THE SEED: THE CARDS: each row of YtanaplokhjgfmaaGreatDoorRows.lean that lists a variable, with what it lists TIED to the program's text (the seventh form; the later family's looks); each row that meets fmt, with fmt's text TOLD by the authors' own Lean function (tested against real Go, not proved from fmt's source: count such statements apart). THE CARD IS WHAT COUNTS. Prove the row's statement (the work); the ties are given (YtanaplokhjgfmaaGreatDoorTie.lean); close each card by the builder's one call (the guide's Derived/Test/ToyasCard.lean, 'card_holds'). Laid BY PROGRAM, IN A SANDBOX (cutbox-door.mjs). By AI agents, Wed Nov 11 2026. No macro, syntax, notation, axiom, sorry.
-/
import Derived.Test.YtanaplokhjgfmaaGreatDoorRows
import GoSem.ClaimSeven
namespace Go.Proofs.YtanaplokhjgfmaaGreatDoor
namespace Rows

/-- THE TIED CARD OF 'becketlaw08.SpliceTucks'. -/
def spliceTucksCard : Claim7 := { stood := { row := spliceTucksRow, standIns := [], harness := (true, "51e7156952c8022ba1c94f7fe4150bfc37f8ca8132dcd09e1a40fddbfee6eb81"), looks := true }, kinds := [], alts := [], laidByText := true, laidKinds := [.data, .data, .data, .sentinel, .sentinel], laidTests := true, laidLooks := .later }
def SpliceTucksCardSaid : Prop := Claim7.holds Tryz.pinned (.plain (OpenSpec.ofChange spliceTucksSpec)) spliceTucksCard

/-- THE TIED CARD OF 'becketlaw08.SpliceReplays'. -/
def spliceReplaysCard : Claim7 := { stood := { row := spliceReplaysRow, standIns := [], harness := (true, "51e7156952c8022ba1c94f7fe4150bfc37f8ca8132dcd09e1a40fddbfee6eb81"), looks := true }, kinds := [], alts := [], laidByText := true, laidKinds := [.data, .data, .data, .sentinel, .sentinel], laidTests := true, laidLooks := .later }
def SpliceReplaysCardSaid : Prop := Claim7.holds Tryz.pinned (.plain (OpenSpec.ofChange spliceReplaysSpec)) spliceReplaysCard

/-- THE TIED CARD OF 'becketlaw08.SpliceShapes'. -/
def spliceShapesCard : Claim7 := { stood := { row := spliceShapesRow, standIns := [], harness := (true, "51e7156952c8022ba1c94f7fe4150bfc37f8ca8132dcd09e1a40fddbfee6eb81"), looks := true }, kinds := [], alts := [], laidByText := true, laidKinds := [.data, .data, .data, .sentinel, .sentinel], laidTests := true, laidLooks := .later }
def SpliceShapesCardSaid : Prop := Claim7.holds Tryz.pinned (.plain (OpenSpec.ofChange spliceShapesSpec)) spliceShapesCard

/-- THE TIED CARD OF 'becketlaw08.SpliceKeeps'. -/
def spliceKeepsCard : Claim7 := { stood := { row := spliceKeepsRow, standIns := [], harness := (true, "51e7156952c8022ba1c94f7fe4150bfc37f8ca8132dcd09e1a40fddbfee6eb81"), looks := true }, kinds := [], alts := [], laidByText := true, laidKinds := [.data, .data, .data, .sentinel, .sentinel], laidTests := true, laidLooks := .later }
def SpliceKeepsCardSaid : Prop := Claim7.holds Tryz.pinned (.plain (OpenSpec.ofChange spliceKeepsSpec)) spliceKeepsCard

/-- THE TIED CARD OF 'becketlaw08.SpliceWhole'. -/
def spliceWholeCard : Claim7 := { stood := { row := spliceWholeRow, standIns := [], harness := (true, "51e7156952c8022ba1c94f7fe4150bfc37f8ca8132dcd09e1a40fddbfee6eb81"), looks := true }, kinds := [], alts := [], laidByText := true, laidKinds := [.data, .data, .data, .sentinel, .sentinel], laidTests := true, laidLooks := .later }
def SpliceWholeCardSaid : Prop := Claim7.holds Tryz.pinned (.plain (OpenSpec.ofChange spliceWholeSpec)) spliceWholeCard

/-- THE TIED CARD OF 'becketlaw08.SpliceNets'. -/
def spliceNetsCard : Claim7 := { stood := { row := spliceNetsRow, standIns := [], harness := (true, "51e7156952c8022ba1c94f7fe4150bfc37f8ca8132dcd09e1a40fddbfee6eb81"), looks := true }, kinds := [], alts := [], laidByText := true, laidKinds := [.data, .data, .data, .sentinel, .sentinel], laidTests := true, laidLooks := .later }
def SpliceNetsCardSaid : Prop := Claim7.holds Tryz.pinned (.plain (OpenSpec.ofChange spliceNetsSpec)) spliceNetsCard

/-- THE SECOND FORM's CARD OF 'becketlaw08.SpliceTucks'. -/
def spliceTucksUptoCard : Claim7 := { stood := { row := spliceTucksUptoRow, standIns := [], harness := (true, "51e7156952c8022ba1c94f7fe4150bfc37f8ca8132dcd09e1a40fddbfee6eb81"), looks := true }, kinds := [], alts := [], laidByText := true, laidKinds := [.data, .data, .data, .sentinel, .sentinel], laidTests := true, laidLooks := .later }
def SpliceTucksUptoCardSaid : Prop := Claim7.holds Tryz.pinned (.plain (OpenSpec.upto spliceTucksSpec)) spliceTucksUptoCard

/-- THE SECOND FORM's CARD OF 'becketlaw08.SpliceReplays'. -/
def spliceReplaysUptoCard : Claim7 := { stood := { row := spliceReplaysUptoRow, standIns := [], harness := (true, "51e7156952c8022ba1c94f7fe4150bfc37f8ca8132dcd09e1a40fddbfee6eb81"), looks := true }, kinds := [], alts := [], laidByText := true, laidKinds := [.data, .data, .data, .sentinel, .sentinel], laidTests := true, laidLooks := .later }
def SpliceReplaysUptoCardSaid : Prop := Claim7.holds Tryz.pinned (.plain (OpenSpec.upto spliceReplaysSpec)) spliceReplaysUptoCard

/-- THE SECOND FORM's CARD OF 'becketlaw08.SpliceShapes'. -/
def spliceShapesUptoCard : Claim7 := { stood := { row := spliceShapesUptoRow, standIns := [], harness := (true, "51e7156952c8022ba1c94f7fe4150bfc37f8ca8132dcd09e1a40fddbfee6eb81"), looks := true }, kinds := [], alts := [], laidByText := true, laidKinds := [.data, .data, .data, .sentinel, .sentinel], laidTests := true, laidLooks := .later }
def SpliceShapesUptoCardSaid : Prop := Claim7.holds Tryz.pinned (.plain (OpenSpec.upto spliceShapesSpec)) spliceShapesUptoCard

/-- THE SECOND FORM's CARD OF 'becketlaw08.SpliceKeeps'. -/
def spliceKeepsUptoCard : Claim7 := { stood := { row := spliceKeepsUptoRow, standIns := [], harness := (true, "51e7156952c8022ba1c94f7fe4150bfc37f8ca8132dcd09e1a40fddbfee6eb81"), looks := true }, kinds := [], alts := [], laidByText := true, laidKinds := [.data, .data, .data, .sentinel, .sentinel], laidTests := true, laidLooks := .later }
def SpliceKeepsUptoCardSaid : Prop := Claim7.holds Tryz.pinned (.plain (OpenSpec.upto spliceKeepsSpec)) spliceKeepsUptoCard

/-- THE SECOND FORM's CARD OF 'becketlaw08.SpliceWhole'. -/
def spliceWholeUptoCard : Claim7 := { stood := { row := spliceWholeUptoRow, standIns := [], harness := (true, "51e7156952c8022ba1c94f7fe4150bfc37f8ca8132dcd09e1a40fddbfee6eb81"), looks := true }, kinds := [], alts := [], laidByText := true, laidKinds := [.data, .data, .data, .sentinel, .sentinel], laidTests := true, laidLooks := .later }
def SpliceWholeUptoCardSaid : Prop := Claim7.holds Tryz.pinned (.plain (OpenSpec.upto spliceWholeSpec)) spliceWholeUptoCard

/-- THE SECOND FORM's CARD OF 'becketlaw08.SpliceNets'. -/
def spliceNetsUptoCard : Claim7 := { stood := { row := spliceNetsUptoRow, standIns := [], harness := (true, "51e7156952c8022ba1c94f7fe4150bfc37f8ca8132dcd09e1a40fddbfee6eb81"), looks := true }, kinds := [], alts := [], laidByText := true, laidKinds := [.data, .data, .data, .sentinel, .sentinel], laidTests := true, laidLooks := .later }
def SpliceNetsUptoCardSaid : Prop := Claim7.holds Tryz.pinned (.plain (OpenSpec.upto spliceNetsSpec)) spliceNetsUptoCard
end Rows
end Go.Proofs.YtanaplokhjgfmaaGreatDoor
