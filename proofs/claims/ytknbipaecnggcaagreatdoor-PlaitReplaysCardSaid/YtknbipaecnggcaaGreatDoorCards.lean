/-
  DERIVED. GIVEN WITH THE SEED: THE CARDS: each row of YtknbipaecnggcaaGreatDoorRows.lean that lists a variable, with what it lists TIED to the program's text (the seventh form; the later family's looks); each row that meets fmt, with fmt's text TOLD by the authors' own Lean function (tested against real Go, not proved from fmt's source: count such statements apart). THE CARD IS WHAT COUNTS. Prove the row's statement (the work); the ties are given (YtknbipaecnggcaaGreatDoorTie.lean); close each card by the builder's one call (the guide's Derived/Test/ToyasCard.lean, 'card_holds'). Laid BY PROGRAM, IN A SANDBOX (cutbox-door.mjs). By AI agents, Wed Nov 11 2026. No macro, syntax, notation, axiom, sorry.
-/
import Derived.Test.YtknbipaecnggcaaGreatDoorRows
import GoSem.ClaimSeven
namespace Go.Proofs.YtknbipaecnggcaaGreatDoor
namespace Rows

/-- THE TIED CARD OF 'becketlaw07.PlaitStands'. -/
def plaitStandsCard : Claim7 := { stood := { row := plaitStandsRow, standIns := [], harness := (true, "c51a5d364a83b54a69666d6fa81d88cfdf55dab161d75abdc789b8698b542bb7"), looks := false }, kinds := [], alts := [], laidByText := true, laidKinds := [.data, .data, .data], laidTests := true, laidLooks := .later }
def PlaitStandsCardSaid : Prop := Claim7.holds Tryz.pinned (.plain (OpenSpec.ofChange plaitStandsSpec)) plaitStandsCard

/-- THE TIED CARD OF 'becketlaw07.PlaitReplays'. -/
def plaitReplaysCard : Claim7 := { stood := { row := plaitReplaysRow, standIns := [], harness := (true, "c51a5d364a83b54a69666d6fa81d88cfdf55dab161d75abdc789b8698b542bb7"), looks := false }, kinds := [], alts := [], laidByText := true, laidKinds := [.data, .data, .data], laidTests := true, laidLooks := .later }
def PlaitReplaysCardSaid : Prop := Claim7.holds Tryz.pinned (.plain (OpenSpec.ofChange plaitReplaysSpec)) plaitReplaysCard

/-- THE TIED CARD OF 'becketlaw07.PlaitTurns'. -/
def plaitTurnsCard : Claim7 := { stood := { row := plaitTurnsRow, standIns := [], harness := (true, "c51a5d364a83b54a69666d6fa81d88cfdf55dab161d75abdc789b8698b542bb7"), looks := false }, kinds := [], alts := [], laidByText := true, laidKinds := [.data, .data, .data], laidTests := true, laidLooks := .later }
def PlaitTurnsCardSaid : Prop := Claim7.holds Tryz.pinned (.plain (OpenSpec.ofChange plaitTurnsSpec)) plaitTurnsCard

/-- THE TIED CARD OF 'becketlaw07.PlaitPasses'. -/
def plaitPassesCard : Claim7 := { stood := { row := plaitPassesRow, standIns := [], harness := (true, "c51a5d364a83b54a69666d6fa81d88cfdf55dab161d75abdc789b8698b542bb7"), looks := false }, kinds := [], alts := [], laidByText := true, laidKinds := [.data, .data, .data], laidTests := true, laidLooks := .later }
def PlaitPassesCardSaid : Prop := Claim7.holds Tryz.pinned (.plain (OpenSpec.ofChange plaitPassesSpec)) plaitPassesCard

/-- THE TIED CARD OF 'becketlaw07.PlaitCrosses'. -/
def plaitCrossesCard : Claim7 := { stood := { row := plaitCrossesRow, standIns := [], harness := (true, "c51a5d364a83b54a69666d6fa81d88cfdf55dab161d75abdc789b8698b542bb7"), looks := false }, kinds := [], alts := [], laidByText := true, laidKinds := [.data, .data, .data], laidTests := true, laidLooks := .later }
def PlaitCrossesCardSaid : Prop := Claim7.holds Tryz.pinned (.plain (OpenSpec.ofChange plaitCrossesSpec)) plaitCrossesCard

/-- THE TIED CARD OF 'becketlaw07.PlaitMats'. -/
def plaitMatsCard : Claim7 := { stood := { row := plaitMatsRow, standIns := [], harness := (true, "c51a5d364a83b54a69666d6fa81d88cfdf55dab161d75abdc789b8698b542bb7"), looks := false }, kinds := [], alts := [], laidByText := true, laidKinds := [.data, .data, .data], laidTests := true, laidLooks := .later }
def PlaitMatsCardSaid : Prop := Claim7.holds Tryz.pinned (.plain (OpenSpec.ofChange plaitMatsSpec)) plaitMatsCard

/-- THE TIED CARD OF 'becketlaw07.PlaitReturns'. -/
def plaitReturnsCard : Claim7 := { stood := { row := plaitReturnsRow, standIns := [], harness := (true, "c51a5d364a83b54a69666d6fa81d88cfdf55dab161d75abdc789b8698b542bb7"), looks := false }, kinds := [], alts := [], laidByText := true, laidKinds := [.data, .data, .data], laidTests := true, laidLooks := .later }
def PlaitReturnsCardSaid : Prop := Claim7.holds Tryz.pinned (.plain (OpenSpec.ofChange plaitReturnsSpec)) plaitReturnsCard

/-- THE TIED CARD OF 'becketlaw07.PlaitKnots'. -/
def plaitKnotsCard : Claim7 := { stood := { row := plaitKnotsRow, standIns := [], harness := (true, "c51a5d364a83b54a69666d6fa81d88cfdf55dab161d75abdc789b8698b542bb7"), looks := false }, kinds := [], alts := [], laidByText := true, laidKinds := [.data, .data, .data], laidTests := true, laidLooks := .later }
def PlaitKnotsCardSaid : Prop := Claim7.holds Tryz.pinned (.plain (OpenSpec.ofChange plaitKnotsSpec)) plaitKnotsCard

/-- THE SECOND FORM's CARD OF 'becketlaw07.PlaitStands'. -/
def plaitStandsUptoCard : Claim7 := { stood := { row := plaitStandsUptoRow, standIns := [], harness := (true, "c51a5d364a83b54a69666d6fa81d88cfdf55dab161d75abdc789b8698b542bb7"), looks := false }, kinds := [], alts := [], laidByText := true, laidKinds := [.data, .data, .data], laidTests := true, laidLooks := .later }
def PlaitStandsUptoCardSaid : Prop := Claim7.holds Tryz.pinned (.plain (OpenSpec.upto plaitStandsSpec)) plaitStandsUptoCard

/-- THE SECOND FORM's CARD OF 'becketlaw07.PlaitReplays'. -/
def plaitReplaysUptoCard : Claim7 := { stood := { row := plaitReplaysUptoRow, standIns := [], harness := (true, "c51a5d364a83b54a69666d6fa81d88cfdf55dab161d75abdc789b8698b542bb7"), looks := false }, kinds := [], alts := [], laidByText := true, laidKinds := [.data, .data, .data], laidTests := true, laidLooks := .later }
def PlaitReplaysUptoCardSaid : Prop := Claim7.holds Tryz.pinned (.plain (OpenSpec.upto plaitReplaysSpec)) plaitReplaysUptoCard

/-- THE SECOND FORM's CARD OF 'becketlaw07.PlaitTurns'. -/
def plaitTurnsUptoCard : Claim7 := { stood := { row := plaitTurnsUptoRow, standIns := [], harness := (true, "c51a5d364a83b54a69666d6fa81d88cfdf55dab161d75abdc789b8698b542bb7"), looks := false }, kinds := [], alts := [], laidByText := true, laidKinds := [.data, .data, .data], laidTests := true, laidLooks := .later }
def PlaitTurnsUptoCardSaid : Prop := Claim7.holds Tryz.pinned (.plain (OpenSpec.upto plaitTurnsSpec)) plaitTurnsUptoCard

/-- THE SECOND FORM's CARD OF 'becketlaw07.PlaitPasses'. -/
def plaitPassesUptoCard : Claim7 := { stood := { row := plaitPassesUptoRow, standIns := [], harness := (true, "c51a5d364a83b54a69666d6fa81d88cfdf55dab161d75abdc789b8698b542bb7"), looks := false }, kinds := [], alts := [], laidByText := true, laidKinds := [.data, .data, .data], laidTests := true, laidLooks := .later }
def PlaitPassesUptoCardSaid : Prop := Claim7.holds Tryz.pinned (.plain (OpenSpec.upto plaitPassesSpec)) plaitPassesUptoCard

/-- THE SECOND FORM's CARD OF 'becketlaw07.PlaitCrosses'. -/
def plaitCrossesUptoCard : Claim7 := { stood := { row := plaitCrossesUptoRow, standIns := [], harness := (true, "c51a5d364a83b54a69666d6fa81d88cfdf55dab161d75abdc789b8698b542bb7"), looks := false }, kinds := [], alts := [], laidByText := true, laidKinds := [.data, .data, .data], laidTests := true, laidLooks := .later }
def PlaitCrossesUptoCardSaid : Prop := Claim7.holds Tryz.pinned (.plain (OpenSpec.upto plaitCrossesSpec)) plaitCrossesUptoCard

/-- THE SECOND FORM's CARD OF 'becketlaw07.PlaitMats'. -/
def plaitMatsUptoCard : Claim7 := { stood := { row := plaitMatsUptoRow, standIns := [], harness := (true, "c51a5d364a83b54a69666d6fa81d88cfdf55dab161d75abdc789b8698b542bb7"), looks := false }, kinds := [], alts := [], laidByText := true, laidKinds := [.data, .data, .data], laidTests := true, laidLooks := .later }
def PlaitMatsUptoCardSaid : Prop := Claim7.holds Tryz.pinned (.plain (OpenSpec.upto plaitMatsSpec)) plaitMatsUptoCard

/-- THE SECOND FORM's CARD OF 'becketlaw07.PlaitReturns'. -/
def plaitReturnsUptoCard : Claim7 := { stood := { row := plaitReturnsUptoRow, standIns := [], harness := (true, "c51a5d364a83b54a69666d6fa81d88cfdf55dab161d75abdc789b8698b542bb7"), looks := false }, kinds := [], alts := [], laidByText := true, laidKinds := [.data, .data, .data], laidTests := true, laidLooks := .later }
def PlaitReturnsUptoCardSaid : Prop := Claim7.holds Tryz.pinned (.plain (OpenSpec.upto plaitReturnsSpec)) plaitReturnsUptoCard

/-- THE SECOND FORM's CARD OF 'becketlaw07.PlaitKnots'. -/
def plaitKnotsUptoCard : Claim7 := { stood := { row := plaitKnotsUptoRow, standIns := [], harness := (true, "c51a5d364a83b54a69666d6fa81d88cfdf55dab161d75abdc789b8698b542bb7"), looks := false }, kinds := [], alts := [], laidByText := true, laidKinds := [.data, .data, .data], laidTests := true, laidLooks := .later }
def PlaitKnotsUptoCardSaid : Prop := Claim7.holds Tryz.pinned (.plain (OpenSpec.upto plaitKnotsSpec)) plaitKnotsUptoCard
end Rows
end Go.Proofs.YtknbipaecnggcaaGreatDoor
