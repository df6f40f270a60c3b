/-
  DERIVED. GIVEN WITH THE SEED: THE CARDS: each row of YthmbdpdojjcgkaaGreatDoorRows.lean that lists a variable, with what it lists TIED to the program's text (the seventh form; the later family's looks); each row that meets fmt, with fmt's text TOLD by the authors' own Lean function (tested against real Go, not proved from fmt's source: count such statements apart). THE CARD IS WHAT COUNTS. Prove the row's statement (the work); the ties are given (YthmbdpdojjcgkaaGreatDoorTie.lean); close each card by the builder's one call (the guide's Derived/Test/ToyasCard.lean, 'card_holds'). Laid BY PROGRAM, IN A SANDBOX (cutbox-door.mjs). By AI agents, Wed Nov 11 2026. No macro, syntax, notation, axiom, sorry.
-/
import Derived.Test.YthmbdpdojjcgkaaGreatDoorRows
import GoSem.ClaimSeven
namespace Go.Proofs.YthmbdpdojjcgkaaGreatDoor
namespace Rows

/-- THE TIED CARD OF 'beckettop.TopHawserPowers'. -/
def topHawserPowersCard : Claim7 := { stood := { row := topHawserPowersRow, standIns := [], harness := (true, "48bf2070eeade12252d6b30f3e0dac2a23a236ef31818058bf4cb99eabe932e6"), looks := false }, kinds := [], alts := [], laidByText := true, laidKinds := [.data, .data, .data], laidTests := true, laidLooks := .later }
def TopHawserPowersCardSaid : Prop := Claim7.holds Tryz.pinned (.plain (OpenSpec.ofChange topHawserPowersSpec)) topHawserPowersCard

/-- THE TIED CARD OF 'beckettop.TopHawserPairs'. -/
def topHawserPairsCard : Claim7 := { stood := { row := topHawserPairsRow, standIns := [], harness := (true, "48bf2070eeade12252d6b30f3e0dac2a23a236ef31818058bf4cb99eabe932e6"), looks := false }, kinds := [], alts := [], laidByText := true, laidKinds := [.data, .data, .data], laidTests := true, laidLooks := .later }
def TopHawserPairsCardSaid : Prop := Claim7.holds Tryz.pinned (.plain (OpenSpec.ofChange topHawserPairsSpec)) topHawserPairsCard

/-- THE SECOND FORM's CARD OF 'beckettop.TopHawserPowers'. -/
def topHawserPowersUptoCard : Claim7 := { stood := { row := topHawserPowersUptoRow, standIns := [], harness := (true, "48bf2070eeade12252d6b30f3e0dac2a23a236ef31818058bf4cb99eabe932e6"), looks := false }, kinds := [], alts := [], laidByText := true, laidKinds := [.data, .data, .data], laidTests := true, laidLooks := .later }
def TopHawserPowersUptoCardSaid : Prop := Claim7.holds Tryz.pinned (.plain (OpenSpec.upto topHawserPowersSpec)) topHawserPowersUptoCard

/-- THE SECOND FORM's CARD OF 'beckettop.TopHawserPairs'. -/
def topHawserPairsUptoCard : Claim7 := { stood := { row := topHawserPairsUptoRow, standIns := [], harness := (true, "48bf2070eeade12252d6b30f3e0dac2a23a236ef31818058bf4cb99eabe932e6"), looks := false }, kinds := [], alts := [], laidByText := true, laidKinds := [.data, .data, .data], laidTests := true, laidLooks := .later }
def TopHawserPairsUptoCardSaid : Prop := Claim7.holds Tryz.pinned (.plain (OpenSpec.upto topHawserPairsSpec)) topHawserPairsUptoCard
end Rows
end Go.Proofs.YthmbdpdojjcgkaaGreatDoor
