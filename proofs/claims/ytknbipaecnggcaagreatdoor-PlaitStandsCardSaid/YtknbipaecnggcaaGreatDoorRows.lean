/-
  NARROWER THAN 'FOR EVERY INPUT', by the rows' own cells (each row's printed sentence says how): PlaitStands: laid · PlaitReplays: laid · PlaitTurns: laid · PlaitPasses: laid · PlaitCrosses: laid · PlaitMats: laid · PlaitReturns: laid · PlaitKnots: laid.
  DERIVED. THE GIVEN ROWS OF THIS SEAT. 8 by the template 'for every input the law returns true; each argument reads behind the call as it read before'; 0 by the template 'total and deterministic' (their statements: YtknbipaecnggcaaGreatDoorTotals.lean).
  GIVEN WITH THE SEED: the statements are not yours to turn. If you find one false, say at which input.
  Laid BY PROGRAM, IN A SANDBOX (cutbox-rows.mjs): the forced cells as the released guide's own fill.sh prints them over the translation a077e5097cd9b611… (all of the seat's roots in one cut). By AI agents, Wed Nov 11 2026. No macro, syntax, notation, axiom, sorry.
-/
import Derived.Test.YtknbipaecnggcaaGreatDoorChecked
import GoSem.Claim
import GoSem.ClaimJoined
import GoSem.ClaimMapViews
import Derived.JoinedTies
import Derived.KernelRfl
namespace Go.Proofs.YtknbipaecnggcaaGreatDoor
/- THE CELL 'sum', in the pinned program and in every row, IS THE sha256 OF THE DUMP (.gsa) THAT YtknbipaecnggcaaGreatDoorProg.lean LOADS. Nothing in Lean hashes anything: it is a label: what it is worth is what the hold of that sum in a sandbox is worth. -/
noncomputable def Tryz.pinned : Pinned := { name := "ytknbipaecnggcaagreatdoor", sum := "a077e5097cd9b61154fee81e170fb815d228a0d8517db42c6a1e9679c98c0957", checked := Tryz.checked }
namespace Rows
def none {H : Type} : Left H := { results := [], args := [] }

/- WHAT THE LISTED PACKAGE-LEVEL VARIABLES READ AS WHEN THE CALL BEGINS. Each datum BY PROGRAM (the guide's laid-datum.mjs) off the statement by which the dump's own 'gosem.cut.vars' lays the variable. In a bare row this is a premise. The card (YtknbipaecnggcaaGreatDoorCards.lean) ties it to the program's text. -/
def laid_math_bits_deBruijn32tab {H : Type} : DataW H := .agg [.lit (.int .u8 0), .lit (.int .u8 1), .lit (.int .u8 28), .lit (.int .u8 2), .lit (.int .u8 29), .lit (.int .u8 14), .lit (.int .u8 24), .lit (.int .u8 3), .lit (.int .u8 30), .lit (.int .u8 22), .lit (.int .u8 20), .lit (.int .u8 15), .lit (.int .u8 25), .lit (.int .u8 17), .lit (.int .u8 4), .lit (.int .u8 8), .lit (.int .u8 31), .lit (.int .u8 27), .lit (.int .u8 13), .lit (.int .u8 23), .lit (.int .u8 21), .lit (.int .u8 19), .lit (.int .u8 16), .lit (.int .u8 7), .lit (.int .u8 26), .lit (.int .u8 12), .lit (.int .u8 18), .lit (.int .u8 6), .lit (.int .u8 11), .lit (.int .u8 5), .lit (.int .u8 10), .lit (.int .u8 9)]
def laid_math_bits_deBruijn64tab {H : Type} : DataW H := .agg [.lit (.int .u8 0), .lit (.int .u8 1), .lit (.int .u8 56), .lit (.int .u8 2), .lit (.int .u8 57), .lit (.int .u8 49), .lit (.int .u8 28), .lit (.int .u8 3), .lit (.int .u8 61), .lit (.int .u8 58), .lit (.int .u8 42), .lit (.int .u8 50), .lit (.int .u8 38), .lit (.int .u8 29), .lit (.int .u8 17), .lit (.int .u8 4), .lit (.int .u8 62), .lit (.int .u8 47), .lit (.int .u8 59), .lit (.int .u8 36), .lit (.int .u8 45), .lit (.int .u8 43), .lit (.int .u8 51), .lit (.int .u8 22), .lit (.int .u8 53), .lit (.int .u8 39), .lit (.int .u8 33), .lit (.int .u8 30), .lit (.int .u8 24), .lit (.int .u8 18), .lit (.int .u8 12), .lit (.int .u8 5), .lit (.int .u8 63), .lit (.int .u8 55), .lit (.int .u8 48), .lit (.int .u8 27), .lit (.int .u8 60), .lit (.int .u8 41), .lit (.int .u8 37), .lit (.int .u8 16), .lit (.int .u8 46), .lit (.int .u8 35), .lit (.int .u8 44), .lit (.int .u8 21), .lit (.int .u8 52), .lit (.int .u8 32), .lit (.int .u8 23), .lit (.int .u8 11), .lit (.int .u8 54), .lit (.int .u8 26), .lit (.int .u8 40), .lit (.int .u8 15), .lit (.int .u8 34), .lit (.int .u8 20), .lit (.int .u8 31), .lit (.int .u8 10), .lit (.int .u8 25), .lit (.int .u8 14), .lit (.int .u8 19), .lit (.int .u8 9), .lit (.int .u8 13), .lit (.int .u8 8), .lit (.int .u8 7), .lit (.int .u8 6)]
def laid_internal_strconv_uint64pow10 {H : Type} : DataW H := .agg [.lit (.int .u64 1), .lit (.int .u64 10), .lit (.int .u64 100), .lit (.int .u64 1000), .lit (.int .u64 10000), .lit (.int .u64 100000), .lit (.int .u64 1000000), .lit (.int .u64 10000000), .lit (.int .u64 100000000), .lit (.int .u64 1000000000), .lit (.int .u64 10000000000), .lit (.int .u64 100000000000), .lit (.int .u64 1000000000000), .lit (.int .u64 10000000000000), .lit (.int .u64 100000000000000), .lit (.int .u64 1000000000000000), .lit (.int .u64 10000000000000000), .lit (.int .u64 100000000000000000), .lit (.int .u64 1000000000000000000), .lit (.int .u64 10000000000000000000)]

/-- 'becketlaw07.PlaitStands': WHATEVER THE INPUT: true; the input reads as it did. -/
def plaitStandsSpec : ChangeSpec := { name := "plaitStands", fn := fun _ => fun
  | [d1, d2] => { results := [.lit (.bool true)], args := [d1, d2] }
  | _ => none }
def plaitStandsRow : OpenClaim := { program := "ytknbipaecnggcaagreatdoor", sum := "a077e5097cd9b61154fee81e170fb815d228a0d8517db42c6a1e9679c98c0957", func := "becket/becketlaw07.PlaitStands", spec := "plaitStands", inPlace := ["math/bits.Add64", "math/bits.Sub64", "internal/abi.NoEscape", "internal/bytealg.MakeNoZero", "slices.overlaps[int]"], unfollowed := true, recurses := true, named := ["math/bits.divideError", "math/bits.overflowError", "internal/strconv.uint64pow10", "math/bits.deBruijn32tab", "math/bits.deBruijn64tab"], apart := false, laid := [("math/bits.deBruijn32tab", laid_math_bits_deBruijn32tab), ("math/bits.deBruijn64tab", laid_math_bits_deBruijn64tab), ("internal/strconv.uint64pow10", laid_internal_strconv_uint64pow10)] }
def PlaitStandsSaid : Prop := plaitStandsRow.holds Tryz.pinned (OpenSpec.ofChange plaitStandsSpec)

/-- ITS FALSE NEIGHBOUR: 'it returns false'. Refute it at one input. -/
def plaitStandsWrong : ChangeSpec := { name := "plaitStands", fn := fun _ => fun
  | [d1, d2] => { results := [.lit (.bool false)], args := [d1, d2] }
  | _ => none }
def PlaitStandsWrongFalsely : Prop := plaitStandsRow.holds Tryz.pinned (OpenSpec.ofChange plaitStandsWrong)

/-- 'becketlaw07.PlaitReplays': WHATEVER THE INPUT: true; the input reads as it did. -/
def plaitReplaysSpec : ChangeSpec := { name := "plaitReplays", fn := fun _ => fun
  | [d1, d2] => { results := [.lit (.bool true)], args := [d1, d2] }
  | _ => none }
def plaitReplaysRow : OpenClaim := { program := "ytknbipaecnggcaagreatdoor", sum := "a077e5097cd9b61154fee81e170fb815d228a0d8517db42c6a1e9679c98c0957", func := "becket/becketlaw07.PlaitReplays", spec := "plaitReplays", inPlace := ["math/bits.Add64", "math/bits.Sub64", "internal/abi.NoEscape", "internal/bytealg.MakeNoZero", "slices.overlaps[int]"], unfollowed := true, recurses := true, named := ["math/bits.divideError", "math/bits.overflowError", "internal/strconv.uint64pow10", "math/bits.deBruijn32tab", "math/bits.deBruijn64tab"], apart := false, laid := [("math/bits.deBruijn32tab", laid_math_bits_deBruijn32tab), ("math/bits.deBruijn64tab", laid_math_bits_deBruijn64tab), ("internal/strconv.uint64pow10", laid_internal_strconv_uint64pow10)] }
def PlaitReplaysSaid : Prop := plaitReplaysRow.holds Tryz.pinned (OpenSpec.ofChange plaitReplaysSpec)

/-- ITS FALSE NEIGHBOUR: 'it returns false'. Refute it at one input. -/
def plaitReplaysWrong : ChangeSpec := { name := "plaitReplays", fn := fun _ => fun
  | [d1, d2] => { results := [.lit (.bool false)], args := [d1, d2] }
  | _ => none }
def PlaitReplaysWrongFalsely : Prop := plaitReplaysRow.holds Tryz.pinned (OpenSpec.ofChange plaitReplaysWrong)

/-- 'becketlaw07.PlaitTurns': WHATEVER THE INPUT: true; the input reads as it did. -/
def plaitTurnsSpec : ChangeSpec := { name := "plaitTurns", fn := fun _ => fun
  | [d1, d2, d3] => { results := [.lit (.bool true)], args := [d1, d2, d3] }
  | _ => none }
def plaitTurnsRow : OpenClaim := { program := "ytknbipaecnggcaagreatdoor", sum := "a077e5097cd9b61154fee81e170fb815d228a0d8517db42c6a1e9679c98c0957", func := "becket/becketlaw07.PlaitTurns", spec := "plaitTurns", inPlace := ["math/bits.Add64", "math/bits.Sub64", "internal/abi.NoEscape", "internal/bytealg.MakeNoZero", "slices.overlaps[int]"], unfollowed := true, recurses := true, named := ["math/bits.divideError", "math/bits.overflowError", "internal/strconv.uint64pow10", "math/bits.deBruijn32tab", "math/bits.deBruijn64tab"], apart := false, laid := [("math/bits.deBruijn32tab", laid_math_bits_deBruijn32tab), ("math/bits.deBruijn64tab", laid_math_bits_deBruijn64tab), ("internal/strconv.uint64pow10", laid_internal_strconv_uint64pow10)] }
def PlaitTurnsSaid : Prop := plaitTurnsRow.holds Tryz.pinned (OpenSpec.ofChange plaitTurnsSpec)

/-- ITS FALSE NEIGHBOUR: 'it returns false'. Refute it at one input. -/
def plaitTurnsWrong : ChangeSpec := { name := "plaitTurns", fn := fun _ => fun
  | [d1, d2, d3] => { results := [.lit (.bool false)], args := [d1, d2, d3] }
  | _ => none }
def PlaitTurnsWrongFalsely : Prop := plaitTurnsRow.holds Tryz.pinned (OpenSpec.ofChange plaitTurnsWrong)

/-- 'becketlaw07.PlaitPasses': WHATEVER THE INPUT: true; the input reads as it did. -/
def plaitPassesSpec : ChangeSpec := { name := "plaitPasses", fn := fun _ => fun
  | [d1, d2] => { results := [.lit (.bool true)], args := [d1, d2] }
  | _ => none }
def plaitPassesRow : OpenClaim := { program := "ytknbipaecnggcaagreatdoor", sum := "a077e5097cd9b61154fee81e170fb815d228a0d8517db42c6a1e9679c98c0957", func := "becket/becketlaw07.PlaitPasses", spec := "plaitPasses", inPlace := ["math/bits.Add64", "math/bits.Sub64", "internal/abi.NoEscape", "internal/bytealg.MakeNoZero", "slices.overlaps[int]"], unfollowed := true, recurses := true, named := ["math/bits.divideError", "math/bits.overflowError", "internal/strconv.uint64pow10", "math/bits.deBruijn32tab", "math/bits.deBruijn64tab"], apart := false, laid := [("math/bits.deBruijn32tab", laid_math_bits_deBruijn32tab), ("math/bits.deBruijn64tab", laid_math_bits_deBruijn64tab), ("internal/strconv.uint64pow10", laid_internal_strconv_uint64pow10)] }
def PlaitPassesSaid : Prop := plaitPassesRow.holds Tryz.pinned (OpenSpec.ofChange plaitPassesSpec)

/-- ITS FALSE NEIGHBOUR: 'it returns false'. Refute it at one input. -/
def plaitPassesWrong : ChangeSpec := { name := "plaitPasses", fn := fun _ => fun
  | [d1, d2] => { results := [.lit (.bool false)], args := [d1, d2] }
  | _ => none }
def PlaitPassesWrongFalsely : Prop := plaitPassesRow.holds Tryz.pinned (OpenSpec.ofChange plaitPassesWrong)

/-- 'becketlaw07.PlaitCrosses': WHATEVER THE INPUT: true; the input reads as it did. -/
def plaitCrossesSpec : ChangeSpec := { name := "plaitCrosses", fn := fun _ => fun
  | [d1, d2] => { results := [.lit (.bool true)], args := [d1, d2] }
  | _ => none }
def plaitCrossesRow : OpenClaim := { program := "ytknbipaecnggcaagreatdoor", sum := "a077e5097cd9b61154fee81e170fb815d228a0d8517db42c6a1e9679c98c0957", func := "becket/becketlaw07.PlaitCrosses", spec := "plaitCrosses", inPlace := ["math/bits.Add64", "math/bits.Sub64", "internal/abi.NoEscape", "internal/bytealg.MakeNoZero", "slices.overlaps[int]"], unfollowed := true, recurses := true, named := ["math/bits.divideError", "math/bits.overflowError", "internal/strconv.uint64pow10", "math/bits.deBruijn32tab", "math/bits.deBruijn64tab"], apart := false, laid := [("math/bits.deBruijn32tab", laid_math_bits_deBruijn32tab), ("math/bits.deBruijn64tab", laid_math_bits_deBruijn64tab), ("internal/strconv.uint64pow10", laid_internal_strconv_uint64pow10)] }
def PlaitCrossesSaid : Prop := plaitCrossesRow.holds Tryz.pinned (OpenSpec.ofChange plaitCrossesSpec)

/-- ITS FALSE NEIGHBOUR: 'it returns false'. Refute it at one input. -/
def plaitCrossesWrong : ChangeSpec := { name := "plaitCrosses", fn := fun _ => fun
  | [d1, d2] => { results := [.lit (.bool false)], args := [d1, d2] }
  | _ => none }
def PlaitCrossesWrongFalsely : Prop := plaitCrossesRow.holds Tryz.pinned (OpenSpec.ofChange plaitCrossesWrong)

/-- 'becketlaw07.PlaitMats': WHATEVER THE INPUT: true; the input reads as it did. -/
def plaitMatsSpec : ChangeSpec := { name := "plaitMats", fn := fun _ => fun
  | [d1, d2, d3] => { results := [.lit (.bool true)], args := [d1, d2, d3] }
  | _ => none }
def plaitMatsRow : OpenClaim := { program := "ytknbipaecnggcaagreatdoor", sum := "a077e5097cd9b61154fee81e170fb815d228a0d8517db42c6a1e9679c98c0957", func := "becket/becketlaw07.PlaitMats", spec := "plaitMats", inPlace := ["internal/abi.NoEscape", "internal/bytealg.MakeNoZero", "math/bits.Add64", "math/bits.Sub64", "slices.overlaps[int]"], unfollowed := true, recurses := true, named := ["math/bits.divideError", "math/bits.overflowError", "internal/strconv.uint64pow10", "math/bits.deBruijn32tab", "math/bits.deBruijn64tab"], apart := false, laid := [("math/bits.deBruijn32tab", laid_math_bits_deBruijn32tab), ("math/bits.deBruijn64tab", laid_math_bits_deBruijn64tab), ("internal/strconv.uint64pow10", laid_internal_strconv_uint64pow10)] }
def PlaitMatsSaid : Prop := plaitMatsRow.holds Tryz.pinned (OpenSpec.ofChange plaitMatsSpec)

/-- ITS FALSE NEIGHBOUR: 'it returns false'. Refute it at one input. -/
def plaitMatsWrong : ChangeSpec := { name := "plaitMats", fn := fun _ => fun
  | [d1, d2, d3] => { results := [.lit (.bool false)], args := [d1, d2, d3] }
  | _ => none }
def PlaitMatsWrongFalsely : Prop := plaitMatsRow.holds Tryz.pinned (OpenSpec.ofChange plaitMatsWrong)

/-- 'becketlaw07.PlaitReturns': WHATEVER THE INPUT: true; the input reads as it did. -/
def plaitReturnsSpec : ChangeSpec := { name := "plaitReturns", fn := fun _ => fun
  | [d1, d2, d3] => { results := [.lit (.bool true)], args := [d1, d2, d3] }
  | _ => none }
def plaitReturnsRow : OpenClaim := { program := "ytknbipaecnggcaagreatdoor", sum := "a077e5097cd9b61154fee81e170fb815d228a0d8517db42c6a1e9679c98c0957", func := "becket/becketlaw07.PlaitReturns", spec := "plaitReturns", inPlace := ["math/bits.Add64", "math/bits.Sub64", "internal/abi.NoEscape", "internal/bytealg.MakeNoZero", "slices.overlaps[int]"], unfollowed := true, recurses := true, named := ["math/bits.divideError", "math/bits.overflowError", "internal/strconv.uint64pow10", "math/bits.deBruijn32tab", "math/bits.deBruijn64tab"], apart := false, laid := [("math/bits.deBruijn32tab", laid_math_bits_deBruijn32tab), ("math/bits.deBruijn64tab", laid_math_bits_deBruijn64tab), ("internal/strconv.uint64pow10", laid_internal_strconv_uint64pow10)] }
def PlaitReturnsSaid : Prop := plaitReturnsRow.holds Tryz.pinned (OpenSpec.ofChange plaitReturnsSpec)

/-- ITS FALSE NEIGHBOUR: 'it returns false'. Refute it at one input. -/
def plaitReturnsWrong : ChangeSpec := { name := "plaitReturns", fn := fun _ => fun
  | [d1, d2, d3] => { results := [.lit (.bool false)], args := [d1, d2, d3] }
  | _ => none }
def PlaitReturnsWrongFalsely : Prop := plaitReturnsRow.holds Tryz.pinned (OpenSpec.ofChange plaitReturnsWrong)

/-- 'becketlaw07.PlaitKnots': WHATEVER THE INPUT: true; the input reads as it did. -/
def plaitKnotsSpec : ChangeSpec := { name := "plaitKnots", fn := fun _ => fun
  | [d1, d2] => { results := [.lit (.bool true)], args := [d1, d2] }
  | _ => none }
def plaitKnotsRow : OpenClaim := { program := "ytknbipaecnggcaagreatdoor", sum := "a077e5097cd9b61154fee81e170fb815d228a0d8517db42c6a1e9679c98c0957", func := "becket/becketlaw07.PlaitKnots", spec := "plaitKnots", inPlace := ["math/bits.Add64", "math/bits.Sub64", "internal/abi.NoEscape", "internal/bytealg.MakeNoZero", "slices.overlaps[int]"], unfollowed := true, recurses := true, named := ["math/bits.divideError", "math/bits.overflowError", "internal/strconv.uint64pow10", "math/bits.deBruijn32tab", "math/bits.deBruijn64tab"], apart := false, laid := [("math/bits.deBruijn32tab", laid_math_bits_deBruijn32tab), ("math/bits.deBruijn64tab", laid_math_bits_deBruijn64tab), ("internal/strconv.uint64pow10", laid_internal_strconv_uint64pow10)] }
def PlaitKnotsSaid : Prop := plaitKnotsRow.holds Tryz.pinned (OpenSpec.ofChange plaitKnotsSpec)

/-- ITS FALSE NEIGHBOUR: 'it returns false'. Refute it at one input. -/
def plaitKnotsWrong : ChangeSpec := { name := "plaitKnots", fn := fun _ => fun
  | [d1, d2] => { results := [.lit (.bool false)], args := [d1, d2] }
  | _ => none }
def PlaitKnotsWrongFalsely : Prop := plaitKnotsRow.holds Tryz.pinned (OpenSpec.ofChange plaitKnotsWrong)

/- THE SECOND FORM. 'bulk': how many values and letters a reading holds, each counted each time it is reached (what is shared counts as often as it is met; a slice's spare places count too). A statement '..UptoSaid' is the law's where the arguments, and the package variables that the reading takes, are together of bulk at most 1048576: NARROWER than '..Said'. Prove '..Said' where nothing that the law and all that it calls make is longer than what came in: it says more and counts as full. Else prove '..UptoSaid'. A law counts once. -/
mutual
def uptoBulk {H : Type} : DataW H → Nat
  | .lit (.string bytes) => bytes.length + 1
  | .lit _ => 1
  | .nil => 1
  | .ptr d => uptoBulk d + 1
  | .slice elems spare => uptoBulkAll elems + uptoBulkAll spare + 1
  | .agg parts => uptoBulkAll parts + 1
  | .iface _ d => uptoBulk d + 1
  | .map entries => uptoBulkEntries entries + 1
  | .held _ => 1
def uptoBulkAll {H : Type} : List (DataW H) → Nat
  | [] => 0
  | d :: r => uptoBulk d + uptoBulkAll r
def uptoBulkEntries {H : Type} : List (Lit × DataW H) → Nat
  | [] => 0
  | x :: r => uptoBulkEntry x + uptoBulkEntries r
def uptoBulkEntry {H : Type} : Lit × DataW H → Nat
  | (.string bytes, d) => bytes.length + uptoBulk d + 1
  | (_, d) => uptoBulk d + 1
 end
def uptoSmall : (H : Type) → List (DataW H) → Bool := fun _ ds => decide (uptoBulkAll ds ≤ 1048576)
def OpenSpec.upto (s : _root_.Go.ChangeSpec) : _root_.Go.OpenSpec := { _root_.Go.OpenSpec.ofChange s with cond := some uptoSmall }

/-- 'becketlaw07.PlaitStands', WHERE WHAT IT READS IS OF BULK AT MOST 1048576: true; the input reads as it did. -/
def plaitStandsUptoRow : OpenClaim := { program := "ytknbipaecnggcaagreatdoor", sum := "a077e5097cd9b61154fee81e170fb815d228a0d8517db42c6a1e9679c98c0957", func := "becket/becketlaw07.PlaitStands", spec := "plaitStands", inPlace := ["math/bits.Add64", "math/bits.Sub64", "internal/abi.NoEscape", "internal/bytealg.MakeNoZero", "slices.overlaps[int]"], unfollowed := true, recurses := true, named := ["math/bits.divideError", "math/bits.overflowError", "internal/strconv.uint64pow10", "math/bits.deBruijn32tab", "math/bits.deBruijn64tab"], apart := false, laid := [("math/bits.deBruijn32tab", laid_math_bits_deBruijn32tab), ("math/bits.deBruijn64tab", laid_math_bits_deBruijn64tab), ("internal/strconv.uint64pow10", laid_internal_strconv_uint64pow10)], narrowed := true }
def PlaitStandsUptoSaid : Prop := plaitStandsUptoRow.holds Tryz.pinned (OpenSpec.upto plaitStandsSpec)

/-- 'becketlaw07.PlaitReplays', WHERE WHAT IT READS IS OF BULK AT MOST 1048576: true; the input reads as it did. -/
def plaitReplaysUptoRow : OpenClaim := { program := "ytknbipaecnggcaagreatdoor", sum := "a077e5097cd9b61154fee81e170fb815d228a0d8517db42c6a1e9679c98c0957", func := "becket/becketlaw07.PlaitReplays", spec := "plaitReplays", inPlace := ["math/bits.Add64", "math/bits.Sub64", "internal/abi.NoEscape", "internal/bytealg.MakeNoZero", "slices.overlaps[int]"], unfollowed := true, recurses := true, named := ["math/bits.divideError", "math/bits.overflowError", "internal/strconv.uint64pow10", "math/bits.deBruijn32tab", "math/bits.deBruijn64tab"], apart := false, laid := [("math/bits.deBruijn32tab", laid_math_bits_deBruijn32tab), ("math/bits.deBruijn64tab", laid_math_bits_deBruijn64tab), ("internal/strconv.uint64pow10", laid_internal_strconv_uint64pow10)], narrowed := true }
def PlaitReplaysUptoSaid : Prop := plaitReplaysUptoRow.holds Tryz.pinned (OpenSpec.upto plaitReplaysSpec)

/-- 'becketlaw07.PlaitTurns', WHERE WHAT IT READS IS OF BULK AT MOST 1048576: true; the input reads as it did. -/
def plaitTurnsUptoRow : OpenClaim := { program := "ytknbipaecnggcaagreatdoor", sum := "a077e5097cd9b61154fee81e170fb815d228a0d8517db42c6a1e9679c98c0957", func := "becket/becketlaw07.PlaitTurns", spec := "plaitTurns", inPlace := ["math/bits.Add64", "math/bits.Sub64", "internal/abi.NoEscape", "internal/bytealg.MakeNoZero", "slices.overlaps[int]"], unfollowed := true, recurses := true, named := ["math/bits.divideError", "math/bits.overflowError", "internal/strconv.uint64pow10", "math/bits.deBruijn32tab", "math/bits.deBruijn64tab"], apart := false, laid := [("math/bits.deBruijn32tab", laid_math_bits_deBruijn32tab), ("math/bits.deBruijn64tab", laid_math_bits_deBruijn64tab), ("internal/strconv.uint64pow10", laid_internal_strconv_uint64pow10)], narrowed := true }
def PlaitTurnsUptoSaid : Prop := plaitTurnsUptoRow.holds Tryz.pinned (OpenSpec.upto plaitTurnsSpec)

/-- 'becketlaw07.PlaitPasses', WHERE WHAT IT READS IS OF BULK AT MOST 1048576: true; the input reads as it did. -/
def plaitPassesUptoRow : OpenClaim := { program := "ytknbipaecnggcaagreatdoor", sum := "a077e5097cd9b61154fee81e170fb815d228a0d8517db42c6a1e9679c98c0957", func := "becket/becketlaw07.PlaitPasses", spec := "plaitPasses", inPlace := ["math/bits.Add64", "math/bits.Sub64", "internal/abi.NoEscape", "internal/bytealg.MakeNoZero", "slices.overlaps[int]"], unfollowed := true, recurses := true, named := ["math/bits.divideError", "math/bits.overflowError", "internal/strconv.uint64pow10", "math/bits.deBruijn32tab", "math/bits.deBruijn64tab"], apart := false, laid := [("math/bits.deBruijn32tab", laid_math_bits_deBruijn32tab), ("math/bits.deBruijn64tab", laid_math_bits_deBruijn64tab), ("internal/strconv.uint64pow10", laid_internal_strconv_uint64pow10)], narrowed := true }
def PlaitPassesUptoSaid : Prop := plaitPassesUptoRow.holds Tryz.pinned (OpenSpec.upto plaitPassesSpec)

/-- 'becketlaw07.PlaitCrosses', WHERE WHAT IT READS IS OF BULK AT MOST 1048576: true; the input reads as it did. -/
def plaitCrossesUptoRow : OpenClaim := { program := "ytknbipaecnggcaagreatdoor", sum := "a077e5097cd9b61154fee81e170fb815d228a0d8517db42c6a1e9679c98c0957", func := "becket/becketlaw07.PlaitCrosses", spec := "plaitCrosses", inPlace := ["math/bits.Add64", "math/bits.Sub64", "internal/abi.NoEscape", "internal/bytealg.MakeNoZero", "slices.overlaps[int]"], unfollowed := true, recurses := true, named := ["math/bits.divideError", "math/bits.overflowError", "internal/strconv.uint64pow10", "math/bits.deBruijn32tab", "math/bits.deBruijn64tab"], apart := false, laid := [("math/bits.deBruijn32tab", laid_math_bits_deBruijn32tab), ("math/bits.deBruijn64tab", laid_math_bits_deBruijn64tab), ("internal/strconv.uint64pow10", laid_internal_strconv_uint64pow10)], narrowed := true }
def PlaitCrossesUptoSaid : Prop := plaitCrossesUptoRow.holds Tryz.pinned (OpenSpec.upto plaitCrossesSpec)

/-- 'becketlaw07.PlaitMats', WHERE WHAT IT READS IS OF BULK AT MOST 1048576: true; the input reads as it did. -/
def plaitMatsUptoRow : OpenClaim := { program := "ytknbipaecnggcaagreatdoor", sum := "a077e5097cd9b61154fee81e170fb815d228a0d8517db42c6a1e9679c98c0957", func := "becket/becketlaw07.PlaitMats", spec := "plaitMats", inPlace := ["internal/abi.NoEscape", "internal/bytealg.MakeNoZero", "math/bits.Add64", "math/bits.Sub64", "slices.overlaps[int]"], unfollowed := true, recurses := true, named := ["math/bits.divideError", "math/bits.overflowError", "internal/strconv.uint64pow10", "math/bits.deBruijn32tab", "math/bits.deBruijn64tab"], apart := false, laid := [("math/bits.deBruijn32tab", laid_math_bits_deBruijn32tab), ("math/bits.deBruijn64tab", laid_math_bits_deBruijn64tab), ("internal/strconv.uint64pow10", laid_internal_strconv_uint64pow10)], narrowed := true }
def PlaitMatsUptoSaid : Prop := plaitMatsUptoRow.holds Tryz.pinned (OpenSpec.upto plaitMatsSpec)

/-- 'becketlaw07.PlaitReturns', WHERE WHAT IT READS IS OF BULK AT MOST 1048576: true; the input reads as it did. -/
def plaitReturnsUptoRow : OpenClaim := { program := "ytknbipaecnggcaagreatdoor", sum := "a077e5097cd9b61154fee81e170fb815d228a0d8517db42c6a1e9679c98c0957", func := "becket/becketlaw07.PlaitReturns", spec := "plaitReturns", inPlace := ["math/bits.Add64", "math/bits.Sub64", "internal/abi.NoEscape", "internal/bytealg.MakeNoZero", "slices.overlaps[int]"], unfollowed := true, recurses := true, named := ["math/bits.divideError", "math/bits.overflowError", "internal/strconv.uint64pow10", "math/bits.deBruijn32tab", "math/bits.deBruijn64tab"], apart := false, laid := [("math/bits.deBruijn32tab", laid_math_bits_deBruijn32tab), ("math/bits.deBruijn64tab", laid_math_bits_deBruijn64tab), ("internal/strconv.uint64pow10", laid_internal_strconv_uint64pow10)], narrowed := true }
def PlaitReturnsUptoSaid : Prop := plaitReturnsUptoRow.holds Tryz.pinned (OpenSpec.upto plaitReturnsSpec)

/-- 'becketlaw07.PlaitKnots', WHERE WHAT IT READS IS OF BULK AT MOST 1048576: true; the input reads as it did. -/
def plaitKnotsUptoRow : OpenClaim := { program := "ytknbipaecnggcaagreatdoor", sum := "a077e5097cd9b61154fee81e170fb815d228a0d8517db42c6a1e9679c98c0957", func := "becket/becketlaw07.PlaitKnots", spec := "plaitKnots", inPlace := ["math/bits.Add64", "math/bits.Sub64", "internal/abi.NoEscape", "internal/bytealg.MakeNoZero", "slices.overlaps[int]"], unfollowed := true, recurses := true, named := ["math/bits.divideError", "math/bits.overflowError", "internal/strconv.uint64pow10", "math/bits.deBruijn32tab", "math/bits.deBruijn64tab"], apart := false, laid := [("math/bits.deBruijn32tab", laid_math_bits_deBruijn32tab), ("math/bits.deBruijn64tab", laid_math_bits_deBruijn64tab), ("internal/strconv.uint64pow10", laid_internal_strconv_uint64pow10)], narrowed := true }
def PlaitKnotsUptoSaid : Prop := plaitKnotsUptoRow.holds Tryz.pinned (OpenSpec.upto plaitKnotsSpec)

end Rows
end Go.Proofs.YtknbipaecnggcaaGreatDoor
