/- Part of an evaluator of calls that is proved sound, and of what it gives about this program. No condition of its own. -/
import Derived.Test.YtknbipaecnggcaaGreatDoorEvG2
set_option linter.unusedVariables false
set_option linter.unusedSimpArgs false
set_option linter.unusedSectionVars false
set_option maxRecDepth 1000000
namespace Go.Ev
open Go.Proofs Go.Shelf
theorem awake_call (w : World) (hgl : ∀ g vs, gl0 g = some vs → ∃ e fz, w.heap[g]? = some (.cells vs.toArray e fz)) :
   Calls Tryz.prog 12 #[] w fun e w' => e = .returned (.bool true) ∧ RowKit.Below w.heap.size w w' :=
 evCall_plain (O := O6) (n := 100000) (args := []) TF_ok O6_ok mixed TPl_ok (by kernel_rfl) w hgl

end Go.Ev
