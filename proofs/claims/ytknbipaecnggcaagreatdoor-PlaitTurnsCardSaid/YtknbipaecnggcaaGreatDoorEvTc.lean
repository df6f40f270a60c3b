/- Part of an evaluator of calls that is proved sound, and of what it gives about this program. No condition of its own. -/
import Derived.Test.YtknbipaecnggcaaGreatDoorEvHa
import Derived.Test.YtknbipaecnggcaaGreatDoorEvTa
set_option linter.unusedVariables false
set_option linter.unusedSimpArgs false
set_option linter.unusedSectionVars false
set_option maxRecDepth 100000
set_option maxHeartbeats 4000000
namespace Go.Ev
open Go.Proofs
instance : PrS 137 := ⟨by kernel_rfl, by kernel_rfl, by kernel_rfl⟩
instance : PrS 24 := ⟨by kernel_rfl, by kernel_rfl, by kernel_rfl⟩
instance : PrS 31 := ⟨by kernel_rfl, by kernel_rfl, by kernel_rfl⟩
variable {O : CallF} (hq : Quiet O)
include hq
end Go.Ev
