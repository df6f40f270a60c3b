/- Part of an evaluator of calls that is proved sound, and of what it gives about this program. No condition of its own. -/
import Derived.Test.YtcbmpnddhnkfnaaGreatDoorEwHu
set_option linter.unusedVariables false
set_option linter.unusedSimpArgs false
set_option linter.unusedSectionVars false
set_option maxRecDepth 100000
set_option maxHeartbeats 4000000
set_option maxRecDepth 1000000
set_option maxHeartbeats 8000000
namespace Go.Ev
open Go.Proofs
def thr (p l : List Int) : List Int := l.map fun z => p.getD z.toNat 0
def pw (p : List Int) : Nat → List Int
 | 0 => p
 | k + 1 => thr (pw p k) (pw p k)
def p240 (p : List Int) : List Int := thr (pw p 7) (thr (pw p 6) (thr (pw p 5) (pw p 4)))
end Go.Ev
