/- Part of an evaluator of calls that is proved sound, and of what it gives about this program. No condition of its own. -/
import Derived.Test.YthdgnapkfbjjeaaGreatDoorEyUb
import Derived.Test.YthdgnapkfbjjeaaGreatDoorEySb
set_option linter.unusedVariables false
set_option linter.unusedSimpArgs false
set_option linter.unusedSectionVars false
set_option maxRecDepth 100000
set_option maxHeartbeats 4000000
namespace Go.Ev
open Go.Proofs
theorem Gr.ky {H : AH} {s : AV} {l : List Int} (h : Gr H 3 s (ivs l)) : Ky H s l := by
 refine ⟨h.sl, h.old, ?_, fun b hb => ?_⟩
 · rcases h with ⟨rfl, _⟩ | ⟨b, _, _, rfl, _⟩
   · exact Nat.le_refl _
   · trivial
 · rcases h with ⟨rfl, _⟩ | ⟨b', h1, _, rfl, h2⟩
   · cases hb
   · cases hb
     exact ⟨h1, by rw [h2]; simp [sameBlk, beqs_ivs]⟩
variable {O : CallF} (hq : Quiet O)
include hq
end Go.Ev
