/- Part of an evaluator of calls that is proved sound, and of what it gives about this program. No condition of its own. -/
import Derived.Test.YthdgnapkfbjjeaaGreatDoorEySa
set_option linter.unusedVariables false
set_option linter.unusedSimpArgs false
set_option linter.unusedSectionVars false
set_option maxRecDepth 100000
set_option maxHeartbeats 4000000
namespace Go.Ev
open Go.Proofs
theorem shB_nat {m : Mc} {n p : Nat} (hg : m.g = n) : shB m (p : Int) = true ↔ fsE m ≤ p ∧ p < n := by
 have e : shB m (p : Int) = decide ((if m.ring = true then (0 : Int) else 1) ≤ (p : Int) ∧ (p : Int) ≤ m.g - 1) := rfl
 unfold fsE
 rw [e, decide_eq_true_eq, hg]
 cases m.ring with
 | true => rw [if_pos rfl, if_pos rfl]; omega
 | false => rw [if_neg (by simp), if_neg (by simp)]; omega
section
variable {m : Mc} {n p : Nat}
end
variable {O : CallF} (hq : Quiet O)
include hq
end Go.Ev
