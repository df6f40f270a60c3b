/- Part of an evaluator of calls that is proved sound, and of what it gives about this program. No condition of its own. -/
import Derived.Test.YtanaplokhjgfmaaGreatDoorEvFive
import Derived.Test.YtanaplokhjgfmaaGreatDoorEvSevenD
set_option linter.unusedVariables false
set_option linter.unusedSimpArgs false
set_option linter.unusedSectionVars false
set_option maxRecDepth 1000000
namespace Go.Ev
open Go.Proofs Go.Shelf
def valsEq : List Value → List Value → Bool
 | [], [] => true
 | a :: l, b :: m => valEq a b && valsEq l m
 | _, _ => false
theorem valsEq_eq : ∀ {l m : List Value}, valsEq l m = true → l = m
 | [], [], _ => rfl
 | a :: l, b :: m, h => by
   simp only [valsEq, Bool.and_eq_true] at h
   rw [valEq_eq h.1, valsEq_eq h.2]
 | [], _ :: _, h => by simp [valsEq] at h
 | _ :: _, [], h => by simp [valsEq] at h
noncomputable def gtest (t : Nat → Option (List Value)) : Bool := match t 3 with | some vs => valsEq vs powL | none => false
theorem gtest_ok : TestOk gtest gl0 := fun t h g vs hg => by
 unfold gl0 at hg
 cases e : Nat.beq g 3 with
 | false => rw [e] at hg; cases hg
 | true =>
   rw [e] at hg; cases hg
   have e := Nat.eq_of_beq_eq_true e
   subst e
   unfold gtest at h
   split at h
   · rename_i vs' hv; rw [hv, valsEq_eq h]
   · cases h
def L0 : List Ent := []
theorem L0_ok : AllOk Tryz.prog gl0 L0 := trivial
noncomputable def O0 : CallF := memoO gtest (mkTab L0)
theorem O0_ok : CallOk Tryz.prog O0 := memoO_ok gtest_ok L0_ok
end Go.Ev
