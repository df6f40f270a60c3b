/- Part of an evaluator of calls that is proved sound, and of what it gives about this program. No condition of its own. -/
import Derived.Test.YtcbmpnddhnkfnaaGreatDoorEvFive
import Derived.Test.YtcbmpnddhnkfnaaGreatDoorEvSevenE
import Derived.Shelf.Strings.BuilderX
import Derived.Test.YtcbmpnddhnkfnaaGreatDoorEvLays
set_option linter.unusedVariables false
set_option linter.unusedSimpArgs false
set_option linter.unusedSectionVars false
set_option maxRecDepth 1000000
namespace Go.Ev
open Go.Proofs Go.Shelf
theorem extra156 : Builder.Extra Tryz.prog Tryz.lays156_ren := {
 sizeBuilder := by kernel_rfl
 liesBuilder := by kernel_rfl
 t5 := by kernel_rfl
 a5 := fun w => runPure_run (show runPure Tryz.prog (isAgg (Tryz.lays156_ren.t 5)) = some false by kernel_rfl) w
 z5 := fun w => runPure_run (show runPure Tryz.prog (Go.sizeOf (Tryz.lays156_ren.t 5)) = some 1 by kernel_rfl) w
 v5 := fun w => runPure_run (show runPure Tryz.prog (zeroValue (Tryz.lays156_ren.t 5)) = some (.int .u8 0) by kernel_rfl) w
 infoByte := by kernel_rfl
 cellsByte := by kernel_rfl
 sizeByte := by kernel_rfl
 neB5 := by decide }
def valsEq : List Value → List Value → Bool
 | [], [] => true
 | a :: l, b :: m => valEq a b && valsEq l m
 | _, _ => false
theorem valsEq_eq : ∀ {l m : List Value}, valsEq l m = true → l = m
 | [], [], _ => rfl
 | a :: l, b :: m, h => by
   simp only [valsEq, Bool.and_eq_true] at h
   rw [valEq_eq h.1, valsEq_eq h.2]
 | [], _ :: _, h => by simp [valsEq] at h
 | _ :: _, [], h => by simp [valsEq] at h
noncomputable def gtest (t : Nat → Option (List Value)) : Bool := match t 0 with | some vs => (match valsEq vs powL with | true => (match t 1 with | some [.int .i64 _] => true | _ => false) | false => false) | none => false
theorem gtest_ok : ∀ t, gtest t = true → ∃ m, ∀ g vs, gl0 m g = some vs → t g = some vs := fun t h => by
 unfold gtest at h
 split at h
 · rename_i ws hw
   split at h
   · rename_i hv
     split at h
     · rename_i m hm
       refine ⟨m, fun g vs hg => ?_⟩
       unfold gl0 at hg
       cases e : Nat.beq g 0 with
       | true =>
         rw [e] at hg; cases hg
         have e := Nat.eq_of_beq_eq_true e
         subst e
         rw [hw, valsEq_eq hv]
       | false =>
         rw [e] at hg
         simp only at hg
         cases e2 : Nat.beq g 1 with
         | true =>
           rw [e2] at hg; cases hg
           have e2 := Nat.eq_of_beq_eq_true e2
           subst e2
           exact hm
         | false => rw [e2] at hg; cases hg
     · cases h
   · cases h
 · cases h
def L0 : List Ent := []
theorem L0_ok (m : Int) : AllOk Tryz.prog (gl0 m) L0 := trivial
theorem i9 : (Tryz.prog.info? (Tryz.lays146_ren.t 9)).map (fun i => (i.zero, i.size, i.bytes)) = some (some (.string ByteArray.empty), 1, 16) := by kernel_rfl
noncomputable def O0 : CallF := orO (joinO 107) (orO (splitO 110 1 9) (memoO gtest (mkTab L0)))
theorem O0_ok : CallOk Tryz.prog O0 := orO_ok (joinO_ok Tryz.lays156 extra156) (orO_ok (splitO_ok Tryz.lays146 i9) (memoO_okM gtest_ok L0_ok))
end Go.Ev
