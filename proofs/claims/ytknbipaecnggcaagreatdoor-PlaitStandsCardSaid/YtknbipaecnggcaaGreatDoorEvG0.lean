/- Part of an evaluator of calls that is proved sound, and of what it gives about this program. No condition of its own. -/
import Derived.Test.YtknbipaecnggcaaGreatDoorEvFiveB
import Derived.Test.YtknbipaecnggcaaGreatDoorEvSevenE
import Derived.Shelf.Strings.BuilderX
import Derived.Test.YtknbipaecnggcaaGreatDoorEvLays
set_option linter.unusedVariables false
set_option linter.unusedSimpArgs false
set_option linter.unusedSectionVars false
set_option maxRecDepth 1000000
namespace Go.Ev
open Go.Proofs Go.Shelf
theorem extra156 : Builder.Extra Tryz.prog Tryz.lays156_ren := {
 sizeBuilder := by kernel_rfl
 liesBuilder := by kernel_rfl
 t5 := by kernel_rfl
 a5 := fun w => runPure_run (show runPure Tryz.prog (isAgg (Tryz.lays156_ren.t 5)) = some false by kernel_rfl) w
 z5 := fun w => runPure_run (show runPure Tryz.prog (Go.sizeOf (Tryz.lays156_ren.t 5)) = some 1 by kernel_rfl) w
 v5 := fun w => runPure_run (show runPure Tryz.prog (zeroValue (Tryz.lays156_ren.t 5)) = some (.int .u8 0) by kernel_rfl) w
 infoByte := by kernel_rfl
 cellsByte := by kernel_rfl
 sizeByte := by kernel_rfl
 neB5 := by decide }
theorem extra105 : Builder.Extra Tryz.prog Tryz.lays105_ren := {
 sizeBuilder := by kernel_rfl
 liesBuilder := by kernel_rfl
 t5 := by kernel_rfl
 a5 := fun w => runPure_run (show runPure Tryz.prog (isAgg (Tryz.lays105_ren.t 5)) = some false by kernel_rfl) w
 z5 := fun w => runPure_run (show runPure Tryz.prog (Go.sizeOf (Tryz.lays105_ren.t 5)) = some 1 by kernel_rfl) w
 v5 := fun w => runPure_run (show runPure Tryz.prog (zeroValue (Tryz.lays105_ren.t 5)) = some (.int .u8 0) by kernel_rfl) w
 infoByte := by kernel_rfl
 cellsByte := by kernel_rfl
 sizeByte := by kernel_rfl
 neB5 := by decide }
theorem extra169 : Builder.Extra Tryz.prog Tryz.lays169_ren := {
 sizeBuilder := by kernel_rfl
 liesBuilder := by kernel_rfl
 t5 := by kernel_rfl
 a5 := fun w => runPure_run (show runPure Tryz.prog (isAgg (Tryz.lays169_ren.t 5)) = some false by kernel_rfl) w
 z5 := fun w => runPure_run (show runPure Tryz.prog (Go.sizeOf (Tryz.lays169_ren.t 5)) = some 1 by kernel_rfl) w
 v5 := fun w => runPure_run (show runPure Tryz.prog (zeroValue (Tryz.lays169_ren.t 5)) = some (.int .u8 0) by kernel_rfl) w
 infoByte := by kernel_rfl
 cellsByte := by kernel_rfl
 sizeByte := by kernel_rfl
 neB5 := by decide }
theorem growI : ∃ i0, Tryz.prog.info? (Tryz.laysG_ren.t 25) = some i0 ∧ i0.zero = some (.int .i64 0) ∧ i0.size = 1 ∧ i0.bytes ≤ 8 := by
 cases h : Tryz.prog.info? (Tryz.laysG_ren.t 25) with
 | none =>
   have : (Tryz.prog.info? (Tryz.laysG_ren.t 25)).isSome = true := by kernel_rfl
   rw [h] at this; cases this
 | some i0 =>
   have : (Tryz.prog.info? (Tryz.laysG_ren.t 25)).map (fun i => (i.zero, i.size, i.bytes)) = some (some (.int .i64 0), 1, 8) := by kernel_rfl
   rw [h] at this
   simp only [Option.map_some, Option.some.injEq, Prod.mk.injEq] at this
   exact ⟨i0, rfl, this.1, this.2.1, by omega⟩
noncomputable def libO : CallF := orO (joinO 125) (orO (repO 116) (orO (delO 128) (orO (insR 129) (orO (growO 170 3) (orO (ccO 177 192) (bsO 157 192 5))))))
theorem libO_ok : CallOk Tryz.prog libO := orO_ok (joinO_ok Tryz.lays156 extra156) (orO_ok (repO_ok Tryz.lays105 extra105) (orO_ok (delO_ok Tryz.laysD) (orO_ok (insR_ok Tryz.laysI) (orO_ok (by obtain ⟨i0, h1, h2, h3, h4⟩ := growI; exact growO_ok Tryz.laysG i0 h1 h2 h3 h4) (orO_ok (ccO_ok (ρn := Tryz.lays156_ren) { Tryz.lays156 with } extra156.toX72) (bsO_ok Tryz.lays169 extra169))))))
noncomputable def gtest : (Nat → Option (List Value)) → Bool := fun _ => true
theorem gtest_ok : TestOk gtest gl0 := fun t h g vs hg => by cases hg
def L0 : List Ent := []
theorem L0_ok : AllOk Tryz.prog gl0 L0 := trivial
noncomputable def O0 : CallF := orO libO (memoO gtest (mkTab L0))
theorem O0_ok : CallOk Tryz.prog O0 := orO_ok libO_ok (memoO_ok gtest_ok L0_ok)
end Go.Ev
