/- Part of an evaluator of calls that is proved sound, and of what it gives about this program. No condition of its own. -/
import Derived.Test.YtjkgjemcmmgefaaGreatDoorEvFive
import Derived.Test.YtjkgjemcmmgefaaGreatDoorEvSevenD
import Derived.Test.YtjkgjemcmmgefaaGreatDoorEvLays
set_option linter.unusedVariables false
set_option linter.unusedSimpArgs false
set_option linter.unusedSectionVars false
set_option maxRecDepth 1000000
namespace Go.Ev
open Go.Proofs Go.Shelf
theorem extra105 : Builder.Extra Tryz.prog Tryz.lays105_ren := {
  sizeBuilder := by kernel_rfl
  liesBuilder := by kernel_rfl
  t5 := Tryz.lays105.t5
  a5 := Tryz.lays105.a5
  z5 := Tryz.lays105.z5
  v5 := Tryz.lays105.v5
  infoByte := by kernel_rfl
  cellsByte := by kernel_rfl
  sizeByte := by kernel_rfl
  neB5 := by decide }
def valsEq : List Value → List Value → Bool
  | [], [] => true
  | a :: l, b :: m => valEq a b && valsEq l m
  | _, _ => false
theorem valsEq_eq : ∀ {l m : List Value}, valsEq l m = true → l = m
  | [], [], _ => rfl
  | a :: l, b :: m, h => by
    simp only [valsEq, Bool.and_eq_true] at h
    rw [valEq_eq h.1, valsEq_eq h.2]
  | [], _ :: _, h => by simp [valsEq] at h
  | _ :: _, [], h => by simp [valsEq] at h
noncomputable def gtest (t : Nat → Option (List Value)) : Bool := match t 3 with | some vs => valsEq vs powL | none => false
theorem gtest_ok : TestOk gtest gl0 := fun t h g vs hg => by
  unfold gl0 at hg
  cases e : Nat.beq g 3 with
  | false => rw [e] at hg; cases hg
  | true =>
    rw [e] at hg; cases hg
    have e := Nat.eq_of_beq_eq_true e
    subst e
    unfold gtest at h
    split at h
    · rename_i vs' hv; rw [hv, valsEq_eq h]
    · cases h
def e102 : Memo := ⟨135, 0, [(.v (.string ⟨#[48]⟩)), (.v (.int .i64 3))], [], [], (.v (.string ⟨#[48, 48, 48]⟩)), 0, []⟩
theorem e102_ok : e102.Ok Tryz.prog noGl :=
  memo_plain (args := [.string ⟨#[48]⟩, .int .i64 3]) (y := (.string ⟨#[48, 48, 48]⟩)) (by kernel_rfl) fun w => Any.strings_Repeat Tryz.lays105 extra105 ⟨#[48]⟩ 3 w (by decide) (by decide)
def e116 : Memo := ⟨135, 0, [(.v (.string ⟨#[48]⟩)), (.v (.int .i64 2))], [], [], (.v (.string ⟨#[48, 48]⟩)), 0, []⟩
theorem e116_ok : e116.Ok Tryz.prog noGl :=
  memo_plain (args := [.string ⟨#[48]⟩, .int .i64 2]) (y := (.string ⟨#[48, 48]⟩)) (by kernel_rfl) fun w => Any.strings_Repeat Tryz.lays105 extra105 ⟨#[48]⟩ 2 w (by decide) (by decide)
def L0 : List Ent := [(false, e102), (false, e116)]
theorem L0_ok : AllOk Tryz.prog gl0 L0 := .cons e102_ok (.cons e116_ok (trivial))
noncomputable def O0 : CallF := orO (insO 65 3) (memoO gtest (mkTab L0))
theorem O0_ok : CallOk Tryz.prog O0 := orO_ok (insO_ok Tryz.lays21) (memoO_ok gtest_ok L0_ok)
end Go.Ev
