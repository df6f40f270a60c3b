/- Part of an evaluator of calls that is proved sound, and of what it gives about this program. No condition of its own. -/
import Derived.Test.YthmbdpdojjcgkaaGreatDoorEvSeven
set_option linter.unusedVariables false
set_option linter.unusedSimpArgs false
set_option linter.unusedSectionVars false
set_option maxRecDepth 1000000
namespace Go.Ev
open Go.Proofs
theorem pc2 : (match (generalizing := false) (some Tryz.f2 : Option Func) with | some fn => (match (generalizing := false) fn.body with | some c => plansC Tryz.prog TPl 2 c | none => true) | none => true) = true := by kernel_rfl
theorem pc6 : (match (generalizing := false) (some Tryz.f6 : Option Func) with | some fn => (match (generalizing := false) fn.body with | some c => plansC Tryz.prog TPl 6 c | none => true) | none => true) = true := by kernel_rfl
theorem pc10 : (match (generalizing := false) (some Tryz.f10 : Option Func) with | some fn => (match (generalizing := false) fn.body with | some c => plansC Tryz.prog TPl 10 c | none => true) | none => true) = true := by kernel_rfl
theorem pc14 : (match (generalizing := false) (some Tryz.f14 : Option Func) with | some fn => (match (generalizing := false) fn.body with | some c => plansC Tryz.prog TPl 14 c | none => true) | none => true) = true := by kernel_rfl
theorem pc18 : (match (generalizing := false) (some Tryz.f18 : Option Func) with | some fn => (match (generalizing := false) fn.body with | some c => plansC Tryz.prog TPl 18 c | none => true) | none => true) = true := by kernel_rfl
theorem pc22 : (match (generalizing := false) (some Tryz.f22 : Option Func) with | some fn => (match (generalizing := false) fn.body with | some c => plansC Tryz.prog TPl 22 c | none => true) | none => true) = true := by kernel_rfl
theorem pc26 : (match (generalizing := false) (some Tryz.f26 : Option Func) with | some fn => (match (generalizing := false) fn.body with | some c => plansC Tryz.prog TPl 26 c | none => true) | none => true) = true := by kernel_rfl
theorem pc30 : (match (generalizing := false) (some Tryz.f30 : Option Func) with | some fn => (match (generalizing := false) fn.body with | some c => plansC Tryz.prog TPl 30 c | none => true) | none => true) = true := by kernel_rfl
theorem pc34 : (match (generalizing := false) (some Tryz.f34 : Option Func) with | some fn => (match (generalizing := false) fn.body with | some c => plansC Tryz.prog TPl 34 c | none => true) | none => true) = true := by kernel_rfl
theorem pc38 : (match (generalizing := false) (some Tryz.f38 : Option Func) with | some fn => (match (generalizing := false) fn.body with | some c => plansC Tryz.prog TPl 38 c | none => true) | none => true) = true := by kernel_rfl
theorem pc42 : (match (generalizing := false) (some Tryz.f42 : Option Func) with | some fn => (match (generalizing := false) fn.body with | some c => plansC Tryz.prog TPl 42 c | none => true) | none => true) = true := by kernel_rfl
theorem pc46 : (match (generalizing := false) (some Tryz.f46 : Option Func) with | some fn => (match (generalizing := false) fn.body with | some c => plansC Tryz.prog TPl 46 c | none => true) | none => true) = true := by kernel_rfl
theorem pc50 : (match (generalizing := false) (some Tryz.f50 : Option Func) with | some fn => (match (generalizing := false) fn.body with | some c => plansC Tryz.prog TPl 50 c | none => true) | none => true) = true := by kernel_rfl
theorem pc54 : (match (generalizing := false) (some Tryz.f54 : Option Func) with | some fn => (match (generalizing := false) fn.body with | some c => plansC Tryz.prog TPl 54 c | none => true) | none => true) = true := by kernel_rfl
theorem pc58 : (match (generalizing := false) (some Tryz.f58 : Option Func) with | some fn => (match (generalizing := false) fn.body with | some c => plansC Tryz.prog TPl 58 c | none => true) | none => true) = true := by kernel_rfl
theorem pc62 : (match (generalizing := false) (some Tryz.f62 : Option Func) with | some fn => (match (generalizing := false) fn.body with | some c => plansC Tryz.prog TPl 62 c | none => true) | none => true) = true := by kernel_rfl
theorem pc66 : (match (generalizing := false) (some Tryz.f66 : Option Func) with | some fn => (match (generalizing := false) fn.body with | some c => plansC Tryz.prog TPl 66 c | none => true) | none => true) = true := by kernel_rfl
theorem pc70 : (match (generalizing := false) (some Tryz.f70 : Option Func) with | some fn => (match (generalizing := false) fn.body with | some c => plansC Tryz.prog TPl 70 c | none => true) | none => true) = true := by kernel_rfl
theorem pc74 : (match (generalizing := false) (some Tryz.f74 : Option Func) with | some fn => (match (generalizing := false) fn.body with | some c => plansC Tryz.prog TPl 74 c | none => true) | none => true) = true := by kernel_rfl
theorem pc78 : (match (generalizing := false) (some Tryz.f78 : Option Func) with | some fn => (match (generalizing := false) fn.body with | some c => plansC Tryz.prog TPl 78 c | none => true) | none => true) = true := by kernel_rfl
theorem pc82 : (match (generalizing := false) (some Tryz.f82 : Option Func) with | some fn => (match (generalizing := false) fn.body with | some c => plansC Tryz.prog TPl 82 c | none => true) | none => true) = true := by kernel_rfl
theorem pc86 : (match (generalizing := false) (some Tryz.f86 : Option Func) with | some fn => (match (generalizing := false) fn.body with | some c => plansC Tryz.prog TPl 86 c | none => true) | none => true) = true := by kernel_rfl
theorem pc90 : (match (generalizing := false) (some Tryz.f90 : Option Func) with | some fn => (match (generalizing := false) fn.body with | some c => plansC Tryz.prog TPl 90 c | none => true) | none => true) = true := by kernel_rfl
theorem pc94 : (match (generalizing := false) (some Tryz.f94 : Option Func) with | some fn => (match (generalizing := false) fn.body with | some c => plansC Tryz.prog TPl 94 c | none => true) | none => true) = true := by kernel_rfl
theorem pc98 : (match (generalizing := false) (some Tryz.f98 : Option Func) with | some fn => (match (generalizing := false) fn.body with | some c => plansC Tryz.prog TPl 98 c | none => true) | none => true) = true := by kernel_rfl
theorem pc102 : (match (generalizing := false) (some Tryz.f102 : Option Func) with | some fn => (match (generalizing := false) fn.body with | some c => plansC Tryz.prog TPl 102 c | none => true) | none => true) = true := by kernel_rfl
theorem pc106 : (match (generalizing := false) (some Tryz.f106 : Option Func) with | some fn => (match (generalizing := false) fn.body with | some c => plansC Tryz.prog TPl 106 c | none => true) | none => true) = true := by kernel_rfl
theorem pc110 : (match (generalizing := false) (some Tryz.f110 : Option Func) with | some fn => (match (generalizing := false) fn.body with | some c => plansC Tryz.prog TPl 110 c | none => true) | none => true) = true := by kernel_rfl
theorem pc115 : (match (generalizing := false) (some Tryz.f115 : Option Func) with | some fn => (match (generalizing := false) fn.body with | some c => plansC Tryz.prog TPl 115 c | none => true) | none => true) = true := by kernel_rfl
theorem pc120 : (match (generalizing := false) (some Tryz.f120 : Option Func) with | some fn => (match (generalizing := false) fn.body with | some c => plansC Tryz.prog TPl 120 c | none => true) | none => true) = true := by kernel_rfl
theorem pc124 : (match (generalizing := false) (some Tryz.f124 : Option Func) with | some fn => (match (generalizing := false) fn.body with | some c => plansC Tryz.prog TPl 124 c | none => true) | none => true) = true := by kernel_rfl
theorem pc128 : (match (generalizing := false) (some Tryz.f128 : Option Func) with | some fn => (match (generalizing := false) fn.body with | some c => plansC Tryz.prog TPl 128 c | none => true) | none => true) = true := by kernel_rfl
theorem pc132 : (match (generalizing := false) (some Tryz.f132 : Option Func) with | some fn => (match (generalizing := false) fn.body with | some c => plansC Tryz.prog TPl 132 c | none => true) | none => true) = true := by kernel_rfl
theorem pc136 : (match (generalizing := false) (some Tryz.f136 : Option Func) with | some fn => (match (generalizing := false) fn.body with | some c => plansC Tryz.prog TPl 136 c | none => true) | none => true) = true := by kernel_rfl
theorem pc140 : (match (generalizing := false) (some Tryz.f140 : Option Func) with | some fn => (match (generalizing := false) fn.body with | some c => plansC Tryz.prog TPl 140 c | none => true) | none => true) = true := by kernel_rfl
theorem pc146 : (match (generalizing := false) (some Tryz.f146 : Option Func) with | some fn => (match (generalizing := false) fn.body with | some c => plansC Tryz.prog TPl 146 c | none => true) | none => true) = true := by kernel_rfl
end Go.Ev
