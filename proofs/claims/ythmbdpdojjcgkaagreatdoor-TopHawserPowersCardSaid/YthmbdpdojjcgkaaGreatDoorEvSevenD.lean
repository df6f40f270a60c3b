/- Part of an evaluator of calls that is proved sound, and of what it gives about this program. No condition of its own. -/
import Derived.Test.YthmbdpdojjcgkaaGreatDoorEvSeven
set_option linter.unusedVariables false
set_option linter.unusedSimpArgs false
set_option linter.unusedSectionVars false
set_option maxRecDepth 1000000
namespace Go.Ev
open Go.Proofs
theorem pc5 : (match (generalizing := false) (some Tryz.f5 : Option Func) with | some fn => (match (generalizing := false) fn.body with | some c => plansC Tryz.prog TPl 5 c | none => true) | none => true) = true := by kernel_rfl
theorem pc9 : (match (generalizing := false) (some Tryz.f9 : Option Func) with | some fn => (match (generalizing := false) fn.body with | some c => plansC Tryz.prog TPl 9 c | none => true) | none => true) = true := by kernel_rfl
theorem pc13 : (match (generalizing := false) (some Tryz.f13 : Option Func) with | some fn => (match (generalizing := false) fn.body with | some c => plansC Tryz.prog TPl 13 c | none => true) | none => true) = true := by kernel_rfl
theorem pc17 : (match (generalizing := false) (some Tryz.f17 : Option Func) with | some fn => (match (generalizing := false) fn.body with | some c => plansC Tryz.prog TPl 17 c | none => true) | none => true) = true := by kernel_rfl
theorem pc21 : (match (generalizing := false) (some Tryz.f21 : Option Func) with | some fn => (match (generalizing := false) fn.body with | some c => plansC Tryz.prog TPl 21 c | none => true) | none => true) = true := by kernel_rfl
theorem pc25 : (match (generalizing := false) (some Tryz.f25 : Option Func) with | some fn => (match (generalizing := false) fn.body with | some c => plansC Tryz.prog TPl 25 c | none => true) | none => true) = true := by kernel_rfl
theorem pc29 : (match (generalizing := false) (some Tryz.f29 : Option Func) with | some fn => (match (generalizing := false) fn.body with | some c => plansC Tryz.prog TPl 29 c | none => true) | none => true) = true := by kernel_rfl
theorem pc33 : (match (generalizing := false) (some Tryz.f33 : Option Func) with | some fn => (match (generalizing := false) fn.body with | some c => plansC Tryz.prog TPl 33 c | none => true) | none => true) = true := by kernel_rfl
theorem pc37 : (match (generalizing := false) (some Tryz.f37 : Option Func) with | some fn => (match (generalizing := false) fn.body with | some c => plansC Tryz.prog TPl 37 c | none => true) | none => true) = true := by kernel_rfl
theorem pc41 : (match (generalizing := false) (some Tryz.f41 : Option Func) with | some fn => (match (generalizing := false) fn.body with | some c => plansC Tryz.prog TPl 41 c | none => true) | none => true) = true := by kernel_rfl
theorem pc45 : (match (generalizing := false) (some Tryz.f45 : Option Func) with | some fn => (match (generalizing := false) fn.body with | some c => plansC Tryz.prog TPl 45 c | none => true) | none => true) = true := by kernel_rfl
theorem pc49 : (match (generalizing := false) (some Tryz.f49 : Option Func) with | some fn => (match (generalizing := false) fn.body with | some c => plansC Tryz.prog TPl 49 c | none => true) | none => true) = true := by kernel_rfl
theorem pc53 : (match (generalizing := false) (some Tryz.f53 : Option Func) with | some fn => (match (generalizing := false) fn.body with | some c => plansC Tryz.prog TPl 53 c | none => true) | none => true) = true := by kernel_rfl
theorem pc57 : (match (generalizing := false) (some Tryz.f57 : Option Func) with | some fn => (match (generalizing := false) fn.body with | some c => plansC Tryz.prog TPl 57 c | none => true) | none => true) = true := by kernel_rfl
theorem pc61 : (match (generalizing := false) (some Tryz.f61 : Option Func) with | some fn => (match (generalizing := false) fn.body with | some c => plansC Tryz.prog TPl 61 c | none => true) | none => true) = true := by kernel_rfl
theorem pc65 : (match (generalizing := false) (some Tryz.f65 : Option Func) with | some fn => (match (generalizing := false) fn.body with | some c => plansC Tryz.prog TPl 65 c | none => true) | none => true) = true := by kernel_rfl
theorem pc69 : (match (generalizing := false) (some Tryz.f69 : Option Func) with | some fn => (match (generalizing := false) fn.body with | some c => plansC Tryz.prog TPl 69 c | none => true) | none => true) = true := by kernel_rfl
theorem pc73 : (match (generalizing := false) (some Tryz.f73 : Option Func) with | some fn => (match (generalizing := false) fn.body with | some c => plansC Tryz.prog TPl 73 c | none => true) | none => true) = true := by kernel_rfl
theorem pc77 : (match (generalizing := false) (some Tryz.f77 : Option Func) with | some fn => (match (generalizing := false) fn.body with | some c => plansC Tryz.prog TPl 77 c | none => true) | none => true) = true := by kernel_rfl
theorem pc81 : (match (generalizing := false) (some Tryz.f81 : Option Func) with | some fn => (match (generalizing := false) fn.body with | some c => plansC Tryz.prog TPl 81 c | none => true) | none => true) = true := by kernel_rfl
theorem pc85 : (match (generalizing := false) (some Tryz.f85 : Option Func) with | some fn => (match (generalizing := false) fn.body with | some c => plansC Tryz.prog TPl 85 c | none => true) | none => true) = true := by kernel_rfl
theorem pc89 : (match (generalizing := false) (some Tryz.f89 : Option Func) with | some fn => (match (generalizing := false) fn.body with | some c => plansC Tryz.prog TPl 89 c | none => true) | none => true) = true := by kernel_rfl
theorem pc93 : (match (generalizing := false) (some Tryz.f93 : Option Func) with | some fn => (match (generalizing := false) fn.body with | some c => plansC Tryz.prog TPl 93 c | none => true) | none => true) = true := by kernel_rfl
theorem pc97 : (match (generalizing := false) (some Tryz.f97 : Option Func) with | some fn => (match (generalizing := false) fn.body with | some c => plansC Tryz.prog TPl 97 c | none => true) | none => true) = true := by kernel_rfl
theorem pc101 : (match (generalizing := false) (some Tryz.f101 : Option Func) with | some fn => (match (generalizing := false) fn.body with | some c => plansC Tryz.prog TPl 101 c | none => true) | none => true) = true := by kernel_rfl
theorem pc105 : (match (generalizing := false) (some Tryz.f105 : Option Func) with | some fn => (match (generalizing := false) fn.body with | some c => plansC Tryz.prog TPl 105 c | none => true) | none => true) = true := by kernel_rfl
theorem pc109 : (match (generalizing := false) (some Tryz.f109 : Option Func) with | some fn => (match (generalizing := false) fn.body with | some c => plansC Tryz.prog TPl 109 c | none => true) | none => true) = true := by kernel_rfl
theorem pc114 : (match (generalizing := false) (some Tryz.f114 : Option Func) with | some fn => (match (generalizing := false) fn.body with | some c => plansC Tryz.prog TPl 114 c | none => true) | none => true) = true := by kernel_rfl
theorem pc118 : (match (generalizing := false) (some Tryz.f118 : Option Func) with | some fn => (match (generalizing := false) fn.body with | some c => plansC Tryz.prog TPl 118 c | none => true) | none => true) = true := by kernel_rfl
theorem pc123 : (match (generalizing := false) (some Tryz.f123 : Option Func) with | some fn => (match (generalizing := false) fn.body with | some c => plansC Tryz.prog TPl 123 c | none => true) | none => true) = true := by kernel_rfl
theorem pc127 : (match (generalizing := false) (some Tryz.f127 : Option Func) with | some fn => (match (generalizing := false) fn.body with | some c => plansC Tryz.prog TPl 127 c | none => true) | none => true) = true := by kernel_rfl
theorem pc131 : (match (generalizing := false) (some Tryz.f131 : Option Func) with | some fn => (match (generalizing := false) fn.body with | some c => plansC Tryz.prog TPl 131 c | none => true) | none => true) = true := by kernel_rfl
theorem pc135 : (match (generalizing := false) (some Tryz.f135 : Option Func) with | some fn => (match (generalizing := false) fn.body with | some c => plansC Tryz.prog TPl 135 c | none => true) | none => true) = true := by kernel_rfl
theorem pc139 : (match (generalizing := false) (some Tryz.f139 : Option Func) with | some fn => (match (generalizing := false) fn.body with | some c => plansC Tryz.prog TPl 139 c | none => true) | none => true) = true := by kernel_rfl
theorem pc145 : (match (generalizing := false) (some Tryz.f145 : Option Func) with | some fn => (match (generalizing := false) fn.body with | some c => plansC Tryz.prog TPl 145 c | none => true) | none => true) = true := by kernel_rfl
end Go.Ev
