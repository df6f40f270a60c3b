/- Part of an evaluator of calls that is proved sound, and of what it gives about this program. No condition of its own. -/
import Derived.Test.YthmbdpdojjcgkaaGreatDoorEvSeven
set_option linter.unusedVariables false
set_option linter.unusedSimpArgs false
set_option linter.unusedSectionVars false
set_option maxRecDepth 1000000
namespace Go.Ev
open Go.Proofs
theorem pc3 : (match (generalizing := false) (some Tryz.f3 : Option Func) with | some fn => (match (generalizing := false) fn.body with | some c => plansC Tryz.prog TPl 3 c | none => true) | none => true) = true := by kernel_rfl
theorem pc7 : (match (generalizing := false) (some Tryz.f7 : Option Func) with | some fn => (match (generalizing := false) fn.body with | some c => plansC Tryz.prog TPl 7 c | none => true) | none => true) = true := by kernel_rfl
theorem pc11 : (match (generalizing := false) (some Tryz.f11 : Option Func) with | some fn => (match (generalizing := false) fn.body with | some c => plansC Tryz.prog TPl 11 c | none => true) | none => true) = true := by kernel_rfl
theorem pc15 : (match (generalizing := false) (some Tryz.f15 : Option Func) with | some fn => (match (generalizing := false) fn.body with | some c => plansC Tryz.prog TPl 15 c | none => true) | none => true) = true := by kernel_rfl
theorem pc19 : (match (generalizing := false) (some Tryz.f19 : Option Func) with | some fn => (match (generalizing := false) fn.body with | some c => plansC Tryz.prog TPl 19 c | none => true) | none => true) = true := by kernel_rfl
theorem pc23 : (match (generalizing := false) (some Tryz.f23 : Option Func) with | some fn => (match (generalizing := false) fn.body with | some c => plansC Tryz.prog TPl 23 c | none => true) | none => true) = true := by kernel_rfl
theorem pc27 : (match (generalizing := false) (some Tryz.f27 : Option Func) with | some fn => (match (generalizing := false) fn.body with | some c => plansC Tryz.prog TPl 27 c | none => true) | none => true) = true := by kernel_rfl
theorem pc31 : (match (generalizing := false) (some Tryz.f31 : Option Func) with | some fn => (match (generalizing := false) fn.body with | some c => plansC Tryz.prog TPl 31 c | none => true) | none => true) = true := by kernel_rfl
theorem pc35 : (match (generalizing := false) (some Tryz.f35 : Option Func) with | some fn => (match (generalizing := false) fn.body with | some c => plansC Tryz.prog TPl 35 c | none => true) | none => true) = true := by kernel_rfl
theorem pc39 : (match (generalizing := false) (some Tryz.f39 : Option Func) with | some fn => (match (generalizing := false) fn.body with | some c => plansC Tryz.prog TPl 39 c | none => true) | none => true) = true := by kernel_rfl
theorem pc43 : (match (generalizing := false) (some Tryz.f43 : Option Func) with | some fn => (match (generalizing := false) fn.body with | some c => plansC Tryz.prog TPl 43 c | none => true) | none => true) = true := by kernel_rfl
theorem pc47 : (match (generalizing := false) (some Tryz.f47 : Option Func) with | some fn => (match (generalizing := false) fn.body with | some c => plansC Tryz.prog TPl 47 c | none => true) | none => true) = true := by kernel_rfl
theorem pc51 : (match (generalizing := false) (some Tryz.f51 : Option Func) with | some fn => (match (generalizing := false) fn.body with | some c => plansC Tryz.prog TPl 51 c | none => true) | none => true) = true := by kernel_rfl
theorem pc55 : (match (generalizing := false) (some Tryz.f55 : Option Func) with | some fn => (match (generalizing := false) fn.body with | some c => plansC Tryz.prog TPl 55 c | none => true) | none => true) = true := by kernel_rfl
theorem pc59 : (match (generalizing := false) (some Tryz.f59 : Option Func) with | some fn => (match (generalizing := false) fn.body with | some c => plansC Tryz.prog TPl 59 c | none => true) | none => true) = true := by kernel_rfl
theorem pc63 : (match (generalizing := false) (some Tryz.f63 : Option Func) with | some fn => (match (generalizing := false) fn.body with | some c => plansC Tryz.prog TPl 63 c | none => true) | none => true) = true := by kernel_rfl
theorem pc67 : (match (generalizing := false) (some Tryz.f67 : Option Func) with | some fn => (match (generalizing := false) fn.body with | some c => plansC Tryz.prog TPl 67 c | none => true) | none => true) = true := by kernel_rfl
theorem pc71 : (match (generalizing := false) (some Tryz.f71 : Option Func) with | some fn => (match (generalizing := false) fn.body with | some c => plansC Tryz.prog TPl 71 c | none => true) | none => true) = true := by kernel_rfl
theorem pc75 : (match (generalizing := false) (some Tryz.f75 : Option Func) with | some fn => (match (generalizing := false) fn.body with | some c => plansC Tryz.prog TPl 75 c | none => true) | none => true) = true := by kernel_rfl
theorem pc79 : (match (generalizing := false) (some Tryz.f79 : Option Func) with | some fn => (match (generalizing := false) fn.body with | some c => plansC Tryz.prog TPl 79 c | none => true) | none => true) = true := by kernel_rfl
theorem pc83 : (match (generalizing := false) (some Tryz.f83 : Option Func) with | some fn => (match (generalizing := false) fn.body with | some c => plansC Tryz.prog TPl 83 c | none => true) | none => true) = true := by kernel_rfl
theorem pc87 : (match (generalizing := false) (some Tryz.f87 : Option Func) with | some fn => (match (generalizing := false) fn.body with | some c => plansC Tryz.prog TPl 87 c | none => true) | none => true) = true := by kernel_rfl
theorem pc91 : (match (generalizing := false) (some Tryz.f91 : Option Func) with | some fn => (match (generalizing := false) fn.body with | some c => plansC Tryz.prog TPl 91 c | none => true) | none => true) = true := by kernel_rfl
theorem pc95 : (match (generalizing := false) (some Tryz.f95 : Option Func) with | some fn => (match (generalizing := false) fn.body with | some c => plansC Tryz.prog TPl 95 c | none => true) | none => true) = true := by kernel_rfl
theorem pc99 : (match (generalizing := false) (some Tryz.f99 : Option Func) with | some fn => (match (generalizing := false) fn.body with | some c => plansC Tryz.prog TPl 99 c | none => true) | none => true) = true := by kernel_rfl
theorem pc103 : (match (generalizing := false) (some Tryz.f103 : Option Func) with | some fn => (match (generalizing := false) fn.body with | some c => plansC Tryz.prog TPl 103 c | none => true) | none => true) = true := by kernel_rfl
theorem pc107 : (match (generalizing := false) (some Tryz.f107 : Option Func) with | some fn => (match (generalizing := false) fn.body with | some c => plansC Tryz.prog TPl 107 c | none => true) | none => true) = true := by kernel_rfl
theorem pc111 : (match (generalizing := false) (some Tryz.f111 : Option Func) with | some fn => (match (generalizing := false) fn.body with | some c => plansC Tryz.prog TPl 111 c | none => true) | none => true) = true := by kernel_rfl
theorem pc116 : (match (generalizing := false) (some Tryz.f116 : Option Func) with | some fn => (match (generalizing := false) fn.body with | some c => plansC Tryz.prog TPl 116 c | none => true) | none => true) = true := by kernel_rfl
theorem pc121 : (match (generalizing := false) (some Tryz.f121 : Option Func) with | some fn => (match (generalizing := false) fn.body with | some c => plansC Tryz.prog TPl 121 c | none => true) | none => true) = true := by kernel_rfl
theorem pc125 : (match (generalizing := false) (some Tryz.f125 : Option Func) with | some fn => (match (generalizing := false) fn.body with | some c => plansC Tryz.prog TPl 125 c | none => true) | none => true) = true := by kernel_rfl
theorem pc129 : (match (generalizing := false) (some Tryz.f129 : Option Func) with | some fn => (match (generalizing := false) fn.body with | some c => plansC Tryz.prog TPl 129 c | none => true) | none => true) = true := by kernel_rfl
theorem pc133 : (match (generalizing := false) (some Tryz.f133 : Option Func) with | some fn => (match (generalizing := false) fn.body with | some c => plansC Tryz.prog TPl 133 c | none => true) | none => true) = true := by kernel_rfl
theorem pc137 : (match (generalizing := false) (some Tryz.f137 : Option Func) with | some fn => (match (generalizing := false) fn.body with | some c => plansC Tryz.prog TPl 137 c | none => true) | none => true) = true := by kernel_rfl
theorem pc141 : (match (generalizing := false) (some Tryz.f141 : Option Func) with | some fn => (match (generalizing := false) fn.body with | some c => plansC Tryz.prog TPl 141 c | none => true) | none => true) = true := by kernel_rfl
theorem pc172 : (match (generalizing := false) (some Tryz.f172 : Option Func) with | some fn => (match (generalizing := false) fn.body with | some c => plansC Tryz.prog TPl 172 c | none => true) | none => true) = true := by kernel_rfl
end Go.Ev
