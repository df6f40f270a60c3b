/- Part of an evaluator of calls that is proved sound, and of what it gives about this program. No condition of its own. -/
import Derived.Test.YthmbdpdojjcgkaaGreatDoorEvSeven
set_option linter.unusedVariables false
set_option linter.unusedSimpArgs false
set_option linter.unusedSectionVars false
set_option maxRecDepth 1000000
namespace Go.Ev
open Go.Proofs
theorem pc4 : (match (generalizing := false) (some Tryz.f4 : Option Func) with | some fn => (match (generalizing := false) fn.body with | some c => plansC Tryz.prog TPl 4 c | none => true) | none => true) = true := by kernel_rfl
theorem pc8 : (match (generalizing := false) (some Tryz.f8 : Option Func) with | some fn => (match (generalizing := false) fn.body with | some c => plansC Tryz.prog TPl 8 c | none => true) | none => true) = true := by kernel_rfl
theorem pc12 : (match (generalizing := false) (some Tryz.f12 : Option Func) with | some fn => (match (generalizing := false) fn.body with | some c => plansC Tryz.prog TPl 12 c | none => true) | none => true) = true := by kernel_rfl
theorem pc16 : (match (generalizing := false) (some Tryz.f16 : Option Func) with | some fn => (match (generalizing := false) fn.body with | some c => plansC Tryz.prog TPl 16 c | none => true) | none => true) = true := by kernel_rfl
theorem pc20 : (match (generalizing := false) (some Tryz.f20 : Option Func) with | some fn => (match (generalizing := false) fn.body with | some c => plansC Tryz.prog TPl 20 c | none => true) | none => true) = true := by kernel_rfl
theorem pc24 : (match (generalizing := false) (some Tryz.f24 : Option Func) with | some fn => (match (generalizing := false) fn.body with | some c => plansC Tryz.prog TPl 24 c | none => true) | none => true) = true := by kernel_rfl
theorem pc28 : (match (generalizing := false) (some Tryz.f28 : Option Func) with | some fn => (match (generalizing := false) fn.body with | some c => plansC Tryz.prog TPl 28 c | none => true) | none => true) = true := by kernel_rfl
theorem pc32 : (match (generalizing := false) (some Tryz.f32 : Option Func) with | some fn => (match (generalizing := false) fn.body with | some c => plansC Tryz.prog TPl 32 c | none => true) | none => true) = true := by kernel_rfl
theorem pc36 : (match (generalizing := false) (some Tryz.f36 : Option Func) with | some fn => (match (generalizing := false) fn.body with | some c => plansC Tryz.prog TPl 36 c | none => true) | none => true) = true := by kernel_rfl
theorem pc40 : (match (generalizing := false) (some Tryz.f40 : Option Func) with | some fn => (match (generalizing := false) fn.body with | some c => plansC Tryz.prog TPl 40 c | none => true) | none => true) = true := by kernel_rfl
theorem pc44 : (match (generalizing := false) (some Tryz.f44 : Option Func) with | some fn => (match (generalizing := false) fn.body with | some c => plansC Tryz.prog TPl 44 c | none => true) | none => true) = true := by kernel_rfl
theorem pc48 : (match (generalizing := false) (some Tryz.f48 : Option Func) with | some fn => (match (generalizing := false) fn.body with | some c => plansC Tryz.prog TPl 48 c | none => true) | none => true) = true := by kernel_rfl
theorem pc52 : (match (generalizing := false) (some Tryz.f52 : Option Func) with | some fn => (match (generalizing := false) fn.body with | some c => plansC Tryz.prog TPl 52 c | none => true) | none => true) = true := by kernel_rfl
theorem pc56 : (match (generalizing := false) (some Tryz.f56 : Option Func) with | some fn => (match (generalizing := false) fn.body with | some c => plansC Tryz.prog TPl 56 c | none => true) | none => true) = true := by kernel_rfl
theorem pc60 : (match (generalizing := false) (some Tryz.f60 : Option Func) with | some fn => (match (generalizing := false) fn.body with | some c => plansC Tryz.prog TPl 60 c | none => true) | none => true) = true := by kernel_rfl
theorem pc64 : (match (generalizing := false) (some Tryz.f64 : Option Func) with | some fn => (match (generalizing := false) fn.body with | some c => plansC Tryz.prog TPl 64 c | none => true) | none => true) = true := by kernel_rfl
theorem pc68 : (match (generalizing := false) (some Tryz.f68 : Option Func) with | some fn => (match (generalizing := false) fn.body with | some c => plansC Tryz.prog TPl 68 c | none => true) | none => true) = true := by kernel_rfl
theorem pc72 : (match (generalizing := false) (some Tryz.f72 : Option Func) with | some fn => (match (generalizing := false) fn.body with | some c => plansC Tryz.prog TPl 72 c | none => true) | none => true) = true := by kernel_rfl
theorem pc76 : (match (generalizing := false) (some Tryz.f76 : Option Func) with | some fn => (match (generalizing := false) fn.body with | some c => plansC Tryz.prog TPl 76 c | none => true) | none => true) = true := by kernel_rfl
theorem pc80 : (match (generalizing := false) (some Tryz.f80 : Option Func) with | some fn => (match (generalizing := false) fn.body with | some c => plansC Tryz.prog TPl 80 c | none => true) | none => true) = true := by kernel_rfl
theorem pc84 : (match (generalizing := false) (some Tryz.f84 : Option Func) with | some fn => (match (generalizing := false) fn.body with | some c => plansC Tryz.prog TPl 84 c | none => true) | none => true) = true := by kernel_rfl
theorem pc88 : (match (generalizing := false) (some Tryz.f88 : Option Func) with | some fn => (match (generalizing := false) fn.body with | some c => plansC Tryz.prog TPl 88 c | none => true) | none => true) = true := by kernel_rfl
theorem pc92 : (match (generalizing := false) (some Tryz.f92 : Option Func) with | some fn => (match (generalizing := false) fn.body with | some c => plansC Tryz.prog TPl 92 c | none => true) | none => true) = true := by kernel_rfl
theorem pc96 : (match (generalizing := false) (some Tryz.f96 : Option Func) with | some fn => (match (generalizing := false) fn.body with | some c => plansC Tryz.prog TPl 96 c | none => true) | none => true) = true := by kernel_rfl
theorem pc100 : (match (generalizing := false) (some Tryz.f100 : Option Func) with | some fn => (match (generalizing := false) fn.body with | some c => plansC Tryz.prog TPl 100 c | none => true) | none => true) = true := by kernel_rfl
theorem pc104 : (match (generalizing := false) (some Tryz.f104 : Option Func) with | some fn => (match (generalizing := false) fn.body with | some c => plansC Tryz.prog TPl 104 c | none => true) | none => true) = true := by kernel_rfl
theorem pc108 : (match (generalizing := false) (some Tryz.f108 : Option Func) with | some fn => (match (generalizing := false) fn.body with | some c => plansC Tryz.prog TPl 108 c | none => true) | none => true) = true := by kernel_rfl
theorem pc112 : (match (generalizing := false) (some Tryz.f112 : Option Func) with | some fn => (match (generalizing := false) fn.body with | some c => plansC Tryz.prog TPl 112 c | none => true) | none => true) = true := by kernel_rfl
theorem pc117 : (match (generalizing := false) (some Tryz.f117 : Option Func) with | some fn => (match (generalizing := false) fn.body with | some c => plansC Tryz.prog TPl 117 c | none => true) | none => true) = true := by kernel_rfl
theorem pc122 : (match (generalizing := false) (some Tryz.f122 : Option Func) with | some fn => (match (generalizing := false) fn.body with | some c => plansC Tryz.prog TPl 122 c | none => true) | none => true) = true := by kernel_rfl
theorem pc126 : (match (generalizing := false) (some Tryz.f126 : Option Func) with | some fn => (match (generalizing := false) fn.body with | some c => plansC Tryz.prog TPl 126 c | none => true) | none => true) = true := by kernel_rfl
theorem pc130 : (match (generalizing := false) (some Tryz.f130 : Option Func) with | some fn => (match (generalizing := false) fn.body with | some c => plansC Tryz.prog TPl 130 c | none => true) | none => true) = true := by kernel_rfl
theorem pc134 : (match (generalizing := false) (some Tryz.f134 : Option Func) with | some fn => (match (generalizing := false) fn.body with | some c => plansC Tryz.prog TPl 134 c | none => true) | none => true) = true := by kernel_rfl
theorem pc138 : (match (generalizing := false) (some Tryz.f138 : Option Func) with | some fn => (match (generalizing := false) fn.body with | some c => plansC Tryz.prog TPl 138 c | none => true) | none => true) = true := by kernel_rfl
theorem pc142 : (match (generalizing := false) (some Tryz.f142 : Option Func) with | some fn => (match (generalizing := false) fn.body with | some c => plansC Tryz.prog TPl 142 c | none => true) | none => true) = true := by kernel_rfl
end Go.Ev
