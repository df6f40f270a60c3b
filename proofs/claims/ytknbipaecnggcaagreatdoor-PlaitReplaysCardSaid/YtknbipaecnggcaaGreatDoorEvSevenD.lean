/- Part of an evaluator of calls that is proved sound, and of what it gives about this program. No condition of its own. -/
import Derived.Test.YtknbipaecnggcaaGreatDoorEvSeven
set_option linter.unusedVariables false
set_option linter.unusedSimpArgs false
set_option linter.unusedSectionVars false
set_option maxRecDepth 1000000
namespace Go.Ev
open Go.Proofs
theorem pc5 : pcO Tryz.prog TPl 5 (some Tryz.f5) = true := by kernel_rfl
theorem pc9 : pcO Tryz.prog TPl 9 (some Tryz.f9) = true := by kernel_rfl
theorem pc13 : pcO Tryz.prog TPl 13 (some Tryz.f13) = true := by kernel_rfl
theorem pc17 : pcO Tryz.prog TPl 17 (some Tryz.f17) = true := by kernel_rfl
theorem pc21 : pcO Tryz.prog TPl 21 (some Tryz.f21) = true := by kernel_rfl
theorem pc25 : pcO Tryz.prog TPl 25 (some Tryz.f25) = true := by kernel_rfl
theorem pc29 : pcO Tryz.prog TPl 29 (some Tryz.f29) = true := by kernel_rfl
theorem pc33 : pcO Tryz.prog TPl 33 (some Tryz.f33) = true := by kernel_rfl
theorem pc37 : pcO Tryz.prog TPl 37 (some Tryz.f37) = true := by kernel_rfl
theorem pc41 : pcO Tryz.prog TPl 41 (some Tryz.f41) = true := by kernel_rfl
theorem pc45 : pcO Tryz.prog TPl 45 (some Tryz.f45) = true := by kernel_rfl
theorem pc49 : pcO Tryz.prog TPl 49 (some Tryz.f49) = true := by kernel_rfl
theorem pc53 : pcO Tryz.prog TPl 53 (some Tryz.f53) = true := by kernel_rfl
theorem pc57 : pcO Tryz.prog TPl 57 (some Tryz.f57) = true := by kernel_rfl
theorem pc61 : pcO Tryz.prog TPl 61 (some Tryz.f61) = true := by kernel_rfl
theorem pc65 : pcO Tryz.prog TPl 65 (some Tryz.f65) = true := by kernel_rfl
theorem pc69 : pcO Tryz.prog TPl 69 (some Tryz.f69) = true := by kernel_rfl
theorem pc73 : pcO Tryz.prog TPl 73 (some Tryz.f73) = true := by kernel_rfl
theorem pc77 : pcO Tryz.prog TPl 77 (some Tryz.f77) = true := by kernel_rfl
theorem pc81 : pcO Tryz.prog TPl 81 (some Tryz.f81) = true := by kernel_rfl
theorem pc85 : pcO Tryz.prog TPl 85 (some Tryz.f85) = true := by kernel_rfl
theorem pc89 : pcO Tryz.prog TPl 89 (some Tryz.f89) = true := by kernel_rfl
theorem pc93 : pcO Tryz.prog TPl 93 (some Tryz.f93) = true := by kernel_rfl
theorem pc97 : pcO Tryz.prog TPl 97 (some Tryz.f97) = true := by kernel_rfl
theorem pc101 : pcO Tryz.prog TPl 101 (some Tryz.f101) = true := by kernel_rfl
theorem pc105 : pcO Tryz.prog TPl 105 (some Tryz.f105) = true := by kernel_rfl
theorem pc109 : pcO Tryz.prog TPl 109 (some Tryz.f109) = true := by kernel_rfl
theorem pc113 : pcO Tryz.prog TPl 113 (some Tryz.f113) = true := by kernel_rfl
theorem pc117 : pcO Tryz.prog TPl 117 (some Tryz.f117) = true := by kernel_rfl
theorem pc121 : pcO Tryz.prog TPl 121 (some Tryz.f121) = true := by kernel_rfl
theorem pc125 : pcO Tryz.prog TPl 125 (some Tryz.f125) = true := by kernel_rfl
theorem pc129 : pcO Tryz.prog TPl 129 (some Tryz.f129) = true := by kernel_rfl
theorem pc133 : pcO Tryz.prog TPl 133 (some Tryz.f133) = true := by kernel_rfl
theorem pc137 : pcO Tryz.prog TPl 137 (some Tryz.f137) = true := by kernel_rfl
theorem pc141 : pcO Tryz.prog TPl 141 (some Tryz.f141) = true := by kernel_rfl
theorem pc145 : pcO Tryz.prog TPl 145 (some Tryz.f145) = true := by kernel_rfl
theorem pc149 : pcO Tryz.prog TPl 149 (some Tryz.f149) = true := by kernel_rfl
theorem pc153 : pcO Tryz.prog TPl 153 (some Tryz.f153) = true := by kernel_rfl
theorem pc157 : pcO Tryz.prog TPl 157 (some Tryz.f157) = true := by kernel_rfl
theorem pc161 : pcO Tryz.prog TPl 161 (some Tryz.f161) = true := by kernel_rfl
theorem pc165 : pcO Tryz.prog TPl 165 (some Tryz.f165) = true := by kernel_rfl
theorem pc170 : pcO Tryz.prog TPl 170 (some Tryz.f170) = true := by kernel_rfl
theorem pc174 : pcO Tryz.prog TPl 174 (some Tryz.f174) = true := by kernel_rfl
theorem pc178 : pcO Tryz.prog TPl 178 (some Tryz.f178) = true := by kernel_rfl
theorem pc182 : pcO Tryz.prog TPl 182 (some Tryz.f182) = true := by kernel_rfl
theorem pc186 : pcO Tryz.prog TPl 186 (some Tryz.f186) = true := by kernel_rfl
theorem pc192 : pcO Tryz.prog TPl 192 (some Tryz.f192) = true := by kernel_rfl
theorem pc196 : pcO Tryz.prog TPl 196 (some Tryz.f196) = true := by kernel_rfl
theorem pc200 : pcO Tryz.prog TPl 200 (some Tryz.f200) = true := by kernel_rfl
theorem pc204 : pcO Tryz.prog TPl 204 (some Tryz.f204) = true := by kernel_rfl
theorem pc208 : pcO Tryz.prog TPl 208 (some Tryz.f208) = true := by kernel_rfl
theorem pc212 : pcO Tryz.prog TPl 212 (some Tryz.f212) = true := by kernel_rfl
theorem pc217 : pcO Tryz.prog TPl 217 (some Tryz.f217) = true := by kernel_rfl
theorem pc221 : pcO Tryz.prog TPl 221 (some Tryz.f221) = true := by kernel_rfl
theorem pc226 : pcO Tryz.prog TPl 226 (some Tryz.f226) = true := by kernel_rfl
theorem pc230 : pcO Tryz.prog TPl 230 (some Tryz.f230) = true := by kernel_rfl
theorem pc234 : pcO Tryz.prog TPl 234 (some Tryz.f234) = true := by kernel_rfl
theorem pc238 : pcO Tryz.prog TPl 238 (some Tryz.f238) = true := by kernel_rfl
end Go.Ev
