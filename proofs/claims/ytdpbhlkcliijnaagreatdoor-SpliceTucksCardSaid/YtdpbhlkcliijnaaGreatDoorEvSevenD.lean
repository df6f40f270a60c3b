/- Part of an evaluator of calls that is proved sound, and of what it gives about this program. No condition of its own. -/
import Derived.Test.YtdpbhlkcliijnaaGreatDoorEvSeven
set_option linter.unusedVariables false
set_option linter.unusedSimpArgs false
set_option linter.unusedSectionVars false
set_option maxRecDepth 1000000
namespace Go.Ev
open Go.Proofs
theorem pc5 : pcO Tryz.prog TPl 5 (some Tryz.f5) = true := by kernel_rfl
theorem pc9 : pcO Tryz.prog TPl 9 (some Tryz.f9) = true := by kernel_rfl
theorem pc13 : pcO Tryz.prog TPl 13 (some Tryz.f13) = true := by kernel_rfl
theorem pc17 : pcO Tryz.prog TPl 17 (some Tryz.f17) = true := by kernel_rfl
theorem pc21 : pcO Tryz.prog TPl 21 (some Tryz.f21) = true := by kernel_rfl
theorem pc25 : pcO Tryz.prog TPl 25 (some Tryz.f25) = true := by kernel_rfl
theorem pc29 : pcO Tryz.prog TPl 29 (some Tryz.f29) = true := by kernel_rfl
theorem pc33 : pcO Tryz.prog TPl 33 (some Tryz.f33) = true := by kernel_rfl
theorem pc37 : pcO Tryz.prog TPl 37 (some Tryz.f37) = true := by kernel_rfl
theorem pc41 : pcO Tryz.prog TPl 41 (some Tryz.f41) = true := by kernel_rfl
theorem pc45 : pcO Tryz.prog TPl 45 (some Tryz.f45) = true := by kernel_rfl
theorem pc49 : pcO Tryz.prog TPl 49 (some Tryz.f49) = true := by kernel_rfl
theorem pc53 : pcO Tryz.prog TPl 53 (some Tryz.f53) = true := by kernel_rfl
theorem pc57 : pcO Tryz.prog TPl 57 (some Tryz.f57) = true := by kernel_rfl
theorem pc61 : pcO Tryz.prog TPl 61 (some Tryz.f61) = true := by kernel_rfl
theorem pc65 : pcO Tryz.prog TPl 65 (some Tryz.f65) = true := by kernel_rfl
theorem pc69 : pcO Tryz.prog TPl 69 (some Tryz.f69) = true := by kernel_rfl
theorem pc73 : pcO Tryz.prog TPl 73 (some Tryz.f73) = true := by kernel_rfl
theorem pc77 : pcO Tryz.prog TPl 77 (some Tryz.f77) = true := by kernel_rfl
theorem pc81 : pcO Tryz.prog TPl 81 (some Tryz.f81) = true := by kernel_rfl
theorem pc85 : pcO Tryz.prog TPl 85 (some Tryz.f85) = true := by kernel_rfl
theorem pc89 : pcO Tryz.prog TPl 89 (some Tryz.f89) = true := by kernel_rfl
theorem pc93 : pcO Tryz.prog TPl 93 (some Tryz.f93) = true := by kernel_rfl
theorem pc97 : pcO Tryz.prog TPl 97 (some Tryz.f97) = true := by kernel_rfl
theorem pc101 : pcO Tryz.prog TPl 101 (some Tryz.f101) = true := by kernel_rfl
theorem pc105 : pcO Tryz.prog TPl 105 (some Tryz.f105) = true := by kernel_rfl
theorem pc109 : pcO Tryz.prog TPl 109 (some Tryz.f109) = true := by kernel_rfl
theorem pc113 : pcO Tryz.prog TPl 113 (some Tryz.f113) = true := by kernel_rfl
theorem pc117 : pcO Tryz.prog TPl 117 (some Tryz.f117) = true := by kernel_rfl
theorem pc121 : pcO Tryz.prog TPl 121 (some Tryz.f121) = true := by kernel_rfl
theorem pc125 : pcO Tryz.prog TPl 125 (some Tryz.f125) = true := by kernel_rfl
theorem pc129 : pcO Tryz.prog TPl 129 (some Tryz.f129) = true := by kernel_rfl
theorem pc133 : pcO Tryz.prog TPl 133 (some Tryz.f133) = true := by kernel_rfl
theorem pc137 : pcO Tryz.prog TPl 137 (some Tryz.f137) = true := by kernel_rfl
theorem pc141 : pcO Tryz.prog TPl 141 (some Tryz.f141) = true := by kernel_rfl
theorem pc145 : pcO Tryz.prog TPl 145 (some Tryz.f145) = true := by kernel_rfl
theorem pc149 : pcO Tryz.prog TPl 149 (some Tryz.f149) = true := by kernel_rfl
theorem pc153 : pcO Tryz.prog TPl 153 (some Tryz.f153) = true := by kernel_rfl
theorem pc157 : pcO Tryz.prog TPl 157 (some Tryz.f157) = true := by kernel_rfl
theorem pc161 : pcO Tryz.prog TPl 161 (some Tryz.f161) = true := by kernel_rfl
theorem pc165 : pcO Tryz.prog TPl 165 (some Tryz.f165) = true := by kernel_rfl
theorem pc169 : pcO Tryz.prog TPl 169 (some Tryz.f169) = true := by kernel_rfl
theorem pc173 : pcO Tryz.prog TPl 173 (some Tryz.f173) = true := by kernel_rfl
theorem pc177 : pcO Tryz.prog TPl 177 (some Tryz.f177) = true := by kernel_rfl
theorem pc181 : pcO Tryz.prog TPl 181 (some Tryz.f181) = true := by kernel_rfl
theorem pc185 : pcO Tryz.prog TPl 185 (some Tryz.f185) = true := by kernel_rfl
theorem pc189 : pcO Tryz.prog TPl 189 (some Tryz.f189) = true := by kernel_rfl
theorem pc193 : pcO Tryz.prog TPl 193 (some Tryz.f193) = true := by kernel_rfl
theorem pc197 : pcO Tryz.prog TPl 197 (some Tryz.f197) = true := by kernel_rfl
theorem pc201 : pcO Tryz.prog TPl 201 (some Tryz.f201) = true := by kernel_rfl
theorem pc205 : pcO Tryz.prog TPl 205 (some Tryz.f205) = true := by kernel_rfl
theorem pc209 : pcO Tryz.prog TPl 209 (some Tryz.f209) = true := by kernel_rfl
theorem pc213 : pcO Tryz.prog TPl 213 (some Tryz.f213) = true := by kernel_rfl
theorem pc217 : pcO Tryz.prog TPl 217 (some Tryz.f217) = true := by kernel_rfl
theorem pc222 : pcO Tryz.prog TPl 222 (some Tryz.f222) = true := by kernel_rfl
theorem pc226 : pcO Tryz.prog TPl 226 (some Tryz.f226) = true := by kernel_rfl
theorem pc230 : pcO Tryz.prog TPl 230 (some Tryz.f230) = true := by kernel_rfl
theorem pc235 : pcO Tryz.prog TPl 235 (some Tryz.f235) = true := by kernel_rfl
theorem pc239 : pcO Tryz.prog TPl 239 (some Tryz.f239) = true := by kernel_rfl
theorem pc243 : pcO Tryz.prog TPl 243 (some Tryz.f243) = true := by kernel_rfl
theorem pc248 : pcO Tryz.prog TPl 248 (some Tryz.f248) = true := by kernel_rfl
theorem pc252 : pcO Tryz.prog TPl 252 (some Tryz.f252) = true := by kernel_rfl
theorem pc256 : pcO Tryz.prog TPl 256 (some Tryz.f256) = true := by kernel_rfl
theorem pc263 : pcO Tryz.prog TPl 263 (some Tryz.f263) = true := by kernel_rfl
theorem pc267 : pcO Tryz.prog TPl 267 (some Tryz.f267) = true := by kernel_rfl
end Go.Ev
