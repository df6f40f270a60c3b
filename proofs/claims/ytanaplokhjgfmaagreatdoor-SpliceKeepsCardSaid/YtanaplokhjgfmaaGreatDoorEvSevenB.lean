/- Part of an evaluator of calls that is proved sound, and of what it gives about this program. No condition of its own. -/
import Derived.Test.YtanaplokhjgfmaaGreatDoorEvSeven
set_option linter.unusedVariables false
set_option linter.unusedSimpArgs false
set_option linter.unusedSectionVars false
set_option maxRecDepth 1000000
namespace Go.Ev
open Go.Proofs
theorem pc3 : pcO Tryz.prog TPl 3 (some Tryz.f3) = true := by kernel_rfl
theorem pc7 : pcO Tryz.prog TPl 7 (some Tryz.f7) = true := by kernel_rfl
theorem pc11 : pcO Tryz.prog TPl 11 (some Tryz.f11) = true := by kernel_rfl
theorem pc15 : pcO Tryz.prog TPl 15 (some Tryz.f15) = true := by kernel_rfl
theorem pc19 : pcO Tryz.prog TPl 19 (some Tryz.f19) = true := by kernel_rfl
theorem pc23 : pcO Tryz.prog TPl 23 (some Tryz.f23) = true := by kernel_rfl
theorem pc27 : pcO Tryz.prog TPl 27 (some Tryz.f27) = true := by kernel_rfl
theorem pc31 : pcO Tryz.prog TPl 31 (some Tryz.f31) = true := by kernel_rfl
theorem pc35 : pcO Tryz.prog TPl 35 (some Tryz.f35) = true := by kernel_rfl
theorem pc39 : pcO Tryz.prog TPl 39 (some Tryz.f39) = true := by kernel_rfl
theorem pc43 : pcO Tryz.prog TPl 43 (some Tryz.f43) = true := by kernel_rfl
theorem pc47 : pcO Tryz.prog TPl 47 (some Tryz.f47) = true := by kernel_rfl
theorem pc51 : pcO Tryz.prog TPl 51 (some Tryz.f51) = true := by kernel_rfl
theorem pc55 : pcO Tryz.prog TPl 55 (some Tryz.f55) = true := by kernel_rfl
theorem pc59 : pcO Tryz.prog TPl 59 (some Tryz.f59) = true := by kernel_rfl
theorem pc63 : pcO Tryz.prog TPl 63 (some Tryz.f63) = true := by kernel_rfl
theorem pc67 : pcO Tryz.prog TPl 67 (some Tryz.f67) = true := by kernel_rfl
theorem pc71 : pcO Tryz.prog TPl 71 (some Tryz.f71) = true := by kernel_rfl
theorem pc75 : pcO Tryz.prog TPl 75 (some Tryz.f75) = true := by kernel_rfl
theorem pc79 : pcO Tryz.prog TPl 79 (some Tryz.f79) = true := by kernel_rfl
theorem pc83 : pcO Tryz.prog TPl 83 (some Tryz.f83) = true := by kernel_rfl
theorem pc87 : pcO Tryz.prog TPl 87 (some Tryz.f87) = true := by kernel_rfl
theorem pc91 : pcO Tryz.prog TPl 91 (some Tryz.f91) = true := by kernel_rfl
theorem pc95 : pcO Tryz.prog TPl 95 (some Tryz.f95) = true := by kernel_rfl
theorem pc99 : pcO Tryz.prog TPl 99 (some Tryz.f99) = true := by kernel_rfl
theorem pc103 : pcO Tryz.prog TPl 103 (some Tryz.f103) = true := by kernel_rfl
theorem pc107 : pcO Tryz.prog TPl 107 (some Tryz.f107) = true := by kernel_rfl
theorem pc111 : pcO Tryz.prog TPl 111 (some Tryz.f111) = true := by kernel_rfl
theorem pc115 : pcO Tryz.prog TPl 115 (some Tryz.f115) = true := by kernel_rfl
theorem pc119 : pcO Tryz.prog TPl 119 (some Tryz.f119) = true := by kernel_rfl
theorem pc123 : pcO Tryz.prog TPl 123 (some Tryz.f123) = true := by kernel_rfl
theorem pc127 : pcO Tryz.prog TPl 127 (some Tryz.f127) = true := by kernel_rfl
theorem pc131 : pcO Tryz.prog TPl 131 (some Tryz.f131) = true := by kernel_rfl
theorem pc135 : pcO Tryz.prog TPl 135 (some Tryz.f135) = true := by kernel_rfl
theorem pc139 : pcO Tryz.prog TPl 139 (some Tryz.f139) = true := by kernel_rfl
theorem pc143 : pcO Tryz.prog TPl 143 (some Tryz.f143) = true := by kernel_rfl
theorem pc147 : pcO Tryz.prog TPl 147 (some Tryz.f147) = true := by kernel_rfl
theorem pc151 : pcO Tryz.prog TPl 151 (some Tryz.f151) = true := by kernel_rfl
theorem pc155 : pcO Tryz.prog TPl 155 (some Tryz.f155) = true := by kernel_rfl
theorem pc159 : pcO Tryz.prog TPl 159 (some Tryz.f159) = true := by kernel_rfl
theorem pc163 : pcO Tryz.prog TPl 163 (some Tryz.f163) = true := by kernel_rfl
theorem pc167 : pcO Tryz.prog TPl 167 (some Tryz.f167) = true := by kernel_rfl
theorem pc171 : pcO Tryz.prog TPl 171 (some Tryz.f171) = true := by kernel_rfl
theorem pc175 : pcO Tryz.prog TPl 175 (some Tryz.f175) = true := by kernel_rfl
theorem pc179 : pcO Tryz.prog TPl 179 (some Tryz.f179) = true := by kernel_rfl
theorem pc183 : pcO Tryz.prog TPl 183 (some Tryz.f183) = true := by kernel_rfl
theorem pc187 : pcO Tryz.prog TPl 187 (some Tryz.f187) = true := by kernel_rfl
theorem pc191 : pcO Tryz.prog TPl 191 (some Tryz.f191) = true := by kernel_rfl
theorem pc195 : pcO Tryz.prog TPl 195 (some Tryz.f195) = true := by kernel_rfl
theorem pc199 : pcO Tryz.prog TPl 199 (some Tryz.f199) = true := by kernel_rfl
theorem pc203 : pcO Tryz.prog TPl 203 (some Tryz.f203) = true := by kernel_rfl
theorem pc207 : pcO Tryz.prog TPl 207 (some Tryz.f207) = true := by kernel_rfl
theorem pc211 : pcO Tryz.prog TPl 211 (some Tryz.f211) = true := by kernel_rfl
theorem pc215 : pcO Tryz.prog TPl 215 (some Tryz.f215) = true := by kernel_rfl
theorem pc219 : pcO Tryz.prog TPl 219 (some Tryz.f219) = true := by kernel_rfl
theorem pc224 : pcO Tryz.prog TPl 224 (some Tryz.f224) = true := by kernel_rfl
theorem pc228 : pcO Tryz.prog TPl 228 (some Tryz.f228) = true := by kernel_rfl
theorem pc232 : pcO Tryz.prog TPl 232 (some Tryz.f232) = true := by kernel_rfl
theorem pc237 : pcO Tryz.prog TPl 237 (some Tryz.f237) = true := by kernel_rfl
theorem pc241 : pcO Tryz.prog TPl 241 (some Tryz.f241) = true := by kernel_rfl
theorem pc246 : pcO Tryz.prog TPl 246 (some Tryz.f246) = true := by kernel_rfl
theorem pc250 : pcO Tryz.prog TPl 250 (some Tryz.f250) = true := by kernel_rfl
theorem pc254 : pcO Tryz.prog TPl 254 (some Tryz.f254) = true := by kernel_rfl
theorem pc261 : pcO Tryz.prog TPl 261 (some Tryz.f261) = true := by kernel_rfl
theorem pc265 : pcO Tryz.prog TPl 265 (some Tryz.f265) = true := by kernel_rfl
end Go.Ev
