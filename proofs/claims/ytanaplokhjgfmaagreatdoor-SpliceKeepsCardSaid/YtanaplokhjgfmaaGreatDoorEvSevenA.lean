/- Part of an evaluator of calls that is proved sound, and of what it gives about this program. No condition of its own. -/
import Derived.Test.YtanaplokhjgfmaaGreatDoorEvSeven
set_option linter.unusedVariables false
set_option linter.unusedSimpArgs false
set_option linter.unusedSectionVars false
set_option maxRecDepth 1000000
namespace Go.Ev
open Go.Proofs
theorem pc2 : pcO Tryz.prog TPl 2 (some Tryz.f2) = true := by kernel_rfl
theorem pc6 : pcO Tryz.prog TPl 6 (some Tryz.f6) = true := by kernel_rfl
theorem pc10 : pcO Tryz.prog TPl 10 (some Tryz.f10) = true := by kernel_rfl
theorem pc14 : pcO Tryz.prog TPl 14 (some Tryz.f14) = true := by kernel_rfl
theorem pc18 : pcO Tryz.prog TPl 18 (some Tryz.f18) = true := by kernel_rfl
theorem pc22 : pcO Tryz.prog TPl 22 (some Tryz.f22) = true := by kernel_rfl
theorem pc26 : pcO Tryz.prog TPl 26 (some Tryz.f26) = true := by kernel_rfl
theorem pc30 : pcO Tryz.prog TPl 30 (some Tryz.f30) = true := by kernel_rfl
theorem pc34 : pcO Tryz.prog TPl 34 (some Tryz.f34) = true := by kernel_rfl
theorem pc38 : pcO Tryz.prog TPl 38 (some Tryz.f38) = true := by kernel_rfl
theorem pc42 : pcO Tryz.prog TPl 42 (some Tryz.f42) = true := by kernel_rfl
theorem pc46 : pcO Tryz.prog TPl 46 (some Tryz.f46) = true := by kernel_rfl
theorem pc50 : pcO Tryz.prog TPl 50 (some Tryz.f50) = true := by kernel_rfl
theorem pc54 : pcO Tryz.prog TPl 54 (some Tryz.f54) = true := by kernel_rfl
theorem pc58 : pcO Tryz.prog TPl 58 (some Tryz.f58) = true := by kernel_rfl
theorem pc62 : pcO Tryz.prog TPl 62 (some Tryz.f62) = true := by kernel_rfl
theorem pc66 : pcO Tryz.prog TPl 66 (some Tryz.f66) = true := by kernel_rfl
theorem pc70 : pcO Tryz.prog TPl 70 (some Tryz.f70) = true := by kernel_rfl
theorem pc74 : pcO Tryz.prog TPl 74 (some Tryz.f74) = true := by kernel_rfl
theorem pc78 : pcO Tryz.prog TPl 78 (some Tryz.f78) = true := by kernel_rfl
theorem pc82 : pcO Tryz.prog TPl 82 (some Tryz.f82) = true := by kernel_rfl
theorem pc86 : pcO Tryz.prog TPl 86 (some Tryz.f86) = true := by kernel_rfl
theorem pc90 : pcO Tryz.prog TPl 90 (some Tryz.f90) = true := by kernel_rfl
theorem pc94 : pcO Tryz.prog TPl 94 (some Tryz.f94) = true := by kernel_rfl
theorem pc98 : pcO Tryz.prog TPl 98 (some Tryz.f98) = true := by kernel_rfl
theorem pc102 : pcO Tryz.prog TPl 102 (some Tryz.f102) = true := by kernel_rfl
theorem pc106 : pcO Tryz.prog TPl 106 (some Tryz.f106) = true := by kernel_rfl
theorem pc110 : pcO Tryz.prog TPl 110 (some Tryz.f110) = true := by kernel_rfl
theorem pc114 : pcO Tryz.prog TPl 114 (some Tryz.f114) = true := by kernel_rfl
theorem pc118 : pcO Tryz.prog TPl 118 (some Tryz.f118) = true := by kernel_rfl
theorem pc122 : pcO Tryz.prog TPl 122 (some Tryz.f122) = true := by kernel_rfl
theorem pc126 : pcO Tryz.prog TPl 126 (some Tryz.f126) = true := by kernel_rfl
theorem pc130 : pcO Tryz.prog TPl 130 (some Tryz.f130) = true := by kernel_rfl
theorem pc134 : pcO Tryz.prog TPl 134 (some Tryz.f134) = true := by kernel_rfl
theorem pc138 : pcO Tryz.prog TPl 138 (some Tryz.f138) = true := by kernel_rfl
theorem pc142 : pcO Tryz.prog TPl 142 (some Tryz.f142) = true := by kernel_rfl
theorem pc146 : pcO Tryz.prog TPl 146 (some Tryz.f146) = true := by kernel_rfl
theorem pc150 : pcO Tryz.prog TPl 150 (some Tryz.f150) = true := by kernel_rfl
theorem pc154 : pcO Tryz.prog TPl 154 (some Tryz.f154) = true := by kernel_rfl
theorem pc158 : pcO Tryz.prog TPl 158 (some Tryz.f158) = true := by kernel_rfl
theorem pc162 : pcO Tryz.prog TPl 162 (some Tryz.f162) = true := by kernel_rfl
theorem pc166 : pcO Tryz.prog TPl 166 (some Tryz.f166) = true := by kernel_rfl
theorem pc170 : pcO Tryz.prog TPl 170 (some Tryz.f170) = true := by kernel_rfl
theorem pc174 : pcO Tryz.prog TPl 174 (some Tryz.f174) = true := by kernel_rfl
theorem pc178 : pcO Tryz.prog TPl 178 (some Tryz.f178) = true := by kernel_rfl
theorem pc182 : pcO Tryz.prog TPl 182 (some Tryz.f182) = true := by kernel_rfl
theorem pc186 : pcO Tryz.prog TPl 186 (some Tryz.f186) = true := by kernel_rfl
theorem pc190 : pcO Tryz.prog TPl 190 (some Tryz.f190) = true := by kernel_rfl
theorem pc194 : pcO Tryz.prog TPl 194 (some Tryz.f194) = true := by kernel_rfl
theorem pc198 : pcO Tryz.prog TPl 198 (some Tryz.f198) = true := by kernel_rfl
theorem pc202 : pcO Tryz.prog TPl 202 (some Tryz.f202) = true := by kernel_rfl
theorem pc206 : pcO Tryz.prog TPl 206 (some Tryz.f206) = true := by kernel_rfl
theorem pc210 : pcO Tryz.prog TPl 210 (some Tryz.f210) = true := by kernel_rfl
theorem pc214 : pcO Tryz.prog TPl 214 (some Tryz.f214) = true := by kernel_rfl
theorem pc218 : pcO Tryz.prog TPl 218 (some Tryz.f218) = true := by kernel_rfl
theorem pc223 : pcO Tryz.prog TPl 223 (some Tryz.f223) = true := by kernel_rfl
theorem pc227 : pcO Tryz.prog TPl 227 (some Tryz.f227) = true := by kernel_rfl
theorem pc231 : pcO Tryz.prog TPl 231 (some Tryz.f231) = true := by kernel_rfl
theorem pc236 : pcO Tryz.prog TPl 236 (some Tryz.f236) = true := by kernel_rfl
theorem pc240 : pcO Tryz.prog TPl 240 (some Tryz.f240) = true := by kernel_rfl
theorem pc245 : pcO Tryz.prog TPl 245 (some Tryz.f245) = true := by kernel_rfl
theorem pc249 : pcO Tryz.prog TPl 249 (some Tryz.f249) = true := by kernel_rfl
theorem pc253 : pcO Tryz.prog TPl 253 (some Tryz.f253) = true := by kernel_rfl
theorem pc260 : pcO Tryz.prog TPl 260 (some Tryz.f260) = true := by kernel_rfl
theorem pc264 : pcO Tryz.prog TPl 264 (some Tryz.f264) = true := by kernel_rfl
theorem pc296 : pcO Tryz.prog TPl 296 (some Tryz.f296) = true := by kernel_rfl
end Go.Ev
