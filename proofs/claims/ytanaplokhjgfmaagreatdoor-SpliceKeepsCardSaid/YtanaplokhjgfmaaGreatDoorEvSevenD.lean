/- Part of an evaluator of calls that is proved sound, and of what it gives about this program. No condition of its own. -/
import Derived.Test.YtanaplokhjgfmaaGreatDoorEvSeven
import Derived.Test.YtanaplokhjgfmaaGreatDoorEvSevenA
import Derived.Test.YtanaplokhjgfmaaGreatDoorEvSevenB
import Derived.Test.YtanaplokhjgfmaaGreatDoorEvSevenC
set_option linter.unusedVariables false
set_option linter.unusedSimpArgs false
set_option linter.unusedSectionVars false
set_option maxRecDepth 1000000
namespace Go.Ev
open Go.Proofs
theorem pc5 : pcO Tryz.prog TPl 5 (some Tryz.f5) = true := by kernel_rfl
theorem pc9 : pcO Tryz.prog TPl 9 (some Tryz.f9) = true := by kernel_rfl
theorem pc13 : pcO Tryz.prog TPl 13 (some Tryz.f13) = true := by kernel_rfl
theorem pc17 : pcO Tryz.prog TPl 17 (some Tryz.f17) = true := by kernel_rfl
theorem pc21 : pcO Tryz.prog TPl 21 (some Tryz.f21) = true := by kernel_rfl
theorem pc25 : pcO Tryz.prog TPl 25 (some Tryz.f25) = true := by kernel_rfl
theorem pc29 : pcO Tryz.prog TPl 29 (some Tryz.f29) = true := by kernel_rfl
theorem pc33 : pcO Tryz.prog TPl 33 (some Tryz.f33) = true := by kernel_rfl
theorem pc37 : pcO Tryz.prog TPl 37 (some Tryz.f37) = true := by kernel_rfl
theorem pc41 : pcO Tryz.prog TPl 41 (some Tryz.f41) = true := by kernel_rfl
theorem pc45 : pcO Tryz.prog TPl 45 (some Tryz.f45) = true := by kernel_rfl
theorem pc49 : pcO Tryz.prog TPl 49 (some Tryz.f49) = true := by kernel_rfl
theorem pc53 : pcO Tryz.prog TPl 53 (some Tryz.f53) = true := by kernel_rfl
theorem pc57 : pcO Tryz.prog TPl 57 (some Tryz.f57) = true := by kernel_rfl
theorem pc61 : pcO Tryz.prog TPl 61 (some Tryz.f61) = true := by kernel_rfl
theorem pc65 : pcO Tryz.prog TPl 65 (some Tryz.f65) = true := by kernel_rfl
theorem pc69 : pcO Tryz.prog TPl 69 (some Tryz.f69) = true := by kernel_rfl
theorem pc73 : pcO Tryz.prog TPl 73 (some Tryz.f73) = true := by kernel_rfl
theorem pc77 : pcO Tryz.prog TPl 77 (some Tryz.f77) = true := by kernel_rfl
theorem pc81 : pcO Tryz.prog TPl 81 (some Tryz.f81) = true := by kernel_rfl
theorem pc85 : pcO Tryz.prog TPl 85 (some Tryz.f85) = true := by kernel_rfl
theorem pc89 : pcO Tryz.prog TPl 89 (some Tryz.f89) = true := by kernel_rfl
theorem pc93 : pcO Tryz.prog TPl 93 (some Tryz.f93) = true := by kernel_rfl
theorem pc97 : pcO Tryz.prog TPl 97 (some Tryz.f97) = true := by kernel_rfl
theorem pc101 : pcO Tryz.prog TPl 101 (some Tryz.f101) = true := by kernel_rfl
theorem pc105 : pcO Tryz.prog TPl 105 (some Tryz.f105) = true := by kernel_rfl
theorem pc109 : pcO Tryz.prog TPl 109 (some Tryz.f109) = true := by kernel_rfl
theorem pc113 : pcO Tryz.prog TPl 113 (some Tryz.f113) = true := by kernel_rfl
theorem pc117 : pcO Tryz.prog TPl 117 (some Tryz.f117) = true := by kernel_rfl
theorem pc121 : pcO Tryz.prog TPl 121 (some Tryz.f121) = true := by kernel_rfl
theorem pc125 : pcO Tryz.prog TPl 125 (some Tryz.f125) = true := by kernel_rfl
theorem pc129 : pcO Tryz.prog TPl 129 (some Tryz.f129) = true := by kernel_rfl
theorem pc133 : pcO Tryz.prog TPl 133 (some Tryz.f133) = true := by kernel_rfl
theorem pc137 : pcO Tryz.prog TPl 137 (some Tryz.f137) = true := by kernel_rfl
theorem pc141 : pcO Tryz.prog TPl 141 (some Tryz.f141) = true := by kernel_rfl
theorem pc145 : pcO Tryz.prog TPl 145 (some Tryz.f145) = true := by kernel_rfl
theorem pc149 : pcO Tryz.prog TPl 149 (some Tryz.f149) = true := by kernel_rfl
theorem pc153 : pcO Tryz.prog TPl 153 (some Tryz.f153) = true := by kernel_rfl
theorem pc157 : pcO Tryz.prog TPl 157 (some Tryz.f157) = true := by kernel_rfl
theorem pc161 : pcO Tryz.prog TPl 161 (some Tryz.f161) = true := by kernel_rfl
theorem pc165 : pcO Tryz.prog TPl 165 (some Tryz.f165) = true := by kernel_rfl
theorem pc169 : pcO Tryz.prog TPl 169 (some Tryz.f169) = true := by kernel_rfl
theorem pc173 : pcO Tryz.prog TPl 173 (some Tryz.f173) = true := by kernel_rfl
theorem pc177 : pcO Tryz.prog TPl 177 (some Tryz.f177) = true := by kernel_rfl
theorem pc181 : pcO Tryz.prog TPl 181 (some Tryz.f181) = true := by kernel_rfl
theorem pc185 : pcO Tryz.prog TPl 185 (some Tryz.f185) = true := by kernel_rfl
theorem pc189 : pcO Tryz.prog TPl 189 (some Tryz.f189) = true := by kernel_rfl
theorem pc193 : pcO Tryz.prog TPl 193 (some Tryz.f193) = true := by kernel_rfl
theorem pc197 : pcO Tryz.prog TPl 197 (some Tryz.f197) = true := by kernel_rfl
theorem pc201 : pcO Tryz.prog TPl 201 (some Tryz.f201) = true := by kernel_rfl
theorem pc205 : pcO Tryz.prog TPl 205 (some Tryz.f205) = true := by kernel_rfl
theorem pc209 : pcO Tryz.prog TPl 209 (some Tryz.f209) = true := by kernel_rfl
theorem pc213 : pcO Tryz.prog TPl 213 (some Tryz.f213) = true := by kernel_rfl
theorem pc217 : pcO Tryz.prog TPl 217 (some Tryz.f217) = true := by kernel_rfl
theorem pc222 : pcO Tryz.prog TPl 222 (some Tryz.f222) = true := by kernel_rfl
theorem pc226 : pcO Tryz.prog TPl 226 (some Tryz.f226) = true := by kernel_rfl
theorem pc230 : pcO Tryz.prog TPl 230 (some Tryz.f230) = true := by kernel_rfl
theorem pc235 : pcO Tryz.prog TPl 235 (some Tryz.f235) = true := by kernel_rfl
theorem pc239 : pcO Tryz.prog TPl 239 (some Tryz.f239) = true := by kernel_rfl
theorem pc243 : pcO Tryz.prog TPl 243 (some Tryz.f243) = true := by kernel_rfl
theorem pc248 : pcO Tryz.prog TPl 248 (some Tryz.f248) = true := by kernel_rfl
theorem pc252 : pcO Tryz.prog TPl 252 (some Tryz.f252) = true := by kernel_rfl
theorem pc256 : pcO Tryz.prog TPl 256 (some Tryz.f256) = true := by kernel_rfl
theorem pc263 : pcO Tryz.prog TPl 263 (some Tryz.f263) = true := by kernel_rfl
theorem pc267 : pcO Tryz.prog TPl 267 (some Tryz.f267) = true := by kernel_rfl
end Go.Ev
namespace Go.Ev
open Go.Proofs
theorem TPl_ok : plansT Tryz.prog TPl TF 1 0 = true := (pT_nd rfl (pT_nd rfl (pT_nd pc3 (pT_nd pc7 (pT_nd pc15 (pT_nd pc31 (pT_nd pc63 (pT_nd pc127 (pT_nd pc255 pT_lf pT_lf) pT_lf) (pT_nd pc191 pT_lf pT_lf)) (pT_nd pc95 (pT_nd pc159 pT_lf pT_lf) (pT_nd pc223 pT_lf pT_lf))) (pT_nd pc47 (pT_nd pc79 (pT_nd pc143 pT_lf pT_lf) (pT_nd pc207 pT_lf pT_lf)) (pT_nd pc111 (pT_nd pc175 pT_lf pT_lf) (pT_nd pc239 pT_lf pT_lf)))) (pT_nd pc23 (pT_nd pc39 (pT_nd pc71 (pT_nd pc135 (pT_nd pc263 pT_lf pT_lf) pT_lf) (pT_nd pc199 pT_lf pT_lf)) (pT_nd pc103 (pT_nd pc167 pT_lf pT_lf) (pT_nd pc231 pT_lf pT_lf))) (pT_nd pc55 (pT_nd pc87 (pT_nd pc151 pT_lf pT_lf) (pT_nd pc215 pT_lf pT_lf)) (pT_nd pc119 (pT_nd pc183 pT_lf pT_lf) (pT_nd pc247 pT_lf pT_lf))))) (pT_nd pc11 (pT_nd pc19 (pT_nd pc35 (pT_nd pc67 (pT_nd pc131 pT_lf pT_lf) (pT_nd pc195 pT_lf pT_lf)) (pT_nd pc99 (pT_nd pc163 pT_lf pT_lf) (pT_nd pc227 pT_lf pT_lf))) (pT_nd pc51 (pT_nd pc83 (pT_nd pc147 pT_lf pT_lf) (pT_nd pc211 pT_lf pT_lf)) (pT_nd pc115 (pT_nd pc179 pT_lf pT_lf) (pT_nd pc243 pT_lf pT_lf)))) (pT_nd pc27 (pT_nd pc43 (pT_nd pc75 (pT_nd pc139 (pT_nd pc267 pT_lf pT_lf) pT_lf) (pT_nd pc203 pT_lf pT_lf)) (pT_nd pc107 (pT_nd pc171 pT_lf pT_lf) (pT_nd pc235 pT_lf pT_lf))) (pT_nd pc59 (pT_nd pc91 (pT_nd pc155 pT_lf pT_lf) (pT_nd pc219 pT_lf pT_lf)) (pT_nd pc123 (pT_nd pc187 pT_lf pT_lf) (pT_nd pc251 pT_lf pT_lf)))))) (pT_nd pc5 (pT_nd pc9 (pT_nd pc17 (pT_nd pc33 (pT_nd pc65 (pT_nd pc129 pT_lf pT_lf) (pT_nd pc193 pT_lf pT_lf)) (pT_nd pc97 (pT_nd pc161 pT_lf pT_lf) (pT_nd pc225 pT_lf pT_lf))) (pT_nd pc49 (pT_nd pc81 (pT_nd pc145 pT_lf pT_lf) (pT_nd pc209 pT_lf pT_lf)) (pT_nd pc113 (pT_nd pc177 pT_lf pT_lf) (pT_nd pc241 pT_lf pT_lf)))) (pT_nd pc25 (pT_nd pc41 (pT_nd pc73 (pT_nd pc137 (pT_nd pc265 pT_lf pT_lf) pT_lf) (pT_nd pc201 pT_lf pT_lf)) (pT_nd pc105 (pT_nd pc169 pT_lf pT_lf) pT_lf)) (pT_nd pc57 (pT_nd pc89 (pT_nd pc153 pT_lf pT_lf) (pT_nd pc217 pT_lf pT_lf)) (pT_nd pc121 (pT_nd pc185 pT_lf pT_lf) (pT_nd pc249 pT_lf pT_lf))))) (pT_nd pc13 (pT_nd pc21 (pT_nd pc37 (pT_nd pc69 (pT_nd pc133 (pT_nd pc261 pT_lf pT_lf) pT_lf) (pT_nd pc197 pT_lf pT_lf)) (pT_nd pc101 (pT_nd pc165 pT_lf pT_lf) (pT_nd pc229 pT_lf pT_lf))) (pT_nd pc53 (pT_nd pc85 (pT_nd pc149 pT_lf pT_lf) (pT_nd pc213 pT_lf pT_lf)) (pT_nd pc117 (pT_nd pc181 pT_lf pT_lf) (pT_nd pc245 pT_lf pT_lf)))) (pT_nd pc29 (pT_nd pc45 (pT_nd pc77 (pT_nd pc141 pT_lf pT_lf) (pT_nd pc205 pT_lf pT_lf)) (pT_nd pc109 (pT_nd pc173 pT_lf pT_lf) (pT_nd pc237 pT_lf pT_lf))) (pT_nd pc61 (pT_nd pc93 (pT_nd pc157 pT_lf pT_lf) (pT_nd pc221 pT_lf pT_lf)) (pT_nd pc125 (pT_nd pc189 pT_lf pT_lf) (pT_nd pc253 pT_lf pT_lf))))))) (pT_nd pc2 (pT_nd pc4 (pT_nd pc8 (pT_nd pc16 (pT_nd pc32 (pT_nd pc64 (pT_nd pc128 (pT_nd pc256 pT_lf pT_lf) pT_lf) (pT_nd pc192 pT_lf pT_lf)) (pT_nd pc96 (pT_nd pc160 pT_lf pT_lf) (pT_nd pc224 pT_lf pT_lf))) (pT_nd pc48 (pT_nd pc80 (pT_nd pc144 pT_lf pT_lf) (pT_nd pc208 pT_lf pT_lf)) (pT_nd pc112 (pT_nd pc176 pT_lf pT_lf) (pT_nd pc240 pT_lf pT_lf)))) (pT_nd pc24 (pT_nd pc40 (pT_nd pc72 (pT_nd pc136 (pT_nd pc264 pT_lf pT_lf) pT_lf) (pT_nd pc200 pT_lf pT_lf)) (pT_nd pc104 (pT_nd pc168 (pT_nd pc296 pT_lf pT_lf) pT_lf) (pT_nd pc232 pT_lf pT_lf))) (pT_nd pc56 (pT_nd pc88 (pT_nd pc152 pT_lf pT_lf) (pT_nd pc216 pT_lf pT_lf)) (pT_nd pc120 (pT_nd pc184 pT_lf pT_lf) (pT_nd pc248 pT_lf pT_lf))))) (pT_nd pc12 (pT_nd pc20 (pT_nd pc36 (pT_nd pc68 (pT_nd pc132 (pT_nd pc260 pT_lf pT_lf) pT_lf) (pT_nd pc196 pT_lf pT_lf)) (pT_nd pc100 (pT_nd pc164 pT_lf pT_lf) (pT_nd pc228 pT_lf pT_lf))) (pT_nd pc52 (pT_nd pc84 (pT_nd pc148 pT_lf pT_lf) (pT_nd pc212 pT_lf pT_lf)) (pT_nd pc116 (pT_nd pc180 pT_lf pT_lf) pT_lf))) (pT_nd pc28 (pT_nd pc44 (pT_nd pc76 (pT_nd pc140 pT_lf pT_lf) (pT_nd pc204 pT_lf pT_lf)) (pT_nd pc108 (pT_nd pc172 pT_lf pT_lf) (pT_nd pc236 pT_lf pT_lf))) (pT_nd pc60 (pT_nd pc92 (pT_nd pc156 pT_lf pT_lf) pT_lf) (pT_nd pc124 (pT_nd pc188 pT_lf pT_lf) (pT_nd pc252 pT_lf pT_lf)))))) (pT_nd pc6 (pT_nd pc10 (pT_nd pc18 (pT_nd pc34 (pT_nd pc66 (pT_nd pc130 pT_lf pT_lf) (pT_nd pc194 pT_lf pT_lf)) (pT_nd pc98 (pT_nd pc162 pT_lf pT_lf) (pT_nd pc226 pT_lf pT_lf))) (pT_nd pc50 (pT_nd pc82 (pT_nd pc146 pT_lf pT_lf) (pT_nd pc210 pT_lf pT_lf)) (pT_nd pc114 (pT_nd pc178 pT_lf pT_lf) (pT_nd pc242 pT_lf pT_lf)))) (pT_nd pc26 (pT_nd pc42 (pT_nd pc74 (pT_nd pc138 (pT_nd pc266 pT_lf pT_lf) pT_lf) (pT_nd pc202 pT_lf pT_lf)) (pT_nd pc106 (pT_nd pc170 pT_lf pT_lf) (pT_nd pc234 pT_lf pT_lf))) (pT_nd pc58 (pT_nd pc90 (pT_nd pc154 pT_lf pT_lf) (pT_nd pc218 pT_lf pT_lf)) (pT_nd pc122 (pT_nd pc186 pT_lf pT_lf) (pT_nd pc250 pT_lf pT_lf))))) (pT_nd pc14 (pT_nd pc22 (pT_nd pc38 (pT_nd pc70 (pT_nd pc134 (pT_nd pc262 pT_lf pT_lf) pT_lf) (pT_nd pc198 pT_lf pT_lf)) (pT_nd pc102 (pT_nd pc166 pT_lf pT_lf) (pT_nd pc230 pT_lf pT_lf))) (pT_nd pc54 (pT_nd pc86 (pT_nd pc150 pT_lf pT_lf) (pT_nd pc214 pT_lf pT_lf)) (pT_nd pc118 (pT_nd pc182 pT_lf pT_lf) (pT_nd pc246 pT_lf pT_lf)))) (pT_nd pc30 (pT_nd pc46 (pT_nd pc78 (pT_nd pc142 pT_lf pT_lf) (pT_nd pc206 pT_lf pT_lf)) (pT_nd pc110 (pT_nd pc174 pT_lf pT_lf) (pT_nd pc238 pT_lf pT_lf))) (pT_nd pc62 (pT_nd pc94 (pT_nd pc158 pT_lf pT_lf) (pT_nd pc222 pT_lf pT_lf)) (pT_nd pc126 (pT_nd pc190 pT_lf pT_lf) (pT_nd pc254 pT_lf pT_lf))))))))
end Go.Ev
