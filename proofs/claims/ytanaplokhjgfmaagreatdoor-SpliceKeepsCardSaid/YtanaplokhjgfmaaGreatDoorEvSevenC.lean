/- Part of an evaluator of calls that is proved sound, and of what it gives about this program. No condition of its own. -/
import Derived.Test.YtanaplokhjgfmaaGreatDoorEvSeven
set_option linter.unusedVariables false
set_option linter.unusedSimpArgs false
set_option linter.unusedSectionVars false
set_option maxRecDepth 1000000
namespace Go.Ev
open Go.Proofs
theorem pc4 : pcO Tryz.prog TPl 4 (some Tryz.f4) = true := by kernel_rfl
theorem pc8 : pcO Tryz.prog TPl 8 (some Tryz.f8) = true := by kernel_rfl
theorem pc12 : pcO Tryz.prog TPl 12 (some Tryz.f12) = true := by kernel_rfl
theorem pc16 : pcO Tryz.prog TPl 16 (some Tryz.f16) = true := by kernel_rfl
theorem pc20 : pcO Tryz.prog TPl 20 (some Tryz.f20) = true := by kernel_rfl
theorem pc24 : pcO Tryz.prog TPl 24 (some Tryz.f24) = true := by kernel_rfl
theorem pc28 : pcO Tryz.prog TPl 28 (some Tryz.f28) = true := by kernel_rfl
theorem pc32 : pcO Tryz.prog TPl 32 (some Tryz.f32) = true := by kernel_rfl
theorem pc36 : pcO Tryz.prog TPl 36 (some Tryz.f36) = true := by kernel_rfl
theorem pc40 : pcO Tryz.prog TPl 40 (some Tryz.f40) = true := by kernel_rfl
theorem pc44 : pcO Tryz.prog TPl 44 (some Tryz.f44) = true := by kernel_rfl
theorem pc48 : pcO Tryz.prog TPl 48 (some Tryz.f48) = true := by kernel_rfl
theorem pc52 : pcO Tryz.prog TPl 52 (some Tryz.f52) = true := by kernel_rfl
theorem pc56 : pcO Tryz.prog TPl 56 (some Tryz.f56) = true := by kernel_rfl
theorem pc60 : pcO Tryz.prog TPl 60 (some Tryz.f60) = true := by kernel_rfl
theorem pc64 : pcO Tryz.prog TPl 64 (some Tryz.f64) = true := by kernel_rfl
theorem pc68 : pcO Tryz.prog TPl 68 (some Tryz.f68) = true := by kernel_rfl
theorem pc72 : pcO Tryz.prog TPl 72 (some Tryz.f72) = true := by kernel_rfl
theorem pc76 : pcO Tryz.prog TPl 76 (some Tryz.f76) = true := by kernel_rfl
theorem pc80 : pcO Tryz.prog TPl 80 (some Tryz.f80) = true := by kernel_rfl
theorem pc84 : pcO Tryz.prog TPl 84 (some Tryz.f84) = true := by kernel_rfl
theorem pc88 : pcO Tryz.prog TPl 88 (some Tryz.f88) = true := by kernel_rfl
theorem pc92 : pcO Tryz.prog TPl 92 (some Tryz.f92) = true := by kernel_rfl
theorem pc96 : pcO Tryz.prog TPl 96 (some Tryz.f96) = true := by kernel_rfl
theorem pc100 : pcO Tryz.prog TPl 100 (some Tryz.f100) = true := by kernel_rfl
theorem pc104 : pcO Tryz.prog TPl 104 (some Tryz.f104) = true := by kernel_rfl
theorem pc108 : pcO Tryz.prog TPl 108 (some Tryz.f108) = true := by kernel_rfl
theorem pc112 : pcO Tryz.prog TPl 112 (some Tryz.f112) = true := by kernel_rfl
theorem pc116 : pcO Tryz.prog TPl 116 (some Tryz.f116) = true := by kernel_rfl
theorem pc120 : pcO Tryz.prog TPl 120 (some Tryz.f120) = true := by kernel_rfl
theorem pc124 : pcO Tryz.prog TPl 124 (some Tryz.f124) = true := by kernel_rfl
theorem pc128 : pcO Tryz.prog TPl 128 (some Tryz.f128) = true := by kernel_rfl
theorem pc132 : pcO Tryz.prog TPl 132 (some Tryz.f132) = true := by kernel_rfl
theorem pc136 : pcO Tryz.prog TPl 136 (some Tryz.f136) = true := by kernel_rfl
theorem pc140 : pcO Tryz.prog TPl 140 (some Tryz.f140) = true := by kernel_rfl
theorem pc144 : pcO Tryz.prog TPl 144 (some Tryz.f144) = true := by kernel_rfl
theorem pc148 : pcO Tryz.prog TPl 148 (some Tryz.f148) = true := by kernel_rfl
theorem pc152 : pcO Tryz.prog TPl 152 (some Tryz.f152) = true := by kernel_rfl
theorem pc156 : pcO Tryz.prog TPl 156 (some Tryz.f156) = true := by kernel_rfl
theorem pc160 : pcO Tryz.prog TPl 160 (some Tryz.f160) = true := by kernel_rfl
theorem pc164 : pcO Tryz.prog TPl 164 (some Tryz.f164) = true := by kernel_rfl
theorem pc168 : pcO Tryz.prog TPl 168 (some Tryz.f168) = true := by kernel_rfl
theorem pc172 : pcO Tryz.prog TPl 172 (some Tryz.f172) = true := by kernel_rfl
theorem pc176 : pcO Tryz.prog TPl 176 (some Tryz.f176) = true := by kernel_rfl
theorem pc180 : pcO Tryz.prog TPl 180 (some Tryz.f180) = true := by kernel_rfl
theorem pc184 : pcO Tryz.prog TPl 184 (some Tryz.f184) = true := by kernel_rfl
theorem pc188 : pcO Tryz.prog TPl 188 (some Tryz.f188) = true := by kernel_rfl
theorem pc192 : pcO Tryz.prog TPl 192 (some Tryz.f192) = true := by kernel_rfl
theorem pc196 : pcO Tryz.prog TPl 196 (some Tryz.f196) = true := by kernel_rfl
theorem pc200 : pcO Tryz.prog TPl 200 (some Tryz.f200) = true := by kernel_rfl
theorem pc204 : pcO Tryz.prog TPl 204 (some Tryz.f204) = true := by kernel_rfl
theorem pc208 : pcO Tryz.prog TPl 208 (some Tryz.f208) = true := by kernel_rfl
theorem pc212 : pcO Tryz.prog TPl 212 (some Tryz.f212) = true := by kernel_rfl
theorem pc216 : pcO Tryz.prog TPl 216 (some Tryz.f216) = true := by kernel_rfl
theorem pc221 : pcO Tryz.prog TPl 221 (some Tryz.f221) = true := by kernel_rfl
theorem pc225 : pcO Tryz.prog TPl 225 (some Tryz.f225) = true := by kernel_rfl
theorem pc229 : pcO Tryz.prog TPl 229 (some Tryz.f229) = true := by kernel_rfl
theorem pc234 : pcO Tryz.prog TPl 234 (some Tryz.f234) = true := by kernel_rfl
theorem pc238 : pcO Tryz.prog TPl 238 (some Tryz.f238) = true := by kernel_rfl
theorem pc242 : pcO Tryz.prog TPl 242 (some Tryz.f242) = true := by kernel_rfl
theorem pc247 : pcO Tryz.prog TPl 247 (some Tryz.f247) = true := by kernel_rfl
theorem pc251 : pcO Tryz.prog TPl 251 (some Tryz.f251) = true := by kernel_rfl
theorem pc255 : pcO Tryz.prog TPl 255 (some Tryz.f255) = true := by kernel_rfl
theorem pc262 : pcO Tryz.prog TPl 262 (some Tryz.f262) = true := by kernel_rfl
theorem pc266 : pcO Tryz.prog TPl 266 (some Tryz.f266) = true := by kernel_rfl
end Go.Ev
