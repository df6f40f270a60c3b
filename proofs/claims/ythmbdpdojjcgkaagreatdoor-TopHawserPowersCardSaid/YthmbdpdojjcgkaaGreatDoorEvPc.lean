/- Part of an evaluator of calls that is proved sound, and of what it gives about this program. No condition of its own. -/
import Derived.Test.YthmbdpdojjcgkaaGreatDoorEvPa
set_option linter.unusedVariables false
set_option linter.unusedSimpArgs false
set_option linter.unusedSectionVars false
set_option maxRecDepth 1000000
namespace Go.Ev
open Go.Proofs
theorem kCM_0_1_8 : (mCM 0 1 8).Ok Tryz.prog noGl := memo_ok TF_ok Onone_ok mixed TPl_ok 100000 (by kernel_rfl) (by kernel_rfl)
theorem kCM_0_1_16 : (mCM 0 1 16).Ok Tryz.prog noGl := memo_ok TF_ok Onone_ok mixed TPl_ok 100000 (by kernel_rfl) (by kernel_rfl)
theorem kCM_0_1_24 : (mCM 0 1 24).Ok Tryz.prog noGl := memo_ok TF_ok Onone_ok mixed TPl_ok 100000 (by kernel_rfl) (by kernel_rfl)
theorem kCM_0_1_32 : (mCM 0 1 32).Ok Tryz.prog noGl := memo_ok TF_ok Onone_ok mixed TPl_ok 100000 (by kernel_rfl) (by kernel_rfl)
theorem kCM_1_4_8 : (mCM 1 4 8).Ok Tryz.prog noGl := memo_ok TF_ok Onone_ok mixed TPl_ok 100000 (by kernel_rfl) (by kernel_rfl)
theorem kCM_1_4_16 : (mCM 1 4 16).Ok Tryz.prog noGl := memo_ok TF_ok Onone_ok mixed TPl_ok 100000 (by kernel_rfl) (by kernel_rfl)
theorem kCM_1_4_24 : (mCM 1 4 24).Ok Tryz.prog noGl := memo_ok TF_ok Onone_ok mixed TPl_ok 100000 (by kernel_rfl) (by kernel_rfl)
theorem kCM_1_8_4 : (mCM 1 8 4).Ok Tryz.prog noGl := memo_ok TF_ok Onone_ok mixed TPl_ok 100000 (by kernel_rfl) (by kernel_rfl)
theorem kCM_1_8_12 : (mCM 1 8 12).Ok Tryz.prog noGl := memo_ok TF_ok Onone_ok mixed TPl_ok 100000 (by kernel_rfl) (by kernel_rfl)
theorem kCM_1_8_20 : (mCM 1 8 20).Ok Tryz.prog noGl := memo_ok TF_ok Onone_ok mixed TPl_ok 100000 (by kernel_rfl) (by kernel_rfl)
theorem kCM_1_12_4 : (mCM 1 12 4).Ok Tryz.prog noGl := memo_ok TF_ok Onone_ok mixed TPl_ok 100000 (by kernel_rfl) (by kernel_rfl)
theorem kCM_1_12_12 : (mCM 1 12 12).Ok Tryz.prog noGl := memo_ok TF_ok Onone_ok mixed TPl_ok 100000 (by kernel_rfl) (by kernel_rfl)
theorem kCM_1_12_20 : (mCM 1 12 20).Ok Tryz.prog noGl := memo_ok TF_ok Onone_ok mixed TPl_ok 100000 (by kernel_rfl) (by kernel_rfl)
theorem kCM_1_16_8 : (mCM 1 16 8).Ok Tryz.prog noGl := memo_ok TF_ok Onone_ok mixed TPl_ok 100000 (by kernel_rfl) (by kernel_rfl)
theorem kCM_1_16_16 : (mCM 1 16 16).Ok Tryz.prog noGl := memo_ok TF_ok Onone_ok mixed TPl_ok 100000 (by kernel_rfl) (by kernel_rfl)
theorem kCM_1_20_8 : (mCM 1 20 8).Ok Tryz.prog noGl := memo_ok TF_ok Onone_ok mixed TPl_ok 100000 (by kernel_rfl) (by kernel_rfl)
theorem kCM_1_24_4 : (mCM 1 24 4).Ok Tryz.prog noGl := memo_ok TF_ok Onone_ok mixed TPl_ok 100000 (by kernel_rfl) (by kernel_rfl)
theorem kCM_1_24_12 : (mCM 1 24 12).Ok Tryz.prog noGl := memo_ok TF_ok Onone_ok mixed TPl_ok 100000 (by kernel_rfl) (by kernel_rfl)
theorem kCM_1_40_4 : (mCM 1 40 4).Ok Tryz.prog noGl := memo_ok TF_ok Onone_ok mixed TPl_ok 100000 (by kernel_rfl) (by kernel_rfl)
end Go.Ev
