/- Part of an evaluator of calls that is proved sound, and of what it gives about this program. No condition of its own. -/
import Derived.Test.YthiodbpknjfnkaaGreatDoorEvJ2
set_option linter.unusedVariables false
set_option linter.unusedSimpArgs false
set_option maxRecDepth 1000000
namespace Go.Ev
open Go.Proofs
theorem kCM_0_1_1 : (mCM 0 1 1).Ok Tryz.prog noGl := memo_ok TF_ok Onone_ok mixed TPl_ok 100000 (by kernel_rfl) (by kernel_rfl)
theorem kCM_0_1_5 : (mCM 0 1 5).Ok Tryz.prog noGl := memo_ok TF_ok Onone_ok mixed TPl_ok 100000 (by kernel_rfl) (by kernel_rfl)
theorem kCM_0_1_9 : (mCM 0 1 9).Ok Tryz.prog noGl := memo_ok TF_ok Onone_ok mixed TPl_ok 100000 (by kernel_rfl) (by kernel_rfl)
theorem kCM_1_1_1 : (mCM 1 1 1).Ok Tryz.prog noGl := memo_ok TF_ok Onone_ok mixed TPl_ok 100000 (by kernel_rfl) (by kernel_rfl)
theorem kCM_1_1_5 : (mCM 1 1 5).Ok Tryz.prog noGl := memo_ok TF_ok Onone_ok mixed TPl_ok 100000 (by kernel_rfl) (by kernel_rfl)
theorem kCM_1_1_9 : (mCM 1 1 9).Ok Tryz.prog noGl := memo_ok TF_ok Onone_ok mixed TPl_ok 100000 (by kernel_rfl) (by kernel_rfl)
theorem kCM_1_2_2 : (mCM 1 2 2).Ok Tryz.prog noGl := memo_ok TF_ok Onone_ok mixed TPl_ok 100000 (by kernel_rfl) (by kernel_rfl)
theorem kCM_1_2_6 : (mCM 1 2 6).Ok Tryz.prog noGl := memo_ok TF_ok Onone_ok mixed TPl_ok 100000 (by kernel_rfl) (by kernel_rfl)
theorem kCM_1_2_10 : (mCM 1 2 10).Ok Tryz.prog noGl := memo_ok TF_ok Onone_ok mixed TPl_ok 100000 (by kernel_rfl) (by kernel_rfl)
theorem kCM_1_3_4 : (mCM 1 3 4).Ok Tryz.prog noGl := memo_ok TF_ok Onone_ok mixed TPl_ok 100000 (by kernel_rfl) (by kernel_rfl)
theorem kCM_1_3_8 : (mCM 1 3 8).Ok Tryz.prog noGl := memo_ok TF_ok Onone_ok mixed TPl_ok 100000 (by kernel_rfl) (by kernel_rfl)
theorem kCM_1_4_3 : (mCM 1 4 3).Ok Tryz.prog noGl := memo_ok TF_ok Onone_ok mixed TPl_ok 100000 (by kernel_rfl) (by kernel_rfl)
theorem kCM_1_4_7 : (mCM 1 4 7).Ok Tryz.prog noGl := memo_ok TF_ok Onone_ok mixed TPl_ok 100000 (by kernel_rfl) (by kernel_rfl)
theorem kCM_1_5_3 : (mCM 1 5 3).Ok Tryz.prog noGl := memo_ok TF_ok Onone_ok mixed TPl_ok 100000 (by kernel_rfl) (by kernel_rfl)
theorem kCM_1_5_7 : (mCM 1 5 7).Ok Tryz.prog noGl := memo_ok TF_ok Onone_ok mixed TPl_ok 100000 (by kernel_rfl) (by kernel_rfl)
theorem kCM_1_6_4 : (mCM 1 6 4).Ok Tryz.prog noGl := memo_ok TF_ok Onone_ok mixed TPl_ok 100000 (by kernel_rfl) (by kernel_rfl)
theorem kCM_1_7_1 : (mCM 1 7 1).Ok Tryz.prog noGl := memo_ok TF_ok Onone_ok mixed TPl_ok 100000 (by kernel_rfl) (by kernel_rfl)
theorem kCM_1_7_5 : (mCM 1 7 5).Ok Tryz.prog noGl := memo_ok TF_ok Onone_ok mixed TPl_ok 100000 (by kernel_rfl) (by kernel_rfl)
theorem kCM_1_8_4 : (mCM 1 8 4).Ok Tryz.prog noGl := memo_ok TF_ok Onone_ok mixed TPl_ok 100000 (by kernel_rfl) (by kernel_rfl)
theorem kCM_1_10_1 : (mCM 1 10 1).Ok Tryz.prog noGl := memo_ok TF_ok Onone_ok mixed TPl_ok 100000 (by kernel_rfl) (by kernel_rfl)
theorem kCM_1_10_5 : (mCM 1 10 5).Ok Tryz.prog noGl := memo_ok TF_ok Onone_ok mixed TPl_ok 100000 (by kernel_rfl) (by kernel_rfl)
theorem kCM_1_12_3 : (mCM 1 12 3).Ok Tryz.prog noGl := memo_ok TF_ok Onone_ok mixed TPl_ok 100000 (by kernel_rfl) (by kernel_rfl)
theorem kCM_1_14_2 : (mCM 1 14 2).Ok Tryz.prog noGl := memo_ok TF_ok Onone_ok mixed TPl_ok 100000 (by kernel_rfl) (by kernel_rfl)
theorem kCM_1_15_3 : (mCM 1 15 3).Ok Tryz.prog noGl := memo_ok TF_ok Onone_ok mixed TPl_ok 100000 (by kernel_rfl) (by kernel_rfl)
theorem kCM_1_20_2 : (mCM 1 20 2).Ok Tryz.prog noGl := memo_ok TF_ok Onone_ok mixed TPl_ok 100000 (by kernel_rfl) (by kernel_rfl)
theorem kCM_1_24_1 : (mCM 1 24 1).Ok Tryz.prog noGl := memo_ok TF_ok Onone_ok mixed TPl_ok 100000 (by kernel_rfl) (by kernel_rfl)
end Go.Ev
