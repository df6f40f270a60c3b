/- Part of an evaluator of calls that is proved sound, and of what it gives about this program. No condition of its own. -/
import Derived.Test.YthiodbpknjfnkaaGreatDoorEvJ2
set_option linter.unusedVariables false
set_option linter.unusedSimpArgs false
set_option maxRecDepth 1000000
namespace Go.Ev
open Go.Proofs
theorem kCM_0_1_2 : (mCM 0 1 2).Ok Tryz.prog noGl := memo_ok TF_ok Onone_ok mixed TPl_ok 100000 (by kernel_rfl) (by kernel_rfl)
theorem kCM_0_1_6 : (mCM 0 1 6).Ok Tryz.prog noGl := memo_ok TF_ok Onone_ok mixed TPl_ok 100000 (by kernel_rfl) (by kernel_rfl)
theorem kCM_0_1_10 : (mCM 0 1 10).Ok Tryz.prog noGl := memo_ok TF_ok Onone_ok mixed TPl_ok 100000 (by kernel_rfl) (by kernel_rfl)
theorem kCM_1_1_2 : (mCM 1 1 2).Ok Tryz.prog noGl := memo_ok TF_ok Onone_ok mixed TPl_ok 100000 (by kernel_rfl) (by kernel_rfl)
theorem kCM_1_1_6 : (mCM 1 1 6).Ok Tryz.prog noGl := memo_ok TF_ok Onone_ok mixed TPl_ok 100000 (by kernel_rfl) (by kernel_rfl)
theorem kCM_1_1_10 : (mCM 1 1 10).Ok Tryz.prog noGl := memo_ok TF_ok Onone_ok mixed TPl_ok 100000 (by kernel_rfl) (by kernel_rfl)
theorem kCM_1_2_3 : (mCM 1 2 3).Ok Tryz.prog noGl := memo_ok TF_ok Onone_ok mixed TPl_ok 100000 (by kernel_rfl) (by kernel_rfl)
theorem kCM_1_2_7 : (mCM 1 2 7).Ok Tryz.prog noGl := memo_ok TF_ok Onone_ok mixed TPl_ok 100000 (by kernel_rfl) (by kernel_rfl)
theorem kCM_1_3_1 : (mCM 1 3 1).Ok Tryz.prog noGl := memo_ok TF_ok Onone_ok mixed TPl_ok 100000 (by kernel_rfl) (by kernel_rfl)
theorem kCM_1_3_5 : (mCM 1 3 5).Ok Tryz.prog noGl := memo_ok TF_ok Onone_ok mixed TPl_ok 100000 (by kernel_rfl) (by kernel_rfl)
theorem kCM_1_3_9 : (mCM 1 3 9).Ok Tryz.prog noGl := memo_ok TF_ok Onone_ok mixed TPl_ok 100000 (by kernel_rfl) (by kernel_rfl)
theorem kCM_1_4_4 : (mCM 1 4 4).Ok Tryz.prog noGl := memo_ok TF_ok Onone_ok mixed TPl_ok 100000 (by kernel_rfl) (by kernel_rfl)
theorem kCM_1_4_8 : (mCM 1 4 8).Ok Tryz.prog noGl := memo_ok TF_ok Onone_ok mixed TPl_ok 100000 (by kernel_rfl) (by kernel_rfl)
theorem kCM_1_5_4 : (mCM 1 5 4).Ok Tryz.prog noGl := memo_ok TF_ok Onone_ok mixed TPl_ok 100000 (by kernel_rfl) (by kernel_rfl)
theorem kCM_1_6_1 : (mCM 1 6 1).Ok Tryz.prog noGl := memo_ok TF_ok Onone_ok mixed TPl_ok 100000 (by kernel_rfl) (by kernel_rfl)
theorem kCM_1_6_5 : (mCM 1 6 5).Ok Tryz.prog noGl := memo_ok TF_ok Onone_ok mixed TPl_ok 100000 (by kernel_rfl) (by kernel_rfl)
theorem kCM_1_7_2 : (mCM 1 7 2).Ok Tryz.prog noGl := memo_ok TF_ok Onone_ok mixed TPl_ok 100000 (by kernel_rfl) (by kernel_rfl)
theorem kCM_1_8_1 : (mCM 1 8 1).Ok Tryz.prog noGl := memo_ok TF_ok Onone_ok mixed TPl_ok 100000 (by kernel_rfl) (by kernel_rfl)
theorem kCM_1_9_1 : (mCM 1 9 1).Ok Tryz.prog noGl := memo_ok TF_ok Onone_ok mixed TPl_ok 100000 (by kernel_rfl) (by kernel_rfl)
theorem kCM_1_10_2 : (mCM 1 10 2).Ok Tryz.prog noGl := memo_ok TF_ok Onone_ok mixed TPl_ok 100000 (by kernel_rfl) (by kernel_rfl)
theorem kCM_1_11_1 : (mCM 1 11 1).Ok Tryz.prog noGl := memo_ok TF_ok Onone_ok mixed TPl_ok 100000 (by kernel_rfl) (by kernel_rfl)
theorem kCM_1_12_4 : (mCM 1 12 4).Ok Tryz.prog noGl := memo_ok TF_ok Onone_ok mixed TPl_ok 100000 (by kernel_rfl) (by kernel_rfl)
theorem kCM_1_14_3 : (mCM 1 14 3).Ok Tryz.prog noGl := memo_ok TF_ok Onone_ok mixed TPl_ok 100000 (by kernel_rfl) (by kernel_rfl)
theorem kCM_1_15_4 : (mCM 1 15 4).Ok Tryz.prog noGl := memo_ok TF_ok Onone_ok mixed TPl_ok 100000 (by kernel_rfl) (by kernel_rfl)
theorem kCM_1_20_3 : (mCM 1 20 3).Ok Tryz.prog noGl := memo_ok TF_ok Onone_ok mixed TPl_ok 100000 (by kernel_rfl) (by kernel_rfl)
theorem kCM_1_28_1 : (mCM 1 28 1).Ok Tryz.prog noGl := memo_ok TF_ok Onone_ok mixed TPl_ok 100000 (by kernel_rfl) (by kernel_rfl)
end Go.Ev
