/- Part of an evaluator of calls that is proved sound, and of what it gives about this program. No condition of its own. -/
import Derived.Test.YthiodbpknjfnkaaGreatDoorEvJ2
set_option linter.unusedVariables false
set_option linter.unusedSimpArgs false
set_option maxRecDepth 1000000
namespace Go.Ev
open Go.Proofs
theorem kCM_0_1_3 : (mCM 0 1 3).Ok Tryz.prog noGl := memo_ok TF_ok Onone_ok mixed TPl_ok 100000 (by kernel_rfl) (by kernel_rfl)
theorem kCM_0_1_7 : (mCM 0 1 7).Ok Tryz.prog noGl := memo_ok TF_ok Onone_ok mixed TPl_ok 100000 (by kernel_rfl) (by kernel_rfl)
theorem kCM_0_1_11 : (mCM 0 1 11).Ok Tryz.prog noGl := memo_ok TF_ok Onone_ok mixed TPl_ok 100000 (by kernel_rfl) (by kernel_rfl)
theorem kCM_1_1_3 : (mCM 1 1 3).Ok Tryz.prog noGl := memo_ok TF_ok Onone_ok mixed TPl_ok 100000 (by kernel_rfl) (by kernel_rfl)
theorem kCM_1_1_7 : (mCM 1 1 7).Ok Tryz.prog noGl := memo_ok TF_ok Onone_ok mixed TPl_ok 100000 (by kernel_rfl) (by kernel_rfl)
theorem kCM_1_1_11 : (mCM 1 1 11).Ok Tryz.prog noGl := memo_ok TF_ok Onone_ok mixed TPl_ok 100000 (by kernel_rfl) (by kernel_rfl)
theorem kCM_1_2_4 : (mCM 1 2 4).Ok Tryz.prog noGl := memo_ok TF_ok Onone_ok mixed TPl_ok 100000 (by kernel_rfl) (by kernel_rfl)
theorem kCM_1_2_8 : (mCM 1 2 8).Ok Tryz.prog noGl := memo_ok TF_ok Onone_ok mixed TPl_ok 100000 (by kernel_rfl) (by kernel_rfl)
theorem kCM_1_3_2 : (mCM 1 3 2).Ok Tryz.prog noGl := memo_ok TF_ok Onone_ok mixed TPl_ok 100000 (by kernel_rfl) (by kernel_rfl)
theorem kCM_1_3_6 : (mCM 1 3 6).Ok Tryz.prog noGl := memo_ok TF_ok Onone_ok mixed TPl_ok 100000 (by kernel_rfl) (by kernel_rfl)
theorem kCM_1_4_1 : (mCM 1 4 1).Ok Tryz.prog noGl := memo_ok TF_ok Onone_ok mixed TPl_ok 100000 (by kernel_rfl) (by kernel_rfl)
theorem kCM_1_4_5 : (mCM 1 4 5).Ok Tryz.prog noGl := memo_ok TF_ok Onone_ok mixed TPl_ok 100000 (by kernel_rfl) (by kernel_rfl)
theorem kCM_1_5_1 : (mCM 1 5 1).Ok Tryz.prog noGl := memo_ok TF_ok Onone_ok mixed TPl_ok 100000 (by kernel_rfl) (by kernel_rfl)
theorem kCM_1_5_5 : (mCM 1 5 5).Ok Tryz.prog noGl := memo_ok TF_ok Onone_ok mixed TPl_ok 100000 (by kernel_rfl) (by kernel_rfl)
theorem kCM_1_6_2 : (mCM 1 6 2).Ok Tryz.prog noGl := memo_ok TF_ok Onone_ok mixed TPl_ok 100000 (by kernel_rfl) (by kernel_rfl)
theorem kCM_1_6_6 : (mCM 1 6 6).Ok Tryz.prog noGl := memo_ok TF_ok Onone_ok mixed TPl_ok 100000 (by kernel_rfl) (by kernel_rfl)
theorem kCM_1_7_3 : (mCM 1 7 3).Ok Tryz.prog noGl := memo_ok TF_ok Onone_ok mixed TPl_ok 100000 (by kernel_rfl) (by kernel_rfl)
theorem kCM_1_8_2 : (mCM 1 8 2).Ok Tryz.prog noGl := memo_ok TF_ok Onone_ok mixed TPl_ok 100000 (by kernel_rfl) (by kernel_rfl)
theorem kCM_1_9_2 : (mCM 1 9 2).Ok Tryz.prog noGl := memo_ok TF_ok Onone_ok mixed TPl_ok 100000 (by kernel_rfl) (by kernel_rfl)
theorem kCM_1_10_3 : (mCM 1 10 3).Ok Tryz.prog noGl := memo_ok TF_ok Onone_ok mixed TPl_ok 100000 (by kernel_rfl) (by kernel_rfl)
theorem kCM_1_12_1 : (mCM 1 12 1).Ok Tryz.prog noGl := memo_ok TF_ok Onone_ok mixed TPl_ok 100000 (by kernel_rfl) (by kernel_rfl)
theorem kCM_1_12_5 : (mCM 1 12 5).Ok Tryz.prog noGl := memo_ok TF_ok Onone_ok mixed TPl_ok 100000 (by kernel_rfl) (by kernel_rfl)
theorem kCM_1_15_1 : (mCM 1 15 1).Ok Tryz.prog noGl := memo_ok TF_ok Onone_ok mixed TPl_ok 100000 (by kernel_rfl) (by kernel_rfl)
theorem kCM_1_18_1 : (mCM 1 18 1).Ok Tryz.prog noGl := memo_ok TF_ok Onone_ok mixed TPl_ok 100000 (by kernel_rfl) (by kernel_rfl)
theorem kCM_1_21_1 : (mCM 1 21 1).Ok Tryz.prog noGl := memo_ok TF_ok Onone_ok mixed TPl_ok 100000 (by kernel_rfl) (by kernel_rfl)
theorem kCM_1_30_1 : (mCM 1 30 1).Ok Tryz.prog noGl := memo_ok TF_ok Onone_ok mixed TPl_ok 100000 (by kernel_rfl) (by kernel_rfl)
end Go.Ev
