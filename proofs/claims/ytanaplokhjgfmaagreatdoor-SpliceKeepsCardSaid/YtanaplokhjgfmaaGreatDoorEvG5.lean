/- Part of an evaluator of calls that is proved sound, and of what it gives about this program. No condition of its own. -/
import Derived.Test.YtanaplokhjgfmaaGreatDoorEvG3
set_option linter.unusedVariables false
set_option linter.unusedSimpArgs false
set_option linter.unusedSectionVars false
set_option maxRecDepth 1000000
namespace Go.Ev
open Go.Proofs Go.Shelf
def e42 : Memo := ⟨38, 2, [(.agg [(.v (.int .i64 3)), (.v (.int .i64 1)), (.v (.int .i64 1)), (.v (.int .i64 2)), (.v (.int .i64 1))]), (.agg [(.slu 0 0 3 1), (.slu 1 0 3 1)]), (.v (.int .i64 1))], [(0, 1, 0), (0, 1, 1)], [(.cells [(.v (.int .i64 3)), (.v (.int .i64 3)), (.v (.int .i64 3))] 3 1), (.cells [(.v (.int .i64 0)), (.v (.int .i64 1)), (.v (.int .i64 2))] 3 1)], (.tup [(.v (.string ⟨#[53, 47, 50]⟩)), (.v (.int .i64 0))]), 124, []⟩
theorem e42_ok : e42.Ok Tryz.prog noGl := memo_ok TF_ok O4_ok mixed TPl_ok 100000 (by kernel_rfl) (by kernel_rfl)
def e54 : Memo := ⟨193, 0, [(.v (.string ⟨#[49, 47, 50]⟩))], [], [], (.v (.int .i64 0)), 18, []⟩
theorem e54_ok : e54.Ok Tryz.prog noGl := memo_ok TF_ok O4_ok mixed TPl_ok 100000 (by kernel_rfl) (by kernel_rfl)
def e65 : Memo := ⟨193, 0, [(.v (.string ⟨#[52, 47, 53]⟩))], [], [], (.v (.int .i64 0)), 18, []⟩
theorem e65_ok : e65.Ok Tryz.prog noGl := memo_ok TF_ok O4_ok mixed TPl_ok 100000 (by kernel_rfl) (by kernel_rfl)
def e83 : Memo := ⟨193, 0, [(.v (.string ⟨#[57, 47, 49, 48]⟩))], [], [], (.v (.int .i64 0)), 18, []⟩
theorem e83_ok : e83.Ok Tryz.prog noGl := memo_ok TF_ok O4_ok mixed TPl_ok 100000 (by kernel_rfl) (by kernel_rfl)
def e95 : Memo := ⟨194, 0, [(.v (.string ⟨#[52, 47, 53]⟩)), (.v (.string ⟨#[49]⟩))], [], [], (.tup [(.agg [(.v (.bool false)), (.slc 9 0 1 2), (.slc 15 0 1 2)]), (.agg [(.v (.bool false)), (.slc 26 0 1 2), (.slc 32 0 1 2)]), (.v (.int .i64 0))]), 38, [(9, (.cells [(.v (.int .u64 4)), (.v (.int .u64 0))] 233 0)), (15, (.cells [(.v (.int .u64 5)), (.v (.int .u64 0))] 233 0)), (26, (.cells [(.v (.int .u64 1)), (.v (.int .u64 0))] 233 0)), (32, (.cells [(.v (.int .u64 1)), (.v (.int .u64 0))] 233 0))]⟩
theorem e95_ok : e95.Ok Tryz.prog noGl := memo_ok TF_ok O4_ok mixed TPl_ok 100000 (by kernel_rfl) (by kernel_rfl)
def e102 : Memo := ⟨194, 0, [(.v (.string ⟨#[52, 47, 53]⟩)), (.v (.string ⟨#[48]⟩))], [], [], (.tup [(.agg [(.v (.bool false)), (.slc 9 0 1 2), (.slc 15 0 1 2)]), (.agg [(.v (.bool false)), (.slc 26 0 0 1), (.slc 32 0 1 2)]), (.v (.int .i64 0))]), 36, [(9, (.cells [(.v (.int .u64 4)), (.v (.int .u64 0))] 233 0)), (15, (.cells [(.v (.int .u64 5)), (.v (.int .u64 0))] 233 0)), (26, (.cells [(.v (.int .u64 0))] 233 0)), (32, (.cells [(.v (.int .u64 1)), (.v (.int .u64 0))] 233 0))]⟩
theorem e102_ok : e102.Ok Tryz.prog noGl := memo_ok TF_ok O4_ok mixed TPl_ok 100000 (by kernel_rfl) (by kernel_rfl)
def e115 : Memo := ⟨194, 0, [(.v (.string ⟨#[49, 48, 48, 48]⟩)), (.v (.string ⟨#[48]⟩))], [], [], (.tup [(.agg [(.v (.bool false)), (.slc 8 0 1 2), (.slc 14 0 1 2)]), (.agg [(.v (.bool false)), (.slc 25 0 0 1), (.slc 31 0 1 2)]), (.v (.int .i64 0))]), 35, [(8, (.cells [(.v (.int .u64 1000)), (.v (.int .u64 0))] 233 0)), (14, (.cells [(.v (.int .u64 1)), (.v (.int .u64 0))] 233 0)), (25, (.cells [(.v (.int .u64 0))] 233 0)), (31, (.cells [(.v (.int .u64 1)), (.v (.int .u64 0))] 233 0))]⟩
theorem e115_ok : e115.Ok Tryz.prog noGl := memo_ok TF_ok O4_ok mixed TPl_ok 100000 (by kernel_rfl) (by kernel_rfl)
def e121 : Memo := ⟨167, 0, [(.v (.string ⟨#[49, 47, 50]⟩)), (.v (.string ⟨#[49]⟩))], [], [], (.tup [(.v (.int .i64 (-1))), (.v (.int .i64 0))]), 58, []⟩
theorem e121_ok : e121.Ok Tryz.prog noGl := memo_ok TF_ok O4_ok mixed TPl_ok 100000 (by kernel_rfl) (by kernel_rfl)
def e162 : Memo := ⟨124, 0, [(.agg [(.v (.int .i64 2)), (.v (.int .i64 4)), (.v (.int .i64 3))])], [], [], (.agg [(.v (.bool false)), (.slc 158 0 1 2), (.slc 165 0 1 2)]), 174, [(158, (.cells [(.v (.int .u64 16)), (.v (.int .u64 0))] 233 0)), (165, (.cells [(.v (.int .u64 25)), (.v (.int .u64 0))] 233 0))]⟩
theorem e162_ok : e162.Ok Tryz.prog noGl := memo_ok TF_ok O4_ok mixed TPl_ok 100000 (by kernel_rfl) (by kernel_rfl)
def e169 : Memo := ⟨194, 0, [(.v (.string ⟨#[56, 48]⟩)), (.v (.string ⟨#[48]⟩))], [], [], (.tup [(.agg [(.v (.bool false)), (.slc 8 0 1 2), (.slc 14 0 1 2)]), (.agg [(.v (.bool false)), (.slc 25 0 0 1), (.slc 31 0 1 2)]), (.v (.int .i64 0))]), 35, [(8, (.cells [(.v (.int .u64 80)), (.v (.int .u64 0))] 233 0)), (14, (.cells [(.v (.int .u64 1)), (.v (.int .u64 0))] 233 0)), (25, (.cells [(.v (.int .u64 0))] 233 0)), (31, (.cells [(.v (.int .u64 1)), (.v (.int .u64 0))] 233 0))]⟩
theorem e169_ok : e169.Ok Tryz.prog noGl := memo_ok TF_ok O4_ok mixed TPl_ok 100000 (by kernel_rfl) (by kernel_rfl)
def e176 : Memo := ⟨109, 0, [(.v (.string ⟨#[56, 48]⟩))], [], [], (.agg [(.v (.bool false)), (.slc 7 0 1 2), (.slc 13 0 1 2)]), 18, [(7, (.cells [(.v (.int .u64 80)), (.v (.int .u64 0))] 233 0)), (13, (.cells [(.v (.int .u64 1)), (.v (.int .u64 0))] 233 0))]⟩
theorem e176_ok : e176.Ok Tryz.prog noGl := memo_ok TF_ok O4_ok mixed TPl_ok 100000 (by kernel_rfl) (by kernel_rfl)
def e217 : Memo := ⟨194, 0, [(.v (.string ⟨#[53, 48]⟩)), (.v (.string ⟨#[48]⟩))], [], [], (.tup [(.agg [(.v (.bool false)), (.slc 8 0 1 2), (.slc 14 0 1 2)]), (.agg [(.v (.bool false)), (.slc 25 0 0 1), (.slc 31 0 1 2)]), (.v (.int .i64 0))]), 35, [(8, (.cells [(.v (.int .u64 50)), (.v (.int .u64 0))] 233 0)), (14, (.cells [(.v (.int .u64 1)), (.v (.int .u64 0))] 233 0)), (25, (.cells [(.v (.int .u64 0))] 233 0)), (31, (.cells [(.v (.int .u64 1)), (.v (.int .u64 0))] 233 0))]⟩
theorem e217_ok : e217.Ok Tryz.prog noGl := memo_ok TF_ok O4_ok mixed TPl_ok 100000 (by kernel_rfl) (by kernel_rfl)
def e225 : Memo := ⟨124, 0, [(.agg [(.v (.int .i64 2)), (.v (.int .i64 4)), (.v (.int .i64 0))])], [], [], (.agg [(.v (.bool false)), (.slc 128 0 1 1), (.slc 130 0 1 1)]), 133, [(128, (.cells [(.v (.int .u64 1))] 233 0)), (130, (.cells [(.v (.int .u64 1))] 233 0))]⟩
theorem e225_ok : e225.Ok Tryz.prog noGl := memo_ok TF_ok O4_ok mixed TPl_ok 100000 (by kernel_rfl) (by kernel_rfl)
def e228 : Memo := ⟨109, 0, [(.v (.string ⟨#[53, 48]⟩))], [], [], (.agg [(.v (.bool false)), (.slc 7 0 1 2), (.slc 13 0 1 2)]), 18, [(7, (.cells [(.v (.int .u64 50)), (.v (.int .u64 0))] 233 0)), (13, (.cells [(.v (.int .u64 1)), (.v (.int .u64 0))] 233 0))]⟩
theorem e228_ok : e228.Ok Tryz.prog noGl := memo_ok TF_ok O4_ok mixed TPl_ok 100000 (by kernel_rfl) (by kernel_rfl)
def e244 : Memo := ⟨124, 0, [(.agg [(.v (.int .i64 2)), (.v (.int .i64 4)), (.v (.int .i64 50001))])], [], [], (.agg [(.v (.bool false)), (.slc 158 0 1 2), (.slc 165 0 1 2)]), 174, [(158, (.cells [(.v (.int .u64 16)), (.v (.int .u64 0))] 233 0)), (165, (.cells [(.v (.int .u64 2500100017)), (.v (.int .u64 0))] 233 0))]⟩
theorem e244_ok : e244.Ok Tryz.prog noGl := memo_ok TF_ok O4_ok mixed TPl_ok 100000 (by kernel_rfl) (by kernel_rfl)
def e254 : Memo := ⟨124, 0, [(.agg [(.v (.int .i64 2)), (.v (.int .i64 4)), (.v (.int .i64 25001))])], [], [], (.agg [(.v (.bool false)), (.slc 158 0 1 2), (.slc 165 0 1 2)]), 174, [(158, (.cells [(.v (.int .u64 16)), (.v (.int .u64 0))] 233 0)), (165, (.cells [(.v (.int .u64 625050017)), (.v (.int .u64 0))] 233 0))]⟩
theorem e254_ok : e254.Ok Tryz.prog noGl := memo_ok TF_ok O4_ok mixed TPl_ok 100000 (by kernel_rfl) (by kernel_rfl)
def e264 : Memo := ⟨124, 0, [(.agg [(.v (.int .i64 2)), (.v (.int .i64 4)), (.v (.int .i64 12501))])], [], [], (.agg [(.v (.bool false)), (.slc 158 0 1 2), (.slc 165 0 1 2)]), 174, [(158, (.cells [(.v (.int .u64 16)), (.v (.int .u64 0))] 233 0)), (165, (.cells [(.v (.int .u64 156275017)), (.v (.int .u64 0))] 233 0))]⟩
theorem e264_ok : e264.Ok Tryz.prog noGl := memo_ok TF_ok O4_ok mixed TPl_ok 100000 (by kernel_rfl) (by kernel_rfl)
def e274 : Memo := ⟨124, 0, [(.agg [(.v (.int .i64 2)), (.v (.int .i64 4)), (.v (.int .i64 6251))])], [], [], (.agg [(.v (.bool false)), (.slc 158 0 1 2), (.slc 165 0 1 2)]), 174, [(158, (.cells [(.v (.int .u64 16)), (.v (.int .u64 0))] 233 0)), (165, (.cells [(.v (.int .u64 39075017)), (.v (.int .u64 0))] 233 0))]⟩
theorem e274_ok : e274.Ok Tryz.prog noGl := memo_ok TF_ok O4_ok mixed TPl_ok 100000 (by kernel_rfl) (by kernel_rfl)
def e286 : Memo := ⟨124, 0, [(.agg [(.v (.int .i64 2)), (.v (.int .i64 4)), (.v (.int .i64 3126))])], [], [], (.agg [(.v (.bool false)), (.slc 173 0 1 1), (.slc 175 0 1 1)]), 178, [(173, (.cells [(.v (.int .u64 4))] 233 0)), (175, (.cells [(.v (.int .u64 2442973))] 233 0))]⟩
theorem e286_ok : e286.Ok Tryz.prog noGl := memo_ok TF_ok O4_ok mixed TPl_ok 100000 (by kernel_rfl) (by kernel_rfl)
def e300 : Memo := ⟨124, 0, [(.agg [(.v (.int .i64 2)), (.v (.int .i64 4)), (.v (.int .i64 1563))])], [], [], (.agg [(.v (.bool false)), (.slc 158 0 1 2), (.slc 165 0 1 2)]), 174, [(158, (.cells [(.v (.int .u64 16)), (.v (.int .u64 0))] 233 0)), (165, (.cells [(.v (.int .u64 2442985)), (.v (.int .u64 0))] 233 0))]⟩
theorem e300_ok : e300.Ok Tryz.prog noGl := memo_ok TF_ok O4_ok mixed TPl_ok 100000 (by kernel_rfl) (by kernel_rfl)
def e311 : Memo := ⟨124, 0, [(.agg [(.v (.int .i64 2)), (.v (.int .i64 4)), (.v (.int .i64 782))])], [], [], (.agg [(.v (.bool false)), (.slc 173 0 1 1), (.slc 175 0 1 1)]), 178, [(173, (.cells [(.v (.int .u64 4))] 233 0)), (175, (.cells [(.v (.int .u64 152885))] 233 0))]⟩
theorem e311_ok : e311.Ok Tryz.prog noGl := memo_ok TF_ok O4_ok mixed TPl_ok 100000 (by kernel_rfl) (by kernel_rfl)
def e321 : Memo := ⟨124, 0, [(.agg [(.v (.int .i64 2)), (.v (.int .i64 4)), (.v (.int .i64 391))])], [], [], (.agg [(.v (.bool false)), (.slc 158 0 1 2), (.slc 165 0 1 2)]), 174, [(158, (.cells [(.v (.int .u64 16)), (.v (.int .u64 0))] 233 0)), (165, (.cells [(.v (.int .u64 152897)), (.v (.int .u64 0))] 233 0))]⟩
theorem e321_ok : e321.Ok Tryz.prog noGl := memo_ok TF_ok O4_ok mixed TPl_ok 100000 (by kernel_rfl) (by kernel_rfl)
end Go.Ev
namespace Go.Ev
open Go.Proofs Go.Shelf
def e331 : Memo := ⟨124, 0, [(.agg [(.v (.int .i64 2)), (.v (.int .i64 4)), (.v (.int .i64 196))])], [], [], (.agg [(.v (.bool false)), (.slc 173 0 1 1), (.slc 175 0 1 1)]), 178, [(173, (.cells [(.v (.int .u64 1))] 233 0)), (175, (.cells [(.v (.int .u64 2402))] 233 0))]⟩
theorem e331_ok : e331.Ok Tryz.prog noGl := memo_ok TF_ok O4_ok mixed TPl_ok 100000 (by kernel_rfl) (by kernel_rfl)
def e341 : Memo := ⟨124, 0, [(.agg [(.v (.int .i64 2)), (.v (.int .i64 4)), (.v (.int .i64 98))])], [], [], (.agg [(.v (.bool false)), (.slc 173 0 1 1), (.slc 175 0 1 1)]), 178, [(173, (.cells [(.v (.int .u64 4))] 233 0)), (175, (.cells [(.v (.int .u64 2405))] 233 0))]⟩
theorem e341_ok : e341.Ok Tryz.prog noGl := memo_ok TF_ok O4_ok mixed TPl_ok 100000 (by kernel_rfl) (by kernel_rfl)
def e351 : Memo := ⟨124, 0, [(.agg [(.v (.int .i64 2)), (.v (.int .i64 4)), (.v (.int .i64 49))])], [], [], (.agg [(.v (.bool false)), (.slc 158 0 1 2), (.slc 165 0 1 2)]), 174, [(158, (.cells [(.v (.int .u64 16)), (.v (.int .u64 0))] 233 0)), (165, (.cells [(.v (.int .u64 2417)), (.v (.int .u64 0))] 233 0))]⟩
theorem e351_ok : e351.Ok Tryz.prog noGl := memo_ok TF_ok O4_ok mixed TPl_ok 100000 (by kernel_rfl) (by kernel_rfl)
def e361 : Memo := ⟨124, 0, [(.agg [(.v (.int .i64 2)), (.v (.int .i64 4)), (.v (.int .i64 25))])], [], [], (.agg [(.v (.bool false)), (.slc 158 0 1 2), (.slc 165 0 1 2)]), 174, [(158, (.cells [(.v (.int .u64 16)), (.v (.int .u64 0))] 233 0)), (165, (.cells [(.v (.int .u64 641)), (.v (.int .u64 0))] 233 0))]⟩
theorem e361_ok : e361.Ok Tryz.prog noGl := memo_ok TF_ok O4_ok mixed TPl_ok 100000 (by kernel_rfl) (by kernel_rfl)
def e371 : Memo := ⟨124, 0, [(.agg [(.v (.int .i64 2)), (.v (.int .i64 4)), (.v (.int .i64 13))])], [], [], (.agg [(.v (.bool false)), (.slc 158 0 1 2), (.slc 165 0 1 2)]), 174, [(158, (.cells [(.v (.int .u64 16)), (.v (.int .u64 0))] 233 0)), (165, (.cells [(.v (.int .u64 185)), (.v (.int .u64 0))] 233 0))]⟩
theorem e371_ok : e371.Ok Tryz.prog noGl := memo_ok TF_ok O4_ok mixed TPl_ok 100000 (by kernel_rfl) (by kernel_rfl)
def e383 : Memo := ⟨124, 0, [(.agg [(.v (.int .i64 2)), (.v (.int .i64 4)), (.v (.int .i64 7))])], [], [], (.agg [(.v (.bool false)), (.slc 158 0 1 2), (.slc 165 0 1 2)]), 174, [(158, (.cells [(.v (.int .u64 16)), (.v (.int .u64 0))] 233 0)), (165, (.cells [(.v (.int .u64 65)), (.v (.int .u64 0))] 233 0))]⟩
theorem e383_ok : e383.Ok Tryz.prog noGl := memo_ok TF_ok O4_ok mixed TPl_ok 100000 (by kernel_rfl) (by kernel_rfl)
def e391 : Memo := ⟨124, 0, [(.agg [(.v (.int .i64 2)), (.v (.int .i64 4)), (.v (.int .i64 4))])], [], [], (.agg [(.v (.bool false)), (.slc 173 0 1 1), (.slc 175 0 1 1)]), 178, [(173, (.cells [(.v (.int .u64 1))] 233 0)), (175, (.cells [(.v (.int .u64 2))] 233 0))]⟩
theorem e391_ok : e391.Ok Tryz.prog noGl := memo_ok TF_ok O4_ok mixed TPl_ok 100000 (by kernel_rfl) (by kernel_rfl)
def e399 : Memo := ⟨124, 0, [(.agg [(.v (.int .i64 2)), (.v (.int .i64 4)), (.v (.int .i64 2))])], [], [], (.agg [(.v (.bool false)), (.slc 173 0 1 1), (.slc 175 0 1 1)]), 178, [(173, (.cells [(.v (.int .u64 4))] 233 0)), (175, (.cells [(.v (.int .u64 5))] 233 0))]⟩
theorem e399_ok : e399.Ok Tryz.prog noGl := memo_ok TF_ok O4_ok mixed TPl_ok 100000 (by kernel_rfl) (by kernel_rfl)
def e413 : Memo := ⟨194, 0, [(.v (.string ⟨#[52, 57]⟩)), (.v (.string ⟨#[48]⟩))], [], [], (.tup [(.agg [(.v (.bool false)), (.slc 8 0 1 2), (.slc 14 0 1 2)]), (.agg [(.v (.bool false)), (.slc 25 0 0 1), (.slc 31 0 1 2)]), (.v (.int .i64 0))]), 35, [(8, (.cells [(.v (.int .u64 49)), (.v (.int .u64 0))] 233 0)), (14, (.cells [(.v (.int .u64 1)), (.v (.int .u64 0))] 233 0)), (25, (.cells [(.v (.int .u64 0))] 233 0)), (31, (.cells [(.v (.int .u64 1)), (.v (.int .u64 0))] 233 0))]⟩
theorem e413_ok : e413.Ok Tryz.prog noGl := memo_ok TF_ok O4_ok mixed TPl_ok 100000 (by kernel_rfl) (by kernel_rfl)
def e425 : Memo := ⟨48, 1, [(.agg [(.v (.int .i64 5)), (.slc 0 0 3 3)]), (.v (.string ⟨#[50]⟩)), (.v (.string ⟨#[49]⟩))], [(0, 0, 1)], [(.cells [(.v (.int .i64 1)), (.v (.int .i64 0)), (.v (.int .i64 0)), (.v (.int .i64 2)), (.v (.int .i64 0)), (.v (.int .i64 0))] 120 0)], (.tup [(.v (.string ⟨#[57, 48]⟩)), (.v (.int .i64 0))]), 314, []⟩
theorem e425_ok : e425.Ok Tryz.prog noGl := memo_ok TF_ok O4_ok mixed TPl_ok 100000 (by kernel_rfl) (by kernel_rfl)
end Go.Ev
namespace Go.Ev
open Go.Proofs Go.Shelf
noncomputable def L5 : List Ent := (false, e42) :: (false, e54) :: (false, e65) :: (false, e83) :: (false, e95) :: (false, e102) :: (false, e115) :: (false, e121) :: (false, e162) :: (false, e169) :: (false, e176) :: (false, e217) :: (false, e225) :: (false, e228) :: (false, e244) :: (false, e254) :: (false, e264) :: (false, e274) :: (false, e286) :: (false, e300) :: (false, e311) :: (false, e321) :: (false, e331) :: (false, e341) :: (false, e351) :: (false, e361) :: (false, e371) :: (false, e383) :: (false, e391) :: (false, e399) :: (false, e413) :: (false, e425) :: L4
theorem L5_ok : AllOk Tryz.prog gl0 L5 := .cons e42_ok (.cons e54_ok (.cons e65_ok (.cons e83_ok (.cons e95_ok (.cons e102_ok (.cons e115_ok (.cons e121_ok (.cons e162_ok (.cons e169_ok (.cons e176_ok (.cons e217_ok (.cons e225_ok (.cons e228_ok (.cons e244_ok (.cons e254_ok (.cons e264_ok (.cons e274_ok (.cons e286_ok (.cons e300_ok (.cons e311_ok (.cons e321_ok (.cons e331_ok (.cons e341_ok (.cons e351_ok (.cons e361_ok (.cons e371_ok (.cons e383_ok (.cons e391_ok (.cons e399_ok (.cons e413_ok (.cons e425_ok (L4_ok))))))))))))))))))))))))))))))))
noncomputable def O5 : CallF := memoO gtest (mkTab L5)
theorem O5_ok : CallOk Tryz.prog O5 := memoO_ok gtest_ok L5_ok
end Go.Ev
namespace Go.Ev
open Go.Proofs Go.Shelf
def e87 : Memo := ⟨165, 1, [(.slc 0 0 3 3)], [(0, 0, 0)], [(.cells [(.v (.string ⟨#[48]⟩)), (.v (.string ⟨#[49, 47, 50]⟩)), (.v (.string ⟨#[50]⟩)), (.v (.string ⟨#[52, 47, 53]⟩)), (.v (.string ⟨#[51]⟩)), (.v (.string ⟨#[57, 47, 49, 48]⟩))] 103 0)], (.tup [(.slc 1 0 3 3), (.v (.int .i64 0))]), 146, [(1, (.cells [(.v (.bool false)), (.slc 9 0 0 1), (.slc 15 0 1 2), (.v (.bool false)), (.slc 44 0 1 2), (.slc 50 0 1 2), (.v (.bool false)), (.slc 99 0 1 2), (.slc 105 0 1 2)] 170 0)), (9, (.cells [(.v (.int .u64 0))] 233 0)), (15, (.cells [(.v (.int .u64 1)), (.v (.int .u64 0))] 233 0)), (44, (.cells [(.v (.int .u64 2)), (.v (.int .u64 0))] 233 0)), (50, (.cells [(.v (.int .u64 1)), (.v (.int .u64 0))] 233 0)), (99, (.cells [(.v (.int .u64 3)), (.v (.int .u64 0))] 233 0)), (105, (.cells [(.v (.int .u64 1)), (.v (.int .u64 0))] 233 0))]⟩
theorem e87_ok : e87.Ok Tryz.prog noGl := memo_ok TF_ok O5_ok mixed TPl_ok 100000 (by kernel_rfl) (by kernel_rfl)
def e101 : Memo := ⟨167, 0, [(.v (.string ⟨#[52, 47, 53]⟩)), (.v (.string ⟨#[49]⟩))], [], [], (.tup [(.v (.int .i64 (-1))), (.v (.int .i64 0))]), 58, []⟩
theorem e101_ok : e101.Ok Tryz.prog noGl := memo_ok TF_ok O5_ok mixed TPl_ok 100000 (by kernel_rfl) (by kernel_rfl)
def e105 : Memo := ⟨167, 0, [(.v (.string ⟨#[52, 47, 53]⟩)), (.v (.string ⟨#[48]⟩))], [], [], (.tup [(.v (.int .i64 1)), (.v (.int .i64 0))]), 56, []⟩
theorem e105_ok : e105.Ok Tryz.prog noGl := memo_ok TF_ok O5_ok mixed TPl_ok 100000 (by kernel_rfl) (by kernel_rfl)
def e116 : Memo := ⟨167, 0, [(.v (.string ⟨#[49, 48, 48, 48]⟩)), (.v (.string ⟨#[48]⟩))], [], [], (.tup [(.v (.int .i64 1)), (.v (.int .i64 0))]), 55, []⟩
theorem e116_ok : e116.Ok Tryz.prog noGl := memo_ok TF_ok O5_ok mixed TPl_ok 100000 (by kernel_rfl) (by kernel_rfl)
def e122 : Memo := ⟨121, 0, [(.v (.string ⟨#[49, 47, 50]⟩))], [], [], (.v (.int .i64 0)), 116, []⟩
theorem e122_ok : e122.Ok Tryz.prog noGl := memo_ok TF_ok O5_ok mixed TPl_ok 100000 (by kernel_rfl) (by kernel_rfl)
def e163 : Memo := ⟨61, 0, [(.agg [(.v (.int .i64 2)), (.v (.int .i64 4)), (.v (.int .i64 3))])], [], [], (.tup [(.v (.string ⟨#[49, 54, 47, 50, 53]⟩)), (.v (.int .i64 0))]), 180, []⟩
theorem e163_ok : e163.Ok Tryz.prog noGl := memo_ok TF_ok O5_ok mixed TPl_ok 100000 (by kernel_rfl) (by kernel_rfl)
def e173 : Memo := ⟨167, 0, [(.v (.string ⟨#[56, 48]⟩)), (.v (.string ⟨#[48]⟩))], [], [], (.tup [(.v (.int .i64 1)), (.v (.int .i64 0))]), 55, []⟩
theorem e173_ok : e173.Ok Tryz.prog noGl := memo_ok TF_ok O5_ok mixed TPl_ok 100000 (by kernel_rfl) (by kernel_rfl)
def e198 : Memo := ⟨125, 0, [(.agg [(.v (.int .i64 2)), (.v (.int .i64 4)), (.v (.int .i64 3))]), (.v (.string ⟨#[56, 48]⟩))], [], [], (.agg [(.v (.bool false)), (.slc 297 0 1 1), (.slc 299 0 1 1)]), 302, [(297, (.cells [(.v (.int .u64 2500))] 233 0)), (299, (.cells [(.v (.int .u64 1))] 233 0))]⟩
theorem e198_ok : e198.Ok Tryz.prog noGl := memo_ok TF_ok O5_ok mixed TPl_ok 100000 (by kernel_rfl) (by kernel_rfl)
def e221 : Memo := ⟨167, 0, [(.v (.string ⟨#[53, 48]⟩)), (.v (.string ⟨#[48]⟩))], [], [], (.tup [(.v (.int .i64 1)), (.v (.int .i64 0))]), 55, []⟩
theorem e221_ok : e221.Ok Tryz.prog noGl := memo_ok TF_ok O5_ok mixed TPl_ok 100000 (by kernel_rfl) (by kernel_rfl)
def e227 : Memo := ⟨125, 0, [(.agg [(.v (.int .i64 2)), (.v (.int .i64 4)), (.v (.int .i64 0))]), (.v (.string ⟨#[56, 48]⟩))], [], [], (.agg [(.v (.bool false)), (.slc 241 0 1 2), (.slc 248 0 1 2)]), 257, [(241, (.cells [(.v (.int .u64 1600)), (.v (.int .u64 0))] 233 0)), (248, (.cells [(.v (.int .u64 1)), (.v (.int .u64 0))] 233 0))]⟩
theorem e227_ok : e227.Ok Tryz.prog noGl := memo_ok TF_ok O5_ok mixed TPl_ok 100000 (by kernel_rfl) (by kernel_rfl)
def e246 : Memo := ⟨125, 0, [(.agg [(.v (.int .i64 2)), (.v (.int .i64 4)), (.v (.int .i64 50001))]), (.v (.string ⟨#[56, 48]⟩))], [], [], (.agg [(.v (.bool false)), (.slc 297 0 1 1), (.slc 299 0 1 1)]), 302, [(297, (.cells [(.v (.int .u64 250010001700))] 233 0)), (299, (.cells [(.v (.int .u64 1))] 233 0))]⟩
theorem e246_ok : e246.Ok Tryz.prog noGl := memo_ok TF_ok O5_ok mixed TPl_ok 100000 (by kernel_rfl) (by kernel_rfl)
def e256 : Memo := ⟨125, 0, [(.agg [(.v (.int .i64 2)), (.v (.int .i64 4)), (.v (.int .i64 25001))]), (.v (.string ⟨#[56, 48]⟩))], [], [], (.agg [(.v (.bool false)), (.slc 297 0 1 1), (.slc 299 0 1 1)]), 302, [(297, (.cells [(.v (.int .u64 62505001700))] 233 0)), (299, (.cells [(.v (.int .u64 1))] 233 0))]⟩
theorem e256_ok : e256.Ok Tryz.prog noGl := memo_ok TF_ok O5_ok mixed TPl_ok 100000 (by kernel_rfl) (by kernel_rfl)
def e266 : Memo := ⟨125, 0, [(.agg [(.v (.int .i64 2)), (.v (.int .i64 4)), (.v (.int .i64 12501))]), (.v (.string ⟨#[56, 48]⟩))], [], [], (.agg [(.v (.bool false)), (.slc 297 0 1 1), (.slc 299 0 1 1)]), 302, [(297, (.cells [(.v (.int .u64 15627501700))] 233 0)), (299, (.cells [(.v (.int .u64 1))] 233 0))]⟩
theorem e266_ok : e266.Ok Tryz.prog noGl := memo_ok TF_ok O5_ok mixed TPl_ok 100000 (by kernel_rfl) (by kernel_rfl)
def e276 : Memo := ⟨125, 0, [(.agg [(.v (.int .i64 2)), (.v (.int .i64 4)), (.v (.int .i64 6251))]), (.v (.string ⟨#[56, 48]⟩))], [], [], (.agg [(.v (.bool false)), (.slc 297 0 1 1), (.slc 299 0 1 1)]), 302, [(297, (.cells [(.v (.int .u64 3907501700))] 233 0)), (299, (.cells [(.v (.int .u64 1))] 233 0))]⟩
theorem e276_ok : e276.Ok Tryz.prog noGl := memo_ok TF_ok O5_ok mixed TPl_ok 100000 (by kernel_rfl) (by kernel_rfl)
def e292 : Memo := ⟨125, 0, [(.agg [(.v (.int .i64 2)), (.v (.int .i64 4)), (.v (.int .i64 3126))]), (.v (.string ⟨#[56, 48]⟩))], [], [], (.agg [(.v (.bool false)), (.slc 301 0 1 1), (.slc 303 0 1 1)]), 306, [(301, (.cells [(.v (.int .u64 977189200))] 233 0)), (303, (.cells [(.v (.int .u64 1))] 233 0))]⟩
theorem e292_ok : e292.Ok Tryz.prog noGl := memo_ok TF_ok O5_ok mixed TPl_ok 100000 (by kernel_rfl) (by kernel_rfl)
def e302 : Memo := ⟨125, 0, [(.agg [(.v (.int .i64 2)), (.v (.int .i64 4)), (.v (.int .i64 1563))]), (.v (.string ⟨#[56, 48]⟩))], [], [], (.agg [(.v (.bool false)), (.slc 297 0 1 1), (.slc 299 0 1 1)]), 302, [(297, (.cells [(.v (.int .u64 244298500))] 233 0)), (299, (.cells [(.v (.int .u64 1))] 233 0))]⟩
theorem e302_ok : e302.Ok Tryz.prog noGl := memo_ok TF_ok O5_ok mixed TPl_ok 100000 (by kernel_rfl) (by kernel_rfl)
def e313 : Memo := ⟨125, 0, [(.agg [(.v (.int .i64 2)), (.v (.int .i64 4)), (.v (.int .i64 782))]), (.v (.string ⟨#[56, 48]⟩))], [], [], (.agg [(.v (.bool false)), (.slc 301 0 1 1), (.slc 303 0 1 1)]), 306, [(301, (.cells [(.v (.int .u64 61154000))] 233 0)), (303, (.cells [(.v (.int .u64 1))] 233 0))]⟩
theorem e313_ok : e313.Ok Tryz.prog noGl := memo_ok TF_ok O5_ok mixed TPl_ok 100000 (by kernel_rfl) (by kernel_rfl)
def e323 : Memo := ⟨125, 0, [(.agg [(.v (.int .i64 2)), (.v (.int .i64 4)), (.v (.int .i64 391))]), (.v (.string ⟨#[56, 48]⟩))], [], [], (.agg [(.v (.bool false)), (.slc 297 0 1 1), (.slc 299 0 1 1)]), 302, [(297, (.cells [(.v (.int .u64 15289700))] 233 0)), (299, (.cells [(.v (.int .u64 1))] 233 0))]⟩
theorem e323_ok : e323.Ok Tryz.prog noGl := memo_ok TF_ok O5_ok mixed TPl_ok 100000 (by kernel_rfl) (by kernel_rfl)
def e333 : Memo := ⟨125, 0, [(.agg [(.v (.int .i64 2)), (.v (.int .i64 4)), (.v (.int .i64 196))]), (.v (.string ⟨#[56, 48]⟩))], [], [], (.agg [(.v (.bool false)), (.slc 286 0 1 2), (.slc 293 0 1 2)]), 302, [(286, (.cells [(.v (.int .u64 3843200)), (.v (.int .u64 0))] 233 0)), (293, (.cells [(.v (.int .u64 1)), (.v (.int .u64 0))] 233 0))]⟩
theorem e333_ok : e333.Ok Tryz.prog noGl := memo_ok TF_ok O5_ok mixed TPl_ok 100000 (by kernel_rfl) (by kernel_rfl)
def e343 : Memo := ⟨125, 0, [(.agg [(.v (.int .i64 2)), (.v (.int .i64 4)), (.v (.int .i64 98))]), (.v (.string ⟨#[56, 48]⟩))], [], [], (.agg [(.v (.bool false)), (.slc 301 0 1 1), (.slc 303 0 1 1)]), 306, [(301, (.cells [(.v (.int .u64 962000))] 233 0)), (303, (.cells [(.v (.int .u64 1))] 233 0))]⟩
theorem e343_ok : e343.Ok Tryz.prog noGl := memo_ok TF_ok O5_ok mixed TPl_ok 100000 (by kernel_rfl) (by kernel_rfl)
def e353 : Memo := ⟨125, 0, [(.agg [(.v (.int .i64 2)), (.v (.int .i64 4)), (.v (.int .i64 49))]), (.v (.string ⟨#[56, 48]⟩))], [], [], (.agg [(.v (.bool false)), (.slc 297 0 1 1), (.slc 299 0 1 1)]), 302, [(297, (.cells [(.v (.int .u64 241700))] 233 0)), (299, (.cells [(.v (.int .u64 1))] 233 0))]⟩
theorem e353_ok : e353.Ok Tryz.prog noGl := memo_ok TF_ok O5_ok mixed TPl_ok 100000 (by kernel_rfl) (by kernel_rfl)
def e363 : Memo := ⟨125, 0, [(.agg [(.v (.int .i64 2)), (.v (.int .i64 4)), (.v (.int .i64 25))]), (.v (.string ⟨#[56, 48]⟩))], [], [], (.agg [(.v (.bool false)), (.slc 297 0 1 1), (.slc 299 0 1 1)]), 302, [(297, (.cells [(.v (.int .u64 64100))] 233 0)), (299, (.cells [(.v (.int .u64 1))] 233 0))]⟩
theorem e363_ok : e363.Ok Tryz.prog noGl := memo_ok TF_ok O5_ok mixed TPl_ok 100000 (by kernel_rfl) (by kernel_rfl)
def e373 : Memo := ⟨125, 0, [(.agg [(.v (.int .i64 2)), (.v (.int .i64 4)), (.v (.int .i64 13))]), (.v (.string ⟨#[56, 48]⟩))], [], [], (.agg [(.v (.bool false)), (.slc 297 0 1 1), (.slc 299 0 1 1)]), 302, [(297, (.cells [(.v (.int .u64 18500))] 233 0)), (299, (.cells [(.v (.int .u64 1))] 233 0))]⟩
theorem e373_ok : e373.Ok Tryz.prog noGl := memo_ok TF_ok O5_ok mixed TPl_ok 100000 (by kernel_rfl) (by kernel_rfl)
def e385 : Memo := ⟨125, 0, [(.agg [(.v (.int .i64 2)), (.v (.int .i64 4)), (.v (.int .i64 7))]), (.v (.string ⟨#[56, 48]⟩))], [], [], (.agg [(.v (.bool false)), (.slc 297 0 1 1), (.slc 299 0 1 1)]), 302, [(297, (.cells [(.v (.int .u64 6500))] 233 0)), (299, (.cells [(.v (.int .u64 1))] 233 0))]⟩
theorem e385_ok : e385.Ok Tryz.prog noGl := memo_ok TF_ok O5_ok mixed TPl_ok 100000 (by kernel_rfl) (by kernel_rfl)
def e393 : Memo := ⟨125, 0, [(.agg [(.v (.int .i64 2)), (.v (.int .i64 4)), (.v (.int .i64 4))]), (.v (.string ⟨#[56, 48]⟩))], [], [], (.agg [(.v (.bool false)), (.slc 286 0 1 2), (.slc 293 0 1 2)]), 302, [(286, (.cells [(.v (.int .u64 3200)), (.v (.int .u64 0))] 233 0)), (293, (.cells [(.v (.int .u64 1)), (.v (.int .u64 0))] 233 0))]⟩
theorem e393_ok : e393.Ok Tryz.prog noGl := memo_ok TF_ok O5_ok mixed TPl_ok 100000 (by kernel_rfl) (by kernel_rfl)
def e401 : Memo := ⟨125, 0, [(.agg [(.v (.int .i64 2)), (.v (.int .i64 4)), (.v (.int .i64 2))]), (.v (.string ⟨#[56, 48]⟩))], [], [], (.agg [(.v (.bool false)), (.slc 301 0 1 1), (.slc 303 0 1 1)]), 306, [(301, (.cells [(.v (.int .u64 2000))] 233 0)), (303, (.cells [(.v (.int .u64 1))] 233 0))]⟩
theorem e401_ok : e401.Ok Tryz.prog noGl := memo_ok TF_ok O5_ok mixed TPl_ok 100000 (by kernel_rfl) (by kernel_rfl)
def e414 : Memo := ⟨167, 0, [(.v (.string ⟨#[52, 57]⟩)), (.v (.string ⟨#[48]⟩))], [], [], (.tup [(.v (.int .i64 1)), (.v (.int .i64 0))]), 55, []⟩
theorem e414_ok : e414.Ok Tryz.prog noGl := memo_ok TF_ok O5_ok mixed TPl_ok 100000 (by kernel_rfl) (by kernel_rfl)
end Go.Ev
namespace Go.Ev
open Go.Proofs Go.Shelf
noncomputable def L6 : List Ent := (false, e87) :: (false, e101) :: (false, e105) :: (false, e116) :: (false, e122) :: (false, e163) :: (false, e173) :: (false, e198) :: (false, e221) :: (false, e227) :: (false, e246) :: (false, e256) :: (false, e266) :: (false, e276) :: (false, e292) :: (false, e302) :: (false, e313) :: (false, e323) :: (false, e333) :: (false, e343) :: (false, e353) :: (false, e363) :: (false, e373) :: (false, e385) :: (false, e393) :: (false, e401) :: (false, e414) :: L5
theorem L6_ok : AllOk Tryz.prog gl0 L6 := .cons e87_ok (.cons e101_ok (.cons e105_ok (.cons e116_ok (.cons e122_ok (.cons e163_ok (.cons e173_ok (.cons e198_ok (.cons e221_ok (.cons e227_ok (.cons e246_ok (.cons e256_ok (.cons e266_ok (.cons e276_ok (.cons e292_ok (.cons e302_ok (.cons e313_ok (.cons e323_ok (.cons e333_ok (.cons e343_ok (.cons e353_ok (.cons e363_ok (.cons e373_ok (.cons e385_ok (.cons e393_ok (.cons e401_ok (.cons e414_ok (L5_ok)))))))))))))))))))))))))))
noncomputable def O6 : CallF := memoO gtest (mkTab L6)
theorem O6_ok : CallOk Tryz.prog O6 := memoO_ok gtest_ok L6_ok
end Go.Ev
