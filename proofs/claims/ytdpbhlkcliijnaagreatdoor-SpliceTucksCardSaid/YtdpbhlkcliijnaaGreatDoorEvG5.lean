/- Part of an evaluator of calls that is proved sound, and of what it gives about this program. No condition of its own. -/
import Derived.Test.YtdpbhlkcliijnaaGreatDoorEvG4
set_option linter.unusedVariables false
set_option linter.unusedSimpArgs false
set_option linter.unusedSectionVars false
set_option maxRecDepth 1000000
namespace Go.Ev
open Go.Proofs Go.Shelf
def e42 : Memo := ⟨38, 2, [(.agg [(.v (.int .i64 3)), (.v (.int .i64 1)), (.v (.int .i64 1)), (.v (.int .i64 2)), (.v (.int .i64 1))]), (.agg [(.slu 0 0 3 1), (.slu 1 0 3 1)]), (.v (.int .i64 1))], [(0, 1, 0), (0, 1, 1)], [(.cells [(.v (.int .i64 3)), (.v (.int .i64 3)), (.v (.int .i64 3))] 3 1), (.cells [(.v (.int .i64 0)), (.v (.int .i64 1)), (.v (.int .i64 2))] 3 1)], (.tup [(.v (.string ⟨#[53, 47, 50]⟩)), (.v (.int .i64 0))]), 124, []⟩
theorem e42_ok : e42.Ok Tryz.prog noGl := memo_ok TF_ok O4_ok mixed TPl_ok 100000 (by kernel_rfl) (by kernel_rfl)
def e54 : Memo := ⟨193, 0, [(.v (.string ⟨#[49, 47, 50]⟩))], [], [], (.v (.int .i64 0)), 18, []⟩
theorem e54_ok : e54.Ok Tryz.prog noGl := memo_ok TF_ok O4_ok mixed TPl_ok 100000 (by kernel_rfl) (by kernel_rfl)
def e65 : Memo := ⟨193, 0, [(.v (.string ⟨#[52, 47, 53]⟩))], [], [], (.v (.int .i64 0)), 18, []⟩
theorem e65_ok : e65.Ok Tryz.prog noGl := memo_ok TF_ok O4_ok mixed TPl_ok 100000 (by kernel_rfl) (by kernel_rfl)
def e83 : Memo := ⟨193, 0, [(.v (.string ⟨#[57, 47, 49, 48]⟩))], [], [], (.v (.int .i64 0)), 18, []⟩
theorem e83_ok : e83.Ok Tryz.prog noGl := memo_ok TF_ok O4_ok mixed TPl_ok 100000 (by kernel_rfl) (by kernel_rfl)
def e95 : Memo := ⟨194, 0, [(.v (.string ⟨#[52, 47, 53]⟩)), (.v (.string ⟨#[49]⟩))], [], [], (.tup [(.agg [(.v (.bool false)), (.slc 9 0 1 2), (.slc 15 0 1 2)]), (.agg [(.v (.bool false)), (.slc 26 0 1 2), (.slc 32 0 1 2)]), (.v (.int .i64 0))]), 38, [(9, (.cells [(.v (.int .u64 4)), (.v (.int .u64 0))] 233 0)), (15, (.cells [(.v (.int .u64 5)), (.v (.int .u64 0))] 233 0)), (26, (.cells [(.v (.int .u64 1)), (.v (.int .u64 0))] 233 0)), (32, (.cells [(.v (.int .u64 1)), (.v (.int .u64 0))] 233 0))]⟩
theorem e95_ok : e95.Ok Tryz.prog noGl := memo_ok TF_ok O4_ok mixed TPl_ok 100000 (by kernel_rfl) (by kernel_rfl)
def e102 : Memo := ⟨194, 0, [(.v (.string ⟨#[52, 47, 53]⟩)), (.v (.string ⟨#[48]⟩))], [], [], (.tup [(.agg [(.v (.bool false)), (.slc 9 0 1 2), (.slc 15 0 1 2)]), (.agg [(.v (.bool false)), (.slc 26 0 0 1), (.slc 32 0 1 2)]), (.v (.int .i64 0))]), 36, [(9, (.cells [(.v (.int .u64 4)), (.v (.int .u64 0))] 233 0)), (15, (.cells [(.v (.int .u64 5)), (.v (.int .u64 0))] 233 0)), (26, (.cells [(.v (.int .u64 0))] 233 0)), (32, (.cells [(.v (.int .u64 1)), (.v (.int .u64 0))] 233 0))]⟩
theorem e102_ok : e102.Ok Tryz.prog noGl := memo_ok TF_ok O4_ok mixed TPl_ok 100000 (by kernel_rfl) (by kernel_rfl)
def e115 : Memo := ⟨194, 0, [(.v (.string ⟨#[49, 48, 48, 48]⟩)), (.v (.string ⟨#[48]⟩))], [], [], (.tup [(.agg [(.v (.bool false)), (.slc 8 0 1 2), (.slc 14 0 1 2)]), (.agg [(.v (.bool false)), (.slc 25 0 0 1), (.slc 31 0 1 2)]), (.v (.int .i64 0))]), 35, [(8, (.cells [(.v (.int .u64 1000)), (.v (.int .u64 0))] 233 0)), (14, (.cells [(.v (.int .u64 1)), (.v (.int .u64 0))] 233 0)), (25, (.cells [(.v (.int .u64 0))] 233 0)), (31, (.cells [(.v (.int .u64 1)), (.v (.int .u64 0))] 233 0))]⟩
theorem e115_ok : e115.Ok Tryz.prog noGl := memo_ok TF_ok O4_ok mixed TPl_ok 100000 (by kernel_rfl) (by kernel_rfl)
def e121 : Memo := ⟨167, 0, [(.v (.string ⟨#[49, 47, 50]⟩)), (.v (.string ⟨#[49]⟩))], [], [], (.tup [(.v (.int .i64 (-1))), (.v (.int .i64 0))]), 58, []⟩
theorem e121_ok : e121.Ok Tryz.prog noGl := memo_ok TF_ok O4_ok mixed TPl_ok 100000 (by kernel_rfl) (by kernel_rfl)
def e162 : Memo := ⟨124, 0, [(.agg [(.v (.int .i64 2)), (.v (.int .i64 4)), (.v (.int .i64 3))])], [], [], (.agg [(.v (.bool false)), (.slc 158 0 1 2), (.slc 165 0 1 2)]), 174, [(158, (.cells [(.v (.int .u64 16)), (.v (.int .u64 0))] 233 0)), (165, (.cells [(.v (.int .u64 25)), (.v (.int .u64 0))] 233 0))]⟩
theorem e162_ok : e162.Ok Tryz.prog noGl := memo_ok TF_ok O4_ok mixed TPl_ok 100000 (by kernel_rfl) (by kernel_rfl)
def e169 : Memo := ⟨194, 0, [(.v (.string ⟨#[56, 48]⟩)), (.v (.string ⟨#[48]⟩))], [], [], (.tup [(.agg [(.v (.bool false)), (.slc 8 0 1 2), (.slc 14 0 1 2)]), (.agg [(.v (.bool false)), (.slc 25 0 0 1), (.slc 31 0 1 2)]), (.v (.int .i64 0))]), 35, [(8, (.cells [(.v (.int .u64 80)), (.v (.int .u64 0))] 233 0)), (14, (.cells [(.v (.int .u64 1)), (.v (.int .u64 0))] 233 0)), (25, (.cells [(.v (.int .u64 0))] 233 0)), (31, (.cells [(.v (.int .u64 1)), (.v (.int .u64 0))] 233 0))]⟩
theorem e169_ok : e169.Ok Tryz.prog noGl := memo_ok TF_ok O4_ok mixed TPl_ok 100000 (by kernel_rfl) (by kernel_rfl)
def e176 : Memo := ⟨109, 0, [(.v (.string ⟨#[56, 48]⟩))], [], [], (.agg [(.v (.bool false)), (.slc 7 0 1 2), (.slc 13 0 1 2)]), 18, [(7, (.cells [(.v (.int .u64 80)), (.v (.int .u64 0))] 233 0)), (13, (.cells [(.v (.int .u64 1)), (.v (.int .u64 0))] 233 0))]⟩
theorem e176_ok : e176.Ok Tryz.prog noGl := memo_ok TF_ok O4_ok mixed TPl_ok 100000 (by kernel_rfl) (by kernel_rfl)
def e217 : Memo := ⟨194, 0, [(.v (.string ⟨#[53, 48]⟩)), (.v (.string ⟨#[48]⟩))], [], [], (.tup [(.agg [(.v (.bool false)), (.slc 8 0 1 2), (.slc 14 0 1 2)]), (.agg [(.v (.bool false)), (.slc 25 0 0 1), (.slc 31 0 1 2)]), (.v (.int .i64 0))]), 35, [(8, (.cells [(.v (.int .u64 50)), (.v (.int .u64 0))] 233 0)), (14, (.cells [(.v (.int .u64 1)), (.v (.int .u64 0))] 233 0)), (25, (.cells [(.v (.int .u64 0))] 233 0)), (31, (.cells [(.v (.int .u64 1)), (.v (.int .u64 0))] 233 0))]⟩
theorem e217_ok : e217.Ok Tryz.prog noGl := memo_ok TF_ok O4_ok mixed TPl_ok 100000 (by kernel_rfl) (by kernel_rfl)
def e225 : Memo := ⟨124, 0, [(.agg [(.v (.int .i64 2)), (.v (.int .i64 4)), (.v (.int .i64 0))])], [], [], (.agg [(.v (.bool false)), (.slc 128 0 1 1), (.slc 130 0 1 1)]), 133, [(128, (.cells [(.v (.int .u64 1))] 233 0)), (130, (.cells [(.v (.int .u64 1))] 233 0))]⟩
theorem e225_ok : e225.Ok Tryz.prog noGl := memo_ok TF_ok O4_ok mixed TPl_ok 100000 (by kernel_rfl) (by kernel_rfl)
def e228 : Memo := ⟨109, 0, [(.v (.string ⟨#[53, 48]⟩))], [], [], (.agg [(.v (.bool false)), (.slc 7 0 1 2), (.slc 13 0 1 2)]), 18, [(7, (.cells [(.v (.int .u64 50)), (.v (.int .u64 0))] 233 0)), (13, (.cells [(.v (.int .u64 1)), (.v (.int .u64 0))] 233 0))]⟩
theorem e228_ok : e228.Ok Tryz.prog noGl := memo_ok TF_ok O4_ok mixed TPl_ok 100000 (by kernel_rfl) (by kernel_rfl)
def e244 : Memo := ⟨124, 0, [(.agg [(.v (.int .i64 2)), (.v (.int .i64 4)), (.v (.int .i64 50001))])], [], [], (.agg [(.v (.bool false)), (.slc 158 0 1 2), (.slc 165 0 1 2)]), 174, [(158, (.cells [(.v (.int .u64 16)), (.v (.int .u64 0))] 233 0)), (165, (.cells [(.v (.int .u64 2500100017)), (.v (.int .u64 0))] 233 0))]⟩
theorem e244_ok : e244.Ok Tryz.prog noGl := memo_ok TF_ok O4_ok mixed TPl_ok 100000 (by kernel_rfl) (by kernel_rfl)
def e254 : Memo := ⟨124, 0, [(.agg [(.v (.int .i64 2)), (.v (.int .i64 4)), (.v (.int .i64 25001))])], [], [], (.agg [(.v (.bool false)), (.slc 158 0 1 2), (.slc 165 0 1 2)]), 174, [(158, (.cells [(.v (.int .u64 16)), (.v (.int .u64 0))] 233 0)), (165, (.cells [(.v (.int .u64 625050017)), (.v (.int .u64 0))] 233 0))]⟩
theorem e254_ok : e254.Ok Tryz.prog noGl := memo_ok TF_ok O4_ok mixed TPl_ok 100000 (by kernel_rfl) (by kernel_rfl)
def e264 : Memo := ⟨124, 0, [(.agg [(.v (.int .i64 2)), (.v (.int .i64 4)), (.v (.int .i64 12501))])], [], [], (.agg [(.v (.bool false)), (.slc 158 0 1 2), (.slc 165 0 1 2)]), 174, [(158, (.cells [(.v (.int .u64 16)), (.v (.int .u64 0))] 233 0)), (165, (.cells [(.v (.int .u64 156275017)), (.v (.int .u64 0))] 233 0))]⟩
theorem e264_ok : e264.Ok Tryz.prog noGl := memo_ok TF_ok O4_ok mixed TPl_ok 100000 (by kernel_rfl) (by kernel_rfl)
def e274 : Memo := ⟨124, 0, [(.agg [(.v (.int .i64 2)), (.v (.int .i64 4)), (.v (.int .i64 6251))])], [], [], (.agg [(.v (.bool false)), (.slc 158 0 1 2), (.slc 165 0 1 2)]), 174, [(158, (.cells [(.v (.int .u64 16)), (.v (.int .u64 0))] 233 0)), (165, (.cells [(.v (.int .u64 39075017)), (.v (.int .u64 0))] 233 0))]⟩
theorem e274_ok : e274.Ok Tryz.prog noGl := memo_ok TF_ok O4_ok mixed TPl_ok 100000 (by kernel_rfl) (by kernel_rfl)
def e286 : Memo := ⟨124, 0, [(.agg [(.v (.int .i64 2)), (.v (.int .i64 4)), (.v (.int .i64 3126))])], [], [], (.agg [(.v (.bool false)), (.slc 173 0 1 1), (.slc 175 0 1 1)]), 178, [(173, (.cells [(.v (.int .u64 4))] 233 0)), (175, (.cells [(.v (.int .u64 2442973))] 233 0))]⟩
theorem e286_ok : e286.Ok Tryz.prog noGl := memo_ok TF_ok O4_ok mixed TPl_ok 100000 (by kernel_rfl) (by kernel_rfl)
def e300 : Memo := ⟨124, 0, [(.agg [(.v (.int .i64 2)), (.v (.int .i64 4)), (.v (.int .i64 1563))])], [], [], (.agg [(.v (.bool false)), (.slc 158 0 1 2), (.slc 165 0 1 2)]), 174, [(158, (.cells [(.v (.int .u64 16)), (.v (.int .u64 0))] 233 0)), (165, (.cells [(.v (.int .u64 2442985)), (.v (.int .u64 0))] 233 0))]⟩
theorem e300_ok : e300.Ok Tryz.prog noGl := memo_ok TF_ok O4_ok mixed TPl_ok 100000 (by kernel_rfl) (by kernel_rfl)
def e311 : Memo := ⟨124, 0, [(.agg [(.v (.int .i64 2)), (.v (.int .i64 4)), (.v (.int .i64 782))])], [], [], (.agg [(.v (.bool false)), (.slc 173 0 1 1), (.slc 175 0 1 1)]), 178, [(173, (.cells [(.v (.int .u64 4))] 233 0)), (175, (.cells [(.v (.int .u64 152885))] 233 0))]⟩
theorem e311_ok : e311.Ok Tryz.prog noGl := memo_ok TF_ok O4_ok mixed TPl_ok 100000 (by kernel_rfl) (by kernel_rfl)
def e321 : Memo := ⟨124, 0, [(.agg [(.v (.int .i64 2)), (.v (.int .i64 4)), (.v (.int .i64 391))])], [], [], (.agg [(.v (.bool false)), (.slc 158 0 1 2), (.slc 165 0 1 2)]), 174, [(158, (.cells [(.v (.int .u64 16)), (.v (.int .u64 0))] 233 0)), (165, (.cells [(.v (.int .u64 152897)), (.v (.int .u64 0))] 233 0))]⟩
theorem e321_ok : e321.Ok Tryz.prog noGl := memo_ok TF_ok O4_ok mixed TPl_ok 100000 (by kernel_rfl) (by kernel_rfl)
end Go.Ev
namespace Go.Ev
open Go.Proofs Go.Shelf
def e331 : Memo := ⟨124, 0, [(.agg [(.v (.int .i64 2)), (.v (.int .i64 4)), (.v (.int .i64 196))])], [], [], (.agg [(.v (.bool false)), (.slc 173 0 1 1), (.slc 175 0 1 1)]), 178, [(173, (.cells [(.v (.int .u64 1))] 233 0)), (175, (.cells [(.v (.int .u64 2402))] 233 0))]⟩
theorem e331_ok : e331.Ok Tryz.prog noGl := memo_ok TF_ok O4_ok mixed TPl_ok 100000 (by kernel_rfl) (by kernel_rfl)
def e341 : Memo := ⟨124, 0, [(.agg [(.v (.int .i64 2)), (.v (.int .i64 4)), (.v (.int .i64 98))])], [], [], (.agg [(.v (.bool false)), (.slc 173 0 1 1), (.slc 175 0 1 1)]), 178, [(173, (.cells [(.v (.int .u64 4))] 233 0)), (175, (.cells [(.v (.int .u64 2405))] 233 0))]⟩
theorem e341_ok : e341.Ok Tryz.prog noGl := memo_ok TF_ok O4_ok mixed TPl_ok 100000 (by kernel_rfl) (by kernel_rfl)
def e351 : Memo := ⟨124, 0, [(.agg [(.v (.int .i64 2)), (.v (.int .i64 4)), (.v (.int .i64 49))])], [], [], (.agg [(.v (.bool false)), (.slc 158 0 1 2), (.slc 165 0 1 2)]), 174, [(158, (.cells [(.v (.int .u64 16)), (.v (.int .u64 0))] 233 0)), (165, (.cells [(.v (.int .u64 2417)), (.v (.int .u64 0))] 233 0))]⟩
theorem e351_ok : e351.Ok Tryz.prog noGl := memo_ok TF_ok O4_ok mixed TPl_ok 100000 (by kernel_rfl) (by kernel_rfl)
def e361 : Memo := ⟨124, 0, [(.agg [(.v (.int .i64 2)), (.v (.int .i64 4)), (.v (.int .i64 25))])], [], [], (.agg [(.v (.bool false)), (.slc 158 0 1 2), (.slc 165 0 1 2)]), 174, [(158, (.cells [(.v (.int .u64 16)), (.v (.int .u64 0))] 233 0)), (165, (.cells [(.v (.int .u64 641)), (.v (.int .u64 0))] 233 0))]⟩
theorem e361_ok : e361.Ok Tryz.prog noGl := memo_ok TF_ok O4_ok mixed TPl_ok 100000 (by kernel_rfl) (by kernel_rfl)
def e371 : Memo := ⟨124, 0, [(.agg [(.v (.int .i64 2)), (.v (.int .i64 4)), (.v (.int .i64 13))])], [], [], (.agg [(.v (.bool false)), (.slc 158 0 1 2), (.slc 165 0 1 2)]), 174, [(158, (.cells [(.v (.int .u64 16)), (.v (.int .u64 0))] 233 0)), (165, (.cells [(.v (.int .u64 185)), (.v (.int .u64 0))] 233 0))]⟩
theorem e371_ok : e371.Ok Tryz.prog noGl := memo_ok TF_ok O4_ok mixed TPl_ok 100000 (by kernel_rfl) (by kernel_rfl)
def e383 : Memo := ⟨124, 0, [(.agg [(.v (.int .i64 2)), (.v (.int .i64 4)), (.v (.int .i64 7))])], [], [], (.agg [(.v (.bool false)), (.slc 158 0 1 2), (.slc 165 0 1 2)]), 174, [(158, (.cells [(.v (.int .u64 16)), (.v (.int .u64 0))] 233 0)), (165, (.cells [(.v (.int .u64 65)), (.v (.int .u64 0))] 233 0))]⟩
theorem e383_ok : e383.Ok Tryz.prog noGl := memo_ok TF_ok O4_ok mixed TPl_ok 100000 (by kernel_rfl) (by kernel_rfl)
def e391 : Memo := ⟨124, 0, [(.agg [(.v (.int .i64 2)), (.v (.int .i64 4)), (.v (.int .i64 4))])], [], [], (.agg [(.v (.bool false)), (.slc 173 0 1 1), (.slc 175 0 1 1)]), 178, [(173, (.cells [(.v (.int .u64 1))] 233 0)), (175, (.cells [(.v (.int .u64 2))] 233 0))]⟩
theorem e391_ok : e391.Ok Tryz.prog noGl := memo_ok TF_ok O4_ok mixed TPl_ok 100000 (by kernel_rfl) (by kernel_rfl)
def e399 : Memo := ⟨124, 0, [(.agg [(.v (.int .i64 2)), (.v (.int .i64 4)), (.v (.int .i64 2))])], [], [], (.agg [(.v (.bool false)), (.slc 173 0 1 1), (.slc 175 0 1 1)]), 178, [(173, (.cells [(.v (.int .u64 4))] 233 0)), (175, (.cells [(.v (.int .u64 5))] 233 0))]⟩
theorem e399_ok : e399.Ok Tryz.prog noGl := memo_ok TF_ok O4_ok mixed TPl_ok 100000 (by kernel_rfl) (by kernel_rfl)
def e413 : Memo := ⟨194, 0, [(.v (.string ⟨#[52, 57]⟩)), (.v (.string ⟨#[48]⟩))], [], [], (.tup [(.agg [(.v (.bool false)), (.slc 8 0 1 2), (.slc 14 0 1 2)]), (.agg [(.v (.bool false)), (.slc 25 0 0 1), (.slc 31 0 1 2)]), (.v (.int .i64 0))]), 35, [(8, (.cells [(.v (.int .u64 49)), (.v (.int .u64 0))] 233 0)), (14, (.cells [(.v (.int .u64 1)), (.v (.int .u64 0))] 233 0)), (25, (.cells [(.v (.int .u64 0))] 233 0)), (31, (.cells [(.v (.int .u64 1)), (.v (.int .u64 0))] 233 0))]⟩
theorem e413_ok : e413.Ok Tryz.prog noGl := memo_ok TF_ok O4_ok mixed TPl_ok 100000 (by kernel_rfl) (by kernel_rfl)
def e425 : Memo := ⟨48, 1, [(.agg [(.v (.int .i64 5)), (.slc 0 0 3 3)]), (.v (.string ⟨#[50]⟩)), (.v (.string ⟨#[49]⟩))], [(0, 0, 1)], [(.cells [(.v (.int .i64 1)), (.v (.int .i64 0)), (.v (.int .i64 0)), (.v (.int .i64 2)), (.v (.int .i64 0)), (.v (.int .i64 0))] 120 0)], (.tup [(.v (.string ⟨#[57, 48]⟩)), (.v (.int .i64 0))]), 314, []⟩
theorem e425_ok : e425.Ok Tryz.prog noGl := memo_ok TF_ok O4_ok mixed TPl_ok 100000 (by kernel_rfl) (by kernel_rfl)
end Go.Ev
namespace Go.Ev
open Go.Proofs Go.Shelf
noncomputable def L5 : List Ent := (false, e42) :: (false, e54) :: (false, e65) :: (false, e83) :: (false, e95) :: (false, e102) :: (false, e115) :: (false, e121) :: (false, e162) :: (false, e169) :: (false, e176) :: (false, e217) :: (false, e225) :: (false, e228) :: (false, e244) :: (false, e254) :: (false, e264) :: (false, e274) :: (false, e286) :: (false, e300) :: (false, e311) :: (false, e321) :: (false, e331) :: (false, e341) :: (false, e351) :: (false, e361) :: (false, e371) :: (false, e383) :: (false, e391) :: (false, e399) :: (false, e413) :: (false, e425) :: L4
theorem L5_ok : AllOk Tryz.prog gl0 L5 := .cons e42_ok (.cons e54_ok (.cons e65_ok (.cons e83_ok (.cons e95_ok (.cons e102_ok (.cons e115_ok (.cons e121_ok (.cons e162_ok (.cons e169_ok (.cons e176_ok (.cons e217_ok (.cons e225_ok (.cons e228_ok (.cons e244_ok (.cons e254_ok (.cons e264_ok (.cons e274_ok (.cons e286_ok (.cons e300_ok (.cons e311_ok (.cons e321_ok (.cons e331_ok (.cons e341_ok (.cons e351_ok (.cons e361_ok (.cons e371_ok (.cons e383_ok (.cons e391_ok (.cons e399_ok (.cons e413_ok (.cons e425_ok (L4_ok))))))))))))))))))))))))))))))))
noncomputable def O5 : CallF := memoO gtest (mkTab L5)
theorem O5_ok : CallOk Tryz.prog O5 := memoO_ok gtest_ok L5_ok
end Go.Ev
