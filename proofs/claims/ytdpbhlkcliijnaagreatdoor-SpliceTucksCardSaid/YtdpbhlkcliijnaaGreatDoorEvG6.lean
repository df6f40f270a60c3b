/- Part of an evaluator of calls that is proved sound, and of what it gives about this program. No condition of its own. -/
import Derived.Test.YtdpbhlkcliijnaaGreatDoorEvG5
set_option linter.unusedVariables false
set_option linter.unusedSimpArgs false
set_option linter.unusedSectionVars false
set_option maxRecDepth 1000000
namespace Go.Ev
open Go.Proofs Go.Shelf
def e87 : Memo := ⟨165, 1, [(.slc 0 0 3 3)], [(0, 0, 0)], [(.cells [(.v (.string ⟨#[48]⟩)), (.v (.string ⟨#[49, 47, 50]⟩)), (.v (.string ⟨#[50]⟩)), (.v (.string ⟨#[52, 47, 53]⟩)), (.v (.string ⟨#[51]⟩)), (.v (.string ⟨#[57, 47, 49, 48]⟩))] 103 0)], (.tup [(.slc 1 0 3 3), (.v (.int .i64 0))]), 146, [(1, (.cells [(.v (.bool false)), (.slc 9 0 0 1), (.slc 15 0 1 2), (.v (.bool false)), (.slc 44 0 1 2), (.slc 50 0 1 2), (.v (.bool false)), (.slc 99 0 1 2), (.slc 105 0 1 2)] 170 0)), (9, (.cells [(.v (.int .u64 0))] 233 0)), (15, (.cells [(.v (.int .u64 1)), (.v (.int .u64 0))] 233 0)), (44, (.cells [(.v (.int .u64 2)), (.v (.int .u64 0))] 233 0)), (50, (.cells [(.v (.int .u64 1)), (.v (.int .u64 0))] 233 0)), (99, (.cells [(.v (.int .u64 3)), (.v (.int .u64 0))] 233 0)), (105, (.cells [(.v (.int .u64 1)), (.v (.int .u64 0))] 233 0))]⟩
theorem e87_ok : e87.Ok Tryz.prog noGl := memo_ok TF_ok O5_ok mixed TPl_ok 100000 (by kernel_rfl) (by kernel_rfl)
def e101 : Memo := ⟨167, 0, [(.v (.string ⟨#[52, 47, 53]⟩)), (.v (.string ⟨#[49]⟩))], [], [], (.tup [(.v (.int .i64 (-1))), (.v (.int .i64 0))]), 58, []⟩
theorem e101_ok : e101.Ok Tryz.prog noGl := memo_ok TF_ok O5_ok mixed TPl_ok 100000 (by kernel_rfl) (by kernel_rfl)
def e105 : Memo := ⟨167, 0, [(.v (.string ⟨#[52, 47, 53]⟩)), (.v (.string ⟨#[48]⟩))], [], [], (.tup [(.v (.int .i64 1)), (.v (.int .i64 0))]), 56, []⟩
theorem e105_ok : e105.Ok Tryz.prog noGl := memo_ok TF_ok O5_ok mixed TPl_ok 100000 (by kernel_rfl) (by kernel_rfl)
def e116 : Memo := ⟨167, 0, [(.v (.string ⟨#[49, 48, 48, 48]⟩)), (.v (.string ⟨#[48]⟩))], [], [], (.tup [(.v (.int .i64 1)), (.v (.int .i64 0))]), 55, []⟩
theorem e116_ok : e116.Ok Tryz.prog noGl := memo_ok TF_ok O5_ok mixed TPl_ok 100000 (by kernel_rfl) (by kernel_rfl)
def e122 : Memo := ⟨121, 0, [(.v (.string ⟨#[49, 47, 50]⟩))], [], [], (.v (.int .i64 0)), 116, []⟩
theorem e122_ok : e122.Ok Tryz.prog noGl := memo_ok TF_ok O5_ok mixed TPl_ok 100000 (by kernel_rfl) (by kernel_rfl)
def e163 : Memo := ⟨61, 0, [(.agg [(.v (.int .i64 2)), (.v (.int .i64 4)), (.v (.int .i64 3))])], [], [], (.tup [(.v (.string ⟨#[49, 54, 47, 50, 53]⟩)), (.v (.int .i64 0))]), 180, []⟩
theorem e163_ok : e163.Ok Tryz.prog noGl := memo_ok TF_ok O5_ok mixed TPl_ok 100000 (by kernel_rfl) (by kernel_rfl)
def e173 : Memo := ⟨167, 0, [(.v (.string ⟨#[56, 48]⟩)), (.v (.string ⟨#[48]⟩))], [], [], (.tup [(.v (.int .i64 1)), (.v (.int .i64 0))]), 55, []⟩
theorem e173_ok : e173.Ok Tryz.prog noGl := memo_ok TF_ok O5_ok mixed TPl_ok 100000 (by kernel_rfl) (by kernel_rfl)
def e198 : Memo := ⟨125, 0, [(.agg [(.v (.int .i64 2)), (.v (.int .i64 4)), (.v (.int .i64 3))]), (.v (.string ⟨#[56, 48]⟩))], [], [], (.agg [(.v (.bool false)), (.slc 297 0 1 1), (.slc 299 0 1 1)]), 302, [(297, (.cells [(.v (.int .u64 2500))] 233 0)), (299, (.cells [(.v (.int .u64 1))] 233 0))]⟩
theorem e198_ok : e198.Ok Tryz.prog noGl := memo_ok TF_ok O5_ok mixed TPl_ok 100000 (by kernel_rfl) (by kernel_rfl)
def e221 : Memo := ⟨167, 0, [(.v (.string ⟨#[53, 48]⟩)), (.v (.string ⟨#[48]⟩))], [], [], (.tup [(.v (.int .i64 1)), (.v (.int .i64 0))]), 55, []⟩
theorem e221_ok : e221.Ok Tryz.prog noGl := memo_ok TF_ok O5_ok mixed TPl_ok 100000 (by kernel_rfl) (by kernel_rfl)
def e227 : Memo := ⟨125, 0, [(.agg [(.v (.int .i64 2)), (.v (.int .i64 4)), (.v (.int .i64 0))]), (.v (.string ⟨#[56, 48]⟩))], [], [], (.agg [(.v (.bool false)), (.slc 241 0 1 2), (.slc 248 0 1 2)]), 257, [(241, (.cells [(.v (.int .u64 1600)), (.v (.int .u64 0))] 233 0)), (248, (.cells [(.v (.int .u64 1)), (.v (.int .u64 0))] 233 0))]⟩
theorem e227_ok : e227.Ok Tryz.prog noGl := memo_ok TF_ok O5_ok mixed TPl_ok 100000 (by kernel_rfl) (by kernel_rfl)
def e246 : Memo := ⟨125, 0, [(.agg [(.v (.int .i64 2)), (.v (.int .i64 4)), (.v (.int .i64 50001))]), (.v (.string ⟨#[56, 48]⟩))], [], [], (.agg [(.v (.bool false)), (.slc 297 0 1 1), (.slc 299 0 1 1)]), 302, [(297, (.cells [(.v (.int .u64 250010001700))] 233 0)), (299, (.cells [(.v (.int .u64 1))] 233 0))]⟩
theorem e246_ok : e246.Ok Tryz.prog noGl := memo_ok TF_ok O5_ok mixed TPl_ok 100000 (by kernel_rfl) (by kernel_rfl)
def e256 : Memo := ⟨125, 0, [(.agg [(.v (.int .i64 2)), (.v (.int .i64 4)), (.v (.int .i64 25001))]), (.v (.string ⟨#[56, 48]⟩))], [], [], (.agg [(.v (.bool false)), (.slc 297 0 1 1), (.slc 299 0 1 1)]), 302, [(297, (.cells [(.v (.int .u64 62505001700))] 233 0)), (299, (.cells [(.v (.int .u64 1))] 233 0))]⟩
theorem e256_ok : e256.Ok Tryz.prog noGl := memo_ok TF_ok O5_ok mixed TPl_ok 100000 (by kernel_rfl) (by kernel_rfl)
def e266 : Memo := ⟨125, 0, [(.agg [(.v (.int .i64 2)), (.v (.int .i64 4)), (.v (.int .i64 12501))]), (.v (.string ⟨#[56, 48]⟩))], [], [], (.agg [(.v (.bool false)), (.slc 297 0 1 1), (.slc 299 0 1 1)]), 302, [(297, (.cells [(.v (.int .u64 15627501700))] 233 0)), (299, (.cells [(.v (.int .u64 1))] 233 0))]⟩
theorem e266_ok : e266.Ok Tryz.prog noGl := memo_ok TF_ok O5_ok mixed TPl_ok 100000 (by kernel_rfl) (by kernel_rfl)
def e276 : Memo := ⟨125, 0, [(.agg [(.v (.int .i64 2)), (.v (.int .i64 4)), (.v (.int .i64 6251))]), (.v (.string ⟨#[56, 48]⟩))], [], [], (.agg [(.v (.bool false)), (.slc 297 0 1 1), (.slc 299 0 1 1)]), 302, [(297, (.cells [(.v (.int .u64 3907501700))] 233 0)), (299, (.cells [(.v (.int .u64 1))] 233 0))]⟩
theorem e276_ok : e276.Ok Tryz.prog noGl := memo_ok TF_ok O5_ok mixed TPl_ok 100000 (by kernel_rfl) (by kernel_rfl)
def e292 : Memo := ⟨125, 0, [(.agg [(.v (.int .i64 2)), (.v (.int .i64 4)), (.v (.int .i64 3126))]), (.v (.string ⟨#[56, 48]⟩))], [], [], (.agg [(.v (.bool false)), (.slc 301 0 1 1), (.slc 303 0 1 1)]), 306, [(301, (.cells [(.v (.int .u64 977189200))] 233 0)), (303, (.cells [(.v (.int .u64 1))] 233 0))]⟩
theorem e292_ok : e292.Ok Tryz.prog noGl := memo_ok TF_ok O5_ok mixed TPl_ok 100000 (by kernel_rfl) (by kernel_rfl)
def e302 : Memo := ⟨125, 0, [(.agg [(.v (.int .i64 2)), (.v (.int .i64 4)), (.v (.int .i64 1563))]), (.v (.string ⟨#[56, 48]⟩))], [], [], (.agg [(.v (.bool false)), (.slc 297 0 1 1), (.slc 299 0 1 1)]), 302, [(297, (.cells [(.v (.int .u64 244298500))] 233 0)), (299, (.cells [(.v (.int .u64 1))] 233 0))]⟩
theorem e302_ok : e302.Ok Tryz.prog noGl := memo_ok TF_ok O5_ok mixed TPl_ok 100000 (by kernel_rfl) (by kernel_rfl)
def e313 : Memo := ⟨125, 0, [(.agg [(.v (.int .i64 2)), (.v (.int .i64 4)), (.v (.int .i64 782))]), (.v (.string ⟨#[56, 48]⟩))], [], [], (.agg [(.v (.bool false)), (.slc 301 0 1 1), (.slc 303 0 1 1)]), 306, [(301, (.cells [(.v (.int .u64 61154000))] 233 0)), (303, (.cells [(.v (.int .u64 1))] 233 0))]⟩
theorem e313_ok : e313.Ok Tryz.prog noGl := memo_ok TF_ok O5_ok mixed TPl_ok 100000 (by kernel_rfl) (by kernel_rfl)
def e323 : Memo := ⟨125, 0, [(.agg [(.v (.int .i64 2)), (.v (.int .i64 4)), (.v (.int .i64 391))]), (.v (.string ⟨#[56, 48]⟩))], [], [], (.agg [(.v (.bool false)), (.slc 297 0 1 1), (.slc 299 0 1 1)]), 302, [(297, (.cells [(.v (.int .u64 15289700))] 233 0)), (299, (.cells [(.v (.int .u64 1))] 233 0))]⟩
theorem e323_ok : e323.Ok Tryz.prog noGl := memo_ok TF_ok O5_ok mixed TPl_ok 100000 (by kernel_rfl) (by kernel_rfl)
def e333 : Memo := ⟨125, 0, [(.agg [(.v (.int .i64 2)), (.v (.int .i64 4)), (.v (.int .i64 196))]), (.v (.string ⟨#[56, 48]⟩))], [], [], (.agg [(.v (.bool false)), (.slc 286 0 1 2), (.slc 293 0 1 2)]), 302, [(286, (.cells [(.v (.int .u64 3843200)), (.v (.int .u64 0))] 233 0)), (293, (.cells [(.v (.int .u64 1)), (.v (.int .u64 0))] 233 0))]⟩
theorem e333_ok : e333.Ok Tryz.prog noGl := memo_ok TF_ok O5_ok mixed TPl_ok 100000 (by kernel_rfl) (by kernel_rfl)
def e343 : Memo := ⟨125, 0, [(.agg [(.v (.int .i64 2)), (.v (.int .i64 4)), (.v (.int .i64 98))]), (.v (.string ⟨#[56, 48]⟩))], [], [], (.agg [(.v (.bool false)), (.slc 301 0 1 1), (.slc 303 0 1 1)]), 306, [(301, (.cells [(.v (.int .u64 962000))] 233 0)), (303, (.cells [(.v (.int .u64 1))] 233 0))]⟩
theorem e343_ok : e343.Ok Tryz.prog noGl := memo_ok TF_ok O5_ok mixed TPl_ok 100000 (by kernel_rfl) (by kernel_rfl)
def e353 : Memo := ⟨125, 0, [(.agg [(.v (.int .i64 2)), (.v (.int .i64 4)), (.v (.int .i64 49))]), (.v (.string ⟨#[56, 48]⟩))], [], [], (.agg [(.v (.bool false)), (.slc 297 0 1 1), (.slc 299 0 1 1)]), 302, [(297, (.cells [(.v (.int .u64 241700))] 233 0)), (299, (.cells [(.v (.int .u64 1))] 233 0))]⟩
theorem e353_ok : e353.Ok Tryz.prog noGl := memo_ok TF_ok O5_ok mixed TPl_ok 100000 (by kernel_rfl) (by kernel_rfl)
def e363 : Memo := ⟨125, 0, [(.agg [(.v (.int .i64 2)), (.v (.int .i64 4)), (.v (.int .i64 25))]), (.v (.string ⟨#[56, 48]⟩))], [], [], (.agg [(.v (.bool false)), (.slc 297 0 1 1), (.slc 299 0 1 1)]), 302, [(297, (.cells [(.v (.int .u64 64100))] 233 0)), (299, (.cells [(.v (.int .u64 1))] 233 0))]⟩
theorem e363_ok : e363.Ok Tryz.prog noGl := memo_ok TF_ok O5_ok mixed TPl_ok 100000 (by kernel_rfl) (by kernel_rfl)
def e373 : Memo := ⟨125, 0, [(.agg [(.v (.int .i64 2)), (.v (.int .i64 4)), (.v (.int .i64 13))]), (.v (.string ⟨#[56, 48]⟩))], [], [], (.agg [(.v (.bool false)), (.slc 297 0 1 1), (.slc 299 0 1 1)]), 302, [(297, (.cells [(.v (.int .u64 18500))] 233 0)), (299, (.cells [(.v (.int .u64 1))] 233 0))]⟩
theorem e373_ok : e373.Ok Tryz.prog noGl := memo_ok TF_ok O5_ok mixed TPl_ok 100000 (by kernel_rfl) (by kernel_rfl)
def e385 : Memo := ⟨125, 0, [(.agg [(.v (.int .i64 2)), (.v (.int .i64 4)), (.v (.int .i64 7))]), (.v (.string ⟨#[56, 48]⟩))], [], [], (.agg [(.v (.bool false)), (.slc 297 0 1 1), (.slc 299 0 1 1)]), 302, [(297, (.cells [(.v (.int .u64 6500))] 233 0)), (299, (.cells [(.v (.int .u64 1))] 233 0))]⟩
theorem e385_ok : e385.Ok Tryz.prog noGl := memo_ok TF_ok O5_ok mixed TPl_ok 100000 (by kernel_rfl) (by kernel_rfl)
def e393 : Memo := ⟨125, 0, [(.agg [(.v (.int .i64 2)), (.v (.int .i64 4)), (.v (.int .i64 4))]), (.v (.string ⟨#[56, 48]⟩))], [], [], (.agg [(.v (.bool false)), (.slc 286 0 1 2), (.slc 293 0 1 2)]), 302, [(286, (.cells [(.v (.int .u64 3200)), (.v (.int .u64 0))] 233 0)), (293, (.cells [(.v (.int .u64 1)), (.v (.int .u64 0))] 233 0))]⟩
theorem e393_ok : e393.Ok Tryz.prog noGl := memo_ok TF_ok O5_ok mixed TPl_ok 100000 (by kernel_rfl) (by kernel_rfl)
def e401 : Memo := ⟨125, 0, [(.agg [(.v (.int .i64 2)), (.v (.int .i64 4)), (.v (.int .i64 2))]), (.v (.string ⟨#[56, 48]⟩))], [], [], (.agg [(.v (.bool false)), (.slc 301 0 1 1), (.slc 303 0 1 1)]), 306, [(301, (.cells [(.v (.int .u64 2000))] 233 0)), (303, (.cells [(.v (.int .u64 1))] 233 0))]⟩
theorem e401_ok : e401.Ok Tryz.prog noGl := memo_ok TF_ok O5_ok mixed TPl_ok 100000 (by kernel_rfl) (by kernel_rfl)
def e414 : Memo := ⟨167, 0, [(.v (.string ⟨#[52, 57]⟩)), (.v (.string ⟨#[48]⟩))], [], [], (.tup [(.v (.int .i64 1)), (.v (.int .i64 0))]), 55, []⟩
theorem e414_ok : e414.Ok Tryz.prog noGl := memo_ok TF_ok O5_ok mixed TPl_ok 100000 (by kernel_rfl) (by kernel_rfl)
end Go.Ev
namespace Go.Ev
open Go.Proofs Go.Shelf
noncomputable def L6 : List Ent := (false, e87) :: (false, e101) :: (false, e105) :: (false, e116) :: (false, e122) :: (false, e163) :: (false, e173) :: (false, e198) :: (false, e221) :: (false, e227) :: (false, e246) :: (false, e256) :: (false, e266) :: (false, e276) :: (false, e292) :: (false, e302) :: (false, e313) :: (false, e323) :: (false, e333) :: (false, e343) :: (false, e353) :: (false, e363) :: (false, e373) :: (false, e385) :: (false, e393) :: (false, e401) :: (false, e414) :: L5
theorem L6_ok : AllOk Tryz.prog gl0 L6 := .cons e87_ok (.cons e101_ok (.cons e105_ok (.cons e116_ok (.cons e122_ok (.cons e163_ok (.cons e173_ok (.cons e198_ok (.cons e221_ok (.cons e227_ok (.cons e246_ok (.cons e256_ok (.cons e266_ok (.cons e276_ok (.cons e292_ok (.cons e302_ok (.cons e313_ok (.cons e323_ok (.cons e333_ok (.cons e343_ok (.cons e353_ok (.cons e363_ok (.cons e373_ok (.cons e385_ok (.cons e393_ok (.cons e401_ok (.cons e414_ok (L5_ok)))))))))))))))))))))))))))
noncomputable def O6 : CallF := memoO gtest (mkTab L6)
theorem O6_ok : CallOk Tryz.prog O6 := memoO_ok gtest_ok L6_ok
end Go.Ev
namespace Go.Ev
open Go.Proofs Go.Shelf
def e88 : Memo := ⟨119, 1, [(.slc 0 0 3 3)], [(0, 0, 0)], [(.cells [(.v (.string ⟨#[48]⟩)), (.v (.string ⟨#[49, 47, 50]⟩)), (.v (.string ⟨#[50]⟩)), (.v (.string ⟨#[52, 47, 53]⟩)), (.v (.string ⟨#[51]⟩)), (.v (.string ⟨#[57, 47, 49, 48]⟩))] 103 0)], (.v (.int .i64 0)), 146, []⟩
theorem e88_ok : e88.Ok Tryz.prog noGl := memo_ok TF_ok O6_ok mixed TPl_ok 100000 (by kernel_rfl) (by kernel_rfl)
def e92 : Memo := ⟨120, 1, [(.slc 0 0 3 3), (.v (.string ⟨#[53, 47, 50]⟩))], [(0, 0, 0)], [(.cells [(.v (.string ⟨#[48]⟩)), (.v (.string ⟨#[49, 47, 50]⟩)), (.v (.string ⟨#[50]⟩)), (.v (.string ⟨#[52, 47, 53]⟩)), (.v (.string ⟨#[51]⟩)), (.v (.string ⟨#[57, 47, 49, 48]⟩))] 103 0)], (.tup [(.v (.string ⟨#[52, 47, 53]⟩)), (.v (.int .i64 0))]), 219, []⟩
theorem e92_ok : e92.Ok Tryz.prog noGl := memo_ok TF_ok O6_ok mixed TPl_ok 100000 (by kernel_rfl) (by kernel_rfl)
def e106 : Memo := ⟨156, 0, [(.v (.string ⟨#[52, 47, 53]⟩)), (.v (.int .i64 0))], [], [], (.v (.int .i64 0)), 57, []⟩
theorem e106_ok : e106.Ok Tryz.prog noGl := memo_ok TF_ok O6_ok mixed TPl_ok 100000 (by kernel_rfl) (by kernel_rfl)
def e117 : Memo := ⟨156, 0, [(.v (.string ⟨#[49, 48, 48, 48]⟩)), (.v (.int .i64 0))], [], [], (.v (.int .i64 0)), 56, []⟩
theorem e117_ok : e117.Ok Tryz.prog noGl := memo_ok TF_ok O6_ok mixed TPl_ok 100000 (by kernel_rfl) (by kernel_rfl)
def e174 : Memo := ⟨156, 0, [(.v (.string ⟨#[56, 48]⟩)), (.v (.int .i64 0))], [], [], (.v (.int .i64 0)), 56, []⟩
theorem e174_ok : e174.Ok Tryz.prog noGl := memo_ok TF_ok O6_ok mixed TPl_ok 100000 (by kernel_rfl) (by kernel_rfl)
def e222 : Memo := ⟨156, 0, [(.v (.string ⟨#[53, 48]⟩)), (.v (.int .i64 0))], [], [], (.v (.int .i64 0)), 56, []⟩
theorem e222_ok : e222.Ok Tryz.prog noGl := memo_ok TF_ok O6_ok mixed TPl_ok 100000 (by kernel_rfl) (by kernel_rfl)
def e415 : Memo := ⟨156, 0, [(.v (.string ⟨#[52, 57]⟩)), (.v (.int .i64 0))], [], [], (.v (.int .i64 0)), 56, []⟩
theorem e415_ok : e415.Ok Tryz.prog noGl := memo_ok TF_ok O6_ok mixed TPl_ok 100000 (by kernel_rfl) (by kernel_rfl)
end Go.Ev
namespace Go.Ev
open Go.Proofs Go.Shelf
noncomputable def L7 : List Ent := (false, e88) :: (false, e92) :: (false, e106) :: (false, e117) :: (false, e174) :: (false, e222) :: (false, e415) :: L6
theorem L7_ok : AllOk Tryz.prog gl0 L7 := .cons e88_ok (.cons e92_ok (.cons e106_ok (.cons e117_ok (.cons e174_ok (.cons e222_ok (.cons e415_ok (L6_ok)))))))
noncomputable def O7 : CallF := memoO gtest (mkTab L7)
theorem O7_ok : CallOk Tryz.prog O7 := memoO_ok gtest_ok L7_ok
end Go.Ev
