/- Part of an evaluator of calls that is proved sound, and of what it gives about this program. No condition of its own. -/
import Derived.Test.YthiodbpknjfnkaaGreatDoorEvG3
set_option linter.unusedVariables false
set_option linter.unusedSimpArgs false
set_option maxRecDepth 1000000
namespace Go.Ev
open Go.Proofs Go.Shelf
def e23 : Memo := ⟨124, 0, [(.v (.string ⟨#[51, 49, 47, 49, 48]⟩)), (.v (.string ⟨#[49, 54, 47, 53]⟩))], [], [], (.tup [(.agg [(.v (.bool false)), (.slc 9 0 1 2), (.slc 15 0 1 2)]), (.agg [(.v (.bool false)), (.slc 27 0 1 2), (.slc 33 0 1 2)]), (.v (.int .i64 0))]), 39, [(9, (.cells [(.v (.int .u64 31)), (.v (.int .u64 0))] 90 0)), (15, (.cells [(.v (.int .u64 10)), (.v (.int .u64 0))] 90 0)), (27, (.cells [(.v (.int .u64 16)), (.v (.int .u64 0))] 90 0)), (33, (.cells [(.v (.int .u64 5)), (.v (.int .u64 0))] 90 0))]⟩
theorem e23_ok : e23.Ok Tryz.prog noGl := memo_ok TF_ok O3_ok mixed TPl_ok 100000 (by kernel_rfl) (by kernel_rfl)
def e50 : Memo := ⟨39, 9, [(.slc 0 0 4 4), (.v (.func (.func 43) #[] #[]))], [(0, 0, 0), (1, 1, 0), (1, 2, 0), (1, 4, 0), (1, 5, 0), (1, 7, 0), (1, 8, 0), (1, 10, 0), (1, 11, 0)], [(.cells [(.v (.bool false)), (.slc 1 0 1 1), (.slc 2 0 1 1), (.v (.bool false)), (.slc 3 0 1 1), (.slc 4 0 1 1), (.v (.bool false)), (.slc 5 0 1 1), (.slc 6 0 1 1), (.v (.bool false)), (.slc 7 0 1 1), (.slc 8 0 1 1)] 59 0), (.cells [(.v (.int .u64 31))] 90 0), (.cells [(.v (.int .u64 1))] 90 0), (.cells [(.v (.int .u64 32))] 90 0), (.cells [(.v (.int .u64 1))] 90 0), (.cells [(.v (.int .u64 31))] 90 0), (.cells [(.v (.int .u64 1))] 90 0), (.cells [(.v (.int .u64 32))] 90 0), (.cells [(.v (.int .u64 1))] 90 0)], (.agg [(.v (.bool false)), (.slc 1 0 1 1), (.slc 2 0 1 1)]), 56, []⟩
theorem e50_ok : e50.Ok Tryz.prog noGl := memo_ok TF_ok O3_ok mixed TPl_ok 100000 (by kernel_rfl) (by kernel_rfl)
def e62 : Memo := ⟨36, 0, [(.v (.string ⟨#[51, 49, 52, 49, 53]⟩))], [], [], (.tup [(.agg [(.v (.bool false)), (.slc 6 0 1 2), (.slc 12 0 1 2)]), (.v (.int .i64 0))]), 16, [(6, (.cells [(.v (.int .u64 31415)), (.v (.int .u64 0))] 90 0)), (12, (.cells [(.v (.int .u64 1)), (.v (.int .u64 0))] 90 0))]⟩
theorem e62_ok : e62.Ok Tryz.prog noGl := memo_ok TF_ok O3_ok mixed TPl_ok 100000 (by kernel_rfl) (by kernel_rfl)
def e68 : Memo := ⟨36, 0, [(.v (.string ⟨#[49, 48, 48, 48, 48]⟩))], [], [], (.tup [(.agg [(.v (.bool false)), (.slc 6 0 1 2), (.slc 12 0 1 2)]), (.v (.int .i64 0))]), 16, [(6, (.cells [(.v (.int .u64 10000)), (.v (.int .u64 0))] 90 0)), (12, (.cells [(.v (.int .u64 1)), (.v (.int .u64 0))] 90 0))]⟩
theorem e68_ok : e68.Ok Tryz.prog noGl := memo_ok TF_ok O3_ok mixed TPl_ok 100000 (by kernel_rfl) (by kernel_rfl)
def e86 : Memo := ⟨38, 4, [(.agg [(.v (.bool false)), (.slc 0 0 1 1), (.slc 1 0 1 2)]), (.agg [(.v (.bool false)), (.slc 2 0 1 1), (.slc 3 0 1 1)])], [(0, 0, 1), (0, 0, 2), (0, 1, 1), (0, 1, 2)], [(.cells [(.v (.int .u64 283))] 90 0), (.cells [(.v (.int .u64 2000)), (.v (.int .u64 0))] 90 0), (.cells [(.v (.int .u64 1))] 90 0), (.cells [(.v (.int .u64 7))] 90 0)], (.agg [(.v (.bool true)), (.slc 38 0 1 1), (.slc 47 0 1 2)]), 52, [(38, (.cells [(.v (.int .u64 19))] 90 0)), (47, (.cells [(.v (.int .u64 14000)), (.v (.int .u64 0))] 90 0))]⟩
theorem e86_ok : e86.Ok Tryz.prog noGl := memo_ok TF_ok O3_ok mixed TPl_ok 100000 (by kernel_rfl) (by kernel_rfl)
def e90 : Memo := ⟨38, 4, [(.agg [(.v (.bool false)), (.slc 0 0 1 1), (.slc 1 0 1 2)]), (.agg [(.v (.bool false)), (.slc 2 0 1 1), (.slc 3 0 1 1)])], [(0, 0, 1), (0, 0, 2), (0, 1, 1), (0, 1, 2)], [(.cells [(.v (.int .u64 283))] 90 0), (.cells [(.v (.int .u64 2000)), (.v (.int .u64 0))] 90 0), (.cells [(.v (.int .u64 1))] 90 0), (.cells [(.v (.int .u64 8))] 90 0)], (.agg [(.v (.bool false)), (.slc 55 0 1 1), (.slc 57 0 1 1)]), 56, [(55, (.cells [(.v (.int .u64 33))] 90 0)), (57, (.cells [(.v (.int .u64 2000))] 90 0))]⟩
theorem e90_ok : e90.Ok Tryz.prog noGl := memo_ok TF_ok O3_ok mixed TPl_ok 100000 (by kernel_rfl) (by kernel_rfl)
noncomputable def L4 : List Ent := (false, e6) :: (false, e13) :: (false, e23) :: (false, e50) :: (false, e62) :: (false, e68) :: (false, e86) :: (false, e90) :: L3
theorem L4_ok : AllOk Tryz.prog gl0 L4 := .cons e6_ok (.cons e13_ok (.cons e23_ok (.cons e50_ok (.cons e62_ok (.cons e68_ok (.cons e86_ok (.cons e90_ok (L3_ok))))))))
noncomputable def O4 : CallF := memoO gtest (mkTab L4)
theorem O4_ok : CallOk Tryz.prog O4 := memoO_ok gtest_ok L4_ok
def e7 : Memo := ⟨33, 0, [(.v (.string ⟨#[51, 49]⟩))], [], [], (.agg [(.v (.bool false)), (.slc 7 0 1 2)]), 20, [(7, (.cells [(.v (.int .u64 31)), (.v (.int .u64 0))] 90 0))]⟩
theorem e7_ok : e7.Ok Tryz.prog noGl := memo_ok TF_ok O4_ok mixed TPl_ok 100000 (by kernel_rfl) (by kernel_rfl)
def e14 : Memo := ⟨33, 0, [(.v (.string ⟨#[49, 48]⟩))], [], [], (.agg [(.v (.bool false)), (.slc 7 0 1 2)]), 20, [(7, (.cells [(.v (.int .u64 10)), (.v (.int .u64 0))] 90 0))]⟩
theorem e14_ok : e14.Ok Tryz.prog noGl := memo_ok TF_ok O4_ok mixed TPl_ok 100000 (by kernel_rfl) (by kernel_rfl)
def e25 : Memo := ⟨99, 0, [(.agg [(.v (.string ⟨#[51, 49, 47, 49, 48]⟩)), (.v (.string ⟨#[49, 54, 47, 53]⟩))])], [], [], (.tup [(.agg [(.v (.bool false)), (.slc 11 0 1 2), (.slc 17 0 1 2), (.v (.bool false)), (.slc 29 0 1 2), (.slc 35 0 1 2)]), (.v (.int .i64 0))]), 61, [(11, (.cells [(.v (.int .u64 31)), (.v (.int .u64 0))] 90 0)), (17, (.cells [(.v (.int .u64 10)), (.v (.int .u64 0))] 90 0)), (29, (.cells [(.v (.int .u64 16)), (.v (.int .u64 0))] 90 0)), (35, (.cells [(.v (.int .u64 5)), (.v (.int .u64 0))] 90 0))]⟩
theorem e25_ok : e25.Ok Tryz.prog noGl := memo_ok TF_ok O4_ok mixed TPl_ok 100000 (by kernel_rfl) (by kernel_rfl)
def e51 : Memo := ⟨65, 8, [(.agg [(.v (.bool false)), (.slc 0 0 1 2), (.slc 1 0 1 2), (.v (.bool false)), (.slc 2 0 1 2), (.slc 3 0 1 2)]), (.agg [(.v (.bool false)), (.slc 4 0 1 2), (.slc 5 0 1 2), (.v (.bool false)), (.slc 6 0 1 2), (.slc 7 0 1 2)]), (.v (.func (.func 35) #[] #[]))], [(0, 0, 1), (0, 0, 2), (0, 0, 4), (0, 0, 5), (0, 1, 1), (0, 1, 2), (0, 1, 4), (0, 1, 5)], [(.cells [(.v (.int .u64 10)), (.v (.int .u64 0))] 90 0), (.cells [(.v (.int .u64 1)), (.v (.int .u64 0))] 90 0), (.cells [(.v (.int .u64 10)), (.v (.int .u64 0))] 90 0), (.cells [(.v (.int .u64 1)), (.v (.int .u64 0))] 90 0), (.cells [(.v (.int .u64 31)), (.v (.int .u64 0))] 90 0), (.cells [(.v (.int .u64 10)), (.v (.int .u64 0))] 90 0), (.cells [(.v (.int .u64 16)), (.v (.int .u64 0))] 90 0), (.cells [(.v (.int .u64 5)), (.v (.int .u64 0))] 90 0)], (.agg [(.v (.bool false)), (.slc 34 0 1 1), (.slc 36 0 1 1), (.v (.bool false)), (.slc 62 0 1 1), (.slc 64 0 1 1)]), 228, [(34, (.cells [(.v (.int .u64 31))] 90 0)), (36, (.cells [(.v (.int .u64 1))] 90 0)), (62, (.cells [(.v (.int .u64 32))] 90 0)), (64, (.cells [(.v (.int .u64 1))] 90 0))]⟩
theorem e51_ok : e51.Ok Tryz.prog noGl := memo_ok TF_ok O4_ok mixed TPl_ok 100000 (by kernel_rfl) (by kernel_rfl)
def e63 : Memo := ⟨33, 0, [(.v (.string ⟨#[51, 49, 52, 49, 53]⟩))], [], [], (.agg [(.v (.bool false)), (.slc 7 0 1 2)]), 20, [(7, (.cells [(.v (.int .u64 31415)), (.v (.int .u64 0))] 90 0))]⟩
theorem e63_ok : e63.Ok Tryz.prog noGl := memo_ok TF_ok O4_ok mixed TPl_ok 100000 (by kernel_rfl) (by kernel_rfl)
def e69 : Memo := ⟨33, 0, [(.v (.string ⟨#[49, 48, 48, 48, 48]⟩))], [], [], (.agg [(.v (.bool false)), (.slc 7 0 1 2)]), 20, [(7, (.cells [(.v (.int .u64 10000)), (.v (.int .u64 0))] 90 0))]⟩
theorem e69_ok : e69.Ok Tryz.prog noGl := memo_ok TF_ok O4_ok mixed TPl_ok 100000 (by kernel_rfl) (by kernel_rfl)
def e87 : Memo := ⟨42, 4, [(.agg [(.v (.bool false)), (.slc 0 0 1 1), (.slc 1 0 1 2)]), (.agg [(.v (.bool false)), (.slc 2 0 1 1), (.slc 3 0 1 1)])], [(0, 0, 1), (0, 0, 2), (0, 1, 1), (0, 1, 2)], [(.cells [(.v (.int .u64 283))] 90 0), (.cells [(.v (.int .u64 2000)), (.v (.int .u64 0))] 90 0), (.cells [(.v (.int .u64 1))] 90 0), (.cells [(.v (.int .u64 7))] 90 0)], (.agg [(.v (.bool false)), (.slc 41 0 1 1), (.slc 50 0 1 2)]), 57, [(41, (.cells [(.v (.int .u64 19))] 90 0)), (50, (.cells [(.v (.int .u64 14000)), (.v (.int .u64 0))] 90 0))]⟩
theorem e87_ok : e87.Ok Tryz.prog noGl := memo_ok TF_ok O4_ok mixed TPl_ok 100000 (by kernel_rfl) (by kernel_rfl)
def e91 : Memo := ⟨42, 4, [(.agg [(.v (.bool false)), (.slc 0 0 1 1), (.slc 1 0 1 2)]), (.agg [(.v (.bool false)), (.slc 2 0 1 1), (.slc 3 0 1 1)])], [(0, 0, 1), (0, 0, 2), (0, 1, 1), (0, 1, 2)], [(.cells [(.v (.int .u64 283))] 90 0), (.cells [(.v (.int .u64 2000)), (.v (.int .u64 0))] 90 0), (.cells [(.v (.int .u64 1))] 90 0), (.cells [(.v (.int .u64 8))] 90 0)], (.agg [(.v (.bool false)), (.slc 58 0 1 1), (.slc 60 0 1 1)]), 61, [(58, (.cells [(.v (.int .u64 33))] 90 0)), (60, (.cells [(.v (.int .u64 2000))] 90 0))]⟩
theorem e91_ok : e91.Ok Tryz.prog noGl := memo_ok TF_ok O4_ok mixed TPl_ok 100000 (by kernel_rfl) (by kernel_rfl)
noncomputable def L5 : List Ent := (false, e7) :: (false, e14) :: (false, e25) :: (false, e51) :: (false, e63) :: (false, e69) :: (false, e87) :: (false, e91) :: L4
theorem L5_ok : AllOk Tryz.prog gl0 L5 := .cons e7_ok (.cons e14_ok (.cons e25_ok (.cons e51_ok (.cons e63_ok (.cons e69_ok (.cons e87_ok (.cons e91_ok (L4_ok))))))))
noncomputable def O5 : CallF := memoO gtest (mkTab L5)
theorem O5_ok : CallOk Tryz.prog O5 := memoO_ok gtest_ok L5_ok
def e17 : Memo := ⟨32, 1, [(.agg [(.v (.bool false)), (.slc 0 0 1 2)]), (.v (.int .i64 1))], [(0, 0, 1)], [(.cells [(.v (.int .u64 31)), (.v (.int .u64 0))] 90 0)], (.agg [(.v (.bool false)), (.slc 0 0 1 2), (.slc 10 0 1 2), (.v (.bool false)), (.slc 45 0 1 1), (.slc 47 0 1 1)]), 49, [(10, (.cells [(.v (.int .u64 10)), (.v (.int .u64 0))] 90 0)), (45, (.cells [(.v (.int .u64 16))] 90 0)), (47, (.cells [(.v (.int .u64 5))] 90 0))]⟩
theorem e17_ok : e17.Ok Tryz.prog noGl := memo_ok TF_ok O5_ok mixed TPl_ok 100000 (by kernel_rfl) (by kernel_rfl)
def e26 : Memo := ⟨64, 0, [(.agg [(.v (.string ⟨#[49, 48]⟩)), (.v (.string ⟨#[49, 48]⟩))]), (.agg [(.v (.string ⟨#[51, 49, 47, 49, 48]⟩)), (.v (.string ⟨#[49, 54, 47, 53]⟩))])], [], [], (.tup [(.agg [(.v (.bool false)), (.slc 14 0 1 2), (.slc 20 0 1 2), (.v (.bool false)), (.slc 31 0 1 2), (.slc 37 0 1 2)]), (.agg [(.v (.bool false)), (.slc 75 0 1 2), (.slc 81 0 1 2), (.v (.bool false)), (.slc 93 0 1 2), (.slc 99 0 1 2)]), (.v (.int .i64 0))]), 127, [(14, (.cells [(.v (.int .u64 10)), (.v (.int .u64 0))] 90 0)), (20, (.cells [(.v (.int .u64 1)), (.v (.int .u64 0))] 90 0)), (31, (.cells [(.v (.int .u64 10)), (.v (.int .u64 0))] 90 0)), (37, (.cells [(.v (.int .u64 1)), (.v (.int .u64 0))] 90 0)), (75, (.cells [(.v (.int .u64 31)), (.v (.int .u64 0))] 90 0)), (81, (.cells [(.v (.int .u64 10)), (.v (.int .u64 0))] 90 0)), (93, (.cells [(.v (.int .u64 16)), (.v (.int .u64 0))] 90 0)), (99, (.cells [(.v (.int .u64 5)), (.v (.int .u64 0))] 90 0))]⟩
theorem e26_ok : e26.Ok Tryz.prog noGl := memo_ok TF_ok O5_ok mixed TPl_ok 100000 (by kernel_rfl) (by kernel_rfl)
def e72 : Memo := ⟨32, 1, [(.agg [(.v (.bool false)), (.slc 0 0 1 2)]), (.v (.int .i64 4))], [(0, 0, 1)], [(.cells [(.v (.int .u64 31415)), (.v (.int .u64 0))] 90 0)], (.agg [(.v (.bool false)), (.slc 38 0 1 1), (.slc 40 0 1 1), (.v (.bool false)), (.slc 49 0 1 1), (.slc 51 0 1 1)]), 53, [(38, (.cells [(.v (.int .u64 6283))] 90 0)), (40, (.cells [(.v (.int .u64 2000))] 90 0)), (49, (.cells [(.v (.int .u64 3927))] 90 0)), (51, (.cells [(.v (.int .u64 1250))] 90 0))]⟩
theorem e72_ok : e72.Ok Tryz.prog noGl := memo_ok TF_ok O5_ok mixed TPl_ok 100000 (by kernel_rfl) (by kernel_rfl)
def e96 : Memo := ⟨41, 7, [(.agg [(.v (.bool false)), (.slc 0 0 1 1), (.slc 1 0 1 1)]), (.agg [(.v (.bool false)), (.slc 2 0 1 1), (.slc 3 0 1 1)]), (.ptr 4 0)], [(0, 0, 1), (0, 0, 2), (0, 1, 1), (0, 1, 2), (0, 2, 0), (5, 1, 0), (5, 2, 0)], [(.cells [(.v (.int .u64 1))] 90 0), (.cells [(.v (.int .u64 7))] 90 0), (.cells [(.v (.int .u64 1))] 90 0), (.cells [(.v (.int .u64 8))] 90 0), (.cells [(.v (.bool false)), (.slc 5 0 1 1), (.slc 6 0 1 2)] 59 0), (.cells [(.v (.int .u64 283))] 90 0), (.cells [(.v (.int .u64 2000)), (.v (.int .u64 0))] 90 0)], (.v (.int .i64 (-1))), 163, []⟩
theorem e96_ok : e96.Ok Tryz.prog noGl := memo_ok TF_ok O5_ok mixed TPl_ok 100000 (by kernel_rfl) (by kernel_rfl)
noncomputable def L6 : List Ent := (false, e17) :: (false, e26) :: (false, e72) :: (false, e96) :: L5
theorem L6_ok : AllOk Tryz.prog gl0 L6 := .cons e17_ok (.cons e26_ok (.cons e72_ok (.cons e96_ok (L5_ok))))
noncomputable def O6 : CallF := memoO gtest (mkTab L6)
theorem O6_ok : CallOk Tryz.prog O6 := memoO_ok gtest_ok L6_ok
def e19 : Memo := ⟨15, 0, [(.v (.int .i64 1))], [], [], (.tup [(.agg [(.v (.string ⟨#[51, 49, 47, 49, 48]⟩)), (.v (.string ⟨#[49, 54, 47, 53]⟩))]), (.v (.int .i64 0))]), 79, []⟩
theorem e19_ok : e19.Ok Tryz.prog noGl := memo_ok TF_ok O6_ok mixed TPl_ok 100000 (by kernel_rfl) (by kernel_rfl)
def e52 : Memo := ⟨34, 0, [(.agg [(.v (.string ⟨#[49, 48]⟩)), (.v (.string ⟨#[49, 48]⟩))]), (.agg [(.v (.string ⟨#[51, 49, 47, 49, 48]⟩)), (.v (.string ⟨#[49, 54, 47, 53]⟩))]), (.v (.func (.func 35) #[] #[]))], [], [], (.tup [(.agg [(.v (.string ⟨#[51, 49]⟩)), (.v (.string ⟨#[51, 50]⟩))]), (.v (.int .i64 0))]), 369, []⟩
theorem e52_ok : e52.Ok Tryz.prog noGl := memo_ok TF_ok O6_ok mixed TPl_ok 100000 (by kernel_rfl) (by kernel_rfl)
def e76 : Memo := ⟨15, 0, [(.v (.int .i64 4))], [], [], (.tup [(.agg [(.v (.string ⟨#[54, 50, 56, 51, 47, 50, 48, 48, 48]⟩)), (.v (.string ⟨#[51, 57, 50, 55, 47, 49, 50, 53, 48]⟩))]), (.v (.int .i64 0))]), 87, []⟩
theorem e76_ok : e76.Ok Tryz.prog gl0 := memo_ok TF_ok O6_ok mixed TPl_ok 100000 (by kernel_rfl) (by kernel_rfl)
def e98 : Memo := ⟨17, 0, [(.v (.string ⟨#[54, 50, 56, 51, 47, 50, 48, 48, 48]⟩)), (.v (.int .i64 10))], [], [], (.tup [(.v (.string ⟨#[50, 50, 47, 55]⟩)), (.v (.int .i64 0))]), 368, []⟩
theorem e98_ok : e98.Ok Tryz.prog noGl := memo_ok TF_ok O6_ok mixed TPl_ok 100000 (by kernel_rfl) (by kernel_rfl)
noncomputable def L7 : List Ent := (false, e19) :: (false, e52) :: (true, e76) :: (false, e98) :: L6
theorem L7_ok : AllOk Tryz.prog gl0 L7 := .cons e19_ok (.cons e52_ok (.cons e76_ok (.cons e98_ok (L6_ok))))
noncomputable def O7 : CallF := memoO gtest (mkTab L7)
theorem O7_ok : CallOk Tryz.prog O7 := memoO_ok gtest_ok L7_ok
def e53 : Memo := ⟨16, 0, [(.agg [(.v (.string ⟨#[49, 48]⟩)), (.v (.string ⟨#[49, 48]⟩))]), (.agg [(.v (.string ⟨#[51, 49, 47, 49, 48]⟩)), (.v (.string ⟨#[49, 54, 47, 53]⟩))])], [], [], (.tup [(.agg [(.v (.string ⟨#[51, 49]⟩)), (.v (.string ⟨#[51, 50]⟩))]), (.v (.int .i64 0))]), 372, []⟩
theorem e53_ok : e53.Ok Tryz.prog noGl := memo_ok TF_ok O7_ok mixed TPl_ok 100000 (by kernel_rfl) (by kernel_rfl)
noncomputable def L8 : List Ent := (false, e53) :: L7
theorem L8_ok : AllOk Tryz.prog gl0 L8 := .cons e53_ok (L7_ok)
noncomputable def O8 : CallF := memoO gtest (mkTab L8)
theorem O8_ok : CallOk Tryz.prog O8 := memoO_ok gtest_ok L8_ok
end Go.Ev
