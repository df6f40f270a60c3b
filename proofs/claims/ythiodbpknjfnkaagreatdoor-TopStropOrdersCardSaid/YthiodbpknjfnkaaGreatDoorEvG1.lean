/- Part of an evaluator of calls that is proved sound, and of what it gives about this program. No condition of its own. -/
import Derived.Test.YthiodbpknjfnkaaGreatDoorEvG0
set_option linter.unusedVariables false
set_option linter.unusedSimpArgs false
set_option maxRecDepth 1000000
namespace Go.Ev
open Go.Proofs Go.Shelf
def e0 : Memo := ⟨126, 0, [(.v (.string ⟨#[51, 49]⟩)), (.v (.int .i64 10)), (.v (.int .i64 64))], [], [], (.tup [(.v (.int .u64 31)), (.v .nilIface)]), 1, []⟩
theorem e0_ok : e0.Ok Tryz.prog noGl := memo_ok TF_ok O0_ok mixed TPl_ok 100000 (by kernel_rfl) (by kernel_rfl)
def e3 : Memo := ⟨126, 0, [(.v (.string ⟨#[49]⟩)), (.v (.int .i64 10)), (.v (.int .i64 64))], [], [], (.tup [(.v (.int .u64 1)), (.v .nilIface)]), 1, []⟩
theorem e3_ok : e3.Ok Tryz.prog noGl := memo_ok TF_ok O0_ok mixed TPl_ok 100000 (by kernel_rfl) (by kernel_rfl)
def e9 : Memo := ⟨126, 0, [(.v (.string ⟨#[49, 48]⟩)), (.v (.int .i64 10)), (.v (.int .i64 64))], [], [], (.tup [(.v (.int .u64 10)), (.v .nilIface)]), 1, []⟩
theorem e9_ok : e9.Ok Tryz.prog noGl := memo_ok TF_ok O0_ok mixed TPl_ok 100000 (by kernel_rfl) (by kernel_rfl)
def e12 : Memo := ⟨70, 2, [(.slc 0 0 1 2), (.slc 1 0 1 2)], [(0, 0, 0), (0, 1, 0)], [(.cells [(.v (.int .u64 10)), (.v (.int .u64 0))] 90 0), (.cells [(.v (.int .u64 1)), (.v (.int .u64 0))] 90 0)], (.slc 3 0 1 1), 2, [(3, (.cells [(.v (.int .u64 1))] 90 0))]⟩
theorem e12_ok : e12.Ok Tryz.prog noGl := memo_ok TF_ok O0_ok mixed TPl_ok 100000 (by kernel_rfl) (by kernel_rfl)
def e15 : Memo := ⟨70, 2, [(.slc 0 0 1 2), (.slc 1 0 1 2)], [(0, 0, 0), (0, 1, 0)], [(.cells [(.v (.int .u64 31)), (.v (.int .u64 0))] 90 0), (.cells [(.v (.int .u64 10)), (.v (.int .u64 0))] 90 0)], (.slc 3 0 1 1), 2, [(3, (.cells [(.v (.int .u64 1))] 90 0))]⟩
theorem e15_ok : e15.Ok Tryz.prog noGl := memo_ok TF_ok O0_ok mixed TPl_ok 100000 (by kernel_rfl) (by kernel_rfl)
def e16 : Memo := ⟨62, 2, [(.agg [(.v (.bool false)), (.slc 0 0 1 2)]), (.agg [(.v (.bool false)), (.slc 1 0 1 2)])], [(0, 0, 1), (0, 1, 1)], [(.cells [(.v (.int .u64 32)), (.v (.int .u64 0))] 90 0), (.cells [(.v (.int .u64 10)), (.v (.int .u64 0))] 90 0)], (.agg [(.v (.bool false)), (.slc 8 0 1 1), (.slc 10 0 1 1)]), 11, [(8, (.cells [(.v (.int .u64 16))] 90 0)), (10, (.cells [(.v (.int .u64 5))] 90 0))]⟩
theorem e16_ok : e16.Ok Tryz.prog noGl := memo_ok TF_ok O0_ok mixed TPl_ok 100000 (by kernel_rfl) (by kernel_rfl)
def e18 : Memo := ⟨31, 4, [(.agg [(.v (.bool false)), (.slc 0 0 1 2), (.slc 1 0 1 2), (.v (.bool false)), (.slc 2 0 1 1), (.slc 3 0 1 1)])], [(0, 0, 1), (0, 0, 2), (0, 0, 4), (0, 0, 5)], [(.cells [(.v (.int .u64 31)), (.v (.int .u64 0))] 90 0), (.cells [(.v (.int .u64 10)), (.v (.int .u64 0))] 90 0), (.cells [(.v (.int .u64 16))] 90 0), (.cells [(.v (.int .u64 5))] 90 0)], (.tup [(.agg [(.v (.string ⟨#[51, 49, 47, 49, 48]⟩)), (.v (.string ⟨#[49, 54, 47, 53]⟩))]), (.v (.int .i64 0))]), 9, []⟩
theorem e18_ok : e18.Ok Tryz.prog noGl := memo_ok TF_ok O0_ok mixed TPl_ok 100000 (by kernel_rfl) (by kernel_rfl)
def e20 : Memo := ⟨81, 2, [(.slc 0 0 1 2), (.slc 1 0 1 2)], [(0, 0, 0), (0, 1, 0)], [(.cells [(.v (.int .u64 10)), (.v (.int .u64 0))] 90 0), (.cells [(.v (.int .u64 1)), (.v (.int .u64 0))] 90 0)], (.slc 2 0 1 2), 1, [(2, (.cells [(.v (.int .u64 10)), (.v (.int .u64 0))] 90 0))]⟩
theorem e20_ok : e20.Ok Tryz.prog noGl := memo_ok TF_ok O0_ok mixed TPl_ok 100000 (by kernel_rfl) (by kernel_rfl)
def e22 : Memo := ⟨36, 0, [(.v (.string ⟨#[49, 54, 47, 53]⟩))], [], [], (.tup [(.agg [(.v (.bool false)), (.slc 7 0 1 2), (.slc 13 0 1 2)]), (.v (.int .i64 0))]), 17, [(7, (.cells [(.v (.int .u64 16)), (.v (.int .u64 0))] 90 0)), (13, (.cells [(.v (.int .u64 5)), (.v (.int .u64 0))] 90 0))]⟩
theorem e22_ok : e22.Ok Tryz.prog noGl := memo_ok TF_ok O0_ok mixed TPl_ok 100000 (by kernel_rfl) (by kernel_rfl)
def e24 : Memo := ⟨43, 4, [(.agg [(.v (.bool false)), (.slc 0 0 1 2), (.slc 1 0 1 2)]), (.agg [(.v (.bool false)), (.slc 2 0 1 2), (.slc 3 0 1 2)])], [(0, 0, 1), (0, 0, 2), (0, 1, 1), (0, 1, 2)], [(.cells [(.v (.int .u64 31)), (.v (.int .u64 0))] 90 0), (.cells [(.v (.int .u64 10)), (.v (.int .u64 0))] 90 0), (.cells [(.v (.int .u64 16)), (.v (.int .u64 0))] 90 0), (.cells [(.v (.int .u64 5)), (.v (.int .u64 0))] 90 0)], (.v (.int .i64 (-1))), 18, []⟩
theorem e24_ok : e24.Ok Tryz.prog noGl := memo_ok TF_ok O0_ok mixed TPl_ok 100000 (by kernel_rfl) (by kernel_rfl)
def e27 : Memo := ⟨81, 2, [(.slc 0 0 1 2), (.slc 1 0 1 2)], [(0, 0, 0), (0, 1, 0)], [(.cells [(.v (.int .u64 10)), (.v (.int .u64 0))] 90 0), (.cells [(.v (.int .u64 31)), (.v (.int .u64 0))] 90 0)], (.slc 2 0 1 2), 1, [(2, (.cells [(.v (.int .u64 310)), (.v (.int .u64 0))] 90 0))]⟩
theorem e27_ok : e27.Ok Tryz.prog noGl := memo_ok TF_ok O0_ok mixed TPl_ok 100000 (by kernel_rfl) (by kernel_rfl)
def e29 : Memo := ⟨81, 2, [(.slc 0 0 1 2), (.slc 1 0 1 2)], [(0, 0, 0), (0, 1, 0)], [(.cells [(.v (.int .u64 1)), (.v (.int .u64 0))] 90 0), (.cells [(.v (.int .u64 10)), (.v (.int .u64 0))] 90 0)], (.slc 2 0 1 2), 1, [(2, (.cells [(.v (.int .u64 10)), (.v (.int .u64 0))] 90 0))]⟩
theorem e29_ok : e29.Ok Tryz.prog noGl := memo_ok TF_ok O0_ok mixed TPl_ok 100000 (by kernel_rfl) (by kernel_rfl)
def e31 : Memo := ⟨70, 2, [(.slc 0 0 1 2), (.slc 1 0 1 2)], [(0, 0, 0), (0, 1, 0)], [(.cells [(.v (.int .u64 310)), (.v (.int .u64 0))] 90 0), (.cells [(.v (.int .u64 10)), (.v (.int .u64 0))] 90 0)], (.slc 3 0 1 1), 2, [(3, (.cells [(.v (.int .u64 10))] 90 0))]⟩
theorem e31_ok : e31.Ok Tryz.prog noGl := memo_ok TF_ok O0_ok mixed TPl_ok 100000 (by kernel_rfl) (by kernel_rfl)
def e32 : Memo := ⟨98, 2, [(.slc 0 0 1 2), (.slc 1 0 1 1)], [(0, 0, 0), (0, 1, 0)], [(.cells [(.v (.int .u64 310)), (.v (.int .u64 0))] 90 0), (.cells [(.v (.int .u64 10))] 90 0)], (.tup [(.slc 2 0 1 1), (.slc 3 0 0 1)]), 2, [(2, (.cells [(.v (.int .u64 31))] 90 0)), (3, (.cells [(.v (.int .u64 0))] 90 0))]⟩
theorem e32_ok : e32.Ok Tryz.prog noGl := memo_ok TF_ok O0_ok mixed TPl_ok 100000 (by kernel_rfl) (by kernel_rfl)
def e33 : Memo := ⟨98, 2, [(.slc 0 0 1 2), (.slc 1 0 1 1)], [(0, 0, 0), (0, 1, 0)], [(.cells [(.v (.int .u64 10)), (.v (.int .u64 0))] 90 0), (.cells [(.v (.int .u64 10))] 90 0)], (.tup [(.slc 2 0 1 1), (.slc 3 0 0 1)]), 2, [(2, (.cells [(.v (.int .u64 1))] 90 0)), (3, (.cells [(.v (.int .u64 0))] 90 0))]⟩
theorem e33_ok : e33.Ok Tryz.prog noGl := memo_ok TF_ok O0_ok mixed TPl_ok 100000 (by kernel_rfl) (by kernel_rfl)
def e36 : Memo := ⟨81, 2, [(.slc 0 0 1 2), (.slc 1 0 1 2)], [(0, 0, 0), (0, 1, 0)], [(.cells [(.v (.int .u64 10)), (.v (.int .u64 0))] 90 0), (.cells [(.v (.int .u64 16)), (.v (.int .u64 0))] 90 0)], (.slc 2 0 1 2), 1, [(2, (.cells [(.v (.int .u64 160)), (.v (.int .u64 0))] 90 0))]⟩
theorem e36_ok : e36.Ok Tryz.prog noGl := memo_ok TF_ok O0_ok mixed TPl_ok 100000 (by kernel_rfl) (by kernel_rfl)
def e38 : Memo := ⟨81, 2, [(.slc 0 0 1 2), (.slc 1 0 1 2)], [(0, 0, 0), (0, 1, 0)], [(.cells [(.v (.int .u64 1)), (.v (.int .u64 0))] 90 0), (.cells [(.v (.int .u64 5)), (.v (.int .u64 0))] 90 0)], (.slc 2 0 1 2), 1, [(2, (.cells [(.v (.int .u64 5)), (.v (.int .u64 0))] 90 0))]⟩
theorem e38_ok : e38.Ok Tryz.prog noGl := memo_ok TF_ok O0_ok mixed TPl_ok 100000 (by kernel_rfl) (by kernel_rfl)
def e40 : Memo := ⟨70, 2, [(.slc 0 0 1 2), (.slc 1 0 1 2)], [(0, 0, 0), (0, 1, 0)], [(.cells [(.v (.int .u64 160)), (.v (.int .u64 0))] 90 0), (.cells [(.v (.int .u64 5)), (.v (.int .u64 0))] 90 0)], (.slc 3 0 1 1), 2, [(3, (.cells [(.v (.int .u64 5))] 90 0))]⟩
theorem e40_ok : e40.Ok Tryz.prog noGl := memo_ok TF_ok O0_ok mixed TPl_ok 100000 (by kernel_rfl) (by kernel_rfl)
def e41 : Memo := ⟨98, 2, [(.slc 0 0 1 2), (.slc 1 0 1 1)], [(0, 0, 0), (0, 1, 0)], [(.cells [(.v (.int .u64 160)), (.v (.int .u64 0))] 90 0), (.cells [(.v (.int .u64 5))] 90 0)], (.tup [(.slc 2 0 1 1), (.slc 3 0 0 1)]), 2, [(2, (.cells [(.v (.int .u64 32))] 90 0)), (3, (.cells [(.v (.int .u64 0))] 90 0))]⟩
theorem e41_ok : e41.Ok Tryz.prog noGl := memo_ok TF_ok O0_ok mixed TPl_ok 100000 (by kernel_rfl) (by kernel_rfl)
def e42 : Memo := ⟨98, 2, [(.slc 0 0 1 2), (.slc 1 0 1 1)], [(0, 0, 0), (0, 1, 0)], [(.cells [(.v (.int .u64 5)), (.v (.int .u64 0))] 90 0), (.cells [(.v (.int .u64 5))] 90 0)], (.tup [(.slc 2 0 1 1), (.slc 3 0 0 1)]), 2, [(2, (.cells [(.v (.int .u64 1))] 90 0)), (3, (.cells [(.v (.int .u64 0))] 90 0))]⟩
theorem e42_ok : e42.Ok Tryz.prog noGl := memo_ok TF_ok O0_ok mixed TPl_ok 100000 (by kernel_rfl) (by kernel_rfl)
def e45 : Memo := ⟨81, 2, [(.slc 0 0 1 1), (.slc 1 0 1 1)], [(0, 0, 0), (0, 1, 0)], [(.cells [(.v (.int .u64 32))] 90 0), (.cells [(.v (.int .u64 1))] 90 0)], (.slc 2 0 1 2), 1, [(2, (.cells [(.v (.int .u64 32)), (.v (.int .u64 0))] 90 0))]⟩
theorem e45_ok : e45.Ok Tryz.prog noGl := memo_ok TF_ok O0_ok mixed TPl_ok 100000 (by kernel_rfl) (by kernel_rfl)
def e47 : Memo := ⟨81, 2, [(.slc 0 0 1 1), (.slc 1 0 1 1)], [(0, 0, 0), (0, 1, 0)], [(.cells [(.v (.int .u64 31))] 90 0), (.cells [(.v (.int .u64 1))] 90 0)], (.slc 2 0 1 2), 1, [(2, (.cells [(.v (.int .u64 31)), (.v (.int .u64 0))] 90 0))]⟩
theorem e47_ok : e47.Ok Tryz.prog noGl := memo_ok TF_ok O0_ok mixed TPl_ok 100000 (by kernel_rfl) (by kernel_rfl)
def e54 : Memo := ⟨20, 1, [(.slc 0 0 9 9)], [(0, 0, 0)], [(.cells [(.v (.int .i64 1)), (.v (.int .i64 0)), (.v (.int .i64 3)), (.v (.int .i64 4)), (.v (.int .i64 2)), (.v (.int .i64 6)), (.v (.int .i64 7)), (.v (.int .i64 8)), (.v (.int .i64 5))] 3 0)], (.slu 41 0 3 1), 41, [(11, (.cells [(.v (.int .i64 0)), (.v (.int .i64 1))] 3 1)), (24, (.cells [(.v (.int .i64 2)), (.v (.int .i64 3)), (.v (.int .i64 4))] 3 1)), (39, (.cells [(.v (.int .i64 5)), (.v (.int .i64 6)), (.v (.int .i64 7)), (.v (.int .i64 8))] 3 1)), (41, (.cells [(.slu 11 0 2 1), (.slu 24 0 3 1), (.slu 39 0 4 1)] 22 1))]⟩
theorem e54_ok : e54.Ok Tryz.prog noGl := memo_ok TF_ok O0_ok mixed TPl_ok 100000 (by kernel_rfl) (by kernel_rfl)
def e55 : Memo := ⟨21, 2, [(.agg [(.v (.bool false)), (.slc 0 0 1 1)]), (.agg [(.v (.bool false)), (.slc 1 0 1 1)])], [(0, 0, 1), (0, 1, 1)], [(.cells [(.v (.int .u64 1))] 90 0), (.cells [(.v (.int .u64 2))] 90 0)], (.agg [(.v (.bool false)), (.slc 28 0 1 2)]), 30, [(28, (.cells [(.v (.int .u64 2)), (.v (.int .u64 0))] 90 0))]⟩
theorem e55_ok : e55.Ok Tryz.prog noGl := memo_ok TF_ok O0_ok mixed TPl_ok 100000 (by kernel_rfl) (by kernel_rfl)
def e56 : Memo := ⟨21, 2, [(.agg [(.v (.bool false)), (.slc 0 0 1 2)]), (.agg [(.v (.bool false)), (.slc 1 0 1 1)])], [(0, 0, 1), (0, 1, 1)], [(.cells [(.v (.int .u64 2)), (.v (.int .u64 0))] 90 0), (.cells [(.v (.int .u64 3))] 90 0)], (.agg [(.v (.bool false)), (.slc 28 0 1 2)]), 30, [(28, (.cells [(.v (.int .u64 6)), (.v (.int .u64 0))] 90 0))]⟩
theorem e56_ok : e56.Ok Tryz.prog noGl := memo_ok TF_ok O0_ok mixed TPl_ok 100000 (by kernel_rfl) (by kernel_rfl)
end Go.Ev
