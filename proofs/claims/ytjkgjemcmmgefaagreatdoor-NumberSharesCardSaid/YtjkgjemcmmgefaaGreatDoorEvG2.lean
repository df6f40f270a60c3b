/- Part of an evaluator of calls that is proved sound, and of what it gives about this program. No condition of its own. -/
import Derived.Test.YtjkgjemcmmgefaaGreatDoorEvG1
set_option linter.unusedVariables false
set_option linter.unusedSimpArgs false
set_option linter.unusedSectionVars false
set_option maxRecDepth 1000000
namespace Go.Ev
open Go.Proofs Go.Shelf
def e106 : Memo := ⟨68, 2, [(.agg [(.v (.bool false)), (.slc 0 0 1 1)]), (.agg [(.v (.bool false)), (.slc 1 0 1 2)])], [(0, 0, 1), (0, 1, 1)], [(.cells [(.v (.int .u64 1414))] 145 0), (.cells [(.v (.int .u64 1000)), (.v (.int .u64 0))] 145 0)], (.agg [(.v (.bool false)), (.slc 8 0 1 1), (.slc 10 0 1 1)]), 11, [(8, (.cells [(.v (.int .u64 707))] 145 0)), (10, (.cells [(.v (.int .u64 500))] 145 0))]⟩
theorem e106_ok : e106.Ok Tryz.prog noGl := memo_ok TF_ok O0_ok mixed TPl_ok 100000 (by kernel_rfl) (by kernel_rfl)
def e107 : Memo := ⟨68, 2, [(.agg [(.v (.bool false)), (.slc 0 0 1 2)]), (.agg [(.v (.bool false)), (.slc 1 0 1 2)])], [(0, 0, 1), (0, 1, 1)], [(.cells [(.v (.int .u64 1415)), (.v (.int .u64 0))] 145 0), (.cells [(.v (.int .u64 1000)), (.v (.int .u64 0))] 145 0)], (.agg [(.v (.bool false)), (.slc 8 0 1 1), (.slc 10 0 1 1)]), 11, [(8, (.cells [(.v (.int .u64 283))] 145 0)), (10, (.cells [(.v (.int .u64 200))] 145 0))]⟩
theorem e107_ok : e107.Ok Tryz.prog noGl := memo_ok TF_ok O0_ok mixed TPl_ok 100000 (by kernel_rfl) (by kernel_rfl)
def e109 : Memo := ⟨54, 2, [(.agg [(.v (.bool false)), (.slc 0 0 1 1), (.slc 1 0 1 1)])], [(0, 0, 1), (0, 0, 2)], [(.cells [(.v (.int .u64 707))] 145 0), (.cells [(.v (.int .u64 500))] 145 0)], (.tup [(.v (.string ⟨#[55, 48, 55, 47, 53, 48, 48]⟩)), (.v (.int .i64 0))]), 5, []⟩
theorem e109_ok : e109.Ok Tryz.prog gl0 := memo_ok TF_ok O0_ok mixed TPl_ok 100000 (by kernel_rfl) (by kernel_rfl)
def e110 : Memo := ⟨54, 2, [(.agg [(.v (.bool false)), (.slc 0 0 1 1), (.slc 1 0 1 1)])], [(0, 0, 1), (0, 0, 2)], [(.cells [(.v (.int .u64 283))] 145 0), (.cells [(.v (.int .u64 200))] 145 0)], (.tup [(.v (.string ⟨#[50, 56, 51, 47, 50, 48, 48]⟩)), (.v (.int .i64 0))]), 5, []⟩
theorem e110_ok : e110.Ok Tryz.prog gl0 := memo_ok TF_ok O0_ok mixed TPl_ok 100000 (by kernel_rfl) (by kernel_rfl)
def e113 : Memo := ⟨129, 0, [(.v (.string ⟨#[51, 49, 52]⟩))], [], [], (.slc 4 0 1 2), 5, [(4, (.cells [(.v (.int .u64 314)), (.v (.int .u64 0))] 145 0))]⟩
theorem e113_ok : e113.Ok Tryz.prog noGl := memo_ok TF_ok O0_ok mixed TPl_ok 100000 (by kernel_rfl) (by kernel_rfl)
def e117 : Memo := ⟨129, 0, [(.v (.string ⟨#[49, 48, 48]⟩))], [], [], (.slc 4 0 1 2), 5, [(4, (.cells [(.v (.int .u64 100)), (.v (.int .u64 0))] 145 0))]⟩
theorem e117_ok : e117.Ok Tryz.prog noGl := memo_ok TF_ok O0_ok mixed TPl_ok 100000 (by kernel_rfl) (by kernel_rfl)
def e120 : Memo := ⟨68, 2, [(.agg [(.v (.bool false)), (.slc 0 0 1 2)]), (.agg [(.v (.bool false)), (.slc 1 0 1 2)])], [(0, 0, 1), (0, 1, 1)], [(.cells [(.v (.int .u64 314)), (.v (.int .u64 0))] 145 0), (.cells [(.v (.int .u64 100)), (.v (.int .u64 0))] 145 0)], (.agg [(.v (.bool false)), (.slc 8 0 1 1), (.slc 10 0 1 1)]), 11, [(8, (.cells [(.v (.int .u64 157))] 145 0)), (10, (.cells [(.v (.int .u64 50))] 145 0))]⟩
theorem e120_ok : e120.Ok Tryz.prog noGl := memo_ok TF_ok O0_ok mixed TPl_ok 100000 (by kernel_rfl) (by kernel_rfl)
def e121 : Memo := ⟨68, 2, [(.agg [(.v (.bool false)), (.slc 0 0 1 2)]), (.agg [(.v (.bool false)), (.slc 1 0 1 2)])], [(0, 0, 1), (0, 1, 1)], [(.cells [(.v (.int .u64 315)), (.v (.int .u64 0))] 145 0), (.cells [(.v (.int .u64 100)), (.v (.int .u64 0))] 145 0)], (.agg [(.v (.bool false)), (.slc 8 0 1 1), (.slc 10 0 1 1)]), 11, [(8, (.cells [(.v (.int .u64 63))] 145 0)), (10, (.cells [(.v (.int .u64 20))] 145 0))]⟩
theorem e121_ok : e121.Ok Tryz.prog noGl := memo_ok TF_ok O0_ok mixed TPl_ok 100000 (by kernel_rfl) (by kernel_rfl)
def e123 : Memo := ⟨75, 4, [(.agg [(.v (.bool false)), (.slc 0 0 1 1), (.slc 1 0 1 1), (.v (.bool false)), (.slc 2 0 1 1), (.slc 3 0 1 1)])], [(0, 0, 1), (0, 0, 2), (0, 0, 4), (0, 0, 5)], [(.cells [(.v (.int .u64 157))] 145 0), (.cells [(.v (.int .u64 50))] 145 0), (.cells [(.v (.int .u64 63))] 145 0), (.cells [(.v (.int .u64 20))] 145 0)], (.tup [(.agg [(.v (.string ⟨#[49, 53, 55, 47, 53, 48]⟩)), (.v (.string ⟨#[54, 51, 47, 50, 48]⟩))]), (.v (.int .i64 0))]), 10, []⟩
theorem e123_ok : e123.Ok Tryz.prog gl0 := memo_ok TF_ok O0_ok mixed TPl_ok 100000 (by kernel_rfl) (by kernel_rfl)
def e125 : Memo := ⟨12, 1, [(.slc 0 0 5 5)], [(0, 0, 0)], [(.cells [(.v (.int .i64 1)), (.v (.int .i64 2)), (.v (.int .i64 0)), (.v (.int .i64 4)), (.v (.int .i64 3))] 3 0)], (.v (.int .i64 0)), 1, []⟩
theorem e125_ok : e125.Ok Tryz.prog noGl := memo_ok TF_ok O0_ok mixed TPl_ok 100000 (by kernel_rfl) (by kernel_rfl)
def e126 : Memo := ⟨51, 1, [(.slc 0 0 5 5)], [(0, 0, 0)], [(.cells [(.v (.int .i64 1)), (.v (.int .i64 2)), (.v (.int .i64 0)), (.v (.int .i64 4)), (.v (.int .i64 3))] 3 0)], (.slu 26 0 2 1), 26, [(13, (.cells [(.v (.int .i64 0)), (.v (.int .i64 1)), (.v (.int .i64 2))] 3 1)), (24, (.cells [(.v (.int .i64 3)), (.v (.int .i64 4))] 3 1)), (26, (.cells [(.slu 13 0 3 1), (.slu 24 0 2 1)] 22 1))]⟩
theorem e126_ok : e126.Ok Tryz.prog noGl := memo_ok TF_ok O0_ok mixed TPl_ok 100000 (by kernel_rfl) (by kernel_rfl)
def e128 : Memo := ⟨123, 2, [(.slc 0 0 1 1), (.slc 1 0 1 1)], [(0, 0, 0), (0, 1, 0)], [(.cells [(.v (.int .u64 1))] 145 0), (.cells [(.v (.int .u64 3))] 145 0)], (.slc 3 0 1 1), 2, [(3, (.cells [(.v (.int .u64 1))] 145 0))]⟩
theorem e128_ok : e128.Ok Tryz.prog noGl := memo_ok TF_ok O0_ok mixed TPl_ok 100000 (by kernel_rfl) (by kernel_rfl)
def e129 : Memo := ⟨153, 2, [(.slc 0 0 1 1), (.slc 1 0 1 1)], [(0, 0, 0), (0, 1, 0)], [(.cells [(.v (.int .u64 1))] 145 0), (.cells [(.v (.int .u64 3))] 145 0)], (.slc 2 0 1 2), 1, [(2, (.cells [(.v (.int .u64 3)), (.v (.int .u64 0))] 145 0))]⟩
theorem e129_ok : e129.Ok Tryz.prog noGl := memo_ok TF_ok O0_ok mixed TPl_ok 100000 (by kernel_rfl) (by kernel_rfl)
def e132 : Memo := ⟨53, 2, [(.agg [(.v (.bool false)), (.slc 0 0 1 2)]), (.agg [(.v (.bool false)), (.slc 1 0 1 1)])], [(0, 0, 1), (0, 1, 1)], [(.cells [(.v (.int .u64 3)), (.v (.int .u64 0))] 145 0), (.cells [(.v (.int .u64 2))] 145 0)], (.agg [(.v (.bool false)), (.slc 28 0 1 2)]), 30, [(28, (.cells [(.v (.int .u64 6)), (.v (.int .u64 0))] 145 0))]⟩
theorem e132_ok : e132.Ok Tryz.prog noGl := memo_ok TF_ok O0_ok mixed TPl_ok 100000 (by kernel_rfl) (by kernel_rfl)
def e135 : Memo := ⟨129, 0, [(.v (.string ⟨#[49, 48]⟩))], [], [], (.slc 4 0 1 2), 5, [(4, (.cells [(.v (.int .u64 10)), (.v (.int .u64 0))] 145 0))]⟩
theorem e135_ok : e135.Ok Tryz.prog noGl := memo_ok TF_ok O0_ok mixed TPl_ok 100000 (by kernel_rfl) (by kernel_rfl)
def e140 : Memo := ⟨78, 4, [(.agg [(.v (.bool false)), (.slc 0 0 1 2), (.slc 1 0 1 2)]), (.agg [(.v (.bool false)), (.slc 2 0 0 1), (.slc 3 0 1 2)])], [(0, 0, 1), (0, 0, 2), (0, 1, 1), (0, 1, 2)], [(.cells [(.v (.int .u64 5)), (.v (.int .u64 0))] 145 0), (.cells [(.v (.int .u64 1)), (.v (.int .u64 0))] 145 0), (.cells [(.v (.int .u64 0))] 145 0), (.cells [(.v (.int .u64 1)), (.v (.int .u64 0))] 145 0)], (.v (.int .i64 1)), 18, []⟩
theorem e140_ok : e140.Ok Tryz.prog noGl := memo_ok TF_ok O0_ok mixed TPl_ok 100000 (by kernel_rfl) (by kernel_rfl)
def e142 : Memo := ⟨213, 0, [(.v (.string ⟨#[57]⟩)), (.v (.int .i64 10)), (.v (.int .i64 64))], [], [], (.tup [(.v (.int .u64 9)), (.v .nilIface)]), 1, []⟩
theorem e142_ok : e142.Ok Tryz.prog noGl := memo_ok TF_ok O0_ok mixed TPl_ok 100000 (by kernel_rfl) (by kernel_rfl)
def e146 : Memo := ⟨153, 2, [(.slc 0 0 1 2), (.slc 1 0 1 2)], [(0, 0, 0), (0, 1, 0)], [(.cells [(.v (.int .u64 9)), (.v (.int .u64 0))] 145 0), (.cells [(.v (.int .u64 1)), (.v (.int .u64 0))] 145 0)], (.slc 2 0 1 2), 1, [(2, (.cells [(.v (.int .u64 9)), (.v (.int .u64 0))] 145 0))]⟩
theorem e146_ok : e146.Ok Tryz.prog noGl := memo_ok TF_ok O0_ok mixed TPl_ok 100000 (by kernel_rfl) (by kernel_rfl)
end Go.Ev
