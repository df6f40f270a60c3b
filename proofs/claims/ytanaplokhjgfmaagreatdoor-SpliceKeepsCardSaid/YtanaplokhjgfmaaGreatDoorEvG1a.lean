/- Part of an evaluator of calls that is proved sound, and of what it gives about this program. No condition of its own. -/
import Derived.Test.YtanaplokhjgfmaaGreatDoorEvG0
set_option linter.unusedVariables false
set_option linter.unusedSimpArgs false
set_option linter.unusedSectionVars false
set_option maxRecDepth 1000000
namespace Go.Ev
open Go.Proofs Go.Shelf
def e0 : Memo := ⟨14, 0, [(.agg [(.v (.int .i64 3)), (.v (.int .i64 1)), (.v (.int .i64 1)), (.v (.int .i64 2)), (.v (.int .i64 1))])], [], [], (.v (.int .i64 0)), 2, []⟩
theorem e0_ok : e0.Ok Tryz.prog noGl := memo_ok TF_ok O0_ok mixed TPl_ok 100000 (by kernel_rfl) (by kernel_rfl)
def e1 : Memo := ⟨141, 1, [(.agg [(.v (.int .i64 0)), (.v (.int .i64 1)), (.v (.int .i64 1))]), (.ptr 0 0)], [(0, 1, 0)], [(.cells [(.v (.int .i64 3)), (.v (.int .i64 1)), (.v (.int .i64 1)), (.v (.int .i64 2)), (.v (.int .i64 1))] 23 0)], (.v (.int .i64 0)), 5, []⟩
theorem e1_ok : e1.Ok Tryz.prog noGl := memo_ok TF_ok O0_ok mixed TPl_ok 100000 (by kernel_rfl) (by kernel_rfl)
def e2 : Memo := ⟨141, 1, [(.agg [(.v (.int .i64 1)), (.v (.int .i64 1)), (.v (.int .i64 1))]), (.ptr 0 0)], [(0, 1, 0)], [(.cells [(.v (.int .i64 3)), (.v (.int .i64 1)), (.v (.int .i64 1)), (.v (.int .i64 2)), (.v (.int .i64 1))] 23 0)], (.v (.int .i64 0)), 5, []⟩
theorem e2_ok : e2.Ok Tryz.prog noGl := memo_ok TF_ok O0_ok mixed TPl_ok 100000 (by kernel_rfl) (by kernel_rfl)
def e3 : Memo := ⟨141, 1, [(.agg [(.v (.int .i64 2)), (.v (.int .i64 1)), (.v (.int .i64 1))]), (.ptr 0 0)], [(0, 1, 0)], [(.cells [(.v (.int .i64 3)), (.v (.int .i64 1)), (.v (.int .i64 1)), (.v (.int .i64 2)), (.v (.int .i64 1))] 23 0)], (.v (.int .i64 0)), 5, []⟩
theorem e3_ok : e3.Ok Tryz.prog noGl := memo_ok TF_ok O0_ok mixed TPl_ok 100000 (by kernel_rfl) (by kernel_rfl)
def e4 : Memo := ⟨137, 5, [(.ptr 0 0), (.ptr 1 0), (.ptr 2 0)], [(0, 0, 0), (0, 1, 0), (0, 2, 0), (1, 0, 0), (1, 1, 0)], [(.cells [(.slc 3 0 3 3), (.slc 4 0 3 3)] 26 0), (.cells [(.v (.int .i64 3)), (.v (.int .i64 1)), (.v (.int .i64 1)), (.v (.int .i64 2)), (.v (.int .i64 1))] 23 0), (.cells [(.v (.int .i64 0)), (.v (.int .i64 1)), (.v (.int .i64 1))] 28 0), (.cells [(.v (.int .i64 0)), (.v (.int .i64 0)), (.v (.int .i64 0))] 3 0), (.cells [(.v (.int .i64 0)), (.v (.int .i64 1)), (.v (.int .i64 2))] 3 0)], (.v (.bool true)), 6, []⟩
theorem e4_ok : e4.Ok Tryz.prog noGl := memo_ok TF_ok O0_ok mixed TPl_ok 100000 (by kernel_rfl) (by kernel_rfl)
def e6 : Memo := ⟨137, 5, [(.ptr 0 0), (.ptr 1 0), (.ptr 2 0)], [(0, 0, 0), (0, 1, 0), (0, 2, 0), (1, 0, 0), (1, 1, 0)], [(.cells [(.slu 3 0 3 1), (.slu 4 0 3 1)] 26 0), (.cells [(.v (.int .i64 3)), (.v (.int .i64 1)), (.v (.int .i64 1)), (.v (.int .i64 2)), (.v (.int .i64 1))] 23 0), (.cells [(.v (.int .i64 1)), (.v (.int .i64 1)), (.v (.int .i64 1))] 28 0), (.cells [(.v (.int .i64 1)), (.v (.int .i64 0)), (.v (.int .i64 0))] 3 1), (.cells [(.v (.int .i64 2)), (.v (.int .i64 1)), (.v (.int .i64 2))] 3 1)], (.v (.bool true)), 6, []⟩
theorem e6_ok : e6.Ok Tryz.prog noGl := memo_ok TF_ok O0_ok mixed TPl_ok 100000 (by kernel_rfl) (by kernel_rfl)
def e8 : Memo := ⟨137, 5, [(.ptr 0 0), (.ptr 1 0), (.ptr 2 0)], [(0, 0, 0), (0, 1, 0), (0, 2, 0), (1, 0, 0), (1, 1, 0)], [(.cells [(.slu 3 0 3 1), (.slu 4 0 3 1)] 26 0), (.cells [(.v (.int .i64 3)), (.v (.int .i64 1)), (.v (.int .i64 1)), (.v (.int .i64 2)), (.v (.int .i64 1))] 23 0), (.cells [(.v (.int .i64 2)), (.v (.int .i64 1)), (.v (.int .i64 1))] 28 0), (.cells [(.v (.int .i64 1)), (.v (.int .i64 1)), (.v (.int .i64 0))] 3 1), (.cells [(.v (.int .i64 2)), (.v (.int .i64 0)), (.v (.int .i64 2))] 3 1)], (.v (.bool true)), 6, []⟩
theorem e8_ok : e8.Ok Tryz.prog noGl := memo_ok TF_ok O0_ok mixed TPl_ok 100000 (by kernel_rfl) (by kernel_rfl)
def e16 : Memo := ⟨180, 2, [(.slc 0 0 1 1), (.slc 1 0 1 1)], [(0, 0, 0), (0, 1, 0)], [(.cells [(.v (.int .u64 2))] 233 0), (.cells [(.v (.int .u64 1))] 233 0)], (.slc 3 0 1 1), 2, [(3, (.cells [(.v (.int .u64 1))] 233 0))]⟩
theorem e16_ok : e16.Ok Tryz.prog noGl := memo_ok TF_ok O0_ok mixed TPl_ok 100000 (by kernel_rfl) (by kernel_rfl)
def e19 : Memo := ⟨180, 2, [(.slc 0 0 1 1), (.slc 1 0 1 1)], [(0, 0, 0), (0, 1, 0)], [(.cells [(.v (.int .u64 1))] 233 0), (.cells [(.v (.int .u64 1))] 233 0)], (.slc 3 0 1 1), 2, [(3, (.cells [(.v (.int .u64 1))] 233 0))]⟩
theorem e19_ok : e19.Ok Tryz.prog noGl := memo_ok TF_ok O0_ok mixed TPl_ok 100000 (by kernel_rfl) (by kernel_rfl)
def e22 : Memo := ⟨184, 2, [(.slc 0 0 1 1), (.slc 1 0 1 1)], [(0, 0, 0), (0, 1, 0)], [(.cells [(.v (.int .u64 1))] 233 0), (.cells [(.v (.int .u64 1))] 233 0)], (.slc 2 0 1 2), 1, [(2, (.cells [(.v (.int .u64 1)), (.v (.int .u64 0))] 233 0))]⟩
theorem e22_ok : e22.Ok Tryz.prog noGl := memo_ok TF_ok O0_ok mixed TPl_ok 100000 (by kernel_rfl) (by kernel_rfl)
def e24 : Memo := ⟨184, 2, [(.slc 0 0 1 1), (.slc 1 0 1 1)], [(0, 0, 0), (0, 1, 0)], [(.cells [(.v (.int .u64 2))] 233 0), (.cells [(.v (.int .u64 1))] 233 0)], (.slc 2 0 1 2), 1, [(2, (.cells [(.v (.int .u64 2)), (.v (.int .u64 0))] 233 0))]⟩
theorem e24_ok : e24.Ok Tryz.prog noGl := memo_ok TF_ok O0_ok mixed TPl_ok 100000 (by kernel_rfl) (by kernel_rfl)
def e26 : Memo := ⟨180, 2, [(.slc 0 0 1 2), (.slc 1 0 1 2)], [(0, 0, 0), (0, 1, 0)], [(.cells [(.v (.int .u64 1)), (.v (.int .u64 0))] 233 0), (.cells [(.v (.int .u64 2)), (.v (.int .u64 0))] 233 0)], (.slc 3 0 1 1), 2, [(3, (.cells [(.v (.int .u64 1))] 233 0))]⟩
theorem e26_ok : e26.Ok Tryz.prog noGl := memo_ok TF_ok O0_ok mixed TPl_ok 100000 (by kernel_rfl) (by kernel_rfl)
def e29 : Memo := ⟨184, 2, [(.slc 0 0 1 1), (.slc 1 0 1 2)], [(0, 0, 0), (0, 1, 0)], [(.cells [(.v (.int .u64 2))] 233 0), (.cells [(.v (.int .u64 2)), (.v (.int .u64 0))] 233 0)], (.slc 2 0 1 2), 1, [(2, (.cells [(.v (.int .u64 4)), (.v (.int .u64 0))] 233 0))]⟩
theorem e29_ok : e29.Ok Tryz.prog noGl := memo_ok TF_ok O0_ok mixed TPl_ok 100000 (by kernel_rfl) (by kernel_rfl)
def e31 : Memo := ⟨184, 2, [(.slc 0 0 1 2), (.slc 1 0 1 1)], [(0, 0, 0), (0, 1, 0)], [(.cells [(.v (.int .u64 1)), (.v (.int .u64 0))] 233 0), (.cells [(.v (.int .u64 1))] 233 0)], (.slc 2 0 1 2), 1, [(2, (.cells [(.v (.int .u64 1)), (.v (.int .u64 0))] 233 0))]⟩
theorem e31_ok : e31.Ok Tryz.prog noGl := memo_ok TF_ok O0_ok mixed TPl_ok 100000 (by kernel_rfl) (by kernel_rfl)
def e33 : Memo := ⟨190, 2, [(.slc 0 0 1 2), (.slc 1 0 1 2)], [(0, 0, 0), (0, 1, 0)], [(.cells [(.v (.int .u64 4)), (.v (.int .u64 0))] 233 0), (.cells [(.v (.int .u64 1)), (.v (.int .u64 0))] 233 0)], (.slc 2 0 1 2), 1, [(2, (.cells [(.v (.int .u64 5)), (.v (.int .u64 0))] 233 0))]⟩
theorem e33_ok : e33.Ok Tryz.prog noGl := memo_ok TF_ok O0_ok mixed TPl_ok 100000 (by kernel_rfl) (by kernel_rfl)
def e35 : Memo := ⟨184, 2, [(.slc 0 0 1 1), (.slc 1 0 1 2)], [(0, 0, 0), (0, 1, 0)], [(.cells [(.v (.int .u64 1))] 233 0), (.cells [(.v (.int .u64 2)), (.v (.int .u64 0))] 233 0)], (.slc 2 0 1 2), 1, [(2, (.cells [(.v (.int .u64 2)), (.v (.int .u64 0))] 233 0))]⟩
theorem e35_ok : e35.Ok Tryz.prog noGl := memo_ok TF_ok O0_ok mixed TPl_ok 100000 (by kernel_rfl) (by kernel_rfl)
def e37 : Memo := ⟨180, 2, [(.slc 0 0 1 2), (.slc 1 0 1 2)], [(0, 0, 0), (0, 1, 0)], [(.cells [(.v (.int .u64 5)), (.v (.int .u64 0))] 233 0), (.cells [(.v (.int .u64 2)), (.v (.int .u64 0))] 233 0)], (.slc 3 0 1 1), 2, [(3, (.cells [(.v (.int .u64 1))] 233 0))]⟩
theorem e37_ok : e37.Ok Tryz.prog noGl := memo_ok TF_ok O0_ok mixed TPl_ok 100000 (by kernel_rfl) (by kernel_rfl)
def e40 : Memo := ⟨112, 2, [(.agg [(.v (.bool false)), (.slc 0 0 1 2), (.slc 1 0 1 2)])], [(0, 0, 1), (0, 0, 2)], [(.cells [(.v (.int .u64 5)), (.v (.int .u64 0))] 233 0), (.cells [(.v (.int .u64 2)), (.v (.int .u64 0))] 233 0)], (.tup [(.v (.string ⟨#[53, 47, 50]⟩)), (.v (.int .i64 0))]), 3, []⟩
theorem e40_ok : e40.Ok Tryz.prog noGl := memo_ok TF_ok O0_ok mixed TPl_ok 100000 (by kernel_rfl) (by kernel_rfl)
def e43 : Memo := ⟨225, 0, [(.v (.string ⟨#[48]⟩)), (.v (.int .i64 10)), (.v (.int .i64 64))], [], [], (.tup [(.v (.int .u64 0)), (.v .nilIface)]), 1, []⟩
theorem e43_ok : e43.Ok Tryz.prog noGl := memo_ok TF_ok O0_ok mixed TPl_ok 100000 (by kernel_rfl) (by kernel_rfl)
def e46 : Memo := ⟨225, 0, [(.v (.string ⟨#[49]⟩)), (.v (.int .i64 10)), (.v (.int .i64 64))], [], [], (.tup [(.v (.int .u64 1)), (.v .nilIface)]), 1, []⟩
theorem e46_ok : e46.Ok Tryz.prog noGl := memo_ok TF_ok O0_ok mixed TPl_ok 100000 (by kernel_rfl) (by kernel_rfl)
def e50 : Memo := ⟨225, 0, [(.v (.string ⟨#[50]⟩)), (.v (.int .i64 10)), (.v (.int .i64 64))], [], [], (.tup [(.v (.int .u64 2)), (.v .nilIface)]), 1, []⟩
theorem e50_ok : e50.Ok Tryz.prog noGl := memo_ok TF_ok O0_ok mixed TPl_ok 100000 (by kernel_rfl) (by kernel_rfl)
def e55 : Memo := ⟨180, 2, [(.slc 0 0 1 2), (.slc 1 0 1 2)], [(0, 0, 0), (0, 1, 0)], [(.cells [(.v (.int .u64 2)), (.v (.int .u64 0))] 233 0), (.cells [(.v (.int .u64 1)), (.v (.int .u64 0))] 233 0)], (.slc 3 0 1 1), 2, [(3, (.cells [(.v (.int .u64 1))] 233 0))]⟩
theorem e55_ok : e55.Ok Tryz.prog noGl := memo_ok TF_ok O0_ok mixed TPl_ok 100000 (by kernel_rfl) (by kernel_rfl)
def e57 : Memo := ⟨225, 0, [(.v (.string ⟨#[52]⟩)), (.v (.int .i64 10)), (.v (.int .i64 64))], [], [], (.tup [(.v (.int .u64 4)), (.v .nilIface)]), 1, []⟩
theorem e57_ok : e57.Ok Tryz.prog noGl := memo_ok TF_ok O0_ok mixed TPl_ok 100000 (by kernel_rfl) (by kernel_rfl)
def e60 : Memo := ⟨225, 0, [(.v (.string ⟨#[53]⟩)), (.v (.int .i64 10)), (.v (.int .i64 64))], [], [], (.tup [(.v (.int .u64 5)), (.v .nilIface)]), 1, []⟩
theorem e60_ok : e60.Ok Tryz.prog noGl := memo_ok TF_ok O0_ok mixed TPl_ok 100000 (by kernel_rfl) (by kernel_rfl)
def e63 : Memo := ⟨180, 2, [(.slc 0 0 1 2), (.slc 1 0 1 2)], [(0, 0, 0), (0, 1, 0)], [(.cells [(.v (.int .u64 4)), (.v (.int .u64 0))] 233 0), (.cells [(.v (.int .u64 5)), (.v (.int .u64 0))] 233 0)], (.slc 3 0 1 1), 2, [(3, (.cells [(.v (.int .u64 1))] 233 0))]⟩
theorem e63_ok : e63.Ok Tryz.prog noGl := memo_ok TF_ok O0_ok mixed TPl_ok 100000 (by kernel_rfl) (by kernel_rfl)
def e66 : Memo := ⟨184, 2, [(.slc 0 0 1 2), (.slc 1 0 1 2)], [(0, 0, 0), (0, 1, 0)], [(.cells [(.v (.int .u64 2)), (.v (.int .u64 0))] 233 0), (.cells [(.v (.int .u64 1)), (.v (.int .u64 0))] 233 0)], (.slc 2 0 1 2), 1, [(2, (.cells [(.v (.int .u64 2)), (.v (.int .u64 0))] 233 0))]⟩
theorem e66_ok : e66.Ok Tryz.prog noGl := memo_ok TF_ok O0_ok mixed TPl_ok 100000 (by kernel_rfl) (by kernel_rfl)
def e68 : Memo := ⟨160, 2, [(.agg [(.v (.bool false)), (.slc 0 0 0 1)]), (.agg [(.v (.bool false)), (.slc 1 0 1 2)])], [(0, 0, 1), (0, 1, 1)], [(.cells [(.v (.int .u64 0))] 233 0), (.cells [(.v (.int .u64 1)), (.v (.int .u64 0))] 233 0)], (.agg [(.v (.bool false)), (.slc 5 0 0 1)]), 5, [(5, (.cells [(.v (.int .u64 0))] 233 0))]⟩
theorem e68_ok : e68.Ok Tryz.prog noGl := memo_ok TF_ok O0_ok mixed TPl_ok 100000 (by kernel_rfl) (by kernel_rfl)
def e70 : Memo := ⟨225, 0, [(.v (.string ⟨#[51]⟩)), (.v (.int .i64 10)), (.v (.int .i64 64))], [], [], (.tup [(.v (.int .u64 3)), (.v .nilIface)]), 1, []⟩
theorem e70_ok : e70.Ok Tryz.prog noGl := memo_ok TF_ok O0_ok mixed TPl_ok 100000 (by kernel_rfl) (by kernel_rfl)
def e73 : Memo := ⟨180, 2, [(.slc 0 0 1 2), (.slc 1 0 1 2)], [(0, 0, 0), (0, 1, 0)], [(.cells [(.v (.int .u64 3)), (.v (.int .u64 0))] 233 0), (.cells [(.v (.int .u64 1)), (.v (.int .u64 0))] 233 0)], (.slc 3 0 1 1), 2, [(3, (.cells [(.v (.int .u64 1))] 233 0))]⟩
theorem e73_ok : e73.Ok Tryz.prog noGl := memo_ok TF_ok O0_ok mixed TPl_ok 100000 (by kernel_rfl) (by kernel_rfl)
def e75 : Memo := ⟨225, 0, [(.v (.string ⟨#[57]⟩)), (.v (.int .i64 10)), (.v (.int .i64 64))], [], [], (.tup [(.v (.int .u64 9)), (.v .nilIface)]), 1, []⟩
theorem e75_ok : e75.Ok Tryz.prog noGl := memo_ok TF_ok O0_ok mixed TPl_ok 100000 (by kernel_rfl) (by kernel_rfl)
end Go.Ev
namespace Go.Ev
open Go.Proofs Go.Shelf
def e78 : Memo := ⟨225, 0, [(.v (.string ⟨#[49, 48]⟩)), (.v (.int .i64 10)), (.v (.int .i64 64))], [], [], (.tup [(.v (.int .u64 10)), (.v .nilIface)]), 1, []⟩
theorem e78_ok : e78.Ok Tryz.prog noGl := memo_ok TF_ok O0_ok mixed TPl_ok 100000 (by kernel_rfl) (by kernel_rfl)
def e81 : Memo := ⟨180, 2, [(.slc 0 0 1 2), (.slc 1 0 1 2)], [(0, 0, 0), (0, 1, 0)], [(.cells [(.v (.int .u64 9)), (.v (.int .u64 0))] 233 0), (.cells [(.v (.int .u64 10)), (.v (.int .u64 0))] 233 0)], (.slc 3 0 1 1), 2, [(3, (.cells [(.v (.int .u64 1))] 233 0))]⟩
theorem e81_ok : e81.Ok Tryz.prog noGl := memo_ok TF_ok O0_ok mixed TPl_ok 100000 (by kernel_rfl) (by kernel_rfl)
def e84 : Memo := ⟨184, 2, [(.slc 0 0 1 2), (.slc 1 0 1 2)], [(0, 0, 0), (0, 1, 0)], [(.cells [(.v (.int .u64 3)), (.v (.int .u64 0))] 233 0), (.cells [(.v (.int .u64 1)), (.v (.int .u64 0))] 233 0)], (.slc 2 0 1 2), 1, [(2, (.cells [(.v (.int .u64 3)), (.v (.int .u64 0))] 233 0))]⟩
theorem e84_ok : e84.Ok Tryz.prog noGl := memo_ok TF_ok O0_ok mixed TPl_ok 100000 (by kernel_rfl) (by kernel_rfl)
def e89 : Memo := ⟨160, 2, [(.agg [(.v (.bool false)), (.slc 0 0 0 1)]), (.agg [(.v (.bool false)), (.slc 1 0 1 2)])], [(0, 0, 1), (0, 1, 1)], [(.cells [(.v (.int .u64 0))] 233 0), (.cells [(.v (.int .u64 2)), (.v (.int .u64 0))] 233 0)], (.agg [(.v (.bool false)), (.slc 5 0 0 1)]), 5, [(5, (.cells [(.v (.int .u64 0))] 233 0))]⟩
theorem e89_ok : e89.Ok Tryz.prog noGl := memo_ok TF_ok O0_ok mixed TPl_ok 100000 (by kernel_rfl) (by kernel_rfl)
def e90 : Memo := ⟨184, 2, [(.slc 0 0 1 2), (.slc 1 0 1 2)], [(0, 0, 0), (0, 1, 0)], [(.cells [(.v (.int .u64 5)), (.v (.int .u64 0))] 233 0), (.cells [(.v (.int .u64 1)), (.v (.int .u64 0))] 233 0)], (.slc 2 0 1 2), 1, [(2, (.cells [(.v (.int .u64 5)), (.v (.int .u64 0))] 233 0))]⟩
theorem e90_ok : e90.Ok Tryz.prog noGl := memo_ok TF_ok O0_ok mixed TPl_ok 100000 (by kernel_rfl) (by kernel_rfl)
def e93 : Memo := ⟨180, 2, [(.slc 0 0 1 2), (.slc 1 0 1 2)], [(0, 0, 0), (0, 1, 0)], [(.cells [(.v (.int .u64 1)), (.v (.int .u64 0))] 233 0), (.cells [(.v (.int .u64 1)), (.v (.int .u64 0))] 233 0)], (.slc 3 0 1 1), 2, [(3, (.cells [(.v (.int .u64 1))] 233 0))]⟩
theorem e93_ok : e93.Ok Tryz.prog noGl := memo_ok TF_ok O0_ok mixed TPl_ok 100000 (by kernel_rfl) (by kernel_rfl)
def e96 : Memo := ⟨184, 2, [(.slc 0 0 1 2), (.slc 1 0 1 2)], [(0, 0, 0), (0, 1, 0)], [(.cells [(.v (.int .u64 4)), (.v (.int .u64 0))] 233 0), (.cells [(.v (.int .u64 1)), (.v (.int .u64 0))] 233 0)], (.slc 2 0 1 2), 1, [(2, (.cells [(.v (.int .u64 4)), (.v (.int .u64 0))] 233 0))]⟩
theorem e96_ok : e96.Ok Tryz.prog noGl := memo_ok TF_ok O0_ok mixed TPl_ok 100000 (by kernel_rfl) (by kernel_rfl)
def e98 : Memo := ⟨184, 2, [(.slc 0 0 1 2), (.slc 1 0 1 2)], [(0, 0, 0), (0, 1, 0)], [(.cells [(.v (.int .u64 1)), (.v (.int .u64 0))] 233 0), (.cells [(.v (.int .u64 5)), (.v (.int .u64 0))] 233 0)], (.slc 2 0 1 2), 1, [(2, (.cells [(.v (.int .u64 5)), (.v (.int .u64 0))] 233 0))]⟩
theorem e98_ok : e98.Ok Tryz.prog noGl := memo_ok TF_ok O0_ok mixed TPl_ok 100000 (by kernel_rfl) (by kernel_rfl)
def e103 : Memo := ⟨160, 2, [(.agg [(.v (.bool false)), (.slc 0 0 0 1)]), (.agg [(.v (.bool false)), (.slc 1 0 1 2)])], [(0, 0, 1), (0, 1, 1)], [(.cells [(.v (.int .u64 0))] 233 0), (.cells [(.v (.int .u64 5)), (.v (.int .u64 0))] 233 0)], (.agg [(.v (.bool false)), (.slc 5 0 0 1)]), 5, [(5, (.cells [(.v (.int .u64 0))] 233 0))]⟩
theorem e103_ok : e103.Ok Tryz.prog noGl := memo_ok TF_ok O0_ok mixed TPl_ok 100000 (by kernel_rfl) (by kernel_rfl)
def e110 : Memo := ⟨225, 0, [(.v (.string ⟨#[49, 48, 48, 48]⟩)), (.v (.int .i64 10)), (.v (.int .i64 64))], [], [], (.tup [(.v (.int .u64 1000)), (.v .nilIface)]), 1, []⟩
theorem e110_ok : e110.Ok Tryz.prog noGl := memo_ok TF_ok O0_ok mixed TPl_ok 100000 (by kernel_rfl) (by kernel_rfl)
def e113 : Memo := ⟨180, 2, [(.slc 0 0 1 2), (.slc 1 0 1 2)], [(0, 0, 0), (0, 1, 0)], [(.cells [(.v (.int .u64 1000)), (.v (.int .u64 0))] 233 0), (.cells [(.v (.int .u64 1)), (.v (.int .u64 0))] 233 0)], (.slc 3 0 1 1), 2, [(3, (.cells [(.v (.int .u64 1))] 233 0))]⟩
theorem e113_ok : e113.Ok Tryz.prog noGl := memo_ok TF_ok O0_ok mixed TPl_ok 100000 (by kernel_rfl) (by kernel_rfl)
def e119 : Memo := ⟨184, 2, [(.slc 0 0 1 2), (.slc 1 0 1 2)], [(0, 0, 0), (0, 1, 0)], [(.cells [(.v (.int .u64 1)), (.v (.int .u64 0))] 233 0), (.cells [(.v (.int .u64 1)), (.v (.int .u64 0))] 233 0)], (.slc 2 0 1 2), 1, [(2, (.cells [(.v (.int .u64 1)), (.v (.int .u64 0))] 233 0))]⟩
theorem e119_ok : e119.Ok Tryz.prog noGl := memo_ok TF_ok O0_ok mixed TPl_ok 100000 (by kernel_rfl) (by kernel_rfl)
def e124 : Memo := ⟨158, 2, [(.agg [(.v (.bool false)), (.slc 0 0 1 2)]), (.agg [(.v (.bool false)), (.slc 1 0 1 2)])], [(0, 0, 1), (0, 1, 1)], [(.cells [(.v (.int .u64 1000)), (.v (.int .u64 0))] 233 0), (.cells [(.v (.int .u64 5)), (.v (.int .u64 0))] 233 0)], (.agg [(.v (.bool false)), (.slc 8 0 1 1), (.slc 10 0 1 1)]), 11, [(8, (.cells [(.v (.int .u64 200))] 233 0)), (10, (.cells [(.v (.int .u64 1))] 233 0))]⟩
theorem e124_ok : e124.Ok Tryz.prog noGl := memo_ok TF_ok O0_ok mixed TPl_ok 100000 (by kernel_rfl) (by kernel_rfl)
def e125 : Memo := ⟨184, 2, [(.slc 0 0 1 1), (.slc 1 0 1 2)], [(0, 0, 0), (0, 1, 0)], [(.cells [(.v (.int .u64 1))] 233 0), (.cells [(.v (.int .u64 1)), (.v (.int .u64 0))] 233 0)], (.slc 2 0 1 2), 1, [(2, (.cells [(.v (.int .u64 1)), (.v (.int .u64 0))] 233 0))]⟩
theorem e125_ok : e125.Ok Tryz.prog noGl := memo_ok TF_ok O0_ok mixed TPl_ok 100000 (by kernel_rfl) (by kernel_rfl)
def e128 : Memo := ⟨183, 2, [(.slc 0 0 1 2), (.slc 1 0 1 1)], [(0, 0, 0), (0, 1, 0)], [(.cells [(.v (.int .u64 2)), (.v (.int .u64 0))] 233 0), (.cells [(.v (.int .u64 2))] 233 0)], (.tup [(.slc 2 0 1 1), (.slc 3 0 0 1)]), 2, [(2, (.cells [(.v (.int .u64 1))] 233 0)), (3, (.cells [(.v (.int .u64 0))] 233 0))]⟩
theorem e128_ok : e128.Ok Tryz.prog noGl := memo_ok TF_ok O0_ok mixed TPl_ok 100000 (by kernel_rfl) (by kernel_rfl)
def e132 : Memo := ⟨180, 2, [(.slc 0 0 1 1), (.slc 1 0 1 1)], [(0, 0, 0), (0, 1, 0)], [(.cells [(.v (.int .u64 4))] 233 0), (.cells [(.v (.int .u64 1))] 233 0)], (.slc 3 0 1 1), 2, [(3, (.cells [(.v (.int .u64 1))] 233 0))]⟩
theorem e132_ok : e132.Ok Tryz.prog noGl := memo_ok TF_ok O0_ok mixed TPl_ok 100000 (by kernel_rfl) (by kernel_rfl)
def e135 : Memo := ⟨184, 1, [(.slc 0 0 1 1), (.slc 0 0 1 1)], [(0, 0, 0)], [(.cells [(.v (.int .u64 4))] 233 0)], (.slc 1 0 1 2), 1, [(1, (.cells [(.v (.int .u64 16)), (.v (.int .u64 0))] 233 0))]⟩
theorem e135_ok : e135.Ok Tryz.prog noGl := memo_ok TF_ok O0_ok mixed TPl_ok 100000 (by kernel_rfl) (by kernel_rfl)
def e137 : Memo := ⟨184, 1, [(.slc 0 0 1 1), (.slc 0 0 1 1)], [(0, 0, 0)], [(.cells [(.v (.int .u64 1))] 233 0)], (.slc 1 0 1 2), 1, [(1, (.cells [(.v (.int .u64 1)), (.v (.int .u64 0))] 233 0))]⟩
theorem e137_ok : e137.Ok Tryz.prog noGl := memo_ok TF_ok O0_ok mixed TPl_ok 100000 (by kernel_rfl) (by kernel_rfl)
def e141 : Memo := ⟨180, 2, [(.slc 0 0 1 1), (.slc 1 0 1 1)], [(0, 0, 0), (0, 1, 0)], [(.cells [(.v (.int .u64 3))] 233 0), (.cells [(.v (.int .u64 1))] 233 0)], (.slc 3 0 1 1), 2, [(3, (.cells [(.v (.int .u64 1))] 233 0))]⟩
theorem e141_ok : e141.Ok Tryz.prog noGl := memo_ok TF_ok O0_ok mixed TPl_ok 100000 (by kernel_rfl) (by kernel_rfl)
def e144 : Memo := ⟨184, 1, [(.slc 0 0 1 1), (.slc 0 0 1 1)], [(0, 0, 0)], [(.cells [(.v (.int .u64 3))] 233 0)], (.slc 1 0 1 2), 1, [(1, (.cells [(.v (.int .u64 9)), (.v (.int .u64 0))] 233 0))]⟩
theorem e144_ok : e144.Ok Tryz.prog noGl := memo_ok TF_ok O0_ok mixed TPl_ok 100000 (by kernel_rfl) (by kernel_rfl)
def e148 : Memo := ⟨184, 2, [(.slc 0 0 1 2), (.slc 1 0 1 2)], [(0, 0, 0), (0, 1, 0)], [(.cells [(.v (.int .u64 16)), (.v (.int .u64 0))] 233 0), (.cells [(.v (.int .u64 1)), (.v (.int .u64 0))] 233 0)], (.slc 2 0 1 2), 1, [(2, (.cells [(.v (.int .u64 16)), (.v (.int .u64 0))] 233 0))]⟩
theorem e148_ok : e148.Ok Tryz.prog noGl := memo_ok TF_ok O0_ok mixed TPl_ok 100000 (by kernel_rfl) (by kernel_rfl)
end Go.Ev
