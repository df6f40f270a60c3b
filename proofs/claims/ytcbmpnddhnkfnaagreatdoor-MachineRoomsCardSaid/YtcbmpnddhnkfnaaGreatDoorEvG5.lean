/- Part of an evaluator of calls that is proved sound, and of what it gives about this program. No condition of its own. -/
import Derived.Test.YtcbmpnddhnkfnaaGreatDoorEvG4
set_option linter.unusedVariables false
set_option linter.unusedSimpArgs false
set_option linter.unusedSectionVars false
set_option maxRecDepth 1000000
namespace Go.Ev
open Go.Proofs Go.Shelf
def e107 : Memo := ⟨88, 1, [(.agg [(.v (.bool false)), (.v (.int .i64 2)), (.v (.int .i64 1)), (.v (.slice none 0 0))]), (.slc 0 0 2 2), (.v (.int .i64 9223372036854775807))], [(0, 1, 0)], [(.cells [(.v (.int .i64 1)), (.v (.int .i64 3))] 3 0)], (.tup [(.v (.int .i64 0)), (.v (.int .i64 0)), (.v (.int .i64 7))]), 119, []⟩
theorem e107_ok : e107.Ok Tryz.prog noGl := memo_ok TF_ok O3_ok mixed TPl_ok 100000 (by kernel_rfl) (by kernel_rfl)
def e109 : Memo := ⟨88, 1, [(.agg [(.v (.bool false)), (.v (.int .i64 2)), (.v (.int .i64 1)), (.v (.slice none 0 0))]), (.slc 0 0 2 2), (.v (.int .i64 9223372036854775807))], [(0, 1, 0)], [(.cells [(.v (.int .i64 1)), (.v (.int .i64 4))] 3 0)], (.tup [(.v (.int .i64 0)), (.v (.int .i64 0)), (.v (.int .i64 7))]), 119, []⟩
theorem e109_ok : e109.Ok Tryz.prog noGl := memo_ok TF_ok O3_ok mixed TPl_ok 100000 (by kernel_rfl) (by kernel_rfl)
def e111 : Memo := ⟨88, 1, [(.agg [(.v (.bool false)), (.v (.int .i64 2)), (.v (.int .i64 1)), (.v (.slice none 0 0))]), (.slc 0 0 2 2), (.v (.int .i64 9223372036854775807))], [(0, 1, 0)], [(.cells [(.v (.int .i64 1)), (.v (.int .i64 5))] 3 0)], (.tup [(.v (.int .i64 1)), (.v (.int .i64 1)), (.v (.int .i64 0))]), 51, []⟩
theorem e111_ok : e111.Ok Tryz.prog noGl := memo_ok TF_ok O3_ok mixed TPl_ok 100000 (by kernel_rfl) (by kernel_rfl)
def e113 : Memo := ⟨88, 1, [(.agg [(.v (.bool false)), (.v (.int .i64 2)), (.v (.int .i64 1)), (.v (.slice none 0 0))]), (.slc 0 0 2 2), (.v (.int .i64 9223372036854775807))], [(0, 1, 0)], [(.cells [(.v (.int .i64 1)), (.v (.int .i64 7))] 3 0)], (.tup [(.v (.int .i64 0)), (.v (.int .i64 0)), (.v (.int .i64 7))]), 119, []⟩
theorem e113_ok : e113.Ok Tryz.prog noGl := memo_ok TF_ok O3_ok mixed TPl_ok 100000 (by kernel_rfl) (by kernel_rfl)
def e116 : Memo := ⟨88, 1, [(.agg [(.v (.bool false)), (.v (.int .i64 2)), (.v (.int .i64 1)), (.v (.slice none 0 0))]), (.slc 0 0 2 2), (.v (.int .i64 9223372036854775807))], [(0, 1, 0)], [(.cells [(.v (.int .i64 2)), (.v (.int .i64 3))] 3 0)], (.tup [(.v (.int .i64 0)), (.v (.int .i64 0)), (.v (.int .i64 7))]), 119, []⟩
theorem e116_ok : e116.Ok Tryz.prog noGl := memo_ok TF_ok O3_ok mixed TPl_ok 100000 (by kernel_rfl) (by kernel_rfl)
def e119 : Memo := ⟨88, 1, [(.agg [(.v (.bool false)), (.v (.int .i64 2)), (.v (.int .i64 1)), (.v (.slice none 0 0))]), (.slc 0 0 2 2), (.v (.int .i64 9223372036854775807))], [(0, 1, 0)], [(.cells [(.v (.int .i64 2)), (.v (.int .i64 4))] 3 0)], (.tup [(.v (.int .i64 0)), (.v (.int .i64 1)), (.v (.int .i64 0))]), 40, []⟩
theorem e119_ok : e119.Ok Tryz.prog noGl := memo_ok TF_ok O3_ok mixed TPl_ok 100000 (by kernel_rfl) (by kernel_rfl)
def e121 : Memo := ⟨88, 1, [(.agg [(.v (.bool false)), (.v (.int .i64 2)), (.v (.int .i64 1)), (.v (.slice none 0 0))]), (.slc 0 0 2 2), (.v (.int .i64 9223372036854775807))], [(0, 1, 0)], [(.cells [(.v (.int .i64 2)), (.v (.int .i64 7))] 3 0)], (.tup [(.v (.int .i64 0)), (.v (.int .i64 0)), (.v (.int .i64 7))]), 119, []⟩
theorem e121_ok : e121.Ok Tryz.prog noGl := memo_ok TF_ok O3_ok mixed TPl_ok 100000 (by kernel_rfl) (by kernel_rfl)
end Go.Ev
