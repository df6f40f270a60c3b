/- Part of an evaluator of calls that is proved sound, and of what it gives about this program. No condition of its own. -/
import Derived.Test.YtcbmpnddhnkfnaaGreatDoorEvG7
set_option linter.unusedVariables false
set_option linter.unusedSimpArgs false
set_option linter.unusedSectionVars false
set_option maxRecDepth 1000000
namespace Go.Ev
open Go.Proofs Go.Shelf
def e158 : Memo := ⟨88, 1, [(.agg [(.v (.bool false)), (.v (.int .i64 2)), (.v (.int .i64 1)), (.v (.slice none 0 0))]), (.slc 0 0 2 2), (.v (.int .i64 9223372036854775807))], [(0, 1, 0)], [(.cells [(.v (.int .i64 4)), (.v (.int .i64 6))] 3 0)], (.tup [(.v (.int .i64 0)), (.v (.int .i64 0)), (.v (.int .i64 7))]), 119, []⟩
theorem e158_ok : e158.Ok Tryz.prog noGl := memo_ok TF_ok O3_ok mixed TPl_ok 100000 (by kernel_rfl) (by kernel_rfl)
def e162 : Memo := ⟨88, 1, [(.agg [(.v (.bool false)), (.v (.int .i64 2)), (.v (.int .i64 1)), (.v (.slice none 0 0))]), (.slc 0 0 2 2), (.v (.int .i64 9223372036854775807))], [(0, 1, 0)], [(.cells [(.v (.int .i64 5)), (.v (.int .i64 6))] 3 0)], (.tup [(.v (.int .i64 0)), (.v (.int .i64 0)), (.v (.int .i64 7))]), 119, []⟩
theorem e162_ok : e162.Ok Tryz.prog noGl := memo_ok TF_ok O3_ok mixed TPl_ok 100000 (by kernel_rfl) (by kernel_rfl)
def e166 : Memo := ⟨88, 1, [(.agg [(.v (.bool false)), (.v (.int .i64 2)), (.v (.int .i64 1)), (.v (.slice none 0 0))]), (.slc 0 0 3 3), (.v (.int .i64 9223372036854775807))], [(0, 1, 0)], [(.cells [(.v (.int .i64 0)), (.v (.int .i64 1)), (.v (.int .i64 2))] 3 0)], (.tup [(.v (.int .i64 0)), (.v (.int .i64 0)), (.v (.int .i64 7))]), 119, []⟩
theorem e166_ok : e166.Ok Tryz.prog noGl := memo_ok TF_ok O3_ok mixed TPl_ok 100000 (by kernel_rfl) (by kernel_rfl)
def e169 : Memo := ⟨88, 1, [(.agg [(.v (.bool false)), (.v (.int .i64 2)), (.v (.int .i64 1)), (.v (.slice none 0 0))]), (.slu 0 0 4 1), (.v (.int .i64 9223372036854775807))], [(0, 1, 0)], [(.cells [(.v (.int .i64 0)), (.v (.int .i64 1)), (.v (.int .i64 2)), (.v (.int .i64 3))] 3 1)], (.tup [(.v (.int .i64 0)), (.v (.int .i64 0)), (.v (.int .i64 7))]), 119, []⟩
theorem e169_ok : e169.Ok Tryz.prog noGl := memo_ok TF_ok O3_ok mixed TPl_ok 100000 (by kernel_rfl) (by kernel_rfl)
end Go.Ev
