/- Part of an evaluator of calls that is proved sound, and of what it gives about this program. No condition of its own. -/
import Derived.Test.YtcbmpnddhnkfnaaGreatDoorEvG3
set_option linter.unusedVariables false
set_option linter.unusedSimpArgs false
set_option linter.unusedSectionVars false
set_option maxRecDepth 1000000
namespace Go.Ev
open Go.Proofs Go.Shelf
def e72 : Memo := ⟨88, 1, [(.agg [(.v (.bool false)), (.v (.int .i64 2)), (.v (.int .i64 1)), (.v (.slice none 0 0))]), (.slc 0 0 2 2), (.v (.int .i64 9223372036854775807))], [(0, 1, 0)], [(.cells [(.v (.int .i64 0)), (.v (.int .i64 3))] 3 0)], (.tup [(.v (.int .i64 0)), (.v (.int .i64 0)), (.v (.int .i64 7))]), 119, []⟩
theorem e72_ok : e72.Ok Tryz.prog noGl := memo_ok TF_ok O3_ok mixed TPl_ok 100000 (by kernel_rfl) (by kernel_rfl)
def e82 : Memo := ⟨88, 1, [(.agg [(.v (.bool false)), (.v (.int .i64 2)), (.v (.int .i64 1)), (.v (.slice none 0 0))]), (.slc 0 0 2 2), (.v (.int .i64 9223372036854775807))], [(0, 1, 0)], [(.cells [(.v (.int .i64 0)), (.v (.int .i64 4))] 3 0)], (.tup [(.v (.int .i64 0)), (.v (.int .i64 0)), (.v (.int .i64 7))]), 119, []⟩
theorem e82_ok : e82.Ok Tryz.prog noGl := memo_ok TF_ok O3_ok mixed TPl_ok 100000 (by kernel_rfl) (by kernel_rfl)
def e92 : Memo := ⟨88, 1, [(.agg [(.v (.bool false)), (.v (.int .i64 2)), (.v (.int .i64 1)), (.v (.slice none 0 0))]), (.slc 0 0 2 2), (.v (.int .i64 9223372036854775807))], [(0, 1, 0)], [(.cells [(.v (.int .i64 0)), (.v (.int .i64 5))] 3 0)], (.tup [(.v (.int .i64 0)), (.v (.int .i64 0)), (.v (.int .i64 7))]), 119, []⟩
theorem e92_ok : e92.Ok Tryz.prog noGl := memo_ok TF_ok O3_ok mixed TPl_ok 100000 (by kernel_rfl) (by kernel_rfl)
def e102 : Memo := ⟨88, 1, [(.agg [(.v (.bool false)), (.v (.int .i64 2)), (.v (.int .i64 1)), (.v (.slice none 0 0))]), (.slc 0 0 2 2), (.v (.int .i64 9223372036854775807))], [(0, 1, 0)], [(.cells [(.v (.int .i64 0)), (.v (.int .i64 7))] 3 0)], (.tup [(.v (.int .i64 0)), (.v (.int .i64 0)), (.v (.int .i64 7))]), 119, []⟩
theorem e102_ok : e102.Ok Tryz.prog noGl := memo_ok TF_ok O3_ok mixed TPl_ok 100000 (by kernel_rfl) (by kernel_rfl)
def e105 : Memo := ⟨88, 1, [(.agg [(.v (.bool false)), (.v (.int .i64 2)), (.v (.int .i64 1)), (.v (.slice none 0 0))]), (.slc 0 0 2 2), (.v (.int .i64 9223372036854775807))], [(0, 1, 0)], [(.cells [(.v (.int .i64 1)), (.v (.int .i64 2))] 3 0)], (.tup [(.v (.int .i64 0)), (.v (.int .i64 0)), (.v (.int .i64 7))]), 119, []⟩
theorem e105_ok : e105.Ok Tryz.prog noGl := memo_ok TF_ok O3_ok mixed TPl_ok 100000 (by kernel_rfl) (by kernel_rfl)
end Go.Ev
