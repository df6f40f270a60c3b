/- Part of an evaluator of calls that is proved sound, and of what it gives about this program. No condition of its own. -/
import Derived.Test.YtbhmphiidafodaaGreatDoorEvG7
set_option linter.unusedVariables false
set_option linter.unusedSimpArgs false
set_option linter.unusedSectionVars false
set_option maxRecDepth 1000000
namespace Go.Ev
open Go.Proofs Go.Shelf
def e161 : Memo := ⟨88, 1, [(.agg [(.v (.bool false)), (.v (.int .i64 2)), (.v (.int .i64 1)), (.v (.slice none 0 0))]), (.slc 0 0 2 2), (.v (.int .i64 9223372036854775807))], [(0, 1, 0)], [(.cells [(.v (.int .i64 5)), (.v (.int .i64 6))] 3 0)], (.tup [(.v (.int .i64 0)), (.v (.int .i64 0)), (.v (.int .i64 7))]), 119, []⟩
theorem e161_ok : e161.Ok Tryz.prog noGl := memo_ok TF_ok O2_ok mixed TPl_ok 100000 (by kernel_rfl) (by kernel_rfl)
def e165 : Memo := ⟨88, 1, [(.agg [(.v (.bool false)), (.v (.int .i64 2)), (.v (.int .i64 1)), (.v (.slice none 0 0))]), (.slc 0 0 3 3), (.v (.int .i64 9223372036854775807))], [(0, 1, 0)], [(.cells [(.v (.int .i64 0)), (.v (.int .i64 1)), (.v (.int .i64 2))] 3 0)], (.tup [(.v (.int .i64 0)), (.v (.int .i64 0)), (.v (.int .i64 7))]), 119, []⟩
theorem e165_ok : e165.Ok Tryz.prog noGl := memo_ok TF_ok O2_ok mixed TPl_ok 100000 (by kernel_rfl) (by kernel_rfl)
def e168 : Memo := ⟨88, 1, [(.agg [(.v (.bool false)), (.v (.int .i64 2)), (.v (.int .i64 1)), (.v (.slice none 0 0))]), (.slu 0 0 4 1), (.v (.int .i64 9223372036854775807))], [(0, 1, 0)], [(.cells [(.v (.int .i64 0)), (.v (.int .i64 1)), (.v (.int .i64 2)), (.v (.int .i64 3))] 3 1)], (.tup [(.v (.int .i64 0)), (.v (.int .i64 0)), (.v (.int .i64 7))]), 119, []⟩
theorem e168_ok : e168.Ok Tryz.prog noGl := memo_ok TF_ok O2_ok mixed TPl_ok 100000 (by kernel_rfl) (by kernel_rfl)
def e170 : Memo := ⟨88, 1, [(.agg [(.v (.bool false)), (.v (.int .i64 2)), (.v (.int .i64 1)), (.v (.slice none 0 0))]), (.slu 0 0 4 1), (.v (.int .i64 9223372036854775807))], [(0, 1, 0)], [(.cells [(.v (.int .i64 0)), (.v (.int .i64 1)), (.v (.int .i64 2)), (.v (.int .i64 5))] 3 1)], (.tup [(.v (.int .i64 1)), (.v (.int .i64 1)), (.v (.int .i64 0))]), 51, []⟩
theorem e170_ok : e170.Ok Tryz.prog noGl := memo_ok TF_ok O2_ok mixed TPl_ok 100000 (by kernel_rfl) (by kernel_rfl)
def e172 : Memo := ⟨88, 1, [(.agg [(.v (.bool false)), (.v (.int .i64 2)), (.v (.int .i64 1)), (.v (.slice none 0 0))]), (.slu 0 0 4 1), (.v (.int .i64 9223372036854775807))], [(0, 1, 0)], [(.cells [(.v (.int .i64 0)), (.v (.int .i64 1)), (.v (.int .i64 2)), (.v (.int .i64 6))] 3 1)], (.tup [(.v (.int .i64 2)), (.v (.int .i64 1)), (.v (.int .i64 0))]), 62, []⟩
theorem e172_ok : e172.Ok Tryz.prog noGl := memo_ok TF_ok O2_ok mixed TPl_ok 100000 (by kernel_rfl) (by kernel_rfl)
def e174 : Memo := ⟨88, 1, [(.agg [(.v (.bool false)), (.v (.int .i64 2)), (.v (.int .i64 1)), (.v (.slice none 0 0))]), (.slu 0 0 4 1), (.v (.int .i64 9223372036854775807))], [(0, 1, 0)], [(.cells [(.v (.int .i64 0)), (.v (.int .i64 1)), (.v (.int .i64 2)), (.v (.int .i64 7))] 3 1)], (.tup [(.v (.int .i64 0)), (.v (.int .i64 0)), (.v (.int .i64 7))]), 119, []⟩
theorem e174_ok : e174.Ok Tryz.prog noGl := memo_ok TF_ok O2_ok mixed TPl_ok 100000 (by kernel_rfl) (by kernel_rfl)
end Go.Ev
