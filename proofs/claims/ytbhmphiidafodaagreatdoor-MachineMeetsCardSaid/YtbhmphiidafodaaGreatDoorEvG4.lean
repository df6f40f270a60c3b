/- Part of an evaluator of calls that is proved sound, and of what it gives about this program. No condition of its own. -/
import Derived.Test.YtbhmphiidafodaaGreatDoorEvG3
set_option linter.unusedVariables false
set_option linter.unusedSimpArgs false
set_option linter.unusedSectionVars false
set_option maxRecDepth 1000000
namespace Go.Ev
open Go.Proofs Go.Shelf
def e81 : Memo := ⟨88, 1, [(.agg [(.v (.bool false)), (.v (.int .i64 2)), (.v (.int .i64 1)), (.v (.slice none 0 0))]), (.slc 0 0 2 2), (.v (.int .i64 9223372036854775807))], [(0, 1, 0)], [(.cells [(.v (.int .i64 0)), (.v (.int .i64 4))] 3 0)], (.tup [(.v (.int .i64 0)), (.v (.int .i64 0)), (.v (.int .i64 7))]), 119, []⟩
theorem e81_ok : e81.Ok Tryz.prog noGl := memo_ok TF_ok O2_ok mixed TPl_ok 100000 (by kernel_rfl) (by kernel_rfl)
def e91 : Memo := ⟨88, 1, [(.agg [(.v (.bool false)), (.v (.int .i64 2)), (.v (.int .i64 1)), (.v (.slice none 0 0))]), (.slc 0 0 2 2), (.v (.int .i64 9223372036854775807))], [(0, 1, 0)], [(.cells [(.v (.int .i64 0)), (.v (.int .i64 5))] 3 0)], (.tup [(.v (.int .i64 0)), (.v (.int .i64 0)), (.v (.int .i64 7))]), 119, []⟩
theorem e91_ok : e91.Ok Tryz.prog noGl := memo_ok TF_ok O2_ok mixed TPl_ok 100000 (by kernel_rfl) (by kernel_rfl)
def e101 : Memo := ⟨88, 1, [(.agg [(.v (.bool false)), (.v (.int .i64 2)), (.v (.int .i64 1)), (.v (.slice none 0 0))]), (.slc 0 0 2 2), (.v (.int .i64 9223372036854775807))], [(0, 1, 0)], [(.cells [(.v (.int .i64 0)), (.v (.int .i64 7))] 3 0)], (.tup [(.v (.int .i64 0)), (.v (.int .i64 0)), (.v (.int .i64 7))]), 119, []⟩
theorem e101_ok : e101.Ok Tryz.prog noGl := memo_ok TF_ok O2_ok mixed TPl_ok 100000 (by kernel_rfl) (by kernel_rfl)
def e104 : Memo := ⟨88, 1, [(.agg [(.v (.bool false)), (.v (.int .i64 2)), (.v (.int .i64 1)), (.v (.slice none 0 0))]), (.slc 0 0 2 2), (.v (.int .i64 9223372036854775807))], [(0, 1, 0)], [(.cells [(.v (.int .i64 1)), (.v (.int .i64 2))] 3 0)], (.tup [(.v (.int .i64 0)), (.v (.int .i64 0)), (.v (.int .i64 7))]), 119, []⟩
theorem e104_ok : e104.Ok Tryz.prog noGl := memo_ok TF_ok O2_ok mixed TPl_ok 100000 (by kernel_rfl) (by kernel_rfl)
def e106 : Memo := ⟨88, 1, [(.agg [(.v (.bool false)), (.v (.int .i64 2)), (.v (.int .i64 1)), (.v (.slice none 0 0))]), (.slc 0 0 2 2), (.v (.int .i64 9223372036854775807))], [(0, 1, 0)], [(.cells [(.v (.int .i64 1)), (.v (.int .i64 3))] 3 0)], (.tup [(.v (.int .i64 0)), (.v (.int .i64 0)), (.v (.int .i64 7))]), 119, []⟩
theorem e106_ok : e106.Ok Tryz.prog noGl := memo_ok TF_ok O2_ok mixed TPl_ok 100000 (by kernel_rfl) (by kernel_rfl)
end Go.Ev
