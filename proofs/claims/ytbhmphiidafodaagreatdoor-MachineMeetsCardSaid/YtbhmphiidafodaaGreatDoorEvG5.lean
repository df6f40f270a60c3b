/- Part of an evaluator of calls that is proved sound, and of what it gives about this program. No condition of its own. -/
import Derived.Test.YtbhmphiidafodaaGreatDoorEvG4
set_option linter.unusedVariables false
set_option linter.unusedSimpArgs false
set_option linter.unusedSectionVars false
set_option maxRecDepth 1000000
namespace Go.Ev
open Go.Proofs Go.Shelf
def e108 : Memo := ⟨88, 1, [(.agg [(.v (.bool false)), (.v (.int .i64 2)), (.v (.int .i64 1)), (.v (.slice none 0 0))]), (.slc 0 0 2 2), (.v (.int .i64 9223372036854775807))], [(0, 1, 0)], [(.cells [(.v (.int .i64 1)), (.v (.int .i64 4))] 3 0)], (.tup [(.v (.int .i64 0)), (.v (.int .i64 0)), (.v (.int .i64 7))]), 119, []⟩
theorem e108_ok : e108.Ok Tryz.prog noGl := memo_ok TF_ok O2_ok mixed TPl_ok 100000 (by kernel_rfl) (by kernel_rfl)
def e110 : Memo := ⟨88, 1, [(.agg [(.v (.bool false)), (.v (.int .i64 2)), (.v (.int .i64 1)), (.v (.slice none 0 0))]), (.slc 0 0 2 2), (.v (.int .i64 9223372036854775807))], [(0, 1, 0)], [(.cells [(.v (.int .i64 1)), (.v (.int .i64 5))] 3 0)], (.tup [(.v (.int .i64 1)), (.v (.int .i64 1)), (.v (.int .i64 0))]), 51, []⟩
theorem e110_ok : e110.Ok Tryz.prog noGl := memo_ok TF_ok O2_ok mixed TPl_ok 100000 (by kernel_rfl) (by kernel_rfl)
def e112 : Memo := ⟨88, 1, [(.agg [(.v (.bool false)), (.v (.int .i64 2)), (.v (.int .i64 1)), (.v (.slice none 0 0))]), (.slc 0 0 2 2), (.v (.int .i64 9223372036854775807))], [(0, 1, 0)], [(.cells [(.v (.int .i64 1)), (.v (.int .i64 7))] 3 0)], (.tup [(.v (.int .i64 0)), (.v (.int .i64 0)), (.v (.int .i64 7))]), 119, []⟩
theorem e112_ok : e112.Ok Tryz.prog noGl := memo_ok TF_ok O2_ok mixed TPl_ok 100000 (by kernel_rfl) (by kernel_rfl)
def e115 : Memo := ⟨88, 1, [(.agg [(.v (.bool false)), (.v (.int .i64 2)), (.v (.int .i64 1)), (.v (.slice none 0 0))]), (.slc 0 0 2 2), (.v (.int .i64 9223372036854775807))], [(0, 1, 0)], [(.cells [(.v (.int .i64 2)), (.v (.int .i64 3))] 3 0)], (.tup [(.v (.int .i64 0)), (.v (.int .i64 0)), (.v (.int .i64 7))]), 119, []⟩
theorem e115_ok : e115.Ok Tryz.prog noGl := memo_ok TF_ok O2_ok mixed TPl_ok 100000 (by kernel_rfl) (by kernel_rfl)
def e118 : Memo := ⟨88, 1, [(.agg [(.v (.bool false)), (.v (.int .i64 2)), (.v (.int .i64 1)), (.v (.slice none 0 0))]), (.slc 0 0 2 2), (.v (.int .i64 9223372036854775807))], [(0, 1, 0)], [(.cells [(.v (.int .i64 2)), (.v (.int .i64 4))] 3 0)], (.tup [(.v (.int .i64 0)), (.v (.int .i64 1)), (.v (.int .i64 0))]), 40, []⟩
theorem e118_ok : e118.Ok Tryz.prog noGl := memo_ok TF_ok O2_ok mixed TPl_ok 100000 (by kernel_rfl) (by kernel_rfl)
def e120 : Memo := ⟨88, 1, [(.agg [(.v (.bool false)), (.v (.int .i64 2)), (.v (.int .i64 1)), (.v (.slice none 0 0))]), (.slc 0 0 2 2), (.v (.int .i64 9223372036854775807))], [(0, 1, 0)], [(.cells [(.v (.int .i64 2)), (.v (.int .i64 7))] 3 0)], (.tup [(.v (.int .i64 0)), (.v (.int .i64 0)), (.v (.int .i64 7))]), 119, []⟩
theorem e120_ok : e120.Ok Tryz.prog noGl := memo_ok TF_ok O2_ok mixed TPl_ok 100000 (by kernel_rfl) (by kernel_rfl)
def e124 : Memo := ⟨88, 1, [(.agg [(.v (.bool false)), (.v (.int .i64 2)), (.v (.int .i64 1)), (.v (.slice none 0 0))]), (.slc 0 0 2 2), (.v (.int .i64 9223372036854775807))], [(0, 1, 0)], [(.cells [(.v (.int .i64 3)), (.v (.int .i64 7))] 3 0)], (.tup [(.v (.int .i64 3)), (.v (.int .i64 1)), (.v (.int .i64 0))]), 73, []⟩
theorem e124_ok : e124.Ok Tryz.prog noGl := memo_ok TF_ok O2_ok mixed TPl_ok 100000 (by kernel_rfl) (by kernel_rfl)
def e127 : Memo := ⟨88, 1, [(.agg [(.v (.bool false)), (.v (.int .i64 2)), (.v (.int .i64 1)), (.v (.slice none 0 0))]), (.slc 0 0 2 2), (.v (.int .i64 9223372036854775807))], [(0, 1, 0)], [(.cells [(.v (.int .i64 3)), (.v (.int .i64 4))] 3 0)], (.tup [(.v (.int .i64 0)), (.v (.int .i64 0)), (.v (.int .i64 7))]), 119, []⟩
theorem e127_ok : e127.Ok Tryz.prog noGl := memo_ok TF_ok O2_ok mixed TPl_ok 100000 (by kernel_rfl) (by kernel_rfl)
end Go.Ev
