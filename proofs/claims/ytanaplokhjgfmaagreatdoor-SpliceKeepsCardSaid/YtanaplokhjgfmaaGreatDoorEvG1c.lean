/- Part of an evaluator of calls that is proved sound, and of what it gives about this program. No condition of its own. -/
import Derived.Test.YtanaplokhjgfmaaGreatDoorEvG0
set_option linter.unusedVariables false
set_option linter.unusedSimpArgs false
set_option linter.unusedSectionVars false
set_option maxRecDepth 1000000
namespace Go.Ev
open Go.Proofs Go.Shelf
def e306 : Memo := ⟨180, 2, [(.slc 0 0 1 1), (.slc 1 0 1 1)], [(0, 0, 0), (0, 1, 0)], [(.cells [(.v (.int .u64 782))] 233 0), (.cells [(.v (.int .u64 1))] 233 0)], (.slc 3 0 1 1), 2, [(3, (.cells [(.v (.int .u64 1))] 233 0))]⟩
theorem e306_ok : e306.Ok Tryz.prog noGl := memo_ok TF_ok O0_ok mixed TPl_ok 100000 (by kernel_rfl) (by kernel_rfl)
def e317 : Memo := ⟨180, 2, [(.slc 0 0 1 1), (.slc 1 0 1 1)], [(0, 0, 0), (0, 1, 0)], [(.cells [(.v (.int .u64 391))] 233 0), (.cells [(.v (.int .u64 1))] 233 0)], (.slc 3 0 1 1), 2, [(3, (.cells [(.v (.int .u64 1))] 233 0))]⟩
theorem e317_ok : e317.Ok Tryz.prog noGl := memo_ok TF_ok O0_ok mixed TPl_ok 100000 (by kernel_rfl) (by kernel_rfl)
def e327 : Memo := ⟨180, 2, [(.slc 0 0 1 1), (.slc 1 0 1 1)], [(0, 0, 0), (0, 1, 0)], [(.cells [(.v (.int .u64 196))] 233 0), (.cells [(.v (.int .u64 1))] 233 0)], (.slc 3 0 1 1), 2, [(3, (.cells [(.v (.int .u64 1))] 233 0))]⟩
theorem e327_ok : e327.Ok Tryz.prog noGl := memo_ok TF_ok O0_ok mixed TPl_ok 100000 (by kernel_rfl) (by kernel_rfl)
def e336 : Memo := ⟨180, 2, [(.slc 0 0 1 1), (.slc 1 0 1 1)], [(0, 0, 0), (0, 1, 0)], [(.cells [(.v (.int .u64 98))] 233 0), (.cells [(.v (.int .u64 1))] 233 0)], (.slc 3 0 1 1), 2, [(3, (.cells [(.v (.int .u64 1))] 233 0))]⟩
theorem e336_ok : e336.Ok Tryz.prog noGl := memo_ok TF_ok O0_ok mixed TPl_ok 100000 (by kernel_rfl) (by kernel_rfl)
def e347 : Memo := ⟨180, 2, [(.slc 0 0 1 1), (.slc 1 0 1 1)], [(0, 0, 0), (0, 1, 0)], [(.cells [(.v (.int .u64 49))] 233 0), (.cells [(.v (.int .u64 1))] 233 0)], (.slc 3 0 1 1), 2, [(3, (.cells [(.v (.int .u64 1))] 233 0))]⟩
theorem e347_ok : e347.Ok Tryz.prog noGl := memo_ok TF_ok O0_ok mixed TPl_ok 100000 (by kernel_rfl) (by kernel_rfl)
def e357 : Memo := ⟨180, 2, [(.slc 0 0 1 1), (.slc 1 0 1 1)], [(0, 0, 0), (0, 1, 0)], [(.cells [(.v (.int .u64 25))] 233 0), (.cells [(.v (.int .u64 1))] 233 0)], (.slc 3 0 1 1), 2, [(3, (.cells [(.v (.int .u64 1))] 233 0))]⟩
theorem e357_ok : e357.Ok Tryz.prog noGl := memo_ok TF_ok O0_ok mixed TPl_ok 100000 (by kernel_rfl) (by kernel_rfl)
def e367 : Memo := ⟨180, 2, [(.slc 0 0 1 1), (.slc 1 0 1 1)], [(0, 0, 0), (0, 1, 0)], [(.cells [(.v (.int .u64 13))] 233 0), (.cells [(.v (.int .u64 1))] 233 0)], (.slc 3 0 1 1), 2, [(3, (.cells [(.v (.int .u64 1))] 233 0))]⟩
theorem e367_ok : e367.Ok Tryz.prog noGl := memo_ok TF_ok O0_ok mixed TPl_ok 100000 (by kernel_rfl) (by kernel_rfl)
def e377 : Memo := ⟨180, 2, [(.slc 0 0 1 1), (.slc 1 0 1 1)], [(0, 0, 0), (0, 1, 0)], [(.cells [(.v (.int .u64 7))] 233 0), (.cells [(.v (.int .u64 1))] 233 0)], (.slc 3 0 1 1), 2, [(3, (.cells [(.v (.int .u64 1))] 233 0))]⟩
theorem e377_ok : e377.Ok Tryz.prog noGl := memo_ok TF_ok O0_ok mixed TPl_ok 100000 (by kernel_rfl) (by kernel_rfl)
def e379 : Memo := ⟨184, 2, [(.slc 0 0 1 2), (.slc 1 0 1 2)], [(0, 0, 0), (0, 1, 0)], [(.cells [(.v (.int .u64 49)), (.v (.int .u64 0))] 233 0), (.cells [(.v (.int .u64 1)), (.v (.int .u64 0))] 233 0)], (.slc 2 0 1 2), 1, [(2, (.cells [(.v (.int .u64 49)), (.v (.int .u64 0))] 233 0))]⟩
theorem e379_ok : e379.Ok Tryz.prog noGl := memo_ok TF_ok O0_ok mixed TPl_ok 100000 (by kernel_rfl) (by kernel_rfl)
def e408 : Memo := ⟨225, 0, [(.v (.string ⟨#[52, 57]⟩)), (.v (.int .i64 10)), (.v (.int .i64 64))], [], [], (.tup [(.v (.int .u64 49)), (.v .nilIface)]), 1, []⟩
theorem e408_ok : e408.Ok Tryz.prog noGl := memo_ok TF_ok O0_ok mixed TPl_ok 100000 (by kernel_rfl) (by kernel_rfl)
def e411 : Memo := ⟨180, 2, [(.slc 0 0 1 2), (.slc 1 0 1 2)], [(0, 0, 0), (0, 1, 0)], [(.cells [(.v (.int .u64 49)), (.v (.int .u64 0))] 233 0), (.cells [(.v (.int .u64 1)), (.v (.int .u64 0))] 233 0)], (.slc 3 0 1 1), 2, [(3, (.cells [(.v (.int .u64 1))] 233 0))]⟩
theorem e411_ok : e411.Ok Tryz.prog noGl := memo_ok TF_ok O0_ok mixed TPl_ok 100000 (by kernel_rfl) (by kernel_rfl)
def e419 : Memo := ⟨106, 0, [(.v (.int .i64 5)), (.agg [(.v (.int .i64 1)), (.v (.int .i64 0))])], [], [], (.tup [(.v (.int .i64 6)), (.v (.int .i64 0))]), 2, []⟩
theorem e419_ok : e419.Ok Tryz.prog noGl := memo_ok TF_ok O0_ok mixed TPl_ok 100000 (by kernel_rfl) (by kernel_rfl)
def e420 : Memo := ⟨106, 0, [(.v (.int .i64 6)), (.agg [(.v (.int .i64 0)), (.v (.int .i64 2))])], [], [], (.tup [(.v (.int .i64 4)), (.v (.int .i64 0))]), 2, []⟩
theorem e420_ok : e420.Ok Tryz.prog noGl := memo_ok TF_ok O0_ok mixed TPl_ok 100000 (by kernel_rfl) (by kernel_rfl)
def e426 : Memo := ⟨31, 0, [(.v (.int .i64 6)), (.v (.int .i64 4)), (.v (.int .i64 3))], [], [], (.tup [(.agg [(.v (.int .i64 6)), (.slc 6 0 3 3)]), (.v (.int .i64 0))]), 32, [(6, (.cells [(.v (.int .i64 0)), (.v (.int .i64 1)), (.v (.int .i64 0)), (.v (.int .i64 1)), (.v (.int .i64 0)), (.v (.int .i64 0))] 120 0))]⟩
theorem e426_ok : e426.Ok Tryz.prog noGl := memo_ok TF_ok O0_ok mixed TPl_ok 100000 (by kernel_rfl) (by kernel_rfl)
end Go.Ev
