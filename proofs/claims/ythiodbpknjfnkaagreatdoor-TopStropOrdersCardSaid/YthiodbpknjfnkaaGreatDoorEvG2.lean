/- Part of an evaluator of calls that is proved sound, and of what it gives about this program. No condition of its own. -/
import Derived.Test.YthiodbpknjfnkaaGreatDoorEvG1
set_option linter.unusedVariables false
set_option linter.unusedSimpArgs false
set_option maxRecDepth 1000000
namespace Go.Ev
open Go.Proofs Go.Shelf
def e57 : Memo := ⟨21, 2, [(.agg [(.v (.bool false)), (.slc 0 0 1 2)]), (.agg [(.v (.bool false)), (.slc 1 0 1 1)])], [(0, 0, 1), (0, 1, 1)], [(.cells [(.v (.int .u64 6)), (.v (.int .u64 0))] 90 0), (.cells [(.v (.int .u64 4))] 90 0)], (.agg [(.v (.bool false)), (.slc 28 0 1 2)]), 30, [(28, (.cells [(.v (.int .u64 12)), (.v (.int .u64 0))] 90 0))]⟩
theorem e57_ok : e57.Ok Tryz.prog noGl := memo_ok TF_ok O0_ok mixed TPl_ok 100000 (by kernel_rfl) (by kernel_rfl)
def e59 : Memo := ⟨126, 0, [(.v (.string ⟨#[51, 49, 52, 49, 53]⟩)), (.v (.int .i64 10)), (.v (.int .i64 64))], [], [], (.tup [(.v (.int .u64 31415)), (.v .nilIface)]), 1, []⟩
theorem e59_ok : e59.Ok Tryz.prog noGl := memo_ok TF_ok O0_ok mixed TPl_ok 100000 (by kernel_rfl) (by kernel_rfl)
def e65 : Memo := ⟨126, 0, [(.v (.string ⟨#[49, 48, 48, 48, 48]⟩)), (.v (.int .i64 10)), (.v (.int .i64 64))], [], [], (.tup [(.v (.int .u64 10000)), (.v .nilIface)]), 1, []⟩
theorem e65_ok : e65.Ok Tryz.prog noGl := memo_ok TF_ok O0_ok mixed TPl_ok 100000 (by kernel_rfl) (by kernel_rfl)
def e70 : Memo := ⟨62, 2, [(.agg [(.v (.bool false)), (.slc 0 0 1 2)]), (.agg [(.v (.bool false)), (.slc 1 0 1 2)])], [(0, 0, 1), (0, 1, 1)], [(.cells [(.v (.int .u64 31415)), (.v (.int .u64 0))] 90 0), (.cells [(.v (.int .u64 10000)), (.v (.int .u64 0))] 90 0)], (.agg [(.v (.bool false)), (.slc 8 0 1 1), (.slc 10 0 1 1)]), 11, [(8, (.cells [(.v (.int .u64 6283))] 90 0)), (10, (.cells [(.v (.int .u64 2000))] 90 0))]⟩
theorem e70_ok : e70.Ok Tryz.prog noGl := memo_ok TF_ok O0_ok mixed TPl_ok 100000 (by kernel_rfl) (by kernel_rfl)
def e71 : Memo := ⟨62, 2, [(.agg [(.v (.bool false)), (.slc 0 0 1 2)]), (.agg [(.v (.bool false)), (.slc 1 0 1 2)])], [(0, 0, 1), (0, 1, 1)], [(.cells [(.v (.int .u64 31416)), (.v (.int .u64 0))] 90 0), (.cells [(.v (.int .u64 10000)), (.v (.int .u64 0))] 90 0)], (.agg [(.v (.bool false)), (.slc 8 0 1 1), (.slc 10 0 1 1)]), 11, [(8, (.cells [(.v (.int .u64 3927))] 90 0)), (10, (.cells [(.v (.int .u64 1250))] 90 0))]⟩
theorem e71_ok : e71.Ok Tryz.prog noGl := memo_ok TF_ok O0_ok mixed TPl_ok 100000 (by kernel_rfl) (by kernel_rfl)
def e73 : Memo := ⟨22, 2, [(.agg [(.v (.bool false)), (.slc 0 0 1 1), (.slc 1 0 1 1)])], [(0, 0, 1), (0, 0, 2)], [(.cells [(.v (.int .u64 6283))] 90 0), (.cells [(.v (.int .u64 2000))] 90 0)], (.tup [(.v (.string ⟨#[54, 50, 56, 51, 47, 50, 48, 48, 48]⟩)), (.v (.int .i64 0))]), 5, []⟩
theorem e73_ok : e73.Ok Tryz.prog gl0 := memo_ok TF_ok O0_ok mixed TPl_ok 100000 (by kernel_rfl) (by kernel_rfl)
def e74 : Memo := ⟨22, 2, [(.agg [(.v (.bool false)), (.slc 0 0 1 1), (.slc 1 0 1 1)])], [(0, 0, 1), (0, 0, 2)], [(.cells [(.v (.int .u64 3927))] 90 0), (.cells [(.v (.int .u64 1250))] 90 0)], (.tup [(.v (.string ⟨#[51, 57, 50, 55, 47, 49, 50, 53, 48]⟩)), (.v (.int .i64 0))]), 5, []⟩
theorem e74_ok : e74.Ok Tryz.prog gl0 := memo_ok TF_ok O0_ok mixed TPl_ok 100000 (by kernel_rfl) (by kernel_rfl)
def e77 : Memo := ⟨69, 0, [(.v (.string ⟨#[54, 50, 56, 51]⟩))], [], [], (.slc 4 0 1 2), 5, [(4, (.cells [(.v (.int .u64 6283)), (.v (.int .u64 0))] 90 0))]⟩
theorem e77_ok : e77.Ok Tryz.prog noGl := memo_ok TF_ok O0_ok mixed TPl_ok 100000 (by kernel_rfl) (by kernel_rfl)
def e78 : Memo := ⟨69, 0, [(.v (.string ⟨#[50, 48, 48, 48]⟩))], [], [], (.slc 4 0 1 2), 5, [(4, (.cells [(.v (.int .u64 2000)), (.v (.int .u64 0))] 90 0))]⟩
theorem e78_ok : e78.Ok Tryz.prog noGl := memo_ok TF_ok O0_ok mixed TPl_ok 100000 (by kernel_rfl) (by kernel_rfl)
def e80 : Memo := ⟨47, 3, [(.agg [(.v (.bool false)), (.slc 0 0 1 2), (.slc 1 0 1 2)]), (.agg [(.v (.bool true)), (.slc 2 0 1 1), (.v (.slice none 0 0))])], [(0, 0, 1), (0, 0, 2), (0, 1, 1)], [(.cells [(.v (.int .u64 6283)), (.v (.int .u64 0))] 90 0), (.cells [(.v (.int .u64 2000)), (.v (.int .u64 0))] 90 0), (.cells [(.v (.int .u64 3))] 90 0)], (.agg [(.v (.bool false)), (.slc 31 0 1 1), (.slc 42 0 1 2)]), 48, [(31, (.cells [(.v (.int .u64 283))] 90 0)), (42, (.cells [(.v (.int .u64 2000)), (.v (.int .u64 0))] 90 0))]⟩
theorem e80_ok : e80.Ok Tryz.prog noGl := memo_ok TF_ok O0_ok mixed TPl_ok 100000 (by kernel_rfl) (by kernel_rfl)
def e82 : Memo := ⟨40, 2, [(.agg [(.v (.bool false)), (.slc 0 0 1 1), (.slc 1 0 1 2)]), (.v (.int .i64 10))], [(0, 0, 1), (0, 0, 2)], [(.cells [(.v (.int .u64 283))] 90 0), (.cells [(.v (.int .u64 2000)), (.v (.int .u64 0))] 90 0)], (.slc 59 0 2 2), 58, [(37, (.cells [(.v (.int .u64 1))] 90 0)), (39, (.cells [(.v (.int .u64 8))] 90 0)), (49, (.cells [(.v (.int .u64 1))] 90 0)), (51, (.cells [(.v (.int .u64 7))] 90 0)), (59, (.cells [(.v (.bool false)), (.slc 37 0 1 1), (.slc 39 0 1 1), (.v (.bool false)), (.slc 49 0 1 1), (.slc 51 0 1 1)] 59 0))]⟩
theorem e82_ok : e82.Ok Tryz.prog noGl := memo_ok TF_ok O0_ok mixed TPl_ok 100000 (by kernel_rfl) (by kernel_rfl)
def e83 : Memo := ⟨81, 2, [(.slc 0 0 1 1), (.slc 1 0 1 2)], [(0, 0, 0), (0, 1, 0)], [(.cells [(.v (.int .u64 1))] 90 0), (.cells [(.v (.int .u64 2000)), (.v (.int .u64 0))] 90 0)], (.slc 2 0 1 2), 1, [(2, (.cells [(.v (.int .u64 2000)), (.v (.int .u64 0))] 90 0))]⟩
theorem e83_ok : e83.Ok Tryz.prog noGl := memo_ok TF_ok O0_ok mixed TPl_ok 100000 (by kernel_rfl) (by kernel_rfl)
def e88 : Memo := ⟨62, 2, [(.agg [(.v (.bool false)), (.slc 0 0 1 1)]), (.agg [(.v (.bool false)), (.slc 1 0 1 2)])], [(0, 0, 1), (0, 1, 1)], [(.cells [(.v (.int .u64 264))] 90 0), (.cells [(.v (.int .u64 16000)), (.v (.int .u64 0))] 90 0)], (.agg [(.v (.bool false)), (.slc 8 0 1 1), (.slc 10 0 1 1)]), 11, [(8, (.cells [(.v (.int .u64 33))] 90 0)), (10, (.cells [(.v (.int .u64 2000))] 90 0))]⟩
theorem e88_ok : e88.Ok Tryz.prog noGl := memo_ok TF_ok O0_ok mixed TPl_ok 100000 (by kernel_rfl) (by kernel_rfl)
end Go.Ev
