/- Part of an evaluator of calls that is proved sound, and of what it gives about this program. No condition of its own. -/
import Derived.Test.YtjkgjemcmmgefaaGreatDoorEvG0
set_option linter.unusedVariables false
set_option linter.unusedSimpArgs false
set_option linter.unusedSectionVars false
set_option maxRecDepth 1000000
namespace Go.Ev
open Go.Proofs Go.Shelf
def e0 : Memo := ⟨68, 2, [(.agg [(.v (.bool false)), (.slc 0 0 1 1)]), (.agg [(.v (.bool true)), (.slc 1 0 1 1)])], [(0, 0, 1), (0, 1, 1)], [(.cells [(.v (.int .u64 15))] 145 0), (.cells [(.v (.int .u64 6))] 145 0)], (.agg [(.v (.bool true)), (.slc 8 0 1 1), (.slc 10 0 1 1)]), 11, [(8, (.cells [(.v (.int .u64 5))] 145 0)), (10, (.cells [(.v (.int .u64 2))] 145 0))]⟩
theorem e0_ok : e0.Ok Tryz.prog noGl := memo_ok TF_ok O0_ok mixed TPl_ok 100000 (by kernel_rfl) (by kernel_rfl)
def e2 : Memo := ⟨213, 0, [(.v (.string ⟨#[53]⟩)), (.v (.int .i64 10)), (.v (.int .i64 64))], [], [], (.tup [(.v (.int .u64 5)), (.v .nilIface)]), 1, []⟩
theorem e2_ok : e2.Ok Tryz.prog noGl := memo_ok TF_ok O0_ok mixed TPl_ok 100000 (by kernel_rfl) (by kernel_rfl)
def e5 : Memo := ⟨213, 0, [(.v (.string ⟨#[50]⟩)), (.v (.int .i64 10)), (.v (.int .i64 64))], [], [], (.tup [(.v (.int .u64 2)), (.v .nilIface)]), 1, []⟩
theorem e5_ok : e5.Ok Tryz.prog noGl := memo_ok TF_ok O0_ok mixed TPl_ok 100000 (by kernel_rfl) (by kernel_rfl)
def e9 : Memo := ⟨179, 2, [(.slc 0 0 1 1), (.slc 1 0 1 1)], [(0, 0, 0), (0, 1, 0)], [(.cells [(.v (.int .u64 2))] 145 0), (.cells [(.v (.int .u64 1))] 145 0)], (.slc 2 0 1 2), 1, [(2, (.cells [(.v (.int .u64 3)), (.v (.int .u64 0))] 145 0))]⟩
theorem e9_ok : e9.Ok Tryz.prog noGl := memo_ok TF_ok O0_ok mixed TPl_ok 100000 (by kernel_rfl) (by kernel_rfl)
def e11 : Memo := ⟨213, 0, [(.v (.string ⟨#[49]⟩)), (.v (.int .i64 10)), (.v (.int .i64 64))], [], [], (.tup [(.v (.int .u64 1)), (.v .nilIface)]), 1, []⟩
theorem e11_ok : e11.Ok Tryz.prog noGl := memo_ok TF_ok O0_ok mixed TPl_ok 100000 (by kernel_rfl) (by kernel_rfl)
def e14 : Memo := ⟨123, 2, [(.slc 0 0 1 2), (.slc 1 0 1 2)], [(0, 0, 0), (0, 1, 0)], [(.cells [(.v (.int .u64 1)), (.v (.int .u64 0))] 145 0), (.cells [(.v (.int .u64 1)), (.v (.int .u64 0))] 145 0)], (.slc 3 0 1 1), 2, [(3, (.cells [(.v (.int .u64 1))] 145 0))]⟩
theorem e14_ok : e14.Ok Tryz.prog noGl := memo_ok TF_ok O0_ok mixed TPl_ok 100000 (by kernel_rfl) (by kernel_rfl)
def e16 : Memo := ⟨123, 2, [(.slc 0 0 1 2), (.slc 1 0 1 2)], [(0, 0, 0), (0, 1, 0)], [(.cells [(.v (.int .u64 2)), (.v (.int .u64 0))] 145 0), (.cells [(.v (.int .u64 1)), (.v (.int .u64 0))] 145 0)], (.slc 3 0 1 1), 2, [(3, (.cells [(.v (.int .u64 1))] 145 0))]⟩
theorem e16_ok : e16.Ok Tryz.prog noGl := memo_ok TF_ok O0_ok mixed TPl_ok 100000 (by kernel_rfl) (by kernel_rfl)
def e19 : Memo := ⟨153, 2, [(.slc 0 0 1 2), (.slc 1 0 1 2)], [(0, 0, 0), (0, 1, 0)], [(.cells [(.v (.int .u64 1)), (.v (.int .u64 0))] 145 0), (.cells [(.v (.int .u64 1)), (.v (.int .u64 0))] 145 0)], (.slc 2 0 1 2), 1, [(2, (.cells [(.v (.int .u64 1)), (.v (.int .u64 0))] 145 0))]⟩
theorem e19_ok : e19.Ok Tryz.prog noGl := memo_ok TF_ok O0_ok mixed TPl_ok 100000 (by kernel_rfl) (by kernel_rfl)
def e20 : Memo := ⟨153, 2, [(.slc 0 0 1 2), (.slc 1 0 1 2)], [(0, 0, 0), (0, 1, 0)], [(.cells [(.v (.int .u64 2)), (.v (.int .u64 0))] 145 0), (.cells [(.v (.int .u64 1)), (.v (.int .u64 0))] 145 0)], (.slc 2 0 1 2), 1, [(2, (.cells [(.v (.int .u64 2)), (.v (.int .u64 0))] 145 0))]⟩
theorem e20_ok : e20.Ok Tryz.prog noGl := memo_ok TF_ok O0_ok mixed TPl_ok 100000 (by kernel_rfl) (by kernel_rfl)
def e24 : Memo := ⟨213, 0, [(.v (.string ⟨#[51]⟩)), (.v (.int .i64 10)), (.v (.int .i64 64))], [], [], (.tup [(.v (.int .u64 3)), (.v .nilIface)]), 1, []⟩
theorem e24_ok : e24.Ok Tryz.prog noGl := memo_ok TF_ok O0_ok mixed TPl_ok 100000 (by kernel_rfl) (by kernel_rfl)
def e27 : Memo := ⟨123, 2, [(.slc 0 0 1 2), (.slc 1 0 1 2)], [(0, 0, 0), (0, 1, 0)], [(.cells [(.v (.int .u64 3)), (.v (.int .u64 0))] 145 0), (.cells [(.v (.int .u64 1)), (.v (.int .u64 0))] 145 0)], (.slc 3 0 1 1), 2, [(3, (.cells [(.v (.int .u64 1))] 145 0))]⟩
theorem e27_ok : e27.Ok Tryz.prog noGl := memo_ok TF_ok O0_ok mixed TPl_ok 100000 (by kernel_rfl) (by kernel_rfl)
def e29 : Memo := ⟨213, 0, [(.v (.string ⟨#[52]⟩)), (.v (.int .i64 10)), (.v (.int .i64 64))], [], [], (.tup [(.v (.int .u64 4)), (.v .nilIface)]), 1, []⟩
theorem e29_ok : e29.Ok Tryz.prog noGl := memo_ok TF_ok O0_ok mixed TPl_ok 100000 (by kernel_rfl) (by kernel_rfl)
def e32 : Memo := ⟨123, 2, [(.slc 0 0 1 2), (.slc 1 0 1 2)], [(0, 0, 0), (0, 1, 0)], [(.cells [(.v (.int .u64 4)), (.v (.int .u64 0))] 145 0), (.cells [(.v (.int .u64 1)), (.v (.int .u64 0))] 145 0)], (.slc 3 0 1 1), 2, [(3, (.cells [(.v (.int .u64 1))] 145 0))]⟩
theorem e32_ok : e32.Ok Tryz.prog noGl := memo_ok TF_ok O0_ok mixed TPl_ok 100000 (by kernel_rfl) (by kernel_rfl)
def e35 : Memo := ⟨153, 2, [(.slc 0 0 1 2), (.slc 1 0 1 2)], [(0, 0, 0), (0, 1, 0)], [(.cells [(.v (.int .u64 3)), (.v (.int .u64 0))] 145 0), (.cells [(.v (.int .u64 1)), (.v (.int .u64 0))] 145 0)], (.slc 2 0 1 2), 1, [(2, (.cells [(.v (.int .u64 3)), (.v (.int .u64 0))] 145 0))]⟩
theorem e35_ok : e35.Ok Tryz.prog noGl := memo_ok TF_ok O0_ok mixed TPl_ok 100000 (by kernel_rfl) (by kernel_rfl)
def e36 : Memo := ⟨153, 2, [(.slc 0 0 1 2), (.slc 1 0 1 2)], [(0, 0, 0), (0, 1, 0)], [(.cells [(.v (.int .u64 4)), (.v (.int .u64 0))] 145 0), (.cells [(.v (.int .u64 1)), (.v (.int .u64 0))] 145 0)], (.slc 2 0 1 2), 1, [(2, (.cells [(.v (.int .u64 4)), (.v (.int .u64 0))] 145 0))]⟩
theorem e36_ok : e36.Ok Tryz.prog noGl := memo_ok TF_ok O0_ok mixed TPl_ok 100000 (by kernel_rfl) (by kernel_rfl)
def e41 : Memo := ⟨153, 2, [(.slc 0 0 1 2), (.slc 1 0 1 2)], [(0, 0, 0), (0, 1, 0)], [(.cells [(.v (.int .u64 1)), (.v (.int .u64 0))] 145 0), (.cells [(.v (.int .u64 3)), (.v (.int .u64 0))] 145 0)], (.slc 2 0 1 2), 1, [(2, (.cells [(.v (.int .u64 3)), (.v (.int .u64 0))] 145 0))]⟩
theorem e41_ok : e41.Ok Tryz.prog noGl := memo_ok TF_ok O0_ok mixed TPl_ok 100000 (by kernel_rfl) (by kernel_rfl)
def e43 : Memo := ⟨153, 2, [(.slc 0 0 1 2), (.slc 1 0 1 2)], [(0, 0, 0), (0, 1, 0)], [(.cells [(.v (.int .u64 1)), (.v (.int .u64 0))] 145 0), (.cells [(.v (.int .u64 4)), (.v (.int .u64 0))] 145 0)], (.slc 2 0 1 2), 1, [(2, (.cells [(.v (.int .u64 4)), (.v (.int .u64 0))] 145 0))]⟩
theorem e43_ok : e43.Ok Tryz.prog noGl := memo_ok TF_ok O0_ok mixed TPl_ok 100000 (by kernel_rfl) (by kernel_rfl)
def e44 : Memo := ⟨153, 2, [(.slc 0 0 1 2), (.slc 1 0 1 2)], [(0, 0, 0), (0, 1, 0)], [(.cells [(.v (.int .u64 2)), (.v (.int .u64 0))] 145 0), (.cells [(.v (.int .u64 3)), (.v (.int .u64 0))] 145 0)], (.slc 2 0 1 2), 1, [(2, (.cells [(.v (.int .u64 6)), (.v (.int .u64 0))] 145 0))]⟩
theorem e44_ok : e44.Ok Tryz.prog noGl := memo_ok TF_ok O0_ok mixed TPl_ok 100000 (by kernel_rfl) (by kernel_rfl)
def e46 : Memo := ⟨123, 2, [(.slc 0 0 1 2), (.slc 1 0 1 2)], [(0, 0, 0), (0, 1, 0)], [(.cells [(.v (.int .u64 8)), (.v (.int .u64 0))] 145 0), (.cells [(.v (.int .u64 1)), (.v (.int .u64 0))] 145 0)], (.slc 3 0 1 1), 2, [(3, (.cells [(.v (.int .u64 1))] 145 0))]⟩
theorem e46_ok : e46.Ok Tryz.prog noGl := memo_ok TF_ok O0_ok mixed TPl_ok 100000 (by kernel_rfl) (by kernel_rfl)
def e51 : Memo := ⟨153, 2, [(.slc 0 0 1 2), (.slc 1 0 1 2)], [(0, 0, 0), (0, 1, 0)], [(.cells [(.v (.int .u64 6)), (.v (.int .u64 0))] 145 0), (.cells [(.v (.int .u64 1)), (.v (.int .u64 0))] 145 0)], (.slc 2 0 1 2), 1, [(2, (.cells [(.v (.int .u64 6)), (.v (.int .u64 0))] 145 0))]⟩
theorem e51_ok : e51.Ok Tryz.prog noGl := memo_ok TF_ok O0_ok mixed TPl_ok 100000 (by kernel_rfl) (by kernel_rfl)
def e53 : Memo := ⟨153, 2, [(.slc 0 0 1 2), (.slc 1 0 1 2)], [(0, 0, 0), (0, 1, 0)], [(.cells [(.v (.int .u64 8)), (.v (.int .u64 0))] 145 0), (.cells [(.v (.int .u64 1)), (.v (.int .u64 0))] 145 0)], (.slc 2 0 1 2), 1, [(2, (.cells [(.v (.int .u64 8)), (.v (.int .u64 0))] 145 0))]⟩
theorem e53_ok : e53.Ok Tryz.prog noGl := memo_ok TF_ok O0_ok mixed TPl_ok 100000 (by kernel_rfl) (by kernel_rfl)
def e67 : Memo := ⟨125, 2, [(.slc 0 0 1 2), (.slc 1 0 1 1)], [(0, 0, 0), (0, 1, 0)], [(.cells [(.v (.int .u64 2)), (.v (.int .u64 0))] 145 0), (.cells [(.v (.int .u64 2))] 145 0)], (.tup [(.slc 2 0 1 1), (.slc 3 0 0 1)]), 2, [(2, (.cells [(.v (.int .u64 1))] 145 0)), (3, (.cells [(.v (.int .u64 0))] 145 0))]⟩
theorem e67_ok : e67.Ok Tryz.prog noGl := memo_ok TF_ok O0_ok mixed TPl_ok 100000 (by kernel_rfl) (by kernel_rfl)
def e71 : Memo := ⟨153, 2, [(.slc 0 0 1 2), (.slc 1 0 1 2)], [(0, 0, 0), (0, 1, 0)], [(.cells [(.v (.int .u64 1)), (.v (.int .u64 0))] 145 0), (.cells [(.v (.int .u64 8)), (.v (.int .u64 0))] 145 0)], (.slc 2 0 1 2), 1, [(2, (.cells [(.v (.int .u64 8)), (.v (.int .u64 0))] 145 0))]⟩
theorem e71_ok : e71.Ok Tryz.prog noGl := memo_ok TF_ok O0_ok mixed TPl_ok 100000 (by kernel_rfl) (by kernel_rfl)
def e74 : Memo := ⟨153, 2, [(.slc 0 0 1 1), (.slc 1 0 1 2)], [(0, 0, 0), (0, 1, 0)], [(.cells [(.v (.int .u64 1))] 145 0), (.cells [(.v (.int .u64 8)), (.v (.int .u64 0))] 145 0)], (.slc 2 0 1 2), 1, [(2, (.cells [(.v (.int .u64 8)), (.v (.int .u64 0))] 145 0))]⟩
theorem e74_ok : e74.Ok Tryz.prog noGl := memo_ok TF_ok O0_ok mixed TPl_ok 100000 (by kernel_rfl) (by kernel_rfl)
def e76 : Memo := ⟨153, 2, [(.slc 0 0 1 2), (.slc 1 0 1 1)], [(0, 0, 0), (0, 1, 0)], [(.cells [(.v (.int .u64 1)), (.v (.int .u64 0))] 145 0), (.cells [(.v (.int .u64 2))] 145 0)], (.slc 2 0 1 2), 1, [(2, (.cells [(.v (.int .u64 2)), (.v (.int .u64 0))] 145 0))]⟩
theorem e76_ok : e76.Ok Tryz.prog noGl := memo_ok TF_ok O0_ok mixed TPl_ok 100000 (by kernel_rfl) (by kernel_rfl)
def e80 : Memo := ⟨153, 2, [(.slc 0 0 1 1), (.slc 1 0 1 1)], [(0, 0, 0), (0, 1, 0)], [(.cells [(.v (.int .u64 1))] 145 0), (.cells [(.v (.int .u64 2))] 145 0)], (.slc 2 0 1 2), 1, [(2, (.cells [(.v (.int .u64 2)), (.v (.int .u64 0))] 145 0))]⟩
theorem e80_ok : e80.Ok Tryz.prog noGl := memo_ok TF_ok O0_ok mixed TPl_ok 100000 (by kernel_rfl) (by kernel_rfl)
def e84 : Memo := ⟨54, 2, [(.agg [(.v (.bool false)), (.slc 0 0 1 1), (.slc 1 0 1 1)])], [(0, 0, 1), (0, 0, 2)], [(.cells [(.v (.int .u64 1))] 145 0), (.cells [(.v (.int .u64 2))] 145 0)], (.tup [(.v (.string ⟨#[49, 47, 50]⟩)), (.v (.int .i64 0))]), 3, []⟩
theorem e84_ok : e84.Ok Tryz.prog noGl := memo_ok TF_ok O0_ok mixed TPl_ok 100000 (by kernel_rfl) (by kernel_rfl)
def e91 : Memo := ⟨125, 2, [(.slc 0 0 1 2), (.slc 1 0 1 1)], [(0, 0, 0), (0, 1, 0)], [(.cells [(.v (.int .u64 1)), (.v (.int .u64 0))] 145 0), (.cells [(.v (.int .u64 1))] 145 0)], (.tup [(.slc 2 0 1 1), (.slc 3 0 0 1)]), 2, [(2, (.cells [(.v (.int .u64 1))] 145 0)), (3, (.cells [(.v (.int .u64 0))] 145 0))]⟩
theorem e91_ok : e91.Ok Tryz.prog noGl := memo_ok TF_ok O0_ok mixed TPl_ok 100000 (by kernel_rfl) (by kernel_rfl)
def e94 : Memo := ⟨153, 1, [(.slc 0 0 1 1), (.slc 0 0 1 1)], [(0, 0, 0)], [(.cells [(.v (.int .u64 1))] 145 0)], (.slc 1 0 1 2), 1, [(1, (.cells [(.v (.int .u64 1)), (.v (.int .u64 0))] 145 0))]⟩
theorem e94_ok : e94.Ok Tryz.prog noGl := memo_ok TF_ok O0_ok mixed TPl_ok 100000 (by kernel_rfl) (by kernel_rfl)
def e97 : Memo := ⟨153, 2, [(.slc 0 0 1 2), (.slc 1 0 1 1)], [(0, 0, 0), (0, 1, 0)], [(.cells [(.v (.int .u64 1)), (.v (.int .u64 0))] 145 0), (.cells [(.v (.int .u64 1))] 145 0)], (.slc 2 0 1 2), 1, [(2, (.cells [(.v (.int .u64 1)), (.v (.int .u64 0))] 145 0))]⟩
theorem e97_ok : e97.Ok Tryz.prog noGl := memo_ok TF_ok O0_ok mixed TPl_ok 100000 (by kernel_rfl) (by kernel_rfl)
def e100 : Memo := ⟨134, 1, [(.slc 0 0 1 1)], [(0, 0, 0)], [(.cells [(.v (.int .u64 2000000))] 145 0)], (.slc 13 0 1 1), 17, [(13, (.cells [(.v (.int .u64 1414))] 145 0))]⟩
theorem e100_ok : e100.Ok Tryz.prog noGl := memo_ok TF_ok O0_ok mixed TPl_ok 100000 (by kernel_rfl) (by kernel_rfl)
def e103 : Memo := ⟨129, 0, [(.v (.string ⟨#[49, 48, 48, 48]⟩))], [], [], (.slc 4 0 1 2), 5, [(4, (.cells [(.v (.int .u64 1000)), (.v (.int .u64 0))] 145 0))]⟩
theorem e103_ok : e103.Ok Tryz.prog noGl := memo_ok TF_ok O0_ok mixed TPl_ok 100000 (by kernel_rfl) (by kernel_rfl)
end Go.Ev
