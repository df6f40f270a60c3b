/- Part of an evaluator of calls that is proved sound, and of what it gives about this program. No condition of its own. -/
import Derived.Test.YtdpbhlkcliijnaaGreatDoorEvG3
set_option linter.unusedVariables false
set_option linter.unusedSimpArgs false
set_option linter.unusedSectionVars false
set_option maxRecDepth 1000000
namespace Go.Ev
open Go.Proofs Go.Shelf
def e41 : Memo := ⟨92, 0, [(.agg [(.v (.int .i64 3)), (.v (.int .i64 1)), (.v (.int .i64 1)), (.v (.int .i64 2)), (.v (.int .i64 1))]), (.v (.int .i64 3))], [], [], (.tup [(.v (.string ⟨#[53, 47, 50]⟩)), (.v (.int .i64 0))]), 110, []⟩
theorem e41_ok : e41.Ok Tryz.prog noGl := memo_ok TF_ok O3_ok mixed TPl_ok 100000 (by kernel_rfl) (by kernel_rfl)
def e49 : Memo := ⟨157, 0, [(.v (.string ⟨#[48]⟩))], [], [], (.tup [(.agg [(.v (.bool false)), (.slc 6 0 0 1), (.slc 12 0 1 2)]), (.v (.int .i64 0))]), 14, [(6, (.cells [(.v (.int .u64 0))] 233 0)), (12, (.cells [(.v (.int .u64 1)), (.v (.int .u64 0))] 233 0))]⟩
theorem e49_ok : e49.Ok Tryz.prog noGl := memo_ok TF_ok O3_ok mixed TPl_ok 100000 (by kernel_rfl) (by kernel_rfl)
def e53 : Memo := ⟨157, 0, [(.v (.string ⟨#[49, 47, 50]⟩))], [], [], (.tup [(.agg [(.v (.bool false)), (.slc 7 0 1 2), (.slc 13 0 1 2)]), (.v (.int .i64 0))]), 17, [(7, (.cells [(.v (.int .u64 1)), (.v (.int .u64 0))] 233 0)), (13, (.cells [(.v (.int .u64 2)), (.v (.int .u64 0))] 233 0))]⟩
theorem e53_ok : e53.Ok Tryz.prog noGl := memo_ok TF_ok O3_ok mixed TPl_ok 100000 (by kernel_rfl) (by kernel_rfl)
def e56 : Memo := ⟨157, 0, [(.v (.string ⟨#[50]⟩))], [], [], (.tup [(.agg [(.v (.bool false)), (.slc 6 0 1 2), (.slc 12 0 1 2)]), (.v (.int .i64 0))]), 16, [(6, (.cells [(.v (.int .u64 2)), (.v (.int .u64 0))] 233 0)), (12, (.cells [(.v (.int .u64 1)), (.v (.int .u64 0))] 233 0))]⟩
theorem e56_ok : e56.Ok Tryz.prog noGl := memo_ok TF_ok O3_ok mixed TPl_ok 100000 (by kernel_rfl) (by kernel_rfl)
def e64 : Memo := ⟨157, 0, [(.v (.string ⟨#[52, 47, 53]⟩))], [], [], (.tup [(.agg [(.v (.bool false)), (.slc 7 0 1 2), (.slc 13 0 1 2)]), (.v (.int .i64 0))]), 17, [(7, (.cells [(.v (.int .u64 4)), (.v (.int .u64 0))] 233 0)), (13, (.cells [(.v (.int .u64 5)), (.v (.int .u64 0))] 233 0))]⟩
theorem e64_ok : e64.Ok Tryz.prog noGl := memo_ok TF_ok O3_ok mixed TPl_ok 100000 (by kernel_rfl) (by kernel_rfl)
def e74 : Memo := ⟨157, 0, [(.v (.string ⟨#[51]⟩))], [], [], (.tup [(.agg [(.v (.bool false)), (.slc 6 0 1 2), (.slc 12 0 1 2)]), (.v (.int .i64 0))]), 16, [(6, (.cells [(.v (.int .u64 3)), (.v (.int .u64 0))] 233 0)), (12, (.cells [(.v (.int .u64 1)), (.v (.int .u64 0))] 233 0))]⟩
theorem e74_ok : e74.Ok Tryz.prog noGl := memo_ok TF_ok O3_ok mixed TPl_ok 100000 (by kernel_rfl) (by kernel_rfl)
def e82 : Memo := ⟨157, 0, [(.v (.string ⟨#[57, 47, 49, 48]⟩))], [], [], (.tup [(.agg [(.v (.bool false)), (.slc 7 0 1 2), (.slc 13 0 1 2)]), (.v (.int .i64 0))]), 17, [(7, (.cells [(.v (.int .u64 9)), (.v (.int .u64 0))] 233 0)), (13, (.cells [(.v (.int .u64 10)), (.v (.int .u64 0))] 233 0))]⟩
theorem e82_ok : e82.Ok Tryz.prog noGl := memo_ok TF_ok O3_ok mixed TPl_ok 100000 (by kernel_rfl) (by kernel_rfl)
def e94 : Memo := ⟨157, 0, [(.v (.string ⟨#[49]⟩))], [], [], (.tup [(.agg [(.v (.bool false)), (.slc 6 0 1 2), (.slc 12 0 1 2)]), (.v (.int .i64 0))]), 16, [(6, (.cells [(.v (.int .u64 1)), (.v (.int .u64 0))] 233 0)), (12, (.cells [(.v (.int .u64 1)), (.v (.int .u64 0))] 233 0))]⟩
theorem e94_ok : e94.Ok Tryz.prog noGl := memo_ok TF_ok O3_ok mixed TPl_ok 100000 (by kernel_rfl) (by kernel_rfl)
def e114 : Memo := ⟨157, 0, [(.v (.string ⟨#[49, 48, 48, 48]⟩))], [], [], (.tup [(.agg [(.v (.bool false)), (.slc 6 0 1 2), (.slc 12 0 1 2)]), (.v (.int .i64 0))]), 16, [(6, (.cells [(.v (.int .u64 1000)), (.v (.int .u64 0))] 233 0)), (12, (.cells [(.v (.int .u64 1)), (.v (.int .u64 0))] 233 0))]⟩
theorem e114_ok : e114.Ok Tryz.prog noGl := memo_ok TF_ok O3_ok mixed TPl_ok 100000 (by kernel_rfl) (by kernel_rfl)
def e140 : Memo := ⟨131, 2, [(.agg [(.v (.bool false)), (.slc 0 0 1 1), (.slc 1 0 1 1)])], [(0, 0, 1), (0, 0, 2)], [(.cells [(.v (.int .u64 4))] 233 0), (.cells [(.v (.int .u64 1))] 233 0)], (.agg [(.v (.bool false)), (.slc 30 0 1 2), (.slc 39 0 1 2)]), 39, [(30, (.cells [(.v (.int .u64 16)), (.v (.int .u64 0))] 233 0)), (39, (.cells [(.v (.int .u64 1)), (.v (.int .u64 0))] 233 0))]⟩
theorem e140_ok : e140.Ok Tryz.prog noGl := memo_ok TF_ok O3_ok mixed TPl_ok 100000 (by kernel_rfl) (by kernel_rfl)
def e147 : Memo := ⟨131, 2, [(.agg [(.v (.bool false)), (.slc 0 0 1 1), (.slc 1 0 1 1)])], [(0, 0, 1), (0, 0, 2)], [(.cells [(.v (.int .u64 3))] 233 0), (.cells [(.v (.int .u64 1))] 233 0)], (.agg [(.v (.bool false)), (.slc 30 0 1 2), (.slc 39 0 1 2)]), 39, [(30, (.cells [(.v (.int .u64 9)), (.v (.int .u64 0))] 233 0)), (39, (.cells [(.v (.int .u64 1)), (.v (.int .u64 0))] 233 0))]⟩
theorem e147_ok : e147.Ok Tryz.prog noGl := memo_ok TF_ok O3_ok mixed TPl_ok 100000 (by kernel_rfl) (by kernel_rfl)
def e168 : Memo := ⟨157, 0, [(.v (.string ⟨#[56, 48]⟩))], [], [], (.tup [(.agg [(.v (.bool false)), (.slc 6 0 1 2), (.slc 12 0 1 2)]), (.v (.int .i64 0))]), 16, [(6, (.cells [(.v (.int .u64 80)), (.v (.int .u64 0))] 233 0)), (12, (.cells [(.v (.int .u64 1)), (.v (.int .u64 0))] 233 0))]⟩
theorem e168_ok : e168.Ok Tryz.prog noGl := memo_ok TF_ok O3_ok mixed TPl_ok 100000 (by kernel_rfl) (by kernel_rfl)
def e190 : Memo := ⟨131, 2, [(.agg [(.v (.bool false)), (.slc 0 0 1 1), (.slc 1 0 1 1)])], [(0, 0, 1), (0, 0, 2)], [(.cells [(.v (.int .u64 40))] 233 0), (.cells [(.v (.int .u64 1))] 233 0)], (.agg [(.v (.bool false)), (.slc 30 0 1 2), (.slc 39 0 1 2)]), 39, [(30, (.cells [(.v (.int .u64 1600)), (.v (.int .u64 0))] 233 0)), (39, (.cells [(.v (.int .u64 1)), (.v (.int .u64 0))] 233 0))]⟩
theorem e190_ok : e190.Ok Tryz.prog noGl := memo_ok TF_ok O3_ok mixed TPl_ok 100000 (by kernel_rfl) (by kernel_rfl)
def e209 : Memo := ⟨126, 2, [(.agg [(.v (.bool false)), (.slc 0 0 1 1), (.slc 1 0 1 1)])], [(0, 0, 1), (0, 0, 2)], [(.cells [(.v (.int .u64 2500))] 233 0), (.cells [(.v (.int .u64 1))] 233 0)], (.tup [(.agg [(.v (.bool false)), (.slc 19 0 1 1), (.slc 31 0 1 1)]), (.agg [(.v (.bool false)), (.slc 19 0 1 1), (.slc 31 0 1 1)])]), 98, [(19, (.cells [(.v (.int .u64 50))] 233 0)), (31, (.cells [(.v (.int .u64 1))] 233 0))]⟩
theorem e209_ok : e209.Ok Tryz.prog noGl := memo_ok TF_ok O3_ok mixed TPl_ok 100000 (by kernel_rfl) (by kernel_rfl)
def e216 : Memo := ⟨157, 0, [(.v (.string ⟨#[53, 48]⟩))], [], [], (.tup [(.agg [(.v (.bool false)), (.slc 6 0 1 2), (.slc 12 0 1 2)]), (.v (.int .i64 0))]), 16, [(6, (.cells [(.v (.int .u64 50)), (.v (.int .u64 0))] 233 0)), (12, (.cells [(.v (.int .u64 1)), (.v (.int .u64 0))] 233 0))]⟩
theorem e216_ok : e216.Ok Tryz.prog noGl := memo_ok TF_ok O3_ok mixed TPl_ok 100000 (by kernel_rfl) (by kernel_rfl)
def e235 : Memo := ⟨131, 2, [(.agg [(.v (.bool false)), (.slc 0 0 1 2), (.slc 1 0 1 2)])], [(0, 0, 1), (0, 0, 2)], [(.cells [(.v (.int .u64 50)), (.v (.int .u64 0))] 233 0), (.cells [(.v (.int .u64 1)), (.v (.int .u64 0))] 233 0)], (.agg [(.v (.bool false)), (.slc 30 0 1 2), (.slc 39 0 1 2)]), 39, [(30, (.cells [(.v (.int .u64 2500)), (.v (.int .u64 0))] 233 0)), (39, (.cells [(.v (.int .u64 1)), (.v (.int .u64 0))] 233 0))]⟩
theorem e235_ok : e235.Ok Tryz.prog noGl := memo_ok TF_ok O3_ok mixed TPl_ok 100000 (by kernel_rfl) (by kernel_rfl)
def e412 : Memo := ⟨157, 0, [(.v (.string ⟨#[52, 57]⟩))], [], [], (.tup [(.agg [(.v (.bool false)), (.slc 6 0 1 2), (.slc 12 0 1 2)]), (.v (.int .i64 0))]), 16, [(6, (.cells [(.v (.int .u64 49)), (.v (.int .u64 0))] 233 0)), (12, (.cells [(.v (.int .u64 1)), (.v (.int .u64 0))] 233 0))]⟩
theorem e412_ok : e412.Ok Tryz.prog noGl := memo_ok TF_ok O3_ok mixed TPl_ok 100000 (by kernel_rfl) (by kernel_rfl)
end Go.Ev
namespace Go.Ev
open Go.Proofs Go.Shelf
noncomputable def L4 : List Ent := (false, e41) :: (false, e49) :: (false, e53) :: (false, e56) :: (false, e64) :: (false, e74) :: (false, e82) :: (false, e94) :: (false, e114) :: (false, e140) :: (false, e147) :: (false, e168) :: (false, e190) :: (false, e209) :: (false, e216) :: (false, e235) :: (false, e412) :: L3
theorem L4_ok : AllOk Tryz.prog gl0 L4 := .cons e41_ok (.cons e49_ok (.cons e53_ok (.cons e56_ok (.cons e64_ok (.cons e74_ok (.cons e82_ok (.cons e94_ok (.cons e114_ok (.cons e140_ok (.cons e147_ok (.cons e168_ok (.cons e190_ok (.cons e209_ok (.cons e216_ok (.cons e235_ok (.cons e412_ok (L3_ok)))))))))))))))))
noncomputable def O4 : CallF := memoO gtest (mkTab L4)
theorem O4_ok : CallOk Tryz.prog O4 := memoO_ok gtest_ok L4_ok
end Go.Ev
