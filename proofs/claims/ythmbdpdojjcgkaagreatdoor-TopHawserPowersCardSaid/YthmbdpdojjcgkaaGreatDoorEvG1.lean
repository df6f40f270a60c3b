/- Part of an evaluator of calls that is proved sound, and of what it gives about this program. No condition of its own. -/
import Derived.Test.YthmbdpdojjcgkaaGreatDoorEvG0
set_option linter.unusedVariables false
set_option linter.unusedSimpArgs false
set_option linter.unusedSectionVars false
set_option maxRecDepth 1000000
namespace Go.Ev
open Go.Proofs Go.Shelf
def e0 : Memo := ⟨27, 0, [(.agg [(.v (.bool false)), (.v (.int .i64 2)), (.v (.int .i64 1)), (.v (.slice none 0 0))])], [], [], (.v (.int .i64 0)), 3, []⟩
theorem e0_ok : e0.Ok Tryz.prog noGl := memo_ok TF_ok O0_ok mixed TPl_ok 100000 (by kernel_rfl) (by kernel_rfl)
def e1 : Memo := ⟨58, 0, [(.agg [(.v (.bool false)), (.v (.int .i64 2)), (.v (.int .i64 1)), (.v (.slice none 0 0))]), (.v (.int .i64 0))], [], [], (.agg [(.v (.int .i64 0)), (.v (.bool true)), (.v (.int .i64 0)), (.v (.int .i64 1)), (.v (.int .i64 3)), (.v (.int .i64 2))]), 4, []⟩
theorem e1_ok : e1.Ok Tryz.prog noGl := memo_ok TF_ok O0_ok mixed TPl_ok 100000 (by kernel_rfl) (by kernel_rfl)
def e2 : Memo := ⟨58, 0, [(.agg [(.v (.bool false)), (.v (.int .i64 2)), (.v (.int .i64 1)), (.v (.slice none 0 0))]), (.v (.int .i64 1))], [], [], (.agg [(.v (.int .i64 1)), (.v (.bool false)), (.v (.int .i64 4)), (.v (.int .i64 7)), (.v (.int .i64 5)), (.v (.int .i64 6))]), 4, []⟩
theorem e2_ok : e2.Ok Tryz.prog noGl := memo_ok TF_ok O0_ok mixed TPl_ok 100000 (by kernel_rfl) (by kernel_rfl)
def e3 : Memo := ⟨31, 0, [(.agg [(.v (.bool false)), (.v (.int .i64 2)), (.v (.int .i64 1)), (.v (.slice none 0 0))])], [], [], (.slc 1 0 8 8), 8, [(1, (.cells [(.v (.int .i64 0)), (.v (.int .i64 1)), (.v (.int .i64 4)), (.v (.int .i64 3)), (.v (.int .i64 2)), (.v (.int .i64 5)), (.v (.int .i64 6)), (.v (.int .i64 7))] 3 0))]⟩
theorem e3_ok : e3.Ok Tryz.prog noGl := memo_ok TF_ok O0_ok mixed TPl_ok 100000 (by kernel_rfl) (by kernel_rfl)
def e4 : Memo := ⟨30, 2, [(.slc 0 0 8 8), (.slc 1 0 8 8)], [(0, 0, 0), (0, 1, 0)], [(.cells [(.v (.int .i64 0)), (.v (.int .i64 1)), (.v (.int .i64 4)), (.v (.int .i64 3)), (.v (.int .i64 2)), (.v (.int .i64 5)), (.v (.int .i64 6)), (.v (.int .i64 7))] 3 0), (.cells [(.v (.int .i64 1)), (.v (.int .i64 2)), (.v (.int .i64 3)), (.v (.int .i64 0)), (.v (.int .i64 7)), (.v (.int .i64 4)), (.v (.int .i64 5)), (.v (.int .i64 6))] 3 0)], (.slc 3 0 8 8), 2, [(3, (.cells [(.v (.int .i64 1)), (.v (.int .i64 4)), (.v (.int .i64 3)), (.v (.int .i64 0)), (.v (.int .i64 7)), (.v (.int .i64 2)), (.v (.int .i64 5)), (.v (.int .i64 6))] 3 0))]⟩
theorem e4_ok : e4.Ok Tryz.prog noGl := memo_ok TF_ok O0_ok mixed TPl_ok 100000 (by kernel_rfl) (by kernel_rfl)
def e6 : Memo := ⟨32, 1, [(.slc 0 0 8 8)], [(0, 0, 0)], [(.cells [(.v (.int .i64 1)), (.v (.int .i64 4)), (.v (.int .i64 3)), (.v (.int .i64 0)), (.v (.int .i64 7)), (.v (.int .i64 2)), (.v (.int .i64 5)), (.v (.int .i64 6))] 3 0)], (.v (.int .i64 0)), 1, []⟩
theorem e6_ok : e6.Ok Tryz.prog noGl := memo_ok TF_ok O0_ok mixed TPl_ok 100000 (by kernel_rfl) (by kernel_rfl)
def e7 : Memo := ⟨33, 1, [(.slc 0 0 8 8)], [(0, 0, 0)], [(.cells [(.v (.int .i64 1)), (.v (.int .i64 4)), (.v (.int .i64 3)), (.v (.int .i64 0)), (.v (.int .i64 7)), (.v (.int .i64 2)), (.v (.int .i64 5)), (.v (.int .i64 6))] 3 0)], (.slu 25 0 1 1), 25, [(23, (.cells [(.v (.int .i64 0)), (.v (.int .i64 1)), (.v (.int .i64 4)), (.v (.int .i64 7)), (.v (.int .i64 6)), (.v (.int .i64 5)), (.v (.int .i64 2)), (.v (.int .i64 3))] 3 1)), (25, (.cells [(.slu 23 0 8 1)] 22 1))]⟩
theorem e7_ok : e7.Ok Tryz.prog noGl := memo_ok TF_ok O0_ok mixed TPl_ok 100000 (by kernel_rfl) (by kernel_rfl)
def e9 : Memo := ⟨35, 2, [(.agg [(.v (.bool false)), (.slc 0 0 1 1)]), (.agg [(.v (.bool false)), (.slc 1 0 1 1)])], [(0, 0, 1), (0, 1, 1)], [(.cells [(.v (.int .u64 1))] 110 0), (.cells [(.v (.int .u64 8))] 110 0)], (.agg [(.v (.bool false)), (.slc 28 0 1 2)]), 30, [(28, (.cells [(.v (.int .u64 8)), (.v (.int .u64 0))] 110 0))]⟩
theorem e9_ok : e9.Ok Tryz.prog noGl := memo_ok TF_ok O0_ok mixed TPl_ok 100000 (by kernel_rfl) (by kernel_rfl)
noncomputable def L1 : List Ent := (false, e0) :: (false, e1) :: (false, e2) :: (false, e3) :: (false, e4) :: (false, e6) :: (false, e7) :: (false, e9) :: L0
theorem L1_ok : AllOk Tryz.prog gl0 L1 := .cons e0_ok (.cons e1_ok (.cons e2_ok (.cons e3_ok (.cons e4_ok (.cons e6_ok (.cons e7_ok (.cons e9_ok (L0_ok))))))))
noncomputable def O1 : CallF := memoO gtest (mkTab L1)
theorem O1_ok : CallOk Tryz.prog O1 := memoO_ok gtest_ok L1_ok
def e5 : Memo := ⟨7, 0, [(.agg [(.v (.bool false)), (.v (.int .i64 2)), (.v (.int .i64 1)), (.v (.slice none 0 0))])], [], [], (.tup [(.slc 28 0 8 8), (.v (.int .i64 0))]), 29, [(28, (.cells [(.v (.int .i64 1)), (.v (.int .i64 4)), (.v (.int .i64 3)), (.v (.int .i64 0)), (.v (.int .i64 7)), (.v (.int .i64 2)), (.v (.int .i64 5)), (.v (.int .i64 6))] 3 0))]⟩
theorem e5_ok : e5.Ok Tryz.prog noGl := memo_ok TF_ok O1_ok mixed TPl_ok 100000 (by kernel_rfl) (by kernel_rfl)
def e8 : Memo := ⟨10, 1, [(.slc 0 0 8 8)], [(0, 0, 0)], [(.cells [(.v (.int .i64 1)), (.v (.int .i64 4)), (.v (.int .i64 3)), (.v (.int .i64 0)), (.v (.int .i64 7)), (.v (.int .i64 2)), (.v (.int .i64 5)), (.v (.int .i64 6))] 3 0)], (.tup [(.slu 26 0 1 1), (.v (.int .i64 0))]), 26, [(24, (.cells [(.v (.int .i64 0)), (.v (.int .i64 1)), (.v (.int .i64 4)), (.v (.int .i64 7)), (.v (.int .i64 6)), (.v (.int .i64 5)), (.v (.int .i64 2)), (.v (.int .i64 3))] 3 1)), (26, (.cells [(.slu 24 0 8 1)] 22 1))]⟩
theorem e8_ok : e8.Ok Tryz.prog noGl := memo_ok TF_ok O1_ok mixed TPl_ok 100000 (by kernel_rfl) (by kernel_rfl)
def e10 : Memo := ⟨11, 1, [(.slc 0 0 8 8)], [(0, 0, 0)], [(.cells [(.v (.int .i64 1)), (.v (.int .i64 4)), (.v (.int .i64 3)), (.v (.int .i64 0)), (.v (.int .i64 7)), (.v (.int .i64 2)), (.v (.int .i64 5)), (.v (.int .i64 6))] 3 0)], (.tup [(.v (.string ⟨#[56]⟩)), (.v (.int .i64 0))]), 68, []⟩
theorem e10_ok : e10.Ok Tryz.prog noGl := memo_ok TF_ok O1_ok mixed TPl_ok 100000 (by kernel_rfl) (by kernel_rfl)
def e11 : Memo := ⟨12, 1, [(.slc 0 0 8 8), (.v (.int .i64 3))], [(0, 0, 0)], [(.cells [(.v (.int .i64 1)), (.v (.int .i64 4)), (.v (.int .i64 3)), (.v (.int .i64 0)), (.v (.int .i64 7)), (.v (.int .i64 2)), (.v (.int .i64 5)), (.v (.int .i64 6))] 3 0)], (.tup [(.slc 2 0 8 8), (.v (.int .i64 0))]), 27, [(2, (.cells [(.v (.int .i64 7)), (.v (.int .i64 6)), (.v (.int .i64 1)), (.v (.int .i64 4)), (.v (.int .i64 5)), (.v (.int .i64 0)), (.v (.int .i64 3)), (.v (.int .i64 2))] 3 0))]⟩
theorem e11_ok : e11.Ok Tryz.prog noGl := memo_ok TF_ok O1_ok mixed TPl_ok 100000 (by kernel_rfl) (by kernel_rfl)
noncomputable def L2 : List Ent := (false, e5) :: (false, e8) :: (false, e10) :: (false, e11) :: L1
theorem L2_ok : AllOk Tryz.prog gl0 L2 := .cons e5_ok (.cons e8_ok (.cons e10_ok (.cons e11_ok (L1_ok))))
noncomputable def O2 : CallF := memoO gtest (mkTab L2)
theorem O2_ok : CallOk Tryz.prog O2 := memoO_ok gtest_ok L2_ok
end Go.Ev
