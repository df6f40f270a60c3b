/- Part of an evaluator of calls that is proved sound, and of what it gives about this program. No condition of its own. -/
import Derived.Test.YtknbipaecnggcaaGreatDoorEvG1
set_option linter.unusedVariables false
set_option linter.unusedSimpArgs false
set_option linter.unusedSectionVars false
set_option maxRecDepth 1000000
namespace Go.Ev
open Go.Proofs Go.Shelf
def e39 : Memo := ⟨121, 1, [(.slc 0 0 3 3)], [(0, 0, 0)], [(.cells [(.v (.int .i64 1)), (.v (.int .i64 2)), (.v (.int .i64 0))] 3 0)], (.tup [(.v (.string ⟨#[51]⟩)), (.v (.int .i64 0))]), 58, []⟩
theorem e39_ok : e39.Ok Tryz.prog noGl := memo_ok TF_ok O1_ok mixed TPl_ok 100000 (by kernel_rfl) (by kernel_rfl)
def e43 : Memo := ⟨150, 1, [(.slc 0 0 6 6)], [(0, 0, 0)], [(.cells [(.v (.int .i64 4)), (.v (.int .i64 5)), (.v (.int .i64 0)), (.v (.int .i64 1)), (.v (.int .i64 2)), (.v (.int .i64 3))] 3 0)], (.tup [(.slu 29 0 2 1), (.v (.int .i64 0))]), 29, [(14, (.cells [(.v (.int .i64 0)), (.v (.int .i64 4)), (.v (.int .i64 2))] 3 1)), (27, (.cells [(.v (.int .i64 1)), (.v (.int .i64 5)), (.v (.int .i64 3))] 3 1)), (29, (.cells [(.slu 14 0 3 1), (.slu 27 0 3 1)] 22 1))]⟩
theorem e43_ok : e43.Ok Tryz.prog noGl := memo_ok TF_ok O1_ok mixed TPl_ok 100000 (by kernel_rfl) (by kernel_rfl)
noncomputable def L2 : List Ent := (false, e2) :: (false, e11) :: (false, e17) :: (false, e19) :: (false, e22) :: (false, e26) :: (false, e28) :: (false, e30) :: (false, e32) :: (false, e37) :: (false, e39) :: (false, e43) :: L1
theorem L2_ok : AllOk Tryz.prog gl0 L2 := .cons e2_ok (.cons e11_ok (.cons e17_ok (.cons e19_ok (.cons e22_ok (.cons e26_ok (.cons e28_ok (.cons e30_ok (.cons e32_ok (.cons e37_ok (.cons e39_ok (.cons e43_ok (L1_ok))))))))))))
noncomputable def O2 : CallF := orO libO (memoO gtest (mkTab L2))
theorem O2_ok : CallOk Tryz.prog O2 := orO_ok libO_ok (memoO_ok gtest_ok L2_ok)
def e3 : Memo := ⟨79, 2, [(.slc 0 0 8 8), (.slc 1 0 1 1)], [(0, 0, 0), (0, 1, 0)], [(.cells [(.v (.int .i64 1)), (.v (.int .i64 2)), (.v (.int .i64 0)), (.v (.int .i64 0)), (.v (.int .i64 3)), (.v (.int .i64 4)), (.v (.int .i64 0)), (.v (.int .i64 0))] 3 0), (.cells [(.v (.int .i64 0)), (.v (.int .i64 2))] 31 0)], (.tup [(.slu 15 0 8 1), (.v (.int .i64 0))]), 20, [(15, (.cells [(.v (.int .i64 0)), (.v (.int .i64 2)), (.v (.int .i64 1)), (.v (.int .i64 0)), (.v (.int .i64 3)), (.v (.int .i64 4)), (.v (.int .i64 0)), (.v (.int .i64 0))] 3 1))]⟩
theorem e3_ok : e3.Ok Tryz.prog noGl := memo_ok TF_ok O2_ok mixed TPl_ok 100000 (by kernel_rfl) (by kernel_rfl)
def e12 : Memo := ⟨79, 2, [(.slc 0 0 8 8), (.slc 1 0 6 6)], [(0, 0, 0), (0, 1, 0)], [(.cells [(.v (.int .i64 1)), (.v (.int .i64 2)), (.v (.int .i64 0)), (.v (.int .i64 0)), (.v (.int .i64 3)), (.v (.int .i64 4)), (.v (.int .i64 0)), (.v (.int .i64 0))] 3 0), (.cells [(.v (.int .i64 1)), (.v (.int .i64 3)), (.v (.int .i64 5)), (.v (.int .i64 7)), (.v (.int .i64 0)), (.v (.int .i64 1)), (.v (.int .i64 4)), (.v (.int .i64 5)), (.v (.int .i64 3)), (.v (.int .i64 4)), (.v (.int .i64 7)), (.v (.int .i64 0))] 31 0)], (.tup [(.slu 15 0 8 1), (.v (.int .i64 0))]), 45, [(15, (.cells [(.v (.int .i64 4)), (.v (.int .i64 1)), (.v (.int .i64 0)), (.v (.int .i64 0)), (.v (.int .i64 2)), (.v (.int .i64 3)), (.v (.int .i64 0)), (.v (.int .i64 0))] 3 1))]⟩
theorem e12_ok : e12.Ok Tryz.prog noGl := memo_ok TF_ok O2_ok mixed TPl_ok 100000 (by kernel_rfl) (by kernel_rfl)
def e20 : Memo := ⟨182, 2, [(.agg [(.v (.bool false)), (.slc 0 0 1 1)]), (.agg [(.v (.bool false)), (.slc 1 0 1 1)])], [(0, 0, 1), (0, 1, 1)], [(.cells [(.v (.int .u64 1))] 219 0), (.cells [(.v (.int .u64 1))] 219 0)], (.agg [(.v (.bool false)), (.slc 10 0 1 1)]), 14, [(10, (.cells [(.v (.int .u64 1))] 219 0))]⟩
theorem e20_ok : e20.Ok Tryz.prog noGl := memo_ok TF_ok O2_ok mixed TPl_ok 100000 (by kernel_rfl) (by kernel_rfl)
def e33 : Memo := ⟨42, 1, [(.v (.int .i64 3)), (.slc 0 0 2 2)], [(0, 1, 0)], [(.cells [(.v (.int .i64 1)), (.v (.int .i64 2)), (.v (.string ⟨#[111]⟩)), (.v (.int .i64 3)), (.v (.int .i64 2)), (.v (.string ⟨#[111]⟩))] 121 0)], (.v (.int .i64 0)), 12, []⟩
theorem e33_ok : e33.Ok Tryz.prog noGl := memo_ok TF_ok O2_ok mixed TPl_ok 100000 (by kernel_rfl) (by kernel_rfl)
def e44 : Memo := ⟨111, 0, [(.v (.int .i64 4)), (.v (.int .i64 6))], [], [], (.tup [(.slu 33 0 2 1), (.v (.int .i64 0))]), 34, [(18, (.cells [(.v (.int .i64 0)), (.v (.int .i64 4)), (.v (.int .i64 2))] 3 1)), (31, (.cells [(.v (.int .i64 1)), (.v (.int .i64 5)), (.v (.int .i64 3))] 3 1)), (33, (.cells [(.slu 18 0 3 1), (.slu 31 0 3 1)] 22 1))]⟩
theorem e44_ok : e44.Ok Tryz.prog noGl := memo_ok TF_ok O2_ok mixed TPl_ok 100000 (by kernel_rfl) (by kernel_rfl)
noncomputable def L3 : List Ent := (false, e3) :: (false, e12) :: (false, e20) :: (false, e33) :: (false, e44) :: L2
theorem L3_ok : AllOk Tryz.prog gl0 L3 := .cons e3_ok (.cons e12_ok (.cons e20_ok (.cons e33_ok (.cons e44_ok (L2_ok)))))
noncomputable def O3 : CallF := orO libO (memoO gtest (mkTab L3))
theorem O3_ok : CallOk Tryz.prog O3 := orO_ok libO_ok (memoO_ok gtest_ok L3_ok)
def e4 : Memo := ⟨15, 1, [(.slc 0 0 8 8), (.agg [(.v (.int .i64 0)), (.v (.int .i64 2))])], [(0, 0, 0)], [(.cells [(.v (.int .i64 1)), (.v (.int .i64 2)), (.v (.int .i64 0)), (.v (.int .i64 0)), (.v (.int .i64 3)), (.v (.int .i64 4)), (.v (.int .i64 0)), (.v (.int .i64 0))] 3 0)], (.tup [(.slu 16 0 8 1), (.v (.int .i64 0))]), 22, [(16, (.cells [(.v (.int .i64 0)), (.v (.int .i64 2)), (.v (.int .i64 1)), (.v (.int .i64 0)), (.v (.int .i64 3)), (.v (.int .i64 4)), (.v (.int .i64 0)), (.v (.int .i64 0))] 3 1))]⟩
theorem e4_ok : e4.Ok Tryz.prog noGl := memo_ok TF_ok O3_ok mixed TPl_ok 100000 (by kernel_rfl) (by kernel_rfl)
def e13 : Memo := ⟨71, 2, [(.slc 0 0 8 8), (.slc 1 0 6 6)], [(0, 0, 0), (0, 1, 0)], [(.cells [(.v (.int .i64 1)), (.v (.int .i64 2)), (.v (.int .i64 0)), (.v (.int .i64 0)), (.v (.int .i64 3)), (.v (.int .i64 4)), (.v (.int .i64 0)), (.v (.int .i64 0))] 3 0), (.cells [(.v (.int .i64 1)), (.v (.int .i64 3)), (.v (.int .i64 5)), (.v (.int .i64 7)), (.v (.int .i64 0)), (.v (.int .i64 1)), (.v (.int .i64 4)), (.v (.int .i64 5)), (.v (.int .i64 3)), (.v (.int .i64 4)), (.v (.int .i64 7)), (.v (.int .i64 0))] 31 0)], (.tup [(.slc 48 0 8 8), (.v (.int .i64 0))]), 47, [(48, (.cells [(.v (.int .i64 1)), (.v (.int .i64 4)), (.v (.int .i64 2)), (.v (.int .i64 3)), (.v (.int .i64 5)), (.v (.int .i64 0)), (.v (.int .i64 6)), (.v (.int .i64 7))] 3 0))]⟩
theorem e13_ok : e13.Ok Tryz.prog noGl := memo_ok TF_ok O3_ok mixed TPl_ok 100000 (by kernel_rfl) (by kernel_rfl)
def e23 : Memo := ⟨163, 2, [(.agg [(.v (.bool false)), (.slc 0 0 1 2)]), (.agg [(.v (.bool false)), (.slc 1 0 1 1)])], [(0, 0, 1), (0, 1, 1)], [(.cells [(.v (.int .u64 4)), (.v (.int .u64 0))] 219 0), (.cells [(.v (.int .u64 1))] 219 0)], (.agg [(.v (.bool false)), (.slc 28 0 1 2)]), 30, [(28, (.cells [(.v (.int .u64 4)), (.v (.int .u64 0))] 219 0))]⟩
theorem e23_ok : e23.Ok Tryz.prog noGl := memo_ok TF_ok O3_ok mixed TPl_ok 100000 (by kernel_rfl) (by kernel_rfl)
def e34 : Memo := ⟨38, 1, [(.v (.int .i64 3)), (.slc 0 0 2 2)], [(0, 1, 0)], [(.cells [(.v (.int .i64 1)), (.v (.int .i64 2)), (.v (.string ⟨#[111]⟩)), (.v (.int .i64 3)), (.v (.int .i64 2)), (.v (.string ⟨#[111]⟩))] 121 0)], (.tup [(.slu 24 0 2 1), (.v (.int .i64 0))]), 24, [(24, (.cells [(.v (.int .i64 1)), (.v (.int .i64 (-2)))] 3 1))]⟩
theorem e34_ok : e34.Ok Tryz.prog noGl := memo_ok TF_ok O3_ok mixed TPl_ok 100000 (by kernel_rfl) (by kernel_rfl)
def e40 : Memo := ⟨77, 1, [(.v (.int .i64 3)), (.slc 0 0 2 2)], [(0, 1, 0)], [(.cells [(.v (.int .i64 1)), (.v (.int .i64 2)), (.v (.string ⟨#[111]⟩)), (.v (.int .i64 3)), (.v (.int .i64 2)), (.v (.string ⟨#[111]⟩))] 121 0)], (.tup [(.v (.string ⟨#[51]⟩)), (.v (.int .i64 0))]), 75, []⟩
theorem e40_ok : e40.Ok Tryz.prog noGl := memo_ok TF_ok O3_ok mixed TPl_ok 100000 (by kernel_rfl) (by kernel_rfl)
def e45 : Memo := ⟨57, 0, [(.v (.int .i64 4)), (.v (.int .i64 6))], [], [], (.tup [(.v (.int .i64 2)), (.v (.int .i64 0))]), 34, []⟩
theorem e45_ok : e45.Ok Tryz.prog noGl := memo_ok TF_ok O3_ok mixed TPl_ok 100000 (by kernel_rfl) (by kernel_rfl)
noncomputable def L4 : List Ent := (false, e4) :: (false, e13) :: (false, e23) :: (false, e34) :: (false, e40) :: (false, e45) :: L3
theorem L4_ok : AllOk Tryz.prog gl0 L4 := .cons e4_ok (.cons e13_ok (.cons e23_ok (.cons e34_ok (.cons e40_ok (.cons e45_ok (L3_ok))))))
noncomputable def O4 : CallF := orO libO (memoO gtest (mkTab L4))
theorem O4_ok : CallOk Tryz.prog O4 := orO_ok libO_ok (memoO_ok gtest_ok L4_ok)
def e24 : Memo := ⟨121, 1, [(.slc 0 0 8 8)], [(0, 0, 0)], [(.cells [(.v (.int .i64 1)), (.v (.int .i64 4)), (.v (.int .i64 2)), (.v (.int .i64 3)), (.v (.int .i64 5)), (.v (.int .i64 0)), (.v (.int .i64 6)), (.v (.int .i64 7))] 3 0)], (.tup [(.v (.string ⟨#[52]⟩)), (.v (.int .i64 0))]), 224, []⟩
theorem e24_ok : e24.Ok Tryz.prog noGl := memo_ok TF_ok O4_ok mixed TPl_ok 100000 (by kernel_rfl) (by kernel_rfl)
noncomputable def L5 : List Ent := (false, e24) :: L4
theorem L5_ok : AllOk Tryz.prog gl0 L5 := .cons e24_ok (L4_ok)
noncomputable def O5 : CallF := orO libO (memoO gtest (mkTab L5))
theorem O5_ok : CallOk Tryz.prog O5 := orO_ok libO_ok (memoO_ok gtest_ok L5_ok)
def e25 : Memo := ⟨73, 2, [(.slc 0 0 8 8), (.slc 1 0 6 6)], [(0, 0, 0), (0, 1, 0)], [(.cells [(.v (.int .i64 1)), (.v (.int .i64 2)), (.v (.int .i64 0)), (.v (.int .i64 0)), (.v (.int .i64 3)), (.v (.int .i64 4)), (.v (.int .i64 0)), (.v (.int .i64 0))] 3 0), (.cells [(.v (.int .i64 1)), (.v (.int .i64 3)), (.v (.int .i64 5)), (.v (.int .i64 7)), (.v (.int .i64 0)), (.v (.int .i64 1)), (.v (.int .i64 4)), (.v (.int .i64 5)), (.v (.int .i64 3)), (.v (.int .i64 4)), (.v (.int .i64 7)), (.v (.int .i64 0))] 31 0)], (.tup [(.v (.string ⟨#[52]⟩)), (.v (.int .i64 0))]), 271, []⟩
theorem e25_ok : e25.Ok Tryz.prog noGl := memo_ok TF_ok O5_ok mixed TPl_ok 100000 (by kernel_rfl) (by kernel_rfl)
noncomputable def L6 : List Ent := (false, e25) :: L5
theorem L6_ok : AllOk Tryz.prog gl0 L6 := .cons e25_ok (L5_ok)
noncomputable def O6 : CallF := orO libO (memoO gtest (mkTab L6))
theorem O6_ok : CallOk Tryz.prog O6 := orO_ok libO_ok (memoO_ok gtest_ok L6_ok)
end Go.Ev
