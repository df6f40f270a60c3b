/- Part of an evaluator of calls that is proved sound, and of what it gives about this program. No condition of its own. -/
import Derived.Test.YtcbmpnddhnkfnaaGreatDoorEvG1
set_option linter.unusedVariables false
set_option linter.unusedSimpArgs false
set_option linter.unusedSectionVars false
set_option maxRecDepth 1000000
namespace Go.Ev
open Go.Proofs Go.Shelf
def e179 : Memo := ⟨94, 1, [(.agg [(.v (.bool false)), (.v (.int .i64 2)), (.v (.int .i64 1)), (.v (.slice none 0 0))]), (.slc 0 0 3 3)], [(0, 1, 0)], [(.cells [(.v (.int .i64 0)), (.v (.int .i64 4)), (.v (.int .i64 3))] 3 0)], (.v (.int .i64 0)), 6, []⟩
theorem e179_ok : e179.Ok Tryz.prog noGl := memo_ok TF_ok O2_ok mixed TPl_ok 100000 (by kernel_rfl) (by kernel_rfl)
def e184 : Memo := ⟨96, 1, [(.agg [(.v (.bool false)), (.v (.int .i64 2)), (.v (.int .i64 1)), (.v (.slice none 0 0))]), (.slc 0 0 3 3)], [(0, 1, 0)], [(.cells [(.v (.int .i64 0)), (.v (.int .i64 4)), (.v (.int .i64 3))] 3 0)], (.slc 6 0 3 3), 23, [(6, (.cells [(.v (.int .i64 0)), (.v (.int .i64 2)), (.v (.int .i64 1))] 3 0))]⟩
theorem e184_ok : e184.Ok Tryz.prog noGl := memo_ok TF_ok O2_ok mixed TPl_ok 100000 (by kernel_rfl) (by kernel_rfl)
def e186 : Memo := ⟨97, 1, [(.agg [(.v (.bool false)), (.v (.int .i64 2)), (.v (.int .i64 1)), (.v (.slice none 0 0))]), (.slc 0 0 3 3)], [(0, 1, 0)], [(.cells [(.v (.int .i64 0)), (.v (.int .i64 4)), (.v (.int .i64 3))] 3 0)], (.slu 24 0 1 3), 45, [(24, (.cells [(.v (.int .i64 0)), (.v (.int .i64 2)), (.v (.int .i64 0))] 95 3))]⟩
theorem e186_ok : e186.Ok Tryz.prog noGl := memo_ok TF_ok O2_ok mixed TPl_ok 100000 (by kernel_rfl) (by kernel_rfl)
def e194 : Memo := ⟨97, 1, [(.agg [(.v (.bool false)), (.v (.int .i64 2)), (.v (.int .i64 1)), (.v (.slice none 0 0))]), (.slc 0 0 3 3)], [(0, 1, 0)], [(.cells [(.v (.int .i64 1)), (.v (.int .i64 7)), (.v (.int .i64 0))] 3 0)], (.v (.slice none 0 0)), 43, []⟩
theorem e194_ok : e194.Ok Tryz.prog noGl := memo_ok TF_ok O2_ok mixed TPl_ok 100000 (by kernel_rfl) (by kernel_rfl)
def e195 : Memo := ⟨97, 1, [(.agg [(.v (.bool false)), (.v (.int .i64 2)), (.v (.int .i64 1)), (.v (.slice none 0 0))]), (.slc 0 0 3 3)], [(0, 1, 0)], [(.cells [(.v (.int .i64 4)), (.v (.int .i64 6)), (.v (.int .i64 1))] 3 0)], (.v (.slice none 0 0)), 43, []⟩
theorem e195_ok : e195.Ok Tryz.prog noGl := memo_ok TF_ok O2_ok mixed TPl_ok 100000 (by kernel_rfl) (by kernel_rfl)
def e196 : Memo := ⟨97, 1, [(.agg [(.v (.bool false)), (.v (.int .i64 2)), (.v (.int .i64 1)), (.v (.slice none 0 0))]), (.slc 0 0 3 3)], [(0, 1, 0)], [(.cells [(.v (.int .i64 7)), (.v (.int .i64 5)), (.v (.int .i64 4))] 3 0)], (.slu 43 0 2 3), 47, [(43, (.cells [(.v (.int .i64 1)), (.v (.int .i64 0)), (.v (.int .i64 1)), (.v (.int .i64 1)), (.v (.int .i64 2)), (.v (.int .i64 1))] 95 3))]⟩
theorem e196_ok : e196.Ok Tryz.prog noGl := memo_ok TF_ok O2_ok mixed TPl_ok 100000 (by kernel_rfl) (by kernel_rfl)
def e205 : Memo := ⟨18, 0, [(.agg [(.v (.bool false)), (.v (.int .i64 2)), (.v (.int .i64 (-1))), (.v (.slice none 0 0))])], [], [], (.tup [(.slc 28 0 8 8), (.v (.int .i64 0))]), 29, [(28, (.cells [(.v (.int .i64 3)), (.v (.int .i64 0)), (.v (.int .i64 1)), (.v (.int .i64 4)), (.v (.int .i64 5)), (.v (.int .i64 6)), (.v (.int .i64 7)), (.v (.int .i64 2))] 3 0))]⟩
theorem e205_ok : e205.Ok Tryz.prog noGl := memo_ok TF_ok O2_ok mixed TPl_ok 100000 (by kernel_rfl) (by kernel_rfl)
def e216 : Memo := ⟨54, 0, [(.v (.string ⟨#[114, 105, 110, 103, 32, 50, 32, 45, 32, 48, 44, 49]⟩))], [], [], (.tup [(.agg [(.v (.bool true)), (.v (.int .i64 2)), (.v (.int .i64 (-1))), (.slu 12 0 2 1)]), (.v (.int .i64 0))]), 19, [(12, (.cells [(.v (.int .i64 0)), (.v (.int .i64 1))] 3 1))]⟩
theorem e216_ok (m : Int) : e216.Ok Tryz.prog (gl0 m) := memo_ok TF_ok O2_ok mixed TPl_ok 100000 (by kernel_rfl) (by kernel_rfl)
noncomputable def L3 : List Ent := (false, e6) :: (false, e179) :: (false, e184) :: (false, e186) :: (false, e194) :: (false, e195) :: (false, e196) :: (false, e205) :: (true, e216) :: L2
theorem L3_ok (m : Int) : AllOk Tryz.prog (gl0 m) L3 := .cons e6_ok (.cons e179_ok (.cons e184_ok (.cons e186_ok (.cons e194_ok (.cons e195_ok (.cons e196_ok (.cons e205_ok (.cons (e216_ok m) (L2_ok m)))))))))
noncomputable def O3 : CallF := orO (joinO 107) (orO (splitO 110 1 9) (memoO gtest (mkTab L3)))
theorem O3_ok : CallOk Tryz.prog O3 := orO_ok (joinO_ok Tryz.lays156 extra156) (orO_ok (splitO_ok Tryz.lays146 i9) (memoO_okM gtest_ok L3_ok))
def e11 : Memo := ⟨20, 0, [(.agg [(.v (.bool false)), (.v (.int .i64 2)), (.v (.int .i64 1)), (.v (.slice none 0 0))])], [], [], (.tup [(.v (.string ⟨#[56]⟩)), (.v (.int .i64 0))]), 98, []⟩
theorem e11_ok : e11.Ok Tryz.prog noGl := memo_ok TF_ok O3_ok mixed TPl_ok 100000 (by kernel_rfl) (by kernel_rfl)
def e16 : Memo := ⟨88, 1, [(.agg [(.v (.bool false)), (.v (.int .i64 2)), (.v (.int .i64 1)), (.v (.slice none 0 0))]), (.slc 0 0 2 2), (.v (.int .i64 9223372036854775807))], [(0, 1, 0)], [(.cells [(.v (.int .i64 0)), (.v (.int .i64 6))] 3 0)], (.tup [(.v (.int .i64 2)), (.v (.int .i64 1)), (.v (.int .i64 0))]), 62, []⟩
theorem e16_ok : e16.Ok Tryz.prog noGl := memo_ok TF_ok O3_ok mixed TPl_ok 100000 (by kernel_rfl) (by kernel_rfl)
def e26 : Memo := ⟨88, 1, [(.agg [(.v (.bool false)), (.v (.int .i64 2)), (.v (.int .i64 1)), (.v (.slice none 0 0))]), (.slc 0 0 2 2), (.v (.int .i64 9223372036854775807))], [(0, 1, 0)], [(.cells [(.v (.int .i64 0)), (.v (.int .i64 1))] 3 0)], (.tup [(.v (.int .i64 0)), (.v (.int .i64 0)), (.v (.int .i64 7))]), 119, []⟩
theorem e26_ok : e26.Ok Tryz.prog noGl := memo_ok TF_ok O3_ok mixed TPl_ok 100000 (by kernel_rfl) (by kernel_rfl)
def e36 : Memo := ⟨88, 1, [(.agg [(.v (.bool false)), (.v (.int .i64 2)), (.v (.int .i64 1)), (.v (.slice none 0 0))]), (.slu 0 0 1 1), (.v (.int .i64 9223372036854775807))], [(0, 1, 0)], [(.cells [(.v (.int .i64 0))] 3 1)], (.tup [(.v (.int .i64 0)), (.v (.int .i64 0)), (.v (.int .i64 7))]), 119, []⟩
theorem e36_ok : e36.Ok Tryz.prog noGl := memo_ok TF_ok O3_ok mixed TPl_ok 100000 (by kernel_rfl) (by kernel_rfl)
def e39 : Memo := ⟨88, 1, [(.agg [(.v (.bool false)), (.v (.int .i64 2)), (.v (.int .i64 1)), (.v (.slice none 0 0))]), (.slu 0 0 1 1), (.v (.int .i64 9223372036854775807))], [(0, 1, 0)], [(.cells [(.v (.int .i64 1))] 3 1)], (.tup [(.v (.int .i64 0)), (.v (.int .i64 0)), (.v (.int .i64 7))]), 119, []⟩
theorem e39_ok : e39.Ok Tryz.prog noGl := memo_ok TF_ok O3_ok mixed TPl_ok 100000 (by kernel_rfl) (by kernel_rfl)
def e41 : Memo := ⟨88, 1, [(.agg [(.v (.bool false)), (.v (.int .i64 2)), (.v (.int .i64 1)), (.v (.slice none 0 0))]), (.slu 0 0 1 1), (.v (.int .i64 9223372036854775807))], [(0, 1, 0)], [(.cells [(.v (.int .i64 2))] 3 1)], (.tup [(.v (.int .i64 0)), (.v (.int .i64 0)), (.v (.int .i64 7))]), 119, []⟩
theorem e41_ok : e41.Ok Tryz.prog noGl := memo_ok TF_ok O3_ok mixed TPl_ok 100000 (by kernel_rfl) (by kernel_rfl)
end Go.Ev
