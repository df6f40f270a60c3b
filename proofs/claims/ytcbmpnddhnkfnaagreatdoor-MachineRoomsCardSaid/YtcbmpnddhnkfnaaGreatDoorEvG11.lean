/- Part of an evaluator of calls that is proved sound, and of what it gives about this program. No condition of its own. -/
import Derived.Test.YtcbmpnddhnkfnaaGreatDoorEvG10
set_option linter.unusedVariables false
set_option linter.unusedSimpArgs false
set_option linter.unusedSectionVars false
set_option maxRecDepth 1000000
namespace Go.Ev
open Go.Proofs Go.Shelf
def e177 : Memo := ⟨39, 1, [(.agg [(.v (.bool false)), (.v (.int .i64 2)), (.v (.int .i64 1)), (.v (.slice none 0 0))]), (.slc 0 0 3 3)], [(0, 1, 0)], [(.cells [(.v (.int .i64 0)), (.v (.int .i64 1)), (.v (.int .i64 2))] 3 0)], (.tup [(.slu 546 0 2 1), (.v (.int .i64 0))]), 546, [(546, (.cells [(.v (.int .i64 3)), (.v (.int .i64 7))] 3 1))]⟩
theorem e177_ok : e177.Ok Tryz.prog noGl := memo_ok TF_ok O6_ok mixed TPl_ok 100000 (by kernel_rfl) (by kernel_rfl)
def e185 : Memo := ⟨41, 1, [(.agg [(.v (.bool false)), (.v (.int .i64 2)), (.v (.int .i64 1)), (.v (.slice none 0 0))]), (.slc 0 0 3 3)], [(0, 1, 0)], [(.cells [(.v (.int .i64 0)), (.v (.int .i64 4)), (.v (.int .i64 3))] 3 0)], (.tup [(.slc 57 0 3 3), (.v (.int .i64 0))]), 74, [(57, (.cells [(.v (.int .i64 0)), (.v (.int .i64 2)), (.v (.int .i64 1))] 3 0))]⟩
theorem e185_ok : e185.Ok Tryz.prog noGl := memo_ok TF_ok O6_ok mixed TPl_ok 100000 (by kernel_rfl) (by kernel_rfl)
def e187 : Memo := ⟨42, 1, [(.agg [(.v (.bool false)), (.v (.int .i64 2)), (.v (.int .i64 1)), (.v (.slice none 0 0))]), (.slc 0 0 3 3)], [(0, 1, 0)], [(.cells [(.v (.int .i64 0)), (.v (.int .i64 4)), (.v (.int .i64 3))] 3 0)], (.tup [(.slu 73 0 1 3), (.v (.int .i64 0))]), 94, [(73, (.cells [(.v (.int .i64 0)), (.v (.int .i64 2)), (.v (.int .i64 0))] 95 3))]⟩
theorem e187_ok : e187.Ok Tryz.prog noGl := memo_ok TF_ok O6_ok mixed TPl_ok 100000 (by kernel_rfl) (by kernel_rfl)
def e198 : Memo := ⟨43, 1, [(.agg [(.v (.bool false)), (.v (.int .i64 2)), (.v (.int .i64 1)), (.v (.slice none 0 0))]), (.slc 0 0 3 3), (.v (.int .i64 4))], [(0, 1, 0)], [(.cells [(.v (.int .i64 0)), (.v (.int .i64 4)), (.v (.int .i64 3))] 3 0)], (.tup [(.slu 344 0 3 1), (.v (.int .i64 0))]), 346, [(344, (.cells [(.v (.int .i64 (-1))), (.v (.int .i64 2)), (.v (.int .i64 1))] 3 1))]⟩
theorem e198_ok : e198.Ok Tryz.prog noGl := memo_ok TF_ok O6_ok mixed TPl_ok 100000 (by kernel_rfl) (by kernel_rfl)
def e213 : Memo := ⟨43, 1, [(.agg [(.v (.bool false)), (.v (.int .i64 2)), (.v (.int .i64 (-1))), (.v (.slice none 0 0))]), (.slc 0 0 3 3), (.v (.int .i64 4))], [(0, 1, 0)], [(.cells [(.v (.int .i64 0)), (.v (.int .i64 4)), (.v (.int .i64 1))] 3 0)], (.tup [(.slu 344 0 3 1), (.v (.int .i64 0))]), 346, [(344, (.cells [(.v (.int .i64 1)), (.v (.int .i64 (-2))), (.v (.int .i64 (-1)))] 3 1))]⟩
theorem e213_ok : e213.Ok Tryz.prog noGl := memo_ok TF_ok O6_ok mixed TPl_ok 100000 (by kernel_rfl) (by kernel_rfl)
noncomputable def L7 : List Ent := (false, e165) :: (false, e177) :: (false, e185) :: (false, e187) :: (false, e198) :: (false, e213) :: L6
theorem L7_ok (m : Int) : AllOk Tryz.prog (gl0 m) L7 := .cons e165_ok (.cons e177_ok (.cons e185_ok (.cons e187_ok (.cons e198_ok (.cons e213_ok (L6_ok m))))))
noncomputable def O7 : CallF := orO (joinO 107) (orO (splitO 110 1 9) (memoO gtest (mkTab L7)))
theorem O7_ok : CallOk Tryz.prog O7 := orO_ok (joinO_ok Tryz.lays156 extra156) (orO_ok (splitO_ok Tryz.lays146 i9) (memoO_okM gtest_ok L7_ok))
end Go.Ev
