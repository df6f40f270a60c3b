/- Part of an evaluator of calls that is proved sound, and of what it gives about this program. No condition of its own. -/
import Derived.Test.YtbhmphiidafodaaGreatDoorEvG9
set_option linter.unusedVariables false
set_option linter.unusedSimpArgs false
set_option linter.unusedSectionVars false
set_option maxRecDepth 1000000
namespace Go.Ev
open Go.Proofs Go.Shelf
def e211 : Memo := ⟨98, 1, [(.agg [(.v (.bool false)), (.v (.int .i64 2)), (.v (.int .i64 (-1))), (.v (.slice none 0 0))]), (.slc 0 0 3 3), (.v (.int .i64 4))], [(0, 1, 0)], [(.cells [(.v (.int .i64 0)), (.v (.int .i64 4)), (.v (.int .i64 1))] 3 0)], (.tup [(.slu 343 0 3 1), (.slc 130 0 3 3), (.v (.int .i64 0))]), 345, [(130, (.cells [(.v (.int .i64 1)), (.v (.int .i64 2)), (.v (.int .i64 0))] 3 0)), (343, (.cells [(.v (.int .i64 1)), (.v (.int .i64 (-2))), (.v (.int .i64 (-1)))] 3 1))]⟩
theorem e211_ok : e211.Ok Tryz.prog noGl := memo_ok TF_ok O4_ok mixed TPl_ok 100000 (by kernel_rfl) (by kernel_rfl)
noncomputable def L5 : List Ent := (false, e27) :: (false, e52) :: (false, e103) :: (false, e114) :: (false, e122) :: (false, e126) :: (false, e129) :: (false, e132) :: (false, e135) :: (false, e138) :: (false, e141) :: (false, e144) :: (false, e147) :: (false, e150) :: (false, e153) :: (false, e156) :: (false, e159) :: (false, e160) :: (false, e163) :: (false, e167) :: (false, e182) :: (false, e196) :: (false, e211) :: L4
theorem L5_ok (m : Int) : AllOk Tryz.prog (gl0 m) L5 := .cons e27_ok (.cons e52_ok (.cons e103_ok (.cons e114_ok (.cons e122_ok (.cons e126_ok (.cons e129_ok (.cons e132_ok (.cons e135_ok (.cons e138_ok (.cons e141_ok (.cons e144_ok (.cons e147_ok (.cons e150_ok (.cons e153_ok (.cons e156_ok (.cons e159_ok (.cons e160_ok (.cons e163_ok (.cons e167_ok (.cons e182_ok (.cons e196_ok (.cons e211_ok (L4_ok m)))))))))))))))))))))))
noncomputable def O5 : CallF := orO (joinO 107) (orO (splitO 110 1 9) (memoO gtest (mkTab L5)))
theorem O5_ok : CallOk Tryz.prog O5 := orO_ok (joinO_ok Tryz.lays156 extra156) (orO_ok (splitO_ok Tryz.lays146 i9) (memoO_okM gtest_ok L5_ok))
def e164 : Memo := ⟨37, 0, [(.agg [(.v (.bool false)), (.v (.int .i64 2)), (.v (.int .i64 1)), (.v (.slice none 0 0))])], [], [], (.tup [(.slu 2699 0 4 1), (.v (.int .i64 0))]), 11226, [(2699, (.cells [(.v (.int .i64 0)), (.v (.int .i64 1)), (.v (.int .i64 2)), (.v (.int .i64 3))] 3 1))]⟩
theorem e164_ok : e164.Ok Tryz.prog noGl := memo_ok TF_ok O5_ok mixed TPl_ok 100000 (by kernel_rfl) (by kernel_rfl)
def e176 : Memo := ⟨39, 1, [(.agg [(.v (.bool false)), (.v (.int .i64 2)), (.v (.int .i64 1)), (.v (.slice none 0 0))]), (.slc 0 0 3 3)], [(0, 1, 0)], [(.cells [(.v (.int .i64 0)), (.v (.int .i64 1)), (.v (.int .i64 2))] 3 0)], (.tup [(.slu 546 0 2 1), (.v (.int .i64 0))]), 546, [(546, (.cells [(.v (.int .i64 3)), (.v (.int .i64 7))] 3 1))]⟩
theorem e176_ok : e176.Ok Tryz.prog noGl := memo_ok TF_ok O5_ok mixed TPl_ok 100000 (by kernel_rfl) (by kernel_rfl)
end Go.Ev
