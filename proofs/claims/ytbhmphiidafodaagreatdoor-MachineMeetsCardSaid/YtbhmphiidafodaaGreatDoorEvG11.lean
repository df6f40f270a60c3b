/- Part of an evaluator of calls that is proved sound, and of what it gives about this program. No condition of its own. -/
import Derived.Test.YtbhmphiidafodaaGreatDoorEvG10
set_option linter.unusedVariables false
set_option linter.unusedSimpArgs false
set_option linter.unusedSectionVars false
set_option maxRecDepth 1000000
namespace Go.Ev
open Go.Proofs Go.Shelf
def e184 : Memo := ⟨41, 1, [(.agg [(.v (.bool false)), (.v (.int .i64 2)), (.v (.int .i64 1)), (.v (.slice none 0 0))]), (.slc 0 0 3 3)], [(0, 1, 0)], [(.cells [(.v (.int .i64 0)), (.v (.int .i64 4)), (.v (.int .i64 3))] 3 0)], (.tup [(.slc 57 0 3 3), (.v (.int .i64 0))]), 74, [(57, (.cells [(.v (.int .i64 0)), (.v (.int .i64 2)), (.v (.int .i64 1))] 3 0))]⟩
theorem e184_ok : e184.Ok Tryz.prog noGl := memo_ok TF_ok O5_ok mixed TPl_ok 100000 (by kernel_rfl) (by kernel_rfl)
def e186 : Memo := ⟨42, 1, [(.agg [(.v (.bool false)), (.v (.int .i64 2)), (.v (.int .i64 1)), (.v (.slice none 0 0))]), (.slc 0 0 3 3)], [(0, 1, 0)], [(.cells [(.v (.int .i64 0)), (.v (.int .i64 4)), (.v (.int .i64 3))] 3 0)], (.tup [(.slu 73 0 1 3), (.v (.int .i64 0))]), 94, [(73, (.cells [(.v (.int .i64 0)), (.v (.int .i64 2)), (.v (.int .i64 0))] 95 3))]⟩
theorem e186_ok : e186.Ok Tryz.prog noGl := memo_ok TF_ok O5_ok mixed TPl_ok 100000 (by kernel_rfl) (by kernel_rfl)
def e197 : Memo := ⟨43, 1, [(.agg [(.v (.bool false)), (.v (.int .i64 2)), (.v (.int .i64 1)), (.v (.slice none 0 0))]), (.slc 0 0 3 3), (.v (.int .i64 4))], [(0, 1, 0)], [(.cells [(.v (.int .i64 0)), (.v (.int .i64 4)), (.v (.int .i64 3))] 3 0)], (.tup [(.slu 344 0 3 1), (.v (.int .i64 0))]), 346, [(344, (.cells [(.v (.int .i64 (-1))), (.v (.int .i64 2)), (.v (.int .i64 1))] 3 1))]⟩
theorem e197_ok : e197.Ok Tryz.prog noGl := memo_ok TF_ok O5_ok mixed TPl_ok 100000 (by kernel_rfl) (by kernel_rfl)
def e212 : Memo := ⟨43, 1, [(.agg [(.v (.bool false)), (.v (.int .i64 2)), (.v (.int .i64 (-1))), (.v (.slice none 0 0))]), (.slc 0 0 3 3), (.v (.int .i64 4))], [(0, 1, 0)], [(.cells [(.v (.int .i64 0)), (.v (.int .i64 4)), (.v (.int .i64 1))] 3 0)], (.tup [(.slu 344 0 3 1), (.v (.int .i64 0))]), 346, [(344, (.cells [(.v (.int .i64 1)), (.v (.int .i64 (-2))), (.v (.int .i64 (-1)))] 3 1))]⟩
theorem e212_ok : e212.Ok Tryz.prog noGl := memo_ok TF_ok O5_ok mixed TPl_ok 100000 (by kernel_rfl) (by kernel_rfl)
noncomputable def L6 : List Ent := (false, e164) :: (false, e176) :: (false, e184) :: (false, e186) :: (false, e197) :: (false, e212) :: L5
theorem L6_ok (m : Int) : AllOk Tryz.prog (gl0 m) L6 := .cons e164_ok (.cons e176_ok (.cons e184_ok (.cons e186_ok (.cons e197_ok (.cons e212_ok (L5_ok m))))))
noncomputable def O6 : CallF := orO (joinO 107) (orO (splitO 110 1 9) (memoO gtest (mkTab L6)))
theorem O6_ok : CallOk Tryz.prog O6 := orO_ok (joinO_ok Tryz.lays156 extra156) (orO_ok (splitO_ok Tryz.lays146 i9) (memoO_okM gtest_ok L6_ok))
end Go.Ev
