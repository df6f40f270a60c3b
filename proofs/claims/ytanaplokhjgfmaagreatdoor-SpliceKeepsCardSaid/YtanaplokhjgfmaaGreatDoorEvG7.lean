/- Part of an evaluator of calls that is proved sound, and of what it gives about this program. No condition of its own. -/
import Derived.Test.YtanaplokhjgfmaaGreatDoorEvG5
set_option linter.unusedVariables false
set_option linter.unusedSimpArgs false
set_option linter.unusedSectionVars false
set_option maxRecDepth 1000000
namespace Go.Ev
open Go.Proofs Go.Shelf
def e88 : Memo := ⟨119, 1, [(.slc 0 0 3 3)], [(0, 0, 0)], [(.cells [(.v (.string ⟨#[48]⟩)), (.v (.string ⟨#[49, 47, 50]⟩)), (.v (.string ⟨#[50]⟩)), (.v (.string ⟨#[52, 47, 53]⟩)), (.v (.string ⟨#[51]⟩)), (.v (.string ⟨#[57, 47, 49, 48]⟩))] 103 0)], (.v (.int .i64 0)), 146, []⟩
theorem e88_ok : e88.Ok Tryz.prog noGl := memo_ok TF_ok O6_ok mixed TPl_ok 100000 (by kernel_rfl) (by kernel_rfl)
def e92 : Memo := ⟨120, 1, [(.slc 0 0 3 3), (.v (.string ⟨#[53, 47, 50]⟩))], [(0, 0, 0)], [(.cells [(.v (.string ⟨#[48]⟩)), (.v (.string ⟨#[49, 47, 50]⟩)), (.v (.string ⟨#[50]⟩)), (.v (.string ⟨#[52, 47, 53]⟩)), (.v (.string ⟨#[51]⟩)), (.v (.string ⟨#[57, 47, 49, 48]⟩))] 103 0)], (.tup [(.v (.string ⟨#[52, 47, 53]⟩)), (.v (.int .i64 0))]), 219, []⟩
theorem e92_ok : e92.Ok Tryz.prog noGl := memo_ok TF_ok O6_ok mixed TPl_ok 100000 (by kernel_rfl) (by kernel_rfl)
def e106 : Memo := ⟨156, 0, [(.v (.string ⟨#[52, 47, 53]⟩)), (.v (.int .i64 0))], [], [], (.v (.int .i64 0)), 57, []⟩
theorem e106_ok : e106.Ok Tryz.prog noGl := memo_ok TF_ok O6_ok mixed TPl_ok 100000 (by kernel_rfl) (by kernel_rfl)
def e117 : Memo := ⟨156, 0, [(.v (.string ⟨#[49, 48, 48, 48]⟩)), (.v (.int .i64 0))], [], [], (.v (.int .i64 0)), 56, []⟩
theorem e117_ok : e117.Ok Tryz.prog noGl := memo_ok TF_ok O6_ok mixed TPl_ok 100000 (by kernel_rfl) (by kernel_rfl)
def e174 : Memo := ⟨156, 0, [(.v (.string ⟨#[56, 48]⟩)), (.v (.int .i64 0))], [], [], (.v (.int .i64 0)), 56, []⟩
theorem e174_ok : e174.Ok Tryz.prog noGl := memo_ok TF_ok O6_ok mixed TPl_ok 100000 (by kernel_rfl) (by kernel_rfl)
def e222 : Memo := ⟨156, 0, [(.v (.string ⟨#[53, 48]⟩)), (.v (.int .i64 0))], [], [], (.v (.int .i64 0)), 56, []⟩
theorem e222_ok : e222.Ok Tryz.prog noGl := memo_ok TF_ok O6_ok mixed TPl_ok 100000 (by kernel_rfl) (by kernel_rfl)
def e415 : Memo := ⟨156, 0, [(.v (.string ⟨#[52, 57]⟩)), (.v (.int .i64 0))], [], [], (.v (.int .i64 0)), 56, []⟩
theorem e415_ok : e415.Ok Tryz.prog noGl := memo_ok TF_ok O6_ok mixed TPl_ok 100000 (by kernel_rfl) (by kernel_rfl)
end Go.Ev
namespace Go.Ev
open Go.Proofs Go.Shelf
noncomputable def L7 : List Ent := (false, e88) :: (false, e92) :: (false, e106) :: (false, e117) :: (false, e174) :: (false, e222) :: (false, e415) :: L6
theorem L7_ok : AllOk Tryz.prog gl0 L7 := .cons e88_ok (.cons e92_ok (.cons e106_ok (.cons e117_ok (.cons e174_ok (.cons e222_ok (.cons e415_ok (L6_ok)))))))
noncomputable def O7 : CallF := memoO gtest (mkTab L7)
theorem O7_ok : CallOk Tryz.prog O7 := memoO_ok gtest_ok L7_ok
end Go.Ev
namespace Go.Ev
open Go.Proofs Go.Shelf
def e107 : Memo := ⟨108, 0, [(.v (.string ⟨#[52, 47, 53]⟩))], [], [], (.v (.int .i64 0)), 57, []⟩
theorem e107_ok : e107.Ok Tryz.prog noGl := memo_ok TF_ok O7_ok mixed TPl_ok 100000 (by kernel_rfl) (by kernel_rfl)
def e118 : Memo := ⟨108, 0, [(.v (.string ⟨#[49, 48, 48, 48]⟩))], [], [], (.v (.int .i64 0)), 56, []⟩
theorem e118_ok : e118.Ok Tryz.prog noGl := memo_ok TF_ok O7_ok mixed TPl_ok 100000 (by kernel_rfl) (by kernel_rfl)
def e175 : Memo := ⟨108, 0, [(.v (.string ⟨#[56, 48]⟩))], [], [], (.v (.int .i64 0)), 56, []⟩
theorem e175_ok : e175.Ok Tryz.prog noGl := memo_ok TF_ok O7_ok mixed TPl_ok 100000 (by kernel_rfl) (by kernel_rfl)
def e223 : Memo := ⟨108, 0, [(.v (.string ⟨#[53, 48]⟩))], [], [], (.v (.int .i64 0)), 56, []⟩
theorem e223_ok : e223.Ok Tryz.prog noGl := memo_ok TF_ok O7_ok mixed TPl_ok 100000 (by kernel_rfl) (by kernel_rfl)
def e416 : Memo := ⟨108, 0, [(.v (.string ⟨#[52, 57]⟩))], [], [], (.v (.int .i64 0)), 56, []⟩
theorem e416_ok : e416.Ok Tryz.prog noGl := memo_ok TF_ok O7_ok mixed TPl_ok 100000 (by kernel_rfl) (by kernel_rfl)
end Go.Ev
namespace Go.Ev
open Go.Proofs Go.Shelf
noncomputable def L8 : List Ent := (false, e107) :: (false, e118) :: (false, e175) :: (false, e223) :: (false, e416) :: L7
theorem L8_ok : AllOk Tryz.prog gl0 L8 := .cons e107_ok (.cons e118_ok (.cons e175_ok (.cons e223_ok (.cons e416_ok (L7_ok)))))
noncomputable def O8 : CallF := memoO gtest (mkTab L8)
theorem O8_ok : CallOk Tryz.prog O8 := memoO_ok gtest_ok L8_ok
end Go.Ev
namespace Go.Ev
open Go.Proofs Go.Shelf
def e108 : Memo := ⟨121, 0, [(.v (.string ⟨#[52, 47, 53]⟩))], [], [], (.v (.int .i64 0)), 116, []⟩
theorem e108_ok : e108.Ok Tryz.prog noGl := memo_ok TF_ok O8_ok mixed TPl_ok 100000 (by kernel_rfl) (by kernel_rfl)
def e211 : Memo := ⟨62, 0, [(.agg [(.v (.int .i64 2)), (.v (.int .i64 4)), (.v (.int .i64 3))]), (.v (.string ⟨#[56, 48]⟩))], [], [], (.tup [(.agg [(.v (.string ⟨#[53, 48]⟩)), (.v (.string ⟨#[53, 48]⟩))]), (.v (.int .i64 0))]), 470, []⟩
theorem e211_ok : e211.Ok Tryz.prog noGl := memo_ok TF_ok O8_ok mixed TPl_ok 100000 (by kernel_rfl) (by kernel_rfl)
def e239 : Memo := ⟨64, 0, [(.agg [(.v (.int .i64 2)), (.v (.int .i64 4)), (.v (.int .i64 0))]), (.v (.string ⟨#[56, 48]⟩)), (.v (.string ⟨#[53, 48]⟩))], [], [], (.v (.int .i64 0)), 448, []⟩
theorem e239_ok : e239.Ok Tryz.prog noGl := memo_ok TF_ok O8_ok mixed TPl_ok 100000 (by kernel_rfl) (by kernel_rfl)
def e248 : Memo := ⟨64, 0, [(.agg [(.v (.int .i64 2)), (.v (.int .i64 4)), (.v (.int .i64 50001))]), (.v (.string ⟨#[56, 48]⟩)), (.v (.string ⟨#[53, 48]⟩))], [], [], (.v (.int .i64 31)), 493, []⟩
theorem e248_ok : e248.Ok Tryz.prog noGl := memo_ok TF_ok O8_ok mixed TPl_ok 100000 (by kernel_rfl) (by kernel_rfl)
def e258 : Memo := ⟨64, 0, [(.agg [(.v (.int .i64 2)), (.v (.int .i64 4)), (.v (.int .i64 25001))]), (.v (.string ⟨#[56, 48]⟩)), (.v (.string ⟨#[53, 48]⟩))], [], [], (.v (.int .i64 31)), 493, []⟩
theorem e258_ok : e258.Ok Tryz.prog noGl := memo_ok TF_ok O8_ok mixed TPl_ok 100000 (by kernel_rfl) (by kernel_rfl)
def e268 : Memo := ⟨64, 0, [(.agg [(.v (.int .i64 2)), (.v (.int .i64 4)), (.v (.int .i64 12501))]), (.v (.string ⟨#[56, 48]⟩)), (.v (.string ⟨#[53, 48]⟩))], [], [], (.v (.int .i64 31)), 493, []⟩
theorem e268_ok : e268.Ok Tryz.prog noGl := memo_ok TF_ok O8_ok mixed TPl_ok 100000 (by kernel_rfl) (by kernel_rfl)
def e278 : Memo := ⟨64, 0, [(.agg [(.v (.int .i64 2)), (.v (.int .i64 4)), (.v (.int .i64 6251))]), (.v (.string ⟨#[56, 48]⟩)), (.v (.string ⟨#[53, 48]⟩))], [], [], (.v (.int .i64 31)), 493, []⟩
theorem e278_ok : e278.Ok Tryz.prog noGl := memo_ok TF_ok O8_ok mixed TPl_ok 100000 (by kernel_rfl) (by kernel_rfl)
def e294 : Memo := ⟨64, 0, [(.agg [(.v (.int .i64 2)), (.v (.int .i64 4)), (.v (.int .i64 3126))]), (.v (.string ⟨#[56, 48]⟩)), (.v (.string ⟨#[53, 48]⟩))], [], [], (.v (.int .i64 31)), 497, []⟩
theorem e294_ok : e294.Ok Tryz.prog noGl := memo_ok TF_ok O8_ok mixed TPl_ok 100000 (by kernel_rfl) (by kernel_rfl)
def e304 : Memo := ⟨64, 0, [(.agg [(.v (.int .i64 2)), (.v (.int .i64 4)), (.v (.int .i64 1563))]), (.v (.string ⟨#[56, 48]⟩)), (.v (.string ⟨#[53, 48]⟩))], [], [], (.v (.int .i64 31)), 493, []⟩
theorem e304_ok : e304.Ok Tryz.prog noGl := memo_ok TF_ok O8_ok mixed TPl_ok 100000 (by kernel_rfl) (by kernel_rfl)
def e315 : Memo := ⟨64, 0, [(.agg [(.v (.int .i64 2)), (.v (.int .i64 4)), (.v (.int .i64 782))]), (.v (.string ⟨#[56, 48]⟩)), (.v (.string ⟨#[53, 48]⟩))], [], [], (.v (.int .i64 31)), 497, []⟩
theorem e315_ok : e315.Ok Tryz.prog noGl := memo_ok TF_ok O8_ok mixed TPl_ok 100000 (by kernel_rfl) (by kernel_rfl)
def e325 : Memo := ⟨64, 0, [(.agg [(.v (.int .i64 2)), (.v (.int .i64 4)), (.v (.int .i64 391))]), (.v (.string ⟨#[56, 48]⟩)), (.v (.string ⟨#[53, 48]⟩))], [], [], (.v (.int .i64 31)), 493, []⟩
theorem e325_ok : e325.Ok Tryz.prog noGl := memo_ok TF_ok O8_ok mixed TPl_ok 100000 (by kernel_rfl) (by kernel_rfl)
def e334 : Memo := ⟨64, 0, [(.agg [(.v (.int .i64 2)), (.v (.int .i64 4)), (.v (.int .i64 196))]), (.v (.string ⟨#[56, 48]⟩)), (.v (.string ⟨#[53, 48]⟩))], [], [], (.v (.int .i64 31)), 493, []⟩
theorem e334_ok : e334.Ok Tryz.prog noGl := memo_ok TF_ok O8_ok mixed TPl_ok 100000 (by kernel_rfl) (by kernel_rfl)
def e345 : Memo := ⟨64, 0, [(.agg [(.v (.int .i64 2)), (.v (.int .i64 4)), (.v (.int .i64 98))]), (.v (.string ⟨#[56, 48]⟩)), (.v (.string ⟨#[53, 48]⟩))], [], [], (.v (.int .i64 31)), 497, []⟩
theorem e345_ok : e345.Ok Tryz.prog noGl := memo_ok TF_ok O8_ok mixed TPl_ok 100000 (by kernel_rfl) (by kernel_rfl)
def e355 : Memo := ⟨64, 0, [(.agg [(.v (.int .i64 2)), (.v (.int .i64 4)), (.v (.int .i64 49))]), (.v (.string ⟨#[56, 48]⟩)), (.v (.string ⟨#[53, 48]⟩))], [], [], (.v (.int .i64 31)), 493, []⟩
theorem e355_ok : e355.Ok Tryz.prog noGl := memo_ok TF_ok O8_ok mixed TPl_ok 100000 (by kernel_rfl) (by kernel_rfl)
def e365 : Memo := ⟨64, 0, [(.agg [(.v (.int .i64 2)), (.v (.int .i64 4)), (.v (.int .i64 25))]), (.v (.string ⟨#[56, 48]⟩)), (.v (.string ⟨#[53, 48]⟩))], [], [], (.v (.int .i64 31)), 493, []⟩
theorem e365_ok : e365.Ok Tryz.prog noGl := memo_ok TF_ok O8_ok mixed TPl_ok 100000 (by kernel_rfl) (by kernel_rfl)
def e375 : Memo := ⟨64, 0, [(.agg [(.v (.int .i64 2)), (.v (.int .i64 4)), (.v (.int .i64 13))]), (.v (.string ⟨#[56, 48]⟩)), (.v (.string ⟨#[53, 48]⟩))], [], [], (.v (.int .i64 31)), 493, []⟩
theorem e375_ok : e375.Ok Tryz.prog noGl := memo_ok TF_ok O8_ok mixed TPl_ok 100000 (by kernel_rfl) (by kernel_rfl)
def e387 : Memo := ⟨64, 0, [(.agg [(.v (.int .i64 2)), (.v (.int .i64 4)), (.v (.int .i64 7))]), (.v (.string ⟨#[56, 48]⟩)), (.v (.string ⟨#[53, 48]⟩))], [], [], (.v (.int .i64 31)), 493, []⟩
theorem e387_ok : e387.Ok Tryz.prog noGl := memo_ok TF_ok O8_ok mixed TPl_ok 100000 (by kernel_rfl) (by kernel_rfl)
def e394 : Memo := ⟨64, 0, [(.agg [(.v (.int .i64 2)), (.v (.int .i64 4)), (.v (.int .i64 4))]), (.v (.string ⟨#[56, 48]⟩)), (.v (.string ⟨#[53, 48]⟩))], [], [], (.v (.int .i64 31)), 493, []⟩
theorem e394_ok : e394.Ok Tryz.prog noGl := memo_ok TF_ok O8_ok mixed TPl_ok 100000 (by kernel_rfl) (by kernel_rfl)
def e403 : Memo := ⟨64, 0, [(.agg [(.v (.int .i64 2)), (.v (.int .i64 4)), (.v (.int .i64 2))]), (.v (.string ⟨#[56, 48]⟩)), (.v (.string ⟨#[53, 48]⟩))], [], [], (.v (.int .i64 0)), 497, []⟩
theorem e403_ok : e403.Ok Tryz.prog noGl := memo_ok TF_ok O8_ok mixed TPl_ok 100000 (by kernel_rfl) (by kernel_rfl)
def e406 : Memo := ⟨64, 0, [(.agg [(.v (.int .i64 2)), (.v (.int .i64 4)), (.v (.int .i64 3))]), (.v (.string ⟨#[56, 48]⟩)), (.v (.string ⟨#[53, 48]⟩))], [], [], (.v (.int .i64 0)), 493, []⟩
theorem e406_ok : e406.Ok Tryz.prog noGl := memo_ok TF_ok O8_ok mixed TPl_ok 100000 (by kernel_rfl) (by kernel_rfl)
def e418 : Memo := ⟨64, 0, [(.agg [(.v (.int .i64 2)), (.v (.int .i64 4)), (.v (.int .i64 3))]), (.v (.string ⟨#[56, 48]⟩)), (.v (.string ⟨#[52, 57]⟩))], [], [], (.v (.int .i64 31)), 493, []⟩
theorem e418_ok : e418.Ok Tryz.prog noGl := memo_ok TF_ok O8_ok mixed TPl_ok 100000 (by kernel_rfl) (by kernel_rfl)
end Go.Ev
namespace Go.Ev
open Go.Proofs Go.Shelf
noncomputable def L9 : List Ent := (false, e108) :: (false, e211) :: (false, e239) :: (false, e248) :: (false, e258) :: (false, e268) :: (false, e278) :: (false, e294) :: (false, e304) :: (false, e315) :: (false, e325) :: (false, e334) :: (false, e345) :: (false, e355) :: (false, e365) :: (false, e375) :: (false, e387) :: (false, e394) :: (false, e403) :: (false, e406) :: (false, e418) :: L8
theorem L9_ok : AllOk Tryz.prog gl0 L9 := .cons e108_ok (.cons e211_ok (.cons e239_ok (.cons e248_ok (.cons e258_ok (.cons e268_ok (.cons e278_ok (.cons e294_ok (.cons e304_ok (.cons e315_ok (.cons e325_ok (.cons e334_ok (.cons e345_ok (.cons e355_ok (.cons e365_ok (.cons e375_ok (.cons e387_ok (.cons e394_ok (.cons e403_ok (.cons e406_ok (.cons e418_ok (L8_ok)))))))))))))))))))))
noncomputable def O9 : CallF := memoO gtest (mkTab L9)
theorem O9_ok : CallOk Tryz.prog O9 := memoO_ok gtest_ok L9_ok
end Go.Ev
