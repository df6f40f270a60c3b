/- Part of an evaluator of calls that is proved sound, and of what it gives about this program. No condition of its own. -/
import Derived.Test.YtanaplokhjgfmaaGreatDoorEvG7
set_option linter.unusedVariables false
set_option linter.unusedSimpArgs false
set_option linter.unusedSectionVars false
set_option maxRecDepth 1000000
namespace Go.Ev
open Go.Proofs Go.Shelf
def e109 : Memo := ⟨59, 3, [(.agg [(.v (.int .i64 3)), (.v (.int .i64 1)), (.v (.int .i64 1)), (.v (.int .i64 2)), (.v (.int .i64 1))]), (.agg [(.slu 0 0 3 1), (.slu 1 0 3 1)]), (.slc 2 0 3 3)], [(0, 1, 0), (0, 1, 1), (0, 2, 0)], [(.cells [(.v (.int .i64 3)), (.v (.int .i64 3)), (.v (.int .i64 3))] 3 1), (.cells [(.v (.int .i64 0)), (.v (.int .i64 1)), (.v (.int .i64 2))] 3 1), (.cells [(.v (.string ⟨#[48]⟩)), (.v (.string ⟨#[49, 47, 50]⟩)), (.v (.string ⟨#[50]⟩)), (.v (.string ⟨#[52, 47, 53]⟩)), (.v (.string ⟨#[51]⟩)), (.v (.string ⟨#[57, 47, 49, 48]⟩))] 103 0)], (.tup [(.v (.string ⟨#[52, 47, 53]⟩)), (.v (.int .i64 0))]), 605, []⟩
theorem e109_ok : e109.Ok Tryz.prog noGl := memo_ok TF_ok O9_ok mixed TPl_ok 100000 (by kernel_rfl) (by kernel_rfl)
def e123 : Memo := ⟨122, 1, [(.slc 0 0 2 2), (.v (.func (.func 121) #[] #[]))], [(0, 0, 0)], [(.cells [(.v (.string ⟨#[52, 47, 53]⟩)), (.v (.string ⟨#[49, 47, 50]⟩))] 79 0)], (.v (.int .i64 0)), 232, []⟩
theorem e123_ok : e123.Ok Tryz.prog noGl := memo_ok TF_ok O9_ok mixed TPl_ok 100000 (by kernel_rfl) (by kernel_rfl)
def e249 : Memo := ⟨129, 3, [(.v (.int .i64 50000)), (.ptr 0 0), (.ptr 1 0), (.ptr 2 0)], [(0, 1, 0), (0, 2, 0), (0, 3, 0)], [(.cells [(.v (.int .i64 2)), (.v (.int .i64 4)), (.v (.int .i64 3))] 110 0), (.cells [(.v (.string ⟨#[56, 48]⟩))] 79 0), (.cells [(.v (.string ⟨#[53, 48]⟩))] 79 0)], (.v (.bool true)), 495, []⟩
theorem e249_ok : e249.Ok Tryz.prog noGl := memo_ok TF_ok O9_ok mixed TPl_ok 100000 (by kernel_rfl) (by kernel_rfl)
def e259 : Memo := ⟨129, 3, [(.v (.int .i64 25000)), (.ptr 0 0), (.ptr 1 0), (.ptr 2 0)], [(0, 1, 0), (0, 2, 0), (0, 3, 0)], [(.cells [(.v (.int .i64 2)), (.v (.int .i64 4)), (.v (.int .i64 3))] 110 0), (.cells [(.v (.string ⟨#[56, 48]⟩))] 79 0), (.cells [(.v (.string ⟨#[53, 48]⟩))] 79 0)], (.v (.bool true)), 495, []⟩
theorem e259_ok : e259.Ok Tryz.prog noGl := memo_ok TF_ok O9_ok mixed TPl_ok 100000 (by kernel_rfl) (by kernel_rfl)
def e269 : Memo := ⟨129, 3, [(.v (.int .i64 12500)), (.ptr 0 0), (.ptr 1 0), (.ptr 2 0)], [(0, 1, 0), (0, 2, 0), (0, 3, 0)], [(.cells [(.v (.int .i64 2)), (.v (.int .i64 4)), (.v (.int .i64 3))] 110 0), (.cells [(.v (.string ⟨#[56, 48]⟩))] 79 0), (.cells [(.v (.string ⟨#[53, 48]⟩))] 79 0)], (.v (.bool true)), 495, []⟩
theorem e269_ok : e269.Ok Tryz.prog noGl := memo_ok TF_ok O9_ok mixed TPl_ok 100000 (by kernel_rfl) (by kernel_rfl)
def e279 : Memo := ⟨129, 3, [(.v (.int .i64 6250)), (.ptr 0 0), (.ptr 1 0), (.ptr 2 0)], [(0, 1, 0), (0, 2, 0), (0, 3, 0)], [(.cells [(.v (.int .i64 2)), (.v (.int .i64 4)), (.v (.int .i64 3))] 110 0), (.cells [(.v (.string ⟨#[56, 48]⟩))] 79 0), (.cells [(.v (.string ⟨#[53, 48]⟩))] 79 0)], (.v (.bool true)), 495, []⟩
theorem e279_ok : e279.Ok Tryz.prog noGl := memo_ok TF_ok O9_ok mixed TPl_ok 100000 (by kernel_rfl) (by kernel_rfl)
def e295 : Memo := ⟨129, 3, [(.v (.int .i64 3125)), (.ptr 0 0), (.ptr 1 0), (.ptr 2 0)], [(0, 1, 0), (0, 2, 0), (0, 3, 0)], [(.cells [(.v (.int .i64 2)), (.v (.int .i64 4)), (.v (.int .i64 3))] 110 0), (.cells [(.v (.string ⟨#[56, 48]⟩))] 79 0), (.cells [(.v (.string ⟨#[53, 48]⟩))] 79 0)], (.v (.bool true)), 499, []⟩
theorem e295_ok : e295.Ok Tryz.prog noGl := memo_ok TF_ok O9_ok mixed TPl_ok 100000 (by kernel_rfl) (by kernel_rfl)
def e305 : Memo := ⟨129, 3, [(.v (.int .i64 1562)), (.ptr 0 0), (.ptr 1 0), (.ptr 2 0)], [(0, 1, 0), (0, 2, 0), (0, 3, 0)], [(.cells [(.v (.int .i64 2)), (.v (.int .i64 4)), (.v (.int .i64 3))] 110 0), (.cells [(.v (.string ⟨#[56, 48]⟩))] 79 0), (.cells [(.v (.string ⟨#[53, 48]⟩))] 79 0)], (.v (.bool true)), 495, []⟩
theorem e305_ok : e305.Ok Tryz.prog noGl := memo_ok TF_ok O9_ok mixed TPl_ok 100000 (by kernel_rfl) (by kernel_rfl)
def e316 : Memo := ⟨129, 3, [(.v (.int .i64 781)), (.ptr 0 0), (.ptr 1 0), (.ptr 2 0)], [(0, 1, 0), (0, 2, 0), (0, 3, 0)], [(.cells [(.v (.int .i64 2)), (.v (.int .i64 4)), (.v (.int .i64 3))] 110 0), (.cells [(.v (.string ⟨#[56, 48]⟩))] 79 0), (.cells [(.v (.string ⟨#[53, 48]⟩))] 79 0)], (.v (.bool true)), 499, []⟩
theorem e316_ok : e316.Ok Tryz.prog noGl := memo_ok TF_ok O9_ok mixed TPl_ok 100000 (by kernel_rfl) (by kernel_rfl)
def e326 : Memo := ⟨129, 3, [(.v (.int .i64 390)), (.ptr 0 0), (.ptr 1 0), (.ptr 2 0)], [(0, 1, 0), (0, 2, 0), (0, 3, 0)], [(.cells [(.v (.int .i64 2)), (.v (.int .i64 4)), (.v (.int .i64 3))] 110 0), (.cells [(.v (.string ⟨#[56, 48]⟩))] 79 0), (.cells [(.v (.string ⟨#[53, 48]⟩))] 79 0)], (.v (.bool true)), 495, []⟩
theorem e326_ok : e326.Ok Tryz.prog noGl := memo_ok TF_ok O9_ok mixed TPl_ok 100000 (by kernel_rfl) (by kernel_rfl)
def e335 : Memo := ⟨129, 3, [(.v (.int .i64 195)), (.ptr 0 0), (.ptr 1 0), (.ptr 2 0)], [(0, 1, 0), (0, 2, 0), (0, 3, 0)], [(.cells [(.v (.int .i64 2)), (.v (.int .i64 4)), (.v (.int .i64 3))] 110 0), (.cells [(.v (.string ⟨#[56, 48]⟩))] 79 0), (.cells [(.v (.string ⟨#[53, 48]⟩))] 79 0)], (.v (.bool true)), 495, []⟩
theorem e335_ok : e335.Ok Tryz.prog noGl := memo_ok TF_ok O9_ok mixed TPl_ok 100000 (by kernel_rfl) (by kernel_rfl)
def e346 : Memo := ⟨129, 3, [(.v (.int .i64 97)), (.ptr 0 0), (.ptr 1 0), (.ptr 2 0)], [(0, 1, 0), (0, 2, 0), (0, 3, 0)], [(.cells [(.v (.int .i64 2)), (.v (.int .i64 4)), (.v (.int .i64 3))] 110 0), (.cells [(.v (.string ⟨#[56, 48]⟩))] 79 0), (.cells [(.v (.string ⟨#[53, 48]⟩))] 79 0)], (.v (.bool true)), 499, []⟩
theorem e346_ok : e346.Ok Tryz.prog noGl := memo_ok TF_ok O9_ok mixed TPl_ok 100000 (by kernel_rfl) (by kernel_rfl)
def e356 : Memo := ⟨129, 3, [(.v (.int .i64 48)), (.ptr 0 0), (.ptr 1 0), (.ptr 2 0)], [(0, 1, 0), (0, 2, 0), (0, 3, 0)], [(.cells [(.v (.int .i64 2)), (.v (.int .i64 4)), (.v (.int .i64 3))] 110 0), (.cells [(.v (.string ⟨#[56, 48]⟩))] 79 0), (.cells [(.v (.string ⟨#[53, 48]⟩))] 79 0)], (.v (.bool true)), 495, []⟩
theorem e356_ok : e356.Ok Tryz.prog noGl := memo_ok TF_ok O9_ok mixed TPl_ok 100000 (by kernel_rfl) (by kernel_rfl)
def e366 : Memo := ⟨129, 3, [(.v (.int .i64 24)), (.ptr 0 0), (.ptr 1 0), (.ptr 2 0)], [(0, 1, 0), (0, 2, 0), (0, 3, 0)], [(.cells [(.v (.int .i64 2)), (.v (.int .i64 4)), (.v (.int .i64 3))] 110 0), (.cells [(.v (.string ⟨#[56, 48]⟩))] 79 0), (.cells [(.v (.string ⟨#[53, 48]⟩))] 79 0)], (.v (.bool true)), 495, []⟩
theorem e366_ok : e366.Ok Tryz.prog noGl := memo_ok TF_ok O9_ok mixed TPl_ok 100000 (by kernel_rfl) (by kernel_rfl)
def e376 : Memo := ⟨129, 3, [(.v (.int .i64 12)), (.ptr 0 0), (.ptr 1 0), (.ptr 2 0)], [(0, 1, 0), (0, 2, 0), (0, 3, 0)], [(.cells [(.v (.int .i64 2)), (.v (.int .i64 4)), (.v (.int .i64 3))] 110 0), (.cells [(.v (.string ⟨#[56, 48]⟩))] 79 0), (.cells [(.v (.string ⟨#[53, 48]⟩))] 79 0)], (.v (.bool true)), 495, []⟩
theorem e376_ok : e376.Ok Tryz.prog noGl := memo_ok TF_ok O9_ok mixed TPl_ok 100000 (by kernel_rfl) (by kernel_rfl)
def e388 : Memo := ⟨129, 3, [(.v (.int .i64 6)), (.ptr 0 0), (.ptr 1 0), (.ptr 2 0)], [(0, 1, 0), (0, 2, 0), (0, 3, 0)], [(.cells [(.v (.int .i64 2)), (.v (.int .i64 4)), (.v (.int .i64 3))] 110 0), (.cells [(.v (.string ⟨#[56, 48]⟩))] 79 0), (.cells [(.v (.string ⟨#[53, 48]⟩))] 79 0)], (.v (.bool true)), 495, []⟩
theorem e388_ok : e388.Ok Tryz.prog noGl := memo_ok TF_ok O9_ok mixed TPl_ok 100000 (by kernel_rfl) (by kernel_rfl)
def e395 : Memo := ⟨129, 3, [(.v (.int .i64 3)), (.ptr 0 0), (.ptr 1 0), (.ptr 2 0)], [(0, 1, 0), (0, 2, 0), (0, 3, 0)], [(.cells [(.v (.int .i64 2)), (.v (.int .i64 4)), (.v (.int .i64 3))] 110 0), (.cells [(.v (.string ⟨#[56, 48]⟩))] 79 0), (.cells [(.v (.string ⟨#[53, 48]⟩))] 79 0)], (.v (.bool true)), 495, []⟩
theorem e395_ok : e395.Ok Tryz.prog noGl := memo_ok TF_ok O9_ok mixed TPl_ok 100000 (by kernel_rfl) (by kernel_rfl)
def e404 : Memo := ⟨129, 3, [(.v (.int .i64 1)), (.ptr 0 0), (.ptr 1 0), (.ptr 2 0)], [(0, 1, 0), (0, 2, 0), (0, 3, 0)], [(.cells [(.v (.int .i64 2)), (.v (.int .i64 4)), (.v (.int .i64 3))] 110 0), (.cells [(.v (.string ⟨#[56, 48]⟩))] 79 0), (.cells [(.v (.string ⟨#[53, 48]⟩))] 79 0)], (.v (.bool false)), 499, []⟩
theorem e404_ok : e404.Ok Tryz.prog noGl := memo_ok TF_ok O9_ok mixed TPl_ok 100000 (by kernel_rfl) (by kernel_rfl)
end Go.Ev
namespace Go.Ev
open Go.Proofs Go.Shelf
noncomputable def L10 : List Ent := (false, e109) :: (false, e123) :: (false, e249) :: (false, e259) :: (false, e269) :: (false, e279) :: (false, e295) :: (false, e305) :: (false, e316) :: (false, e326) :: (false, e335) :: (false, e346) :: (false, e356) :: (false, e366) :: (false, e376) :: (false, e388) :: (false, e395) :: (false, e404) :: L9
theorem L10_ok : AllOk Tryz.prog gl0 L10 := .cons e109_ok (.cons e123_ok (.cons e249_ok (.cons e259_ok (.cons e269_ok (.cons e279_ok (.cons e295_ok (.cons e305_ok (.cons e316_ok (.cons e326_ok (.cons e335_ok (.cons e346_ok (.cons e356_ok (.cons e366_ok (.cons e376_ok (.cons e388_ok (.cons e395_ok (.cons e404_ok (L9_ok))))))))))))))))))
noncomputable def O10 : CallF := memoO gtest (mkTab L10)
theorem O10_ok : CallOk Tryz.prog O10 := memoO_ok gtest_ok L10_ok
end Go.Ev
namespace Go.Ev
open Go.Proofs Go.Shelf
def e131 : Memo := ⟨60, 1, [(.v (.string ⟨#[49, 48, 48, 48]⟩)), (.slc 0 0 2 2)], [(0, 1, 0)], [(.cells [(.v (.string ⟨#[52, 47, 53]⟩)), (.v (.string ⟨#[49, 47, 50]⟩))] 79 0)], (.tup [(.v (.string ⟨#[52, 48, 48]⟩)), (.v (.int .i64 0))]), 432, []⟩
theorem e131_ok : e131.Ok Tryz.prog gl0 := memo_ok TF_ok O10_ok mixed TPl_ok 100000 (by kernel_rfl) (by kernel_rfl)
def e407 : Memo := ⟨63, 0, [(.agg [(.v (.int .i64 2)), (.v (.int .i64 4)), (.v (.int .i64 3))]), (.v (.string ⟨#[56, 48]⟩)), (.v (.string ⟨#[53, 48]⟩))], [], [], (.tup [(.v (.int .i64 3)), (.v (.int .i64 0))]), 8887, []⟩
theorem e407_ok : e407.Ok Tryz.prog noGl := memo_ok TF_ok O10_ok mixed TPl_ok 100000 (by kernel_rfl) (by kernel_rfl)
end Go.Ev
namespace Go.Ev
open Go.Proofs Go.Shelf
noncomputable def L11 : List Ent := (true, e131) :: (false, e407) :: L10
theorem L11_ok : AllOk Tryz.prog gl0 L11 := .cons e131_ok (.cons e407_ok (L10_ok))
noncomputable def O11 : CallF := memoO gtest (mkTab L11)
theorem O11_ok : CallOk Tryz.prog O11 := memoO_ok gtest_ok L11_ok
end Go.Ev
namespace Go.Ev
open Go.Proofs Go.Shelf
theorem awake_call (w : World) (hgl : ∀ g vs, gl0 g = some vs → ∃ e fz, w.heap[g]? = some (.cells vs.toArray e fz)) :
   Calls Tryz.prog 10 #[] w fun e w' => e = .returned (.bool true) ∧ RowKit.Below w.heap.size w w' :=
 evCall_plain (O := O11) (n := 100000) (args := []) TF_ok O11_ok mixed TPl_ok (by kernel_rfl) w hgl

end Go.Ev
