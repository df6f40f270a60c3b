/- Part of an evaluator of calls that is proved sound, and of what it gives about this program. No condition of its own. -/
import Derived.Test.YtanaplokhjgfmaaGreatDoorEvG0
set_option linter.unusedVariables false
set_option linter.unusedSimpArgs false
set_option linter.unusedSectionVars false
set_option maxRecDepth 1000000
namespace Go.Ev
open Go.Proofs Go.Shelf
def e150 : Memo := ⟨184, 2, [(.slc 0 0 1 2), (.slc 1 0 1 2)], [(0, 0, 0), (0, 1, 0)], [(.cells [(.v (.int .u64 9)), (.v (.int .u64 0))] 233 0), (.cells [(.v (.int .u64 1)), (.v (.int .u64 0))] 233 0)], (.slc 2 0 1 2), 1, [(2, (.cells [(.v (.int .u64 9)), (.v (.int .u64 0))] 233 0))]⟩
theorem e150_ok : e150.Ok Tryz.prog noGl := memo_ok TF_ok O0_ok mixed TPl_ok 100000 (by kernel_rfl) (by kernel_rfl)
def e152 : Memo := ⟨190, 2, [(.slc 0 0 1 2), (.slc 1 0 1 2)], [(0, 0, 0), (0, 1, 0)], [(.cells [(.v (.int .u64 16)), (.v (.int .u64 0))] 233 0), (.cells [(.v (.int .u64 9)), (.v (.int .u64 0))] 233 0)], (.slc 2 0 1 2), 1, [(2, (.cells [(.v (.int .u64 25)), (.v (.int .u64 0))] 233 0))]⟩
theorem e152_ok : e152.Ok Tryz.prog noGl := memo_ok TF_ok O0_ok mixed TPl_ok 100000 (by kernel_rfl) (by kernel_rfl)
def e154 : Memo := ⟨180, 2, [(.slc 0 0 1 2), (.slc 1 0 1 2)], [(0, 0, 0), (0, 1, 0)], [(.cells [(.v (.int .u64 25)), (.v (.int .u64 0))] 233 0), (.cells [(.v (.int .u64 1)), (.v (.int .u64 0))] 233 0)], (.slc 3 0 1 1), 2, [(3, (.cells [(.v (.int .u64 1))] 233 0))]⟩
theorem e154_ok : e154.Ok Tryz.prog noGl := memo_ok TF_ok O0_ok mixed TPl_ok 100000 (by kernel_rfl) (by kernel_rfl)
def e157 : Memo := ⟨184, 2, [(.slc 0 0 1 2), (.slc 1 0 1 2)], [(0, 0, 0), (0, 1, 0)], [(.cells [(.v (.int .u64 25)), (.v (.int .u64 0))] 233 0), (.cells [(.v (.int .u64 1)), (.v (.int .u64 0))] 233 0)], (.slc 2 0 1 2), 1, [(2, (.cells [(.v (.int .u64 25)), (.v (.int .u64 0))] 233 0))]⟩
theorem e157_ok : e157.Ok Tryz.prog noGl := memo_ok TF_ok O0_ok mixed TPl_ok 100000 (by kernel_rfl) (by kernel_rfl)
def e159 : Memo := ⟨180, 2, [(.slc 0 0 1 2), (.slc 1 0 1 2)], [(0, 0, 0), (0, 1, 0)], [(.cells [(.v (.int .u64 16)), (.v (.int .u64 0))] 233 0), (.cells [(.v (.int .u64 25)), (.v (.int .u64 0))] 233 0)], (.slc 3 0 1 1), 2, [(3, (.cells [(.v (.int .u64 1))] 233 0))]⟩
theorem e159_ok : e159.Ok Tryz.prog noGl := memo_ok TF_ok O0_ok mixed TPl_ok 100000 (by kernel_rfl) (by kernel_rfl)
def e164 : Memo := ⟨225, 0, [(.v (.string ⟨#[56, 48]⟩)), (.v (.int .i64 10)), (.v (.int .i64 64))], [], [], (.tup [(.v (.int .u64 80)), (.v .nilIface)]), 1, []⟩
theorem e164_ok : e164.Ok Tryz.prog noGl := memo_ok TF_ok O0_ok mixed TPl_ok 100000 (by kernel_rfl) (by kernel_rfl)
def e167 : Memo := ⟨180, 2, [(.slc 0 0 1 2), (.slc 1 0 1 2)], [(0, 0, 0), (0, 1, 0)], [(.cells [(.v (.int .u64 80)), (.v (.int .u64 0))] 233 0), (.cells [(.v (.int .u64 1)), (.v (.int .u64 0))] 233 0)], (.slc 3 0 1 1), 2, [(3, (.cells [(.v (.int .u64 1))] 233 0))]⟩
theorem e167_ok : e167.Ok Tryz.prog noGl := memo_ok TF_ok O0_ok mixed TPl_ok 100000 (by kernel_rfl) (by kernel_rfl)
def e170 : Memo := ⟨184, 2, [(.slc 0 0 1 2), (.slc 1 0 1 2)], [(0, 0, 0), (0, 1, 0)], [(.cells [(.v (.int .u64 80)), (.v (.int .u64 0))] 233 0), (.cells [(.v (.int .u64 1)), (.v (.int .u64 0))] 233 0)], (.slc 2 0 1 2), 1, [(2, (.cells [(.v (.int .u64 80)), (.v (.int .u64 0))] 233 0))]⟩
theorem e170_ok : e170.Ok Tryz.prog noGl := memo_ok TF_ok O0_ok mixed TPl_ok 100000 (by kernel_rfl) (by kernel_rfl)
def e177 : Memo := ⟨184, 2, [(.slc 0 0 1 2), (.slc 1 0 1 1)], [(0, 0, 0), (0, 1, 0)], [(.cells [(.v (.int .u64 80)), (.v (.int .u64 0))] 233 0), (.cells [(.v (.int .u64 1))] 233 0)], (.slc 2 0 1 2), 1, [(2, (.cells [(.v (.int .u64 80)), (.v (.int .u64 0))] 233 0))]⟩
theorem e177_ok : e177.Ok Tryz.prog noGl := memo_ok TF_ok O0_ok mixed TPl_ok 100000 (by kernel_rfl) (by kernel_rfl)
def e179 : Memo := ⟨184, 2, [(.slc 0 0 1 1), (.slc 1 0 1 2)], [(0, 0, 0), (0, 1, 0)], [(.cells [(.v (.int .u64 2))] 233 0), (.cells [(.v (.int .u64 1)), (.v (.int .u64 0))] 233 0)], (.slc 2 0 1 2), 1, [(2, (.cells [(.v (.int .u64 2)), (.v (.int .u64 0))] 233 0))]⟩
theorem e179_ok : e179.Ok Tryz.prog noGl := memo_ok TF_ok O0_ok mixed TPl_ok 100000 (by kernel_rfl) (by kernel_rfl)
def e181 : Memo := ⟨180, 2, [(.slc 0 0 1 2), (.slc 1 0 1 2)], [(0, 0, 0), (0, 1, 0)], [(.cells [(.v (.int .u64 80)), (.v (.int .u64 0))] 233 0), (.cells [(.v (.int .u64 2)), (.v (.int .u64 0))] 233 0)], (.slc 3 0 1 1), 2, [(3, (.cells [(.v (.int .u64 2))] 233 0))]⟩
theorem e181_ok : e181.Ok Tryz.prog noGl := memo_ok TF_ok O0_ok mixed TPl_ok 100000 (by kernel_rfl) (by kernel_rfl)
def e182 : Memo := ⟨183, 2, [(.slc 0 0 1 2), (.slc 1 0 1 1)], [(0, 0, 0), (0, 1, 0)], [(.cells [(.v (.int .u64 80)), (.v (.int .u64 0))] 233 0), (.cells [(.v (.int .u64 2))] 233 0)], (.tup [(.slc 2 0 1 1), (.slc 3 0 0 1)]), 2, [(2, (.cells [(.v (.int .u64 40))] 233 0)), (3, (.cells [(.v (.int .u64 0))] 233 0))]⟩
theorem e182_ok : e182.Ok Tryz.prog noGl := memo_ok TF_ok O0_ok mixed TPl_ok 100000 (by kernel_rfl) (by kernel_rfl)
def e185 : Memo := ⟨180, 2, [(.slc 0 0 1 1), (.slc 1 0 1 1)], [(0, 0, 0), (0, 1, 0)], [(.cells [(.v (.int .u64 40))] 233 0), (.cells [(.v (.int .u64 1))] 233 0)], (.slc 3 0 1 1), 2, [(3, (.cells [(.v (.int .u64 1))] 233 0))]⟩
theorem e185_ok : e185.Ok Tryz.prog noGl := memo_ok TF_ok O0_ok mixed TPl_ok 100000 (by kernel_rfl) (by kernel_rfl)
def e187 : Memo := ⟨184, 1, [(.slc 0 0 1 1), (.slc 0 0 1 1)], [(0, 0, 0)], [(.cells [(.v (.int .u64 40))] 233 0)], (.slc 1 0 1 2), 1, [(1, (.cells [(.v (.int .u64 1600)), (.v (.int .u64 0))] 233 0))]⟩
theorem e187_ok : e187.Ok Tryz.prog noGl := memo_ok TF_ok O0_ok mixed TPl_ok 100000 (by kernel_rfl) (by kernel_rfl)
def e191 : Memo := ⟨184, 2, [(.slc 0 0 1 2), (.slc 1 0 1 2)], [(0, 0, 0), (0, 1, 0)], [(.cells [(.v (.int .u64 1600)), (.v (.int .u64 0))] 233 0), (.cells [(.v (.int .u64 25)), (.v (.int .u64 0))] 233 0)], (.slc 2 0 1 2), 1, [(2, (.cells [(.v (.int .u64 40000)), (.v (.int .u64 0))] 233 0))]⟩
theorem e191_ok : e191.Ok Tryz.prog noGl := memo_ok TF_ok O0_ok mixed TPl_ok 100000 (by kernel_rfl) (by kernel_rfl)
def e193 : Memo := ⟨180, 2, [(.slc 0 0 1 2), (.slc 1 0 1 2)], [(0, 0, 0), (0, 1, 0)], [(.cells [(.v (.int .u64 40000)), (.v (.int .u64 0))] 233 0), (.cells [(.v (.int .u64 16)), (.v (.int .u64 0))] 233 0)], (.slc 3 0 1 1), 2, [(3, (.cells [(.v (.int .u64 16))] 233 0))]⟩
theorem e193_ok : e193.Ok Tryz.prog noGl := memo_ok TF_ok O0_ok mixed TPl_ok 100000 (by kernel_rfl) (by kernel_rfl)
def e194 : Memo := ⟨183, 2, [(.slc 0 0 1 2), (.slc 1 0 1 1)], [(0, 0, 0), (0, 1, 0)], [(.cells [(.v (.int .u64 40000)), (.v (.int .u64 0))] 233 0), (.cells [(.v (.int .u64 16))] 233 0)], (.tup [(.slc 2 0 1 1), (.slc 3 0 0 1)]), 2, [(2, (.cells [(.v (.int .u64 2500))] 233 0)), (3, (.cells [(.v (.int .u64 0))] 233 0))]⟩
theorem e194_ok : e194.Ok Tryz.prog noGl := memo_ok TF_ok O0_ok mixed TPl_ok 100000 (by kernel_rfl) (by kernel_rfl)
def e195 : Memo := ⟨183, 2, [(.slc 0 0 1 2), (.slc 1 0 1 1)], [(0, 0, 0), (0, 1, 0)], [(.cells [(.v (.int .u64 16)), (.v (.int .u64 0))] 233 0), (.cells [(.v (.int .u64 16))] 233 0)], (.tup [(.slc 2 0 1 1), (.slc 3 0 0 1)]), 2, [(2, (.cells [(.v (.int .u64 1))] 233 0)), (3, (.cells [(.v (.int .u64 0))] 233 0))]⟩
theorem e195_ok : e195.Ok Tryz.prog noGl := memo_ok TF_ok O0_ok mixed TPl_ok 100000 (by kernel_rfl) (by kernel_rfl)
def e199 : Memo := ⟨195, 1, [(.slc 0 0 1 1)], [(0, 0, 0)], [(.cells [(.v (.int .u64 2500))] 233 0)], (.slc 13 0 1 1), 17, [(13, (.cells [(.v (.int .u64 50))] 233 0))]⟩
theorem e199_ok : e199.Ok Tryz.prog noGl := memo_ok TF_ok O0_ok mixed TPl_ok 100000 (by kernel_rfl) (by kernel_rfl)
end Go.Ev
namespace Go.Ev
open Go.Proofs Go.Shelf
def e201 : Memo := ⟨168, 1, [(.agg [(.v (.bool false)), (.slc 0 0 1 1)])], [(0, 0, 1)], [(.cells [(.v (.int .u64 1))] 233 0)], (.agg [(.v (.bool false)), (.slc 5 0 1 1)]), 10, [(5, (.cells [(.v (.int .u64 1))] 233 0))]⟩
theorem e201_ok : e201.Ok Tryz.prog noGl := memo_ok TF_ok O0_ok mixed TPl_ok 100000 (by kernel_rfl) (by kernel_rfl)
def e202 : Memo := ⟨180, 2, [(.slc 0 0 1 1), (.slc 1 0 1 1)], [(0, 0, 0), (0, 1, 0)], [(.cells [(.v (.int .u64 50))] 233 0), (.cells [(.v (.int .u64 1))] 233 0)], (.slc 3 0 1 1), 2, [(3, (.cells [(.v (.int .u64 1))] 233 0))]⟩
theorem e202_ok : e202.Ok Tryz.prog noGl := memo_ok TF_ok O0_ok mixed TPl_ok 100000 (by kernel_rfl) (by kernel_rfl)
def e204 : Memo := ⟨184, 2, [(.slc 0 0 1 2), (.slc 1 0 1 1)], [(0, 0, 0), (0, 1, 0)], [(.cells [(.v (.int .u64 2500)), (.v (.int .u64 0))] 233 0), (.cells [(.v (.int .u64 1))] 233 0)], (.slc 2 0 1 2), 1, [(2, (.cells [(.v (.int .u64 2500)), (.v (.int .u64 0))] 233 0))]⟩
theorem e204_ok : e204.Ok Tryz.prog noGl := memo_ok TF_ok O0_ok mixed TPl_ok 100000 (by kernel_rfl) (by kernel_rfl)
def e206 : Memo := ⟨184, 2, [(.slc 0 0 1 1), (.slc 1 0 1 2)], [(0, 0, 0), (0, 1, 0)], [(.cells [(.v (.int .u64 2500))] 233 0), (.cells [(.v (.int .u64 1)), (.v (.int .u64 0))] 233 0)], (.slc 2 0 1 2), 1, [(2, (.cells [(.v (.int .u64 2500)), (.v (.int .u64 0))] 233 0))]⟩
theorem e206_ok : e206.Ok Tryz.prog noGl := memo_ok TF_ok O0_ok mixed TPl_ok 100000 (by kernel_rfl) (by kernel_rfl)
def e210 : Memo := ⟨112, 2, [(.agg [(.v (.bool false)), (.slc 0 0 1 1), (.slc 1 0 1 1)])], [(0, 0, 1), (0, 0, 2)], [(.cells [(.v (.int .u64 50))] 233 0), (.cells [(.v (.int .u64 1))] 233 0)], (.tup [(.v (.string ⟨#[53, 48]⟩)), (.v (.int .i64 0))]), 3, []⟩
theorem e210_ok : e210.Ok Tryz.prog noGl := memo_ok TF_ok O0_ok mixed TPl_ok 100000 (by kernel_rfl) (by kernel_rfl)
def e212 : Memo := ⟨225, 0, [(.v (.string ⟨#[53, 48]⟩)), (.v (.int .i64 10)), (.v (.int .i64 64))], [], [], (.tup [(.v (.int .u64 50)), (.v .nilIface)]), 1, []⟩
theorem e212_ok : e212.Ok Tryz.prog noGl := memo_ok TF_ok O0_ok mixed TPl_ok 100000 (by kernel_rfl) (by kernel_rfl)
def e215 : Memo := ⟨180, 2, [(.slc 0 0 1 2), (.slc 1 0 1 2)], [(0, 0, 0), (0, 1, 0)], [(.cells [(.v (.int .u64 50)), (.v (.int .u64 0))] 233 0), (.cells [(.v (.int .u64 1)), (.v (.int .u64 0))] 233 0)], (.slc 3 0 1 1), 2, [(3, (.cells [(.v (.int .u64 1))] 233 0))]⟩
theorem e215_ok : e215.Ok Tryz.prog noGl := memo_ok TF_ok O0_ok mixed TPl_ok 100000 (by kernel_rfl) (by kernel_rfl)
def e218 : Memo := ⟨184, 2, [(.slc 0 0 1 2), (.slc 1 0 1 2)], [(0, 0, 0), (0, 1, 0)], [(.cells [(.v (.int .u64 50)), (.v (.int .u64 0))] 233 0), (.cells [(.v (.int .u64 1)), (.v (.int .u64 0))] 233 0)], (.slc 2 0 1 2), 1, [(2, (.cells [(.v (.int .u64 50)), (.v (.int .u64 0))] 233 0))]⟩
theorem e218_ok : e218.Ok Tryz.prog noGl := memo_ok TF_ok O0_ok mixed TPl_ok 100000 (by kernel_rfl) (by kernel_rfl)
def e224 : Memo := ⟨158, 2, [(.agg [(.v (.bool false)), (.slc 0 0 0 1)]), (.agg [(.v (.bool false)), (.slc 1 0 1 1)])], [(0, 0, 1), (0, 1, 1)], [(.cells [(.v (.int .u64 0))] 233 0), (.cells [(.v (.int .u64 1))] 233 0)], (.agg [(.v (.bool false)), (.slc 0 0 0 1), (.slc 1 0 1 1)]), 5, []⟩
theorem e224_ok : e224.Ok Tryz.prog noGl := memo_ok TF_ok O0_ok mixed TPl_ok 100000 (by kernel_rfl) (by kernel_rfl)
def e230 : Memo := ⟨184, 1, [(.slc 0 0 1 2), (.slc 0 0 1 2)], [(0, 0, 0)], [(.cells [(.v (.int .u64 50)), (.v (.int .u64 0))] 233 0)], (.slc 1 0 1 2), 1, [(1, (.cells [(.v (.int .u64 2500)), (.v (.int .u64 0))] 233 0))]⟩
theorem e230_ok : e230.Ok Tryz.prog noGl := memo_ok TF_ok O0_ok mixed TPl_ok 100000 (by kernel_rfl) (by kernel_rfl)
def e232 : Memo := ⟨184, 1, [(.slc 0 0 1 2), (.slc 0 0 1 2)], [(0, 0, 0)], [(.cells [(.v (.int .u64 1)), (.v (.int .u64 0))] 233 0)], (.slc 1 0 1 2), 1, [(1, (.cells [(.v (.int .u64 1)), (.v (.int .u64 0))] 233 0))]⟩
theorem e232_ok : e232.Ok Tryz.prog noGl := memo_ok TF_ok O0_ok mixed TPl_ok 100000 (by kernel_rfl) (by kernel_rfl)
def e236 : Memo := ⟨184, 2, [(.slc 0 0 1 2), (.slc 1 0 1 2)], [(0, 0, 0), (0, 1, 0)], [(.cells [(.v (.int .u64 2500)), (.v (.int .u64 0))] 233 0), (.cells [(.v (.int .u64 1)), (.v (.int .u64 0))] 233 0)], (.slc 2 0 1 2), 1, [(2, (.cells [(.v (.int .u64 2500)), (.v (.int .u64 0))] 233 0))]⟩
theorem e236_ok : e236.Ok Tryz.prog noGl := memo_ok TF_ok O0_ok mixed TPl_ok 100000 (by kernel_rfl) (by kernel_rfl)
def e240 : Memo := ⟨180, 2, [(.slc 0 0 1 1), (.slc 1 0 1 1)], [(0, 0, 0), (0, 1, 0)], [(.cells [(.v (.int .u64 50001))] 233 0), (.cells [(.v (.int .u64 1))] 233 0)], (.slc 3 0 1 1), 2, [(3, (.cells [(.v (.int .u64 1))] 233 0))]⟩
theorem e240_ok : e240.Ok Tryz.prog noGl := memo_ok TF_ok O0_ok mixed TPl_ok 100000 (by kernel_rfl) (by kernel_rfl)
def e250 : Memo := ⟨180, 2, [(.slc 0 0 1 1), (.slc 1 0 1 1)], [(0, 0, 0), (0, 1, 0)], [(.cells [(.v (.int .u64 25001))] 233 0), (.cells [(.v (.int .u64 1))] 233 0)], (.slc 3 0 1 1), 2, [(3, (.cells [(.v (.int .u64 1))] 233 0))]⟩
theorem e250_ok : e250.Ok Tryz.prog noGl := memo_ok TF_ok O0_ok mixed TPl_ok 100000 (by kernel_rfl) (by kernel_rfl)
def e260 : Memo := ⟨180, 2, [(.slc 0 0 1 1), (.slc 1 0 1 1)], [(0, 0, 0), (0, 1, 0)], [(.cells [(.v (.int .u64 12501))] 233 0), (.cells [(.v (.int .u64 1))] 233 0)], (.slc 3 0 1 1), 2, [(3, (.cells [(.v (.int .u64 1))] 233 0))]⟩
theorem e260_ok : e260.Ok Tryz.prog noGl := memo_ok TF_ok O0_ok mixed TPl_ok 100000 (by kernel_rfl) (by kernel_rfl)
def e270 : Memo := ⟨180, 2, [(.slc 0 0 1 1), (.slc 1 0 1 1)], [(0, 0, 0), (0, 1, 0)], [(.cells [(.v (.int .u64 6251))] 233 0), (.cells [(.v (.int .u64 1))] 233 0)], (.slc 3 0 1 1), 2, [(3, (.cells [(.v (.int .u64 1))] 233 0))]⟩
theorem e270_ok : e270.Ok Tryz.prog noGl := memo_ok TF_ok O0_ok mixed TPl_ok 100000 (by kernel_rfl) (by kernel_rfl)
def e280 : Memo := ⟨180, 2, [(.slc 0 0 1 1), (.slc 1 0 1 1)], [(0, 0, 0), (0, 1, 0)], [(.cells [(.v (.int .u64 3126))] 233 0), (.cells [(.v (.int .u64 1))] 233 0)], (.slc 3 0 1 1), 2, [(3, (.cells [(.v (.int .u64 1))] 233 0))]⟩
theorem e280_ok : e280.Ok Tryz.prog noGl := memo_ok TF_ok O0_ok mixed TPl_ok 100000 (by kernel_rfl) (by kernel_rfl)
def e283 : Memo := ⟨183, 2, [(.slc 0 0 1 2), (.slc 1 0 1 1)], [(0, 0, 0), (0, 1, 0)], [(.cells [(.v (.int .u64 16)), (.v (.int .u64 0))] 233 0), (.cells [(.v (.int .u64 4))] 233 0)], (.tup [(.slc 2 0 1 1), (.slc 3 0 0 1)]), 2, [(2, (.cells [(.v (.int .u64 4))] 233 0)), (3, (.cells [(.v (.int .u64 0))] 233 0))]⟩
theorem e283_ok : e283.Ok Tryz.prog noGl := memo_ok TF_ok O0_ok mixed TPl_ok 100000 (by kernel_rfl) (by kernel_rfl)
def e287 : Memo := ⟨184, 2, [(.slc 0 0 1 1), (.slc 1 0 1 2)], [(0, 0, 0), (0, 1, 0)], [(.cells [(.v (.int .u64 4))] 233 0), (.cells [(.v (.int .u64 1)), (.v (.int .u64 0))] 233 0)], (.slc 2 0 1 2), 1, [(2, (.cells [(.v (.int .u64 4)), (.v (.int .u64 0))] 233 0))]⟩
theorem e287_ok : e287.Ok Tryz.prog noGl := memo_ok TF_ok O0_ok mixed TPl_ok 100000 (by kernel_rfl) (by kernel_rfl)
def e289 : Memo := ⟨183, 2, [(.slc 0 0 1 2), (.slc 1 0 1 1)], [(0, 0, 0), (0, 1, 0)], [(.cells [(.v (.int .u64 4)), (.v (.int .u64 0))] 233 0), (.cells [(.v (.int .u64 4))] 233 0)], (.tup [(.slc 2 0 1 1), (.slc 3 0 0 1)]), 2, [(2, (.cells [(.v (.int .u64 1))] 233 0)), (3, (.cells [(.v (.int .u64 0))] 233 0))]⟩
theorem e289_ok : e289.Ok Tryz.prog noGl := memo_ok TF_ok O0_ok mixed TPl_ok 100000 (by kernel_rfl) (by kernel_rfl)
def e296 : Memo := ⟨180, 2, [(.slc 0 0 1 1), (.slc 1 0 1 1)], [(0, 0, 0), (0, 1, 0)], [(.cells [(.v (.int .u64 1563))] 233 0), (.cells [(.v (.int .u64 1))] 233 0)], (.slc 3 0 1 1), 2, [(3, (.cells [(.v (.int .u64 1))] 233 0))]⟩
theorem e296_ok : e296.Ok Tryz.prog noGl := memo_ok TF_ok O0_ok mixed TPl_ok 100000 (by kernel_rfl) (by kernel_rfl)
end Go.Ev
