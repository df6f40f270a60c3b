/- Part of an evaluator of calls that is proved sound, and of what it gives about this program. No condition of its own. -/
import Derived.Test.YthmbdpdojjcgkaaGreatDoorEvFive
import Derived.Test.YthmbdpdojjcgkaaGreatDoorEvSevenE
set_option linter.unusedVariables false
set_option linter.unusedSimpArgs false
set_option linter.unusedSectionVars false
set_option maxRecDepth 1000000
namespace Go.Ev
open Go.Proofs
abbrev w64 (n : Nat) : AV := .v (.int .u64 n)
def blkV (c v : Nat) : AB := .cells (match c with | 0 => [w64 v] | _ => [w64 v, w64 0]) 110 0
def decS (n : Nat) : ByteArray := ⟨match Nat.blt n 10 with | true => #[UInt8.ofNat (48 + n)] | false => #[UInt8.ofNat (48 + n / 10), UInt8.ofNat (48 + n % 10)]⟩
abbrev txt (n : Nat) : AV := .v (.string (decS n))
abbrev igr (b c : Nat) : AV := .agg [.v (.bool false), .slc b 0 1 c]
abbrev frc (b c : Nat) : AV := .agg [.v (.bool false), .slc b 0 1 c, .v (.slice none 0 0)]
def mIO (m : Nat) : Memo := ⟨34, 0, [.v (.int .i64 m)], [], [], igr 1 1, 2, [(1, .cells [w64 m] 110 0)]⟩
def mCM (c v m : Nat) : Memo := ⟨35, 2, [igr 0 (c + 1), igr 1 1], [(0, 0, 1), (0, 1, 1)], [blkV c v, .cells [w64 m] 110 0], igr 28 2, 30, [(28, blkV 1 (Nat.lcm v m))]⟩
def mWH (c v : Nat) : Memo := ⟨37, 1, [igr 0 (c + 1)], [(0, 0, 1)], [blkV c v], frc 0 (c + 1), 2, []⟩
def mWR (c v : Nat) : Memo := ⟨36, 1, [frc 0 (c + 1)], [(0, 0, 1)], [blkV c v], .tup [txt v, .v (.int .i64 0)], 5, []⟩
def mCK (v : Nat) : Memo := ⟨16, 0, [txt v], [], [], .v (.int .i64 0), 0, []⟩
def mTI (v : Nat) : Memo := ⟨17, 0, [txt v], [], [], .tup [.v (.int .i64 v), .v (.bool true)], 5, []⟩
noncomputable def Onone : CallF := fun _ _ _ => none
theorem Onone_ok : CallOk Tryz.prog Onone := fun _ _ _ _ _ h => by cases h
theorem kIO1 : (mIO 1).Ok Tryz.prog noGl := memo_ok TF_ok Onone_ok mixed TPl_ok 100000 (by kernel_rfl) (by kernel_rfl)
theorem kIO4 : (mIO 4).Ok Tryz.prog noGl := memo_ok TF_ok Onone_ok mixed TPl_ok 100000 (by kernel_rfl) (by kernel_rfl)
theorem kIO8 : (mIO 8).Ok Tryz.prog noGl := memo_ok TF_ok Onone_ok mixed TPl_ok 100000 (by kernel_rfl) (by kernel_rfl)
theorem kIO12 : (mIO 12).Ok Tryz.prog noGl := memo_ok TF_ok Onone_ok mixed TPl_ok 100000 (by kernel_rfl) (by kernel_rfl)
theorem kIO16 : (mIO 16).Ok Tryz.prog noGl := memo_ok TF_ok Onone_ok mixed TPl_ok 100000 (by kernel_rfl) (by kernel_rfl)
theorem kIO20 : (mIO 20).Ok Tryz.prog noGl := memo_ok TF_ok Onone_ok mixed TPl_ok 100000 (by kernel_rfl) (by kernel_rfl)
theorem kIO24 : (mIO 24).Ok Tryz.prog noGl := memo_ok TF_ok Onone_ok mixed TPl_ok 100000 (by kernel_rfl) (by kernel_rfl)
theorem kIO28 : (mIO 28).Ok Tryz.prog noGl := memo_ok TF_ok Onone_ok mixed TPl_ok 100000 (by kernel_rfl) (by kernel_rfl)
theorem kIO32 : (mIO 32).Ok Tryz.prog noGl := memo_ok TF_ok Onone_ok mixed TPl_ok 100000 (by kernel_rfl) (by kernel_rfl)
theorem kWH4 : (mWH 1 4).Ok Tryz.prog noGl := memo_ok TF_ok Onone_ok mixed TPl_ok 100000 (by kernel_rfl) (by kernel_rfl)
theorem kWR4 : (mWR 1 4).Ok Tryz.prog noGl := memo_ok TF_ok Onone_ok mixed TPl_ok 100000 (by kernel_rfl) (by kernel_rfl)
theorem kCK4 : (mCK 4).Ok Tryz.prog noGl := memo_ok TF_ok Onone_ok mixed TPl_ok 100000 (by kernel_rfl) (by kernel_rfl)
theorem kTI4 : (mTI 4).Ok Tryz.prog noGl := memo_ok TF_ok Onone_ok mixed TPl_ok 100000 (by kernel_rfl) (by kernel_rfl)
theorem kWH8 : (mWH 1 8).Ok Tryz.prog noGl := memo_ok TF_ok Onone_ok mixed TPl_ok 100000 (by kernel_rfl) (by kernel_rfl)
theorem kWR8 : (mWR 1 8).Ok Tryz.prog noGl := memo_ok TF_ok Onone_ok mixed TPl_ok 100000 (by kernel_rfl) (by kernel_rfl)
theorem kCK8 : (mCK 8).Ok Tryz.prog noGl := memo_ok TF_ok Onone_ok mixed TPl_ok 100000 (by kernel_rfl) (by kernel_rfl)
theorem kTI8 : (mTI 8).Ok Tryz.prog noGl := memo_ok TF_ok Onone_ok mixed TPl_ok 100000 (by kernel_rfl) (by kernel_rfl)
theorem kWH12 : (mWH 1 12).Ok Tryz.prog noGl := memo_ok TF_ok Onone_ok mixed TPl_ok 100000 (by kernel_rfl) (by kernel_rfl)
theorem kWR12 : (mWR 1 12).Ok Tryz.prog noGl := memo_ok TF_ok Onone_ok mixed TPl_ok 100000 (by kernel_rfl) (by kernel_rfl)
theorem kCK12 : (mCK 12).Ok Tryz.prog noGl := memo_ok TF_ok Onone_ok mixed TPl_ok 100000 (by kernel_rfl) (by kernel_rfl)
theorem kTI12 : (mTI 12).Ok Tryz.prog noGl := memo_ok TF_ok Onone_ok mixed TPl_ok 100000 (by kernel_rfl) (by kernel_rfl)
theorem kWH16 : (mWH 1 16).Ok Tryz.prog noGl := memo_ok TF_ok Onone_ok mixed TPl_ok 100000 (by kernel_rfl) (by kernel_rfl)
theorem kWR16 : (mWR 1 16).Ok Tryz.prog noGl := memo_ok TF_ok Onone_ok mixed TPl_ok 100000 (by kernel_rfl) (by kernel_rfl)
theorem kCK16 : (mCK 16).Ok Tryz.prog noGl := memo_ok TF_ok Onone_ok mixed TPl_ok 100000 (by kernel_rfl) (by kernel_rfl)
theorem kTI16 : (mTI 16).Ok Tryz.prog noGl := memo_ok TF_ok Onone_ok mixed TPl_ok 100000 (by kernel_rfl) (by kernel_rfl)
theorem kWH20 : (mWH 1 20).Ok Tryz.prog noGl := memo_ok TF_ok Onone_ok mixed TPl_ok 100000 (by kernel_rfl) (by kernel_rfl)
theorem kWR20 : (mWR 1 20).Ok Tryz.prog noGl := memo_ok TF_ok Onone_ok mixed TPl_ok 100000 (by kernel_rfl) (by kernel_rfl)
theorem kCK20 : (mCK 20).Ok Tryz.prog noGl := memo_ok TF_ok Onone_ok mixed TPl_ok 100000 (by kernel_rfl) (by kernel_rfl)
theorem kTI20 : (mTI 20).Ok Tryz.prog noGl := memo_ok TF_ok Onone_ok mixed TPl_ok 100000 (by kernel_rfl) (by kernel_rfl)
theorem kWH24 : (mWH 1 24).Ok Tryz.prog noGl := memo_ok TF_ok Onone_ok mixed TPl_ok 100000 (by kernel_rfl) (by kernel_rfl)
theorem kWR24 : (mWR 1 24).Ok Tryz.prog noGl := memo_ok TF_ok Onone_ok mixed TPl_ok 100000 (by kernel_rfl) (by kernel_rfl)
theorem kCK24 : (mCK 24).Ok Tryz.prog noGl := memo_ok TF_ok Onone_ok mixed TPl_ok 100000 (by kernel_rfl) (by kernel_rfl)
theorem kTI24 : (mTI 24).Ok Tryz.prog noGl := memo_ok TF_ok Onone_ok mixed TPl_ok 100000 (by kernel_rfl) (by kernel_rfl)
theorem kWH28 : (mWH 1 28).Ok Tryz.prog noGl := memo_ok TF_ok Onone_ok mixed TPl_ok 100000 (by kernel_rfl) (by kernel_rfl)
theorem kWR28 : (mWR 1 28).Ok Tryz.prog noGl := memo_ok TF_ok Onone_ok mixed TPl_ok 100000 (by kernel_rfl) (by kernel_rfl)
theorem kCK28 : (mCK 28).Ok Tryz.prog noGl := memo_ok TF_ok Onone_ok mixed TPl_ok 100000 (by kernel_rfl) (by kernel_rfl)
theorem kTI28 : (mTI 28).Ok Tryz.prog noGl := memo_ok TF_ok Onone_ok mixed TPl_ok 100000 (by kernel_rfl) (by kernel_rfl)
theorem kWH32 : (mWH 1 32).Ok Tryz.prog noGl := memo_ok TF_ok Onone_ok mixed TPl_ok 100000 (by kernel_rfl) (by kernel_rfl)
theorem kWR32 : (mWR 1 32).Ok Tryz.prog noGl := memo_ok TF_ok Onone_ok mixed TPl_ok 100000 (by kernel_rfl) (by kernel_rfl)
theorem kCK32 : (mCK 32).Ok Tryz.prog noGl := memo_ok TF_ok Onone_ok mixed TPl_ok 100000 (by kernel_rfl) (by kernel_rfl)
theorem kTI32 : (mTI 32).Ok Tryz.prog noGl := memo_ok TF_ok Onone_ok mixed TPl_ok 100000 (by kernel_rfl) (by kernel_rfl)
theorem kWH40 : (mWH 1 40).Ok Tryz.prog noGl := memo_ok TF_ok Onone_ok mixed TPl_ok 100000 (by kernel_rfl) (by kernel_rfl)
theorem kWR40 : (mWR 1 40).Ok Tryz.prog noGl := memo_ok TF_ok Onone_ok mixed TPl_ok 100000 (by kernel_rfl) (by kernel_rfl)
theorem kCK40 : (mCK 40).Ok Tryz.prog noGl := memo_ok TF_ok Onone_ok mixed TPl_ok 100000 (by kernel_rfl) (by kernel_rfl)
theorem kTI40 : (mTI 40).Ok Tryz.prog noGl := memo_ok TF_ok Onone_ok mixed TPl_ok 100000 (by kernel_rfl) (by kernel_rfl)
theorem kWH48 : (mWH 1 48).Ok Tryz.prog noGl := memo_ok TF_ok Onone_ok mixed TPl_ok 100000 (by kernel_rfl) (by kernel_rfl)
theorem kWR48 : (mWR 1 48).Ok Tryz.prog noGl := memo_ok TF_ok Onone_ok mixed TPl_ok 100000 (by kernel_rfl) (by kernel_rfl)
theorem kCK48 : (mCK 48).Ok Tryz.prog noGl := memo_ok TF_ok Onone_ok mixed TPl_ok 100000 (by kernel_rfl) (by kernel_rfl)
theorem kTI48 : (mTI 48).Ok Tryz.prog noGl := memo_ok TF_ok Onone_ok mixed TPl_ok 100000 (by kernel_rfl) (by kernel_rfl)
theorem kWH60 : (mWH 1 60).Ok Tryz.prog noGl := memo_ok TF_ok Onone_ok mixed TPl_ok 100000 (by kernel_rfl) (by kernel_rfl)
theorem kWR60 : (mWR 1 60).Ok Tryz.prog noGl := memo_ok TF_ok Onone_ok mixed TPl_ok 100000 (by kernel_rfl) (by kernel_rfl)
theorem kCK60 : (mCK 60).Ok Tryz.prog noGl := memo_ok TF_ok Onone_ok mixed TPl_ok 100000 (by kernel_rfl) (by kernel_rfl)
theorem kTI60 : (mTI 60).Ok Tryz.prog noGl := memo_ok TF_ok Onone_ok mixed TPl_ok 100000 (by kernel_rfl) (by kernel_rfl)
end Go.Ev
