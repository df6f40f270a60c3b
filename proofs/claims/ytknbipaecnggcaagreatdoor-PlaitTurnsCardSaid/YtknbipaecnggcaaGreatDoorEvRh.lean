/- Part of an evaluator of calls that is proved sound, and of what it gives about this program. No condition of its own. -/
import Derived.Test.YtknbipaecnggcaaGreatDoorEvRe
set_option linter.unusedVariables false
set_option linter.unusedSimpArgs false
set_option linter.unusedSectionVars false
set_option maxRecDepth 100000
set_option maxHeartbeats 4000000
namespace Go.Ev
open Go.Proofs
noncomputable def flds (t : TypeId) := match runPure Tryz.prog (underlying t) with | some (.struct f) => f | _ => #[]
class PrS (t : TypeId) : Prop where
 z : runPure Tryz.prog (zeroValue t) = some (.agg #[.int .i64 0, .int .i64 0])
 u : runPure Tryz.prog (underlying t) = some (.struct (flds t))
 p : runPure Tryz.prog ((flds t).mapM fun f => do pure (f.offset, ← sizeOf f.type)) = some #[(0, 1), (1, 1)]
instance : PrS 105 := ⟨by kernel_rfl, by kernel_rfl, by kernel_rfl⟩
theorem first2 {a b : Int} (h : firstNZ [a, b] = 0) : a = 0 ∧ b = 0 := by
 unfold firstNZ at h
 by_cases ha : a = 0
 · refine ⟨ha, ?_⟩
   rw [if_neg (by simpa using ha)] at h
   unfold firstNZ at h
   by_cases hb : b = 0
   · exact hb
   · rw [if_pos hb] at h; exact h
 · rw [if_pos ha] at h; exact absurd h ha
theorem chkE_len {l : List Int} (h : chkE l = 0) : 4 ≤ l.length ∧ l.length ≤ 64 := by
 unfold chkE firstNZ at h
 by_cases h4 : (4 : Int) ≤ (l.length : Int)
 · rw [decide_eq_true h4] at h
   simp only [if_true, firstNZ, ne_eq, not_true, if_false] at h
   by_cases h64 : (l.length : Int) ≤ 64
   · omega
   · rw [decide_eq_false h64] at h
     simp at h
 · rw [decide_eq_false h4] at h
   simp at h
variable {O : CallF} (hq : Quiet O)
include hq
end Go.Ev
