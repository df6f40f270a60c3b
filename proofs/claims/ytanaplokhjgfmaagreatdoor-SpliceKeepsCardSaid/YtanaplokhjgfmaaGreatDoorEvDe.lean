/- Part of an evaluator of calls that is proved sound, and of what it gives about this program. No condition of its own. -/
import Derived.Test.YtanaplokhjgfmaaGreatDoorEvDd
set_option linter.unusedVariables false
set_option linter.unusedSimpArgs false
set_option linter.unusedSectionVars false
set_option maxRecDepth 100000
set_option maxHeartbeats 4000000
namespace Go.Ev
open Go.Proofs
variable {O : CallF} (hq : Quiet O)
include hq
theorem cOut (H : AH) (n lo hi : Int) (K : AV → AH → Prop) (hk : K (.v (.bool (!inB n lo hi))) H) : Ca (ENV O) 67 [iv n, iv lo, iv hi] H K := by
 refine ca_intro (hq _ _ _ rfl) (fn := Tryz.f67) (by rfl) rfl ?_
 repeat (first | apply qN | refine qM rfl rfl ?_ | apply qR | apply qS)
 by_cases h : n < lo
 · have e : inB n lo hi = false := by
     rw [Bool.eq_false_iff]; intro h2; have := inB_iff.1 h2; omega
   rw [e] at hk
   refine wops_cons (wop_bin (op := .lss) (v := .bool true) rfl rfl rfl rfl (by simp [binI, h]) ?_)
   repeat (first | apply qN | refine zq1 rfl rfl ?_ | refine qM rfl rfl ?_ | refine zq7 rfl rfl rfl ?_)
   refine wp_ret ?_
   exact ⟨_, _, rfl, hk⟩
 · refine wops_cons (wop_bin (op := .lss) (v := .bool false) rfl rfl rfl rfl (by simp [binI]; omega) ?_)
   repeat (first | refine qM rfl rfl ?_)
   by_cases h2 : n > hi
   · have e : inB n lo hi = false := by
       rw [Bool.eq_false_iff]; intro h2; have := inB_iff.1 h2; omega
     rw [e] at hk
     refine wops_cons (wop_bin (op := .gtr) (v := .bool true) rfl rfl rfl rfl (by simp [binI, h2]) ?_)
     repeat (first | apply qN | refine qM rfl rfl ?_ | refine zq7 rfl rfl rfl ?_)
     refine wp_ret ?_
     exact ⟨_, _, rfl, hk⟩
   · have e : inB n lo hi = true := inB_iff.2 (by omega)
     rw [e] at hk
     refine wops_cons (wop_bin (op := .gtr) (v := .bool false) rfl rfl rfl rfl (by simp [binI]; omega) ?_)
     repeat (first | apply qN | refine qM rfl rfl ?_ | refine zq7 rfl rfl rfl ?_)
     refine wp_ret ?_
     exact ⟨_, _, rfl, hk⟩
end Go.Ev
namespace Go.Ev
open Go.Proofs
section
variable {O : CallF} {T : List AV} {H H0 : AH} {ops : Array Oper} {o : Oper} {i : Nat} {π : List Stp} {B : Nat → Nat → Prop}
theorem WY.mem {K : List AV → AH → Prop} (P : AH → Prop) (h : P H) (hw : ∀ H, P H → WY (ENV O) ops H0 B π T H K) : WY (ENV O) ops H0 B π T H K := hw H h
end
variable {O : CallF} (hq : Quiet O)
include hq
end Go.Ev
