/- Part of an evaluator of calls that is proved sound, and of what it gives about this program. No condition of its own. -/
import Derived.Test.YthdgnapkfbjjeaaGreatDoorEwUe
import Derived.Test.YthdgnapkfbjjeaaGreatDoorEwPc
set_option linter.unusedVariables false
set_option linter.unusedSimpArgs false
set_option linter.unusedSectionVars false
set_option maxRecDepth 100000
set_option maxHeartbeats 4000000
namespace Go.Ev
open Go.Proofs
structure Vld (m : Mc) (l : List Int) (n : Nat) : Prop where
 hg : m.g = n
 hn1 : 1 ≤ n
 hn : n ≤ 16
 hm0 : mE m = 0
 hsw : m.sw.length ≤ 1000
 hle : l.length ≤ 4 * n
 hl : InR (4 * n) l
 hd : l.Nodup
section
variable {m : Mc} {l : List Int} {n : Nat}
theorem Vld.ok (h : Vld m l n) : OkP (permL m n) := permL_okP h.hg
theorem Vld.len (h : Vld m l n) : (permL m n).length = 4 * n := permL_len h.hg
theorem Vld.inr (h : Vld m l n) : InR (4 * n) (permL m n) := fun z hz => by
 obtain ⟨i, hi⟩ := List.mem_iff_getElem?.1 hz
 have := h.ok.1 i z hi
 rw [h.len] at this
 omega
theorem Vld.back (h : Vld m l n) : ∀ z ∈ l, it (fOf (permL m n)) (perd (fOf (permL m n)) (4 * n)) z.toNat = z.toNat := fun z hz => by
 have hz := h.hl z hz
 exact (h.ok.pm.round (i := perd (fOf (permL m n)) (4 * n))).2 (by rw [h.len]; exact Nat.dvd_refl _) z.toNat (by rw [h.len]; omega)
end
variable {O : CallF} (hq : Quiet O)
include hq
end Go.Ev
