/- Part of an evaluator of calls that is proved sound, and of what it gives about this program. No condition of its own. -/
import Derived.Test.YtcbmpnddhnkfnaaGreatDoorEwUb
import Derived.Test.YtcbmpnddhnkfnaaGreatDoorEwSb
set_option linter.unusedVariables false
set_option linter.unusedSimpArgs false
set_option linter.unusedSectionVars false
set_option maxRecDepth 100000
set_option maxHeartbeats 4000000
namespace Go.Ev
open Go.Proofs
def meetAt (m : Mc) (n a b k : Nat) : Prop := pairB m ((it (fOf (permL m n)) k a : Nat) : Int) ((it (fOf (permL m n)) k b : Nat) : Int)
variable {O : CallF} (hq : Quiet O)
include hq
end Go.Ev
namespace Go.Ev
open Go.Proofs
theorem Gr.ky {H : AH} {s : AV} {l : List Int} (h : Gr H 3 s (ivs l)) : Ky H s l := by
 refine ⟨h.sl, h.old, ?_, fun b hb => ?_⟩
 · rcases h with ⟨rfl, _⟩ | ⟨b, _, _, rfl, _⟩
   · exact Nat.le_refl _
   · trivial
 · rcases h with ⟨rfl, _⟩ | ⟨b', h1, _, rfl, h2⟩
   · cases hb
   · cases hb
     exact ⟨h1, by rw [h2]; simp [sameBlk, beqs_ivs]⟩
theorem now_getP {P l : List Int} (h : OkPq P) (hl : InR P.length l) {i : Nat} {z : Int} (hz : l[i]? = some z) (k : Nat) : ∃ w, (powL' P (k : Int))[z.toNat]? = some w ∧ (nowL P l k)[i]? = some w := by
 have hzb := hl z (List.mem_of_getElem? hz)
 obtain ⟨w, hw⟩ := l_some (l := powL' P (k : Int)) (i := z.toNat) (by rw [powL_length]; omega)
 refine ⟨w, hw, ?_⟩
 rw [← pow_now h hl k, List.getElem?_map, hz]
 show some ((powL' P (k : Int)).getD z.toNat 0) = _
 rw [List.getD_eq_getElem?_getD, hw]
 rfl
variable {O : CallF} (hq : Quiet O)
include hq
end Go.Ev
