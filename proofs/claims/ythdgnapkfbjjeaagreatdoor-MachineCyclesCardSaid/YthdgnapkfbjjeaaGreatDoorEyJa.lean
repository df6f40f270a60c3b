/- Part of an evaluator of calls that is proved sound, and of what it gives about this program. No condition of its own. -/
import Derived.Test.YthdgnapkfbjjeaaGreatDoorEyIb
import Derived.Test.YthdgnapkfbjjeaaGreatDoorEyHy
set_option linter.unusedVariables false
set_option linter.unusedSimpArgs false
set_option linter.unusedSectionVars false
set_option maxRecDepth 100000
set_option maxHeartbeats 4000000
namespace Go.Ev
def InR (n : Nat) (l : List Int) : Prop := ∀ z ∈ l, 0 ≤ z ∧ z < (n : Int)
theorem tm {a n : Int} (h : 0 ≤ a) : a.tmod n = a % n := Int.tmod_eq_emod_of_nonneg h
end Go.Ev
namespace Go.Ev
open Go.Proofs
theorem takeMarks_ok : ∀ {M : List Nat} {H : AH}, M.Nodup → (∀ b ∈ M, H.get b = some .dfd ∧ b < 2 ^ 39) → ∃ H', takeMarks M H = some H' ∧ H'.next = H.next ∧ H'.gl = H.gl ∧ ∀ b, b ∉ M → H'.get b = H.get b
 | [], H, _, _ => ⟨H, rfl, rfl, rfl, fun _ _ => rfl⟩
 | b :: M, H, hn, h => by
   obtain ⟨h1, h2⟩ := h b (by simp)
   obtain ⟨hb, hn⟩ := List.nodup_cons.1 hn
   obtain ⟨H', k1, k2, k3, k4⟩ := takeMarks_ok (M := M) (H := H.set b (some .shut)) hn fun c hc => by
     rw [AH.get_set _ _ _ _ h2, if_neg (fun e => hb (by rw [← e]; exact hc))]
     exact h c (by simp [hc])
   refine ⟨H', ?_, k2, k3, fun c hc => ?_⟩
   · unfold takeMarks; rw [h1]; exact k1
   · rw [k4 c (fun e => hc (by simp [e])), AH.get_set _ _ _ _ h2, if_neg (fun e => hc (by simp [e]))]
section
variable {O : CallF} {T : List AV} {H : AH}
end
variable {O : CallF} (hq : Quiet O)
include hq
end Go.Ev
