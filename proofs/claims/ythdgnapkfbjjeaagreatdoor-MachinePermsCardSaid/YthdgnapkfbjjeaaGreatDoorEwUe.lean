/- Part of an evaluator of calls that is proved sound, and of what it gives about this program. No condition of its own. -/
import Derived.Test.YthdgnapkfbjjeaaGreatDoorEwUb
import Derived.Test.YthdgnapkfbjjeaaGreatDoorEwSb
set_option linter.unusedVariables false
set_option linter.unusedSimpArgs false
set_option linter.unusedSectionVars false
set_option maxRecDepth 100000
set_option maxHeartbeats 4000000
namespace Go.Ev
open Go.Proofs
theorem Gr.ky {H : AH} {s : AV} {l : List Int} (h : Gr H 3 s (ivs l)) : Ky H s l := by
 refine ⟨h.sl, h.old, ?_, fun b hb => ?_⟩
 · rcases h with ⟨rfl, _⟩ | ⟨b, _, _, rfl, _⟩
   · exact Nat.le_refl _
   · trivial
 · rcases h with ⟨rfl, _⟩ | ⟨b', h1, _, rfl, h2⟩
   · cases hb
   · cases hb
     exact ⟨h1, by rw [h2]; simp [sameBlk, beqs_ivs]⟩
variable {O : CallF} (hq : Quiet O)
include hq
theorem cSameI (H : AH) (x y : AV) (l l2 : List Int) (hx : Sl H x (ivs l)) (hy : Sl H y (ivs l2)) (hlen : l.length ≤ 100000) (hlen2 : l2.length ≤ 100000) (K : AV → AH → Prop) (hk : K (.v (.bool (decide (l = l2)))) H) : Ca (ENV O) 22 [x, y] H K := by
 refine ca_intro (hq _ _ _ rfl) (fn := Tryz.f22) (by rfl) rfl ?_
 repeat (first | apply qN | refine qM rfl rfl ?_ | refine zq4 rfl rfl rfl rfl (inc (by omega)) ?_ | refine zq5 rfl rfl rfl rfl rfl ‹_› ?_ | refine zq6 rfl rfl ‹_› ?_ | refine qT rfl ?_ | refine qF rfl ?_ | apply qR | apply qS | apply qK | apply qE | apply qB)
 refine wops_cons (wop_cmp rfl rfl rfl rfl rfl (fun h => ?_) (fun h => ?_))
 · have h1 : ¬ (l.length : Int) = l2.length := by simpa [binI] using h
   have h1 : ¬ l.length = l2.length := fun e => h1 (by rw [e])
   have e : decide (l = l2) = false := decide_eq_false fun e => h1 (by rw [e])
   rw [e] at hk
   repeat (first | apply qN | refine qM rfl rfl ?_ | refine zq4 rfl rfl rfl rfl (inc (by omega)) ?_ | refine zq5 rfl rfl rfl rfl rfl ‹_› ?_ | refine zq6 rfl rfl ‹_› ?_ | refine qT rfl ?_ | refine qF rfl ?_ | apply qR | apply qS | apply qK | apply qE | apply qB)
   refine wp_ret ?_
   exact ⟨_, _, rfl, hk⟩
 have hL : (l.length : Int) = l2.length := by simpa [binI] using h
 have hL : l.length = l2.length := by omega
 clear h
 repeat (first | apply qN | refine qM rfl rfl ?_ | refine zq4 rfl rfl rfl rfl (inc (by omega)) ?_ | refine zq5 rfl rfl rfl rfl rfl ‹_› ?_ | refine zq6 rfl rfl ‹_› ?_ | refine qT rfl ?_ | refine qF rfl ?_ | apply qR | apply qS | apply qK | apply qE | apply qB)
 refine wp_loop (fun k T M H' => ∃ (i : Nat) (Y : List AV), k = l.length - i ∧ i ≤ l.length ∧ (∀ j, j < i → l[j]? = l2[j]?) ∧ M = [] ∧ H' = H ∧ T = (x :: y :: lget Y 0 :: lget Y 1 :: lget Y 2 :: iv (i : Nat) :: lget Y 3 :: lget Y 4 :: lget Y 5 :: lget Y 6 :: lget Y 7 :: lget Y 8 :: lget Y 9 :: lget Y 10 :: lget Y 11 :: lget Y 12 :: lget Y 13 :: lget Y 14 :: lget Y 15 :: lget Y 16 :: lget Y 17 :: lget Y 18 :: lget Y 19 :: lget Y 20 :: lget Y 21 :: lget Y 22 :: [])) l.length
   ⟨0, [_,_,_,_,_,_,_,_,_,_,_,_,_,_,_,_,_,_,_,_,_,_,_], rfl, Nat.zero_le _, fun j h => absurd h (Nat.not_lt_zero _), rfl, rfl, rfl⟩ ?_
 rintro k T M H' ⟨i, Y, hk1, hi, hpre, rfl, rfl, rfl⟩
 repeat (first | apply qN | refine qM rfl rfl ?_ | refine zq4 rfl rfl rfl rfl (inc (by omega)) ?_ | refine zq5 rfl rfl rfl rfl rfl ‹_› ?_ | refine zq6 rfl rfl ‹_› ?_ | refine qT rfl ?_ | refine qF rfl ?_ | apply qR | apply qS | apply qK | apply qE | apply qB)
 refine wops_cons (wop_cmp rfl rfl rfl rfl rfl (fun h => ?_) (fun h => ?_))
 rotate_left
 · have h : ¬ ((i : Int) < l.length) := of_decide_eq_false h
   have e : l = l2 := List.ext_getElem? fun j => by
     by_cases hj : j < i
     · exact hpre j hj
     · rw [List.getElem?_eq_none (by omega), List.getElem?_eq_none (by omega)]
   rw [decide_eq_true e] at hk
   repeat (first | apply qN | refine qM rfl rfl ?_ | refine zq4 rfl rfl rfl rfl (inc (by omega)) ?_ | refine zq5 rfl rfl rfl rfl rfl ‹_› ?_ | refine zq6 rfl rfl ‹_› ?_ | refine qT rfl ?_ | refine qF rfl ?_ | apply qR | apply qS | apply qK | apply qE | apply qB)
   refine wp_ret ?_
   exact ⟨_, _, rfl, hk⟩
 have h : (i : Int) < l.length := of_decide_eq_true h
 obtain ⟨z, hz⟩ := l_some (show i < l.length by omega)
 obtain ⟨w, hw⟩ := l_some (show i < l2.length by omega)
 repeat (first | apply qN | refine qM rfl rfl ?_ | refine zq4 rfl rfl rfl rfl (inc (by omega)) ?_ | refine zq5 rfl rfl rfl rfl rfl ‹_› ?_ | refine zq6 rfl rfl ‹_› ?_ | refine qT rfl ?_ | refine qF rfl ?_ | apply qR | apply qS | apply qK | apply qE | apply qB)
 refine wp_drawC AnyB rfl ?_
 repeat (first | refine wc_move (by decide) rfl rfl rfl ?_)
 refine wc_index (by decide) rfl rfl rfl hx rfl (ivs_get hz) fun p hp => ?_
 refine wc_load (by decide) rfl rfl rfl hp ?_
 repeat (first | refine wc_move (by decide) rfl rfl rfl ?_)
 refine wc_index (by decide) rfl rfl rfl hy rfl (ivs_get hw) fun p hp => ?_
 refine wc_load (by decide) rfl rfl rfl hp ?_
 refine wc_bin (op := .neq) (v := .bool (!decide (z = w))) (by decide) rfl rfl rfl rfl rfl (by simp [binI, bne]; by_cases e : z = w <;> simp [e]) ?_
 refine wc_nil ?_
 repeat (first | apply qN | refine qM rfl rfl ?_ | refine zq4 rfl rfl rfl rfl (inc (by omega)) ?_ | refine zq5 rfl rfl rfl rfl rfl ‹_› ?_ | refine zq6 rfl rfl ‹_› ?_ | refine qT rfl ?_ | refine qF rfl ?_ | apply qR | apply qS | apply qK | apply qE | apply qB)
 refine wp_cond rfl (fun h => ?_) (fun h => ?_)
 · have hne : z ≠ w := by simpa using h
   have e : decide (l = l2) = false := decide_eq_false fun e => hne (by rw [e, hw] at hz; exact (Option.some.inj hz).symm)
   rw [e] at hk
   repeat (first | apply qN | refine qM rfl rfl ?_ | refine zq4 rfl rfl rfl rfl (inc (by omega)) ?_ | refine zq5 rfl rfl rfl rfl rfl ‹_› ?_ | refine zq6 rfl rfl ‹_› ?_ | refine qT rfl ?_ | refine qF rfl ?_ | apply qR | apply qS | apply qK | apply qE | apply qB)
   refine wp_ret ?_
   exact ⟨_, _, rfl, hk⟩
 · have he : z = w := by simpa using h
   repeat (first | apply qN | refine qM rfl rfl ?_ | refine zq4 rfl rfl rfl rfl (inc (by omega)) ?_ | refine zq5 rfl rfl rfl rfl rfl ‹_› ?_ | refine zq6 rfl rfl ‹_› ?_ | refine qT rfl ?_ | refine qF rfl ?_ | apply qR | apply qS | apply qK | apply qE | apply qB)
   refine ⟨l.length - (i + 1), by omega, i + 1, [_,_,_,_,_,_,_,_,_,_,_,_,_,_,_,_,_,_,_,_,_,_,_], rfl, by omega, fun j hj => ?_, rfl, rfl, rfl⟩
   by_cases e : j = i
   · rw [e, hz, hw, he]
   · exact hpre j (by omega)
end Go.Ev
