/- Part of an evaluator of calls that is proved sound, and of what it gives about this program. No condition of its own. -/
import Derived.Test.YtknbipaecnggcaaGreatDoorEvRh
import Derived.Laws.StructEq
set_option linter.unusedVariables false
set_option linter.unusedSimpArgs false
set_option linter.unusedSectionVars false
set_option maxRecDepth 100000
set_option maxHeartbeats 4000000
namespace Go.Ev
open Go.Proofs
def W2 (H : AH) (y : Value) (ms : List (Int × Int)) : Prop := ∃ a c, y = .slice a ms.length c ∧ (ms = [] ∨ ∃ b off vs, a = some ⟨b, off, none⟩ ∧ H.gl b = some vs ∧ ∀ (j : Nat) (p : Int × Int), ms[j]? = some p → (vs.drop (off + j * 2)).take 2 = [.int .i64 p.1, .int .i64 p.2] ∧ off + j * 2 + 2 ≤ vs.length)
theorem W2.keep {H H' : AH} {y : Value} {ms : List (Int × Int)} (h : W2 H y ms) (k : Keeps H H') : W2 H' y ms := by
 obtain ⟨a, c, h1, h2⟩ := h
 refine ⟨a, c, h1, ?_⟩
 rcases h2 with h2 | ⟨b, off, vs, h3, h4, h5⟩
 · exact .inl h2
 · exact .inr ⟨b, off, vs, h3, by rw [k.gl]; exact h4, h5⟩
section
variable {O : CallF} {T : List AV} {H H0 : AH} {ops : Array Oper} {o : Oper} {i : Nat} {π : List Stp} {K : AV → AH → Prop} {B : Nat → Nat → Prop} {KD : List AV → AH → Prop}
end
variable {O : CallF} (hq : Quiet O)
include hq
end Go.Ev
namespace Go.Ev
open Go.Proofs
noncomputable def fd (t : TypeId) (i : Nat) : Field := ((flds t)[i]?).getD ⟨"", 0, 0, false, "", "", 0⟩
class EqS (t : TypeId) : Prop where
 u : runPure Tryz.prog (underlying t) = some (.struct (flds t))
 l : (flds t).toList = [fd t 0, fd t 1]
 n0 : (fd t 0).name ≠ "_"
 n1 : (fd t 1).name ≠ "_"
 p0 : ∀ x y : Value, runPure Tryz.prog (part (fd t 0).type #[x, y] (fd t 0).offset) = some x
 p1 : ∀ x y : Value, runPure Tryz.prog (part (fd t 1).type #[x, y] (fd t 1).offset) = some y
 s : Tryz.prog.stoodInHeld t = false
 i0 : runPure Tryz.prog (underlying (fd t 0).type) = some (.int .i64)
 i1 : runPure Tryz.prog (underlying (fd t 1).type) = some (.int .i64)
 g : Tryz.prog.eqGuardType Tryz.prog.depth t = false
instance : EqS 24 := ⟨by kernel_rfl, by kernel_rfl, of_decide_eq_true (by kernel_rfl), of_decide_eq_true (by kernel_rfl), fun _ _ => by kernel_rfl, fun _ _ => by kernel_rfl, by kernel_rfl, by kernel_rfl, by kernel_rfl, by kernel_rfl⟩
instance : EqS 137 := ⟨by kernel_rfl, by kernel_rfl, of_decide_eq_true (by kernel_rfl), of_decide_eq_true (by kernel_rfl), fun _ _ => by kernel_rfl, fun _ _ => by kernel_rfl, by kernel_rfl, by kernel_rfl, by kernel_rfl, by kernel_rfl⟩
section
variable {O : CallF} {T : List AV} {H H0 : AH} {ops : Array Oper} {o : Oper} {i : Nat} {π : List Stp} {K : List AV → AH → Prop} {B : Nat → Nat → Prop}
end
instance : Stru 105 2 := ⟨by kernel_rfl, by kernel_rfl⟩
instance : Stru 137 2 := ⟨by kernel_rfl, by kernel_rfl⟩
variable {O : CallF} (hq : Quiet O)
include hq
theorem cFst (H : AH) (x : AV) (l : List Int) (hx : Sl H x (ivs l)) (hlen : l.length ≤ 1000) (K : AV → AH → Prop) (hk : K (iv (firstNZ l)) H) : Ca (ENV O) 29 [x] H K := by
 refine ca_intro (hq _ _ _ rfl) (fn := Tryz.f29) (by rfl) rfl ?_
 repeat (first | apply qN | refine qM rfl rfl ?_ | refine zq5 rfl rfl rfl rfl rfl ‹_› ?_ | apply qR | apply qS | apply qB)
 refine wp_loop (fun q T M H' => ∃ (i : Nat) (Y : List AV), q = l.length - i ∧ i ≤ l.length ∧ firstNZ l = firstNZ (l.drop i) ∧ H' = H ∧ M = [] ∧ T = (lget Y 0 :: lget Y 1 :: lget Y 2 :: lget Y 3 :: lget Y 4 :: x :: iv l.length :: iv (i : Nat) :: lget Y 5 :: lget Y 6 :: lget Y 7 :: lget Y 8 :: lget Y 9 :: lget Y 10 :: lget Y 11 :: [])) l.length
   ⟨0, [_,_,_,_,_,_,_,_,_,_,_,_], rfl, Nat.zero_le _, rfl, rfl, rfl, rfl⟩ ?_
 rintro q T M H' ⟨i, Y, hq1, hi, hsw, rfl, rfl, rfl⟩
 repeat (first | apply qR | apply qS)
 refine wops_cons (wop_cmp rfl rfl rfl rfl rfl (fun h => ?_) (fun h => ?_))
 rotate_left
 · have h : ¬ ((i : Int) < l.length) := of_decide_eq_false h
   have e : i = l.length := by omega
   rw [hsw, e, List.drop_length] at hk
   repeat (first | apply qN | refine qM rfl rfl ?_ | refine qF rfl ?_ | apply qR | apply qS | apply qE)
   refine wp_ret ?_
   exact ⟨_, _, rfl, hk⟩
 have h : (i : Int) < l.length := of_decide_eq_true h
 obtain ⟨z, hz⟩ := l_some (show i < l.length by omega)
 rw [drop_cons hz, firstNZ_cons] at hsw
 repeat (first | apply qN | refine qT rfl ?_ | apply qR | apply qS | apply qK | apply qB)
 refine wops_cons (o_indexI rfl rfl hx rfl hz fun p hp => ?_)
 repeat (first | apply qN | refine qM rfl rfl ?_ | refine zq6 rfl rfl ‹_› ?_ | apply qR | apply qS)
 refine wops_cons (wop_cmp rfl rfl rfl rfl rfl (fun h => ?_) (fun h => ?_))
 · have h : z ≠ 0 := by simpa using h
   rw [hsw, if_pos h] at hk
   repeat (first | apply qN | refine qM rfl rfl ?_ | refine qT rfl ?_ | apply qR | apply qS)
   refine wp_ret ?_
   exact ⟨_, _, rfl, hk⟩
 have h : ¬ z ≠ 0 := by simpa using h
 rw [if_neg h] at hsw
 repeat (first | apply qN | refine qM rfl rfl ?_ | refine zq4 rfl rfl rfl rfl (inc (by omega)) ?_ | refine qF rfl ?_ | apply qR | apply qK)
 exact ⟨l.length - (i + 1), by omega, i + 1, [_,_,_,_,_,_,_,_,_,_,_,_], rfl, by omega, hsw, rfl, rfl, rfl⟩
end Go.Ev
