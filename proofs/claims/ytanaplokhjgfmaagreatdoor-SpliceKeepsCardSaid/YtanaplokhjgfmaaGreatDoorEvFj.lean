/- Part of an evaluator of calls that is proved sound, and of what it gives about this program. No condition of its own. -/
import Derived.Test.YtanaplokhjgfmaaGreatDoorEvFg
set_option linter.unusedVariables false
set_option linter.unusedSimpArgs false
set_option linter.unusedSectionVars false
set_option maxRecDepth 100000
set_option maxHeartbeats 4000000
namespace Go.Ev
open Go.Proofs
def lkP2 (m : Int) : Nat → List Int → Int × Int
 | _, [] => (0, 7)
 | i, z :: l => if z < m then ((i : Int), 0) else lkP2 m (i + 1) l
variable {O : CallF} (hq : Quiet O)
include hq
theorem c37 (H : AH) (r : Ru) (rv x y : AV) (tk gp : List Int) (hrv : rv.cells = r.cs) (hx : Ky H x tk) (hy : Ky H y gp) (hsta : staE r tk gp = 0) (hr : H.next + 30000 < 2 ^ 59) (K : AV → AH → Prop)
   (hk : ∀ H', Keeps H H' → H'.next ≤ H.next + 9100 → K (.tup [iv (lkP2 (r.f + r.t) 0 tk).1, iv (lkP2 (r.f + r.t) 0 tk).2]) H') : Ca (ENV O) 37 [rv, .agg [x, y]] H K := by
 refine ca_intro (hq _ _ _ rfl) (fn := Tryz.f37) (by rfl) rfl ?_
 have r0 : H.next < 2 ^ 59 := by omega
 have hst := preE_ok (staE_ok hsta).1
 have hR := hst.ru
 have hlt := hst.lt
 have hlg := hst.lg
 have hw : w64 (r.f + r.t) = r.f + r.t := wr64 (by omega)
 have he : ∀ a b : Int, binI .eql .i64 .i64 a b = some (.bool (decide (a = b))) := fun a b => by simp [binI]; rfl
 repeat (first | apply qR | apply qS)
 refine wops_cons (o_boxS (cs := r.cs) rfl rfl hrv r0 fun H1 n1 k1 b1 => ?_)
 have r1 : H1.next < 2 ^ 59 := by omega
 refine wops_cons (o_boxS (cs := [x, y]) rfl rfl rfl r1 fun H2 n2 k2 b2 => ?_)
 have k02 := k1.trans k2
 have x1 := k1.nx
 have x2 := k2.nx
 have b1 := b1.keep (by omega) k2
 repeat (first | apply qN | refine qM rfl rfl ?_ | refine zqb rfl rfl rfl ‹_› ?_ | apply qR | apply qS | refine wp_scope ?_)
 refine wops_cons (wop_callF rfl rfl rfl (fn := Tryz.f18) (by rfl) ?_)
 refine c18 hq H2 r _ rfl x y tk gp (hx.keep k02) (hy.keep k02) (by omega) (by omega) (by omega) _ fun H3 k3 n3 => ⟨k3.nx, ?_⟩
 rw [hsta]
 have k03 := k02.trans k3
 have b13 := b1.keep (by omega) k3
 have b23 := b2.keep (by omega) k3
 have x3 := k3.nx
 clear b1 b2
 repeat (first | apply qN | refine qM rfl rfl ?_ | apply qR | apply qS)
 refine wops_cons (wop_bin (op := .neq) (v := .bool false) rfl rfl rfl rfl rfl ?_)
 repeat (first | apply qN | refine qM rfl rfl ?_ | refine qF rfl ?_ | apply qR | apply qS | apply qK | apply qB | refine wp_label ?_)
 refine wp_loop (fun q T M H' => ∃ (i : Nat) (Y : List AV), q = tk.length - i ∧ i ≤ tk.length ∧ Keeps H3 H' ∧ H'.next ≤ H3.next + 2 * i ∧ lkP2 (r.f + r.t) 0 tk = lkP2 (r.f + r.t) i (tk.drop i) ∧ M = [] ∧ T = (lget Y 0 :: lget Y 1 :: .ptr H.next 0 :: .ptr H1.next 0 :: lget Y 2 :: lget Y 3 :: lget Y 4 :: iv (i : Nat) :: lget Y 5 :: lget Y 6 :: lget Y 7 :: lget Y 8 :: lget Y 9 :: lget Y 10 :: lget Y 11 :: lget Y 12 :: lget Y 13 :: lget Y 14 :: lget Y 15 :: lget Y 16 :: lget Y 17 :: lget Y 18 :: lget Y 19 :: lget Y 20 :: lget Y 21 :: lget Y 22 :: lget Y 23 :: lget Y 24 :: lget Y 25 :: lget Y 26 :: lget Y 27 :: [])) tk.length
   ⟨0, [_,_,_,_,_,_,_,_,_,_,_,_,_,_,_,_,_,_,_,_,_,_,_,_,_,_,_,_], rfl, Nat.zero_le _, Keeps.refl _, Nat.le_refl _, rfl, rfl, rfl⟩ ?_
 rintro q T M H4 ⟨i, Y, hq1, hi, k4, n4, hst4, rfl, rfl⟩
 have x4 := k4.nx
 have b14 := b13.keep (by omega) k4
 have b24 := b23.keep (by omega) k4
 have k04 := k03.trans k4
 have hx4 := hx.keep k04
 have hy4 := hy.keep k04
 have p0 : At H4 (.ptr H.next 0) (iv r.s) := b14.at rfl
 have s0 : At H4 (.ptr H1.next 0) x := b24.at rfl
 have sb : beqs [x, y] [x, y] = true := by simp [beqs, hx4.sl.beq, hy4.sl.beq]
 repeat (first | refine qM rfl rfl ?_ | refine zqa rfl rfl rfl ?_ | refine zq6 rfl rfl ‹_› ?_ | apply qR | apply qS | apply qB)
 refine wops_cons (wop_bin (op := .eql) (v := .bool (decide ((i : Int) = r.s))) rfl rfl rfl rfl (he _ _) ?_)
 by_cases h : (i : Int) = r.s
 · rw [decide_eq_true h]
   have e : i = tk.length := by omega
   subst e
   rw [List.drop_length] at hst4
   have hk := hk H4 k04 (by omega)
   rw [hst4] at hk
   repeat (first | apply qN | refine qM rfl rfl ?_ | refine qT rfl ?_ | apply qR | apply qS | apply qE)
   refine wp_ret ?_
   exact ⟨_, _, rfl, hk⟩
 rw [decide_eq_false h]
 have hi' : i < tk.length := by omega
 obtain ⟨z, hz⟩ := l_some hi'
 rw [drop_cons hz, lkP2] at hst4
 repeat (first | apply qN | refine qM rfl rfl ?_ | refine qF rfl ?_ | apply qS)
 refine wp_drawK rfl ?_
 refine k_field rfl rfl rfl rfl ?_
 refine k_load rfl rfl rfl s0 (lkP b24 (by omega) sb) ?_
 refine k_move rfl rfl rfl ?_
 refine k_indexI rfl rfl rfl hx4.sl rfl hz hx4.lk fun pp hpp hpo => ?_
 refine k_load rfl rfl rfl hpp hpo ?_
 refine k_load4 rfl rfl rfl rfl b14 (lkP (n := 0) b14 (by omega) (ru_beq r)) ?_
 refine k_call rfl rfl rfl (fun b h => by cases h) (wop_callF rfl rfl rfl (fn := Tryz.f73) (by rfl) ?_)
 refine c73 hq H4 r _ rfl (by omega) _ fun H5 k5 n5 => ⟨k5.nx, k5, ?_⟩
 rw [hw]
 have k05 := k04.trans k5
 by_cases hz2 : z < r.f + r.t
 · rw [if_pos hz2] at hst4
   have hk := hk H5 k05 (by omega)
   rw [hst4] at hk
   refine k_bin (op := .lss) (v := .bool true) rfl rfl rfl rfl rfl (by simp [binI, hz2]) ?_
   repeat (first | apply qN | refine qM rfl rfl ?_ | refine k_nil ?_ | refine k_assign rfl rfl rfl ?_ | refine qT rfl ?_ | apply qR | apply qS)
   refine wp_ret ?_
   exact ⟨_, _, rfl, hk⟩
 · rw [if_neg hz2] at hst4
   refine k_bin (op := .lss) (v := .bool false) rfl rfl rfl rfl rfl (by simp [binI, hz2]) ?_
   repeat (first | apply qN | refine qM rfl rfl ?_ | refine zq4 rfl rfl rfl rfl (inc (by omega)) ?_ | refine k_nil ?_ | refine k_assign rfl rfl rfl ?_ | refine qF rfl ?_ | apply qR | apply qK)
   exact ⟨tk.length - (i + 1), by omega, i + 1, [_,_,_,_,_,_,_,_,_,_,_,_,_,_,_,_,_,_,_,_,_,_,_,_,_,_,_,_], rfl, by omega, k4.trans k5, by omega, hst4, rfl, rfl⟩
end Go.Ev
