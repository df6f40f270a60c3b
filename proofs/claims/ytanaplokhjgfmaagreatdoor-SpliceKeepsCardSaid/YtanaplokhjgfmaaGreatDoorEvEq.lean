/- Part of an evaluator of calls that is proved sound, and of what it gives about this program. No condition of its own. -/
import Derived.Test.YtanaplokhjgfmaaGreatDoorEvEd
set_option linter.unusedVariables false
set_option linter.unusedSimpArgs false
set_option linter.unusedSectionVars false
set_option maxRecDepth 100000
set_option maxHeartbeats 4000000
namespace Go.Ev
open Go.Proofs
variable {O : CallF} (hq : Quiet O)
include hq
theorem c36 (H : AH) (r : Ru) (rv : AV) (hrv : rv.cells = r.cs) (x y : AV) (tk gp : List Int) (hx : Ky H x tk) (hy : Ky H y gp) (hlt : tk.length ≤ 1000) (hlg : gp.length ≤ 1000) (hru : ruE r = 0) (hr : H.next + 20 < 2 ^ 59) (K : AV → AH → Prop)
   (hk : ∀ H', Keeps H H' → H'.next ≤ H.next + 4 → K (iv (staE r tk gp)) H') : Ca (ENV O) 36 [rv, .agg [x, y]] H K := by
 refine ca_intro (hq _ _ _ rfl) (fn := Tryz.f36) (by rfl) rfl ?_
 have r0 : H.next < 2 ^ 59 := by omega
 repeat (first | apply qR | apply qS)
 refine wops_cons (o_boxS (cs := r.cs) rfl rfl hrv r0 fun H1 n1 k1 b1 => ?_)
 have r1 : H1.next < 2 ^ 59 := by omega
 refine wops_cons (o_boxS (cs := [x, y]) rfl rfl rfl r1 fun H2 n2 k2 b2 => ?_)
 have k02 := k1.trans k2
 have x1 := k1.nx
 have x2 := k2.nx
 have b1 := b1.keep (by omega) k2
 have hx2 := hx.keep k02
 have hy2 := hy.keep k02
 have hsx := hx2.sl
 have hsy := hy2.sl
 have hk := hk H2 k02 (by omega)
 have hR := ruE_ok hru
 have q0 : At H2 (.ptr H1.next 0) x := b2.at rfl
 have q1 : At H2 (.ptr H1.next 1) y := b2.at rfl
 have p0 : At H2 (.ptr H.next 0) (iv r.s) := b1.at rfl
 have p3 : At H2 (.ptr H.next 3) (iv r.f) := b1.at rfl
 have p4 : At H2 (.ptr H.next 4) (iv r.t) := b1.at rfl
 have hxb : x.beq x = true := hx2.sl.beq
 have hyb : y.beq y = true := hy2.sl.beq
 have sb : beqs [x, y] [x, y] = true := by simp [beqs, hxb, hyb]
 have L := fun n => lkP (n := n) b1 (by omega) (ru_beq r)
 have M := fun n => lkP (n := n) b2 (by omega) sb
 repeat (first | apply qN | refine qM rfl rfl ?_ | refine zqa rfl rfl rfl ?_ | refine zq5 rfl rfl rfl rfl rfl ‹_› ?_ | refine zq6 rfl rfl ‹_› ?_ | apply qR | apply qS)
 by_cases h1 : (tk.length : Int) = r.s
 rotate_left
 · have e := preE_len (tk := tk) (gp := gp) hru fun h => h1 h.1
   rw [staE_pre (by rw [e]; decide), e] at hk
   refine wops_cons (wop_bin (op := .neq) (v := .bool true) rfl rfl rfl rfl (by simp [binI, h1]) ?_)
   repeat (first | apply qN | refine zq1 rfl rfl ?_ | refine qM rfl rfl ?_ | refine zq7 rfl rfl rfl ?_ | refine qT rfl ?_ | apply qR | apply qS)
   refine wp_ret ?_
   exact ⟨_, _, rfl, hk⟩
 refine wops_cons (wop_bin (op := .neq) (v := .bool false) rfl rfl rfl rfl (by simp [binI, h1]) ?_)
 repeat (first | refine qM rfl rfl ?_ | refine zqa rfl rfl rfl ?_ | refine zq5 rfl rfl rfl rfl rfl ‹_› ?_ | refine zq6 rfl rfl ‹_› ?_)
 by_cases h2 : (gp.length : Int) = r.s
 rotate_left
 · have e := preE_len (tk := tk) (gp := gp) hru fun h => h2 h.2
   rw [staE_pre (by rw [e]; decide), e] at hk
   refine wops_cons (wop_bin (op := .neq) (v := .bool true) rfl rfl rfl rfl (by simp [binI, h2]) ?_)
   repeat (first | apply qN | refine qM rfl rfl ?_ | refine zq7 rfl rfl rfl ?_ | refine qT rfl ?_ | apply qR | apply qS)
   refine wp_ret ?_
   exact ⟨_, _, rfl, hk⟩
 refine wops_cons (wop_bin (op := .neq) (v := .bool false) rfl rfl rfl rfl (by simp [binI, h2]) ?_)
 repeat (first | apply qN | refine qM rfl rfl ?_ | refine zq7 rfl rfl rfl ?_ | refine qF rfl ?_ | apply qR | apply qS | apply qK | apply qB)
 have hne : tk ≠ [] := fun e => by rw [e] at h1; simp at h1; omega
 have hgl : gp.length = tk.length := by omega
 have hs2 : r.s = (tk.length : Int) := h1.symm
 refine wp_loop (fun q T M' H' => ∃ (i : Nat) (Y : List AV), q = tk.length - i ∧ i ≤ tk.length ∧ (∀ (j : Nat) (a b : Int), j < i → tk[j]? = some a → gp[j]? = some b → inB a 0 (w64 (r.f + r.t)) = true ∧ inB b 0 (w64 (r.s - 1)) = true) ∧ H2 = H' ∧ M' = [] ∧ T = (lget Y 0 :: lget Y 1 :: .ptr H.next 0 :: .ptr H1.next 0 :: lget Y 2 :: iv (i : Nat) :: lget Y 3 :: lget Y 4 :: lget Y 5 :: lget Y 6 :: lget Y 7 :: lget Y 8 :: lget Y 9 :: lget Y 10 :: lget Y 11 :: lget Y 12 :: lget Y 13 :: lget Y 14 :: lget Y 15 :: lget Y 16 :: lget Y 17 :: lget Y 18 :: lget Y 19 :: lget Y 20 :: lget Y 21 :: lget Y 22 :: lget Y 23 :: lget Y 24 :: lget Y 25 :: lget Y 26 :: lget Y 27 :: lget Y 28 :: lget Y 29 :: lget Y 30 :: lget Y 31 :: lget Y 32 :: lget Y 33 :: lget Y 34 :: lget Y 35 :: lget Y 36 :: lget Y 37 :: lget Y 38 :: lget Y 39 :: lget Y 40 :: lget Y 41 :: lget Y 42 :: lget Y 43 :: lget Y 44 :: lget Y 45 :: lget Y 46 :: lget Y 47 :: lget Y 48 :: lget Y 49 :: lget Y 50 :: lget Y 51 :: lget Y 52 :: lget Y 53 :: lget Y 54 :: lget Y 55 :: lget Y 56 :: lget Y 57 :: lget Y 58 :: lget Y 59 :: lget Y 60 :: lget Y 61 :: lget Y 62 :: lget Y 63 :: lget Y 64 :: lget Y 65 :: lget Y 66 :: lget Y 67 :: lget Y 68 :: lget Y 69 :: lget Y 70 :: lget Y 71 :: lget Y 72 :: lget Y 73 :: lget Y 74 :: lget Y 75 :: lget Y 76 :: lget Y 77 :: lget Y 78 :: lget Y 79 :: lget Y 80 :: lget Y 81 :: lget Y 82 :: lget Y 83 :: lget Y 84 :: lget Y 85 :: lget Y 86 :: lget Y 87 :: lget Y 88 :: lget Y 89 :: lget Y 90 :: lget Y 91 :: lget Y 92 :: lget Y 93 :: lget Y 94 :: lget Y 95 :: lget Y 96 :: lget Y 97 :: lget Y 98 :: lget Y 99 :: lget Y 100 :: lget Y 101 :: [])) tk.length
   ⟨0, [_,_,_,_,_,_,_,_,_,_,_,_,_,_,_,_,_,_,_,_,_,_,_,_,_,_,_,_,_,_,_,_,_,_,_,_,_,_,_,_,_,_,_,_,_,_,_,_,_,_,_,_,_,_,_,_,_,_,_,_,_,_,_,_,_,_,_,_,_,_,_,_,_,_,_,_,_,_,_,_,_,_,_,_,_,_,_,_,_,_,_,_,_,_,_,_,_,_,_,_,_,_], rfl, Nat.zero_le _, fun j a b h => absurd h (Nat.not_lt_zero _), rfl, rfl, rfl⟩ ?_
 rintro q T M' H' ⟨i, Y, hq1, hi, hpre, rfl, rfl, rfl⟩
 repeat (first | refine qM rfl rfl ?_ | refine zqa rfl rfl rfl ?_ | refine zq6 rfl rfl ‹_› ?_ | apply qR | apply qS)
 refine wops_cons (wop_cmp rfl rfl rfl rfl rfl (fun h => ?_) (fun h => ?_))
 · have hi' : i < tk.length := by have h : (i : Int) < r.s := of_decide_eq_true h; omega
   clear h
   obtain ⟨a, ha⟩ := l_some hi'
   obtain ⟨b, hb⟩ := l_some (show i < gp.length by omega)
   repeat (first | apply qN | refine qT rfl ?_ | apply qS | apply qK | apply qB)
   refine wp_drawK rfl ?_
   refine k_field rfl rfl rfl rfl ?_
   refine k_load rfl rfl rfl q0 (M _) ?_
   refine k_move rfl rfl rfl ?_
   refine k_indexI rfl rfl rfl hsx rfl ha hx2.lk fun pp hpp hpo => ?_
   refine k_load rfl rfl rfl hpp hpo ?_
   refine k_field rfl rfl rfl rfl ?_
   refine k_load rfl rfl rfl p3 (L _) ?_
   refine k_field rfl rfl rfl rfl ?_
   refine k_load rfl rfl rfl p4 (L _) ?_
   refine k_bin (op := .add) (v := .int .i64 (w64 (r.f + r.t))) rfl rfl rfl rfl rfl rfl ?_
   refine k_call rfl rfl rfl (fun b h => by cases h) (wop_callF rfl rfl rfl (fn := Tryz.f67) (by rfl) ?_)
   refine cOut hq H2 a 0 _ _ ⟨Nat.le_refl _, Keeps.refl _, ?_⟩
   cases hA : inB a 0 (w64 (r.f + r.t)) with
   | false =>
     have e := preE_bad hru h1 h2 (List.mem_of_getElem? ha) (List.mem_of_getElem? hb) (.inl hA)
     rw [staE_pre (by rw [e]; decide), e] at hk
     repeat (first | refine k_skip rfl rfl ?_ | refine k_move rfl rfl rfl ?_)
     refine k_loudSkip rfl rfl (Keeps.refl _) ?_
     repeat (first | apply qN | refine qM rfl rfl ?_ | refine k_nil ?_ | refine k_pick rfl rfl rfl rfl ?_ | refine qT rfl ?_ | apply qR | apply qS)
     refine wp_ret ?_
     exact ⟨_, _, rfl, hk⟩
   | true =>
   repeat (first | refine k_move rfl rfl rfl ?_ | refine k_field rfl rfl rfl rfl ?_)
   refine k_load rfl rfl rfl q1 (M _) ?_
   refine k_move rfl rfl rfl ?_
   refine k_indexI rfl rfl rfl hsy rfl hb hy2.lk fun pp hpp hpo => ?_
   refine k_load rfl rfl rfl hpp hpo ?_
   refine k_field rfl rfl rfl rfl ?_
   refine k_load rfl rfl rfl p0 (L _) ?_
   refine k_bin (op := .sub) (v := .int .i64 (w64 (r.s - 1))) rfl rfl rfl rfl rfl rfl ?_
   refine k_call rfl rfl rfl (fun b h => by cases h) (wop_callF rfl rfl rfl (fn := Tryz.f67) (by rfl) ?_)
   refine cOut hq H2 b 0 _ _ ⟨Nat.le_refl _, Keeps.refl _, ?_⟩
   cases hB : inB b 0 (w64 (r.s - 1)) with
   | false =>
     have e := preE_bad hru h1 h2 (List.mem_of_getElem? ha) (List.mem_of_getElem? hb) (.inr hB)
     rw [staE_pre (by rw [e]; decide), e] at hk
     repeat (first | apply qN | refine qM rfl rfl ?_ | refine k_nil ?_ | refine k_pick rfl rfl rfl rfl ?_ | refine qT rfl ?_ | apply qR | apply qS)
     refine wp_ret ?_
     exact ⟨_, _, rfl, hk⟩
   | true =>
   repeat (first | apply qN | refine qM rfl rfl ?_ | refine zq4 rfl rfl rfl rfl (inc (by omega)) ?_ | refine k_nil ?_ | refine k_pick rfl rfl rfl rfl ?_ | refine qF rfl ?_ | apply qR | apply qK)
   refine ⟨tk.length - (i + 1), by omega, i + 1, [_,_,_,_,_,_,_,_,_,_,_,_,_,_,_,_,_,_,_,_,_,_,_,_,_,_,_,_,_,_,_,_,_,_,_,_,_,_,_,_,_,_,_,_,_,_,_,_,_,_,_,_,_,_,_,_,_,_,_,_,_,_,_,_,_,_,_,_,_,_,_,_,_,_,_,_,_,_,_,_,_,_,_,_,_,_,_,_,_,_,_,_,_,_,_,_,_,_,_,_,_,_], rfl, by omega, fun j a' b' hj ha' hb' => ?_, rfl, rfl, rfl⟩
   by_cases e : j = i
   · subst e
     rw [ha] at ha'; rw [hb] at hb'; cases ha'; cases hb'
     exact ⟨hA, hB⟩
   · exact hpre j a' b' (by omega) ha' hb'
 have hpre0 : preE r tk gp = 0 := by
   have h : ¬ ((i : Int) < r.s) := of_decide_eq_false h
   refine preE_good hru h1 h2 (fun a ha => ?_) (fun b hb => ?_)
   · obtain ⟨j, hj⟩ := List.mem_iff_getElem?.1 ha
     obtain ⟨lj, _⟩ := List.getElem?_eq_some_iff.1 hj
     obtain ⟨b, hb⟩ := l_some (show j < gp.length by omega)
     exact (hpre j a b (by omega) hj hb).1
   · obtain ⟨j, hj⟩ := List.mem_iff_getElem?.1 hb
     obtain ⟨lj, _⟩ := List.getElem?_eq_some_iff.1 hj
     obtain ⟨a, ha⟩ := l_some (show j < tk.length by omega)
     exact (hpre j a b (by omega) ha hj).2
 clear hpre h
 unfold staE at hk
 rw [if_pos hpre0] at hk
 have hst := preE_ok hpre0
 have hok := okB_iff hne hgl
 generalize hv : okB tk gp = v at hk hok
 repeat (first | apply qN | refine qM rfl rfl ?_ | refine qF rfl ?_ | apply qR | apply qS | apply qE | apply qB)
 refine wp_loop (fun q T M' H' => ∃ (i : Nat) (Y : List AV), q = tk.length - i ∧ i ≤ tk.length ∧ (∀ (k j : Nat) (a b c d : Int), k < i → tk[k]? = some a → gp[k]? = some b → tk[j]? = some c → gp[j]? = some d → ¬ badP k j a b c d) ∧ H2 = H' ∧ M' = [] ∧ T = (lget Y 0 :: lget Y 1 :: .ptr H.next 0 :: .ptr H1.next 0 :: lget Y 2 :: lget Y 3 :: iv (i : Nat) :: lget Y 4 :: lget Y 5 :: lget Y 6 :: lget Y 7 :: lget Y 8 :: lget Y 9 :: lget Y 10 :: lget Y 11 :: lget Y 12 :: lget Y 13 :: lget Y 14 :: lget Y 15 :: lget Y 16 :: lget Y 17 :: lget Y 18 :: lget Y 19 :: lget Y 20 :: lget Y 21 :: lget Y 22 :: lget Y 23 :: lget Y 24 :: lget Y 25 :: lget Y 26 :: lget Y 27 :: lget Y 28 :: lget Y 29 :: lget Y 30 :: lget Y 31 :: lget Y 32 :: lget Y 33 :: lget Y 34 :: lget Y 35 :: lget Y 36 :: lget Y 37 :: lget Y 38 :: lget Y 39 :: lget Y 40 :: lget Y 41 :: lget Y 42 :: lget Y 43 :: lget Y 44 :: lget Y 45 :: lget Y 46 :: lget Y 47 :: lget Y 48 :: lget Y 49 :: lget Y 50 :: lget Y 51 :: lget Y 52 :: lget Y 53 :: lget Y 54 :: lget Y 55 :: lget Y 56 :: lget Y 57 :: lget Y 58 :: lget Y 59 :: lget Y 60 :: lget Y 61 :: lget Y 62 :: lget Y 63 :: lget Y 64 :: lget Y 65 :: lget Y 66 :: lget Y 67 :: lget Y 68 :: lget Y 69 :: lget Y 70 :: lget Y 71 :: lget Y 72 :: lget Y 73 :: lget Y 74 :: lget Y 75 :: lget Y 76 :: lget Y 77 :: lget Y 78 :: lget Y 79 :: lget Y 80 :: lget Y 81 :: lget Y 82 :: lget Y 83 :: lget Y 84 :: lget Y 85 :: lget Y 86 :: lget Y 87 :: lget Y 88 :: lget Y 89 :: lget Y 90 :: lget Y 91 :: lget Y 92 :: lget Y 93 :: lget Y 94 :: lget Y 95 :: lget Y 96 :: lget Y 97 :: lget Y 98 :: lget Y 99 :: lget Y 100 :: lget Y 101 :: [])) tk.length
   ⟨0, [_,_,_,_,_,_,_,_,_,_,_,_,_,_,_,_,_,_,_,_,_,_,_,_,_,_,_,_,_,_,_,_,_,_,_,_,_,_,_,_,_,_,_,_,_,_,_,_,_,_,_,_,_,_,_,_,_,_,_,_,_,_,_,_,_,_,_,_,_,_,_,_,_,_,_,_,_,_,_,_,_,_,_,_,_,_,_,_,_,_,_,_,_,_,_,_,_,_,_,_,_,_], rfl, Nat.zero_le _, fun k j a b c d h => absurd h (Nat.not_lt_zero _), rfl, rfl, rfl⟩ ?_
 rintro q T M' H' ⟨i, Y, hq1, hi, hall, rfl, rfl, rfl⟩
 repeat (first | refine qM rfl rfl ?_ | refine zqa rfl rfl rfl ?_ | refine zq6 rfl rfl ‹_› ?_ | apply qR | apply qS)
 refine wops_cons (wop_cmp rfl rfl rfl rfl rfl (fun h => ?_) (fun h => ?_))
 rotate_left
 · have h : ¬ ((i : Int) < r.s) := of_decide_eq_false h
   have e : v = true := hok.2 fun k j a b c d ha hb hc hd => by
     obtain ⟨lk, _⟩ := List.getElem?_eq_some_iff.1 ha
     exact hall k j a b c d (by omega) ha hb hc hd
   rw [e] at hk
   repeat (first | apply qN | refine qM rfl rfl ?_ | refine qF rfl ?_ | apply qR | apply qS | apply qE)
   refine wp_ret ?_
   exact ⟨_, _, rfl, hk⟩
 have hi' : i < tk.length := by have h : (i : Int) < r.s := of_decide_eq_true h; omega
 clear h
 obtain ⟨a, ha⟩ := l_some hi'
 obtain ⟨b, hb⟩ := l_some (show i < gp.length by omega)
 repeat (first | apply qN | refine qM rfl rfl ?_ | refine qT rfl ?_ | apply qR | apply qS | apply qK | apply qB)
 refine wp_loop (fun q T M' H' => ∃ (j : Nat) (Y : List AV), q = tk.length - j ∧ j ≤ tk.length ∧ (∀ (k : Nat) (c d : Int), k < j → tk[k]? = some c → gp[k]? = some d → ¬ badP i k a b c d) ∧ H2 = H' ∧ M' = [] ∧ T = (lget Y 0 :: lget Y 1 :: .ptr H.next 0 :: .ptr H1.next 0 :: lget Y 2 :: lget Y 3 :: iv (i : Nat) :: iv (j : Nat) :: lget Y 4 :: lget Y 5 :: lget Y 6 :: lget Y 7 :: lget Y 8 :: lget Y 9 :: lget Y 10 :: lget Y 11 :: lget Y 12 :: lget Y 13 :: lget Y 14 :: lget Y 15 :: lget Y 16 :: lget Y 17 :: lget Y 18 :: lget Y 19 :: lget Y 20 :: lget Y 21 :: lget Y 22 :: lget Y 23 :: lget Y 24 :: lget Y 25 :: lget Y 26 :: lget Y 27 :: lget Y 28 :: lget Y 29 :: lget Y 30 :: lget Y 31 :: lget Y 32 :: lget Y 33 :: lget Y 34 :: lget Y 35 :: lget Y 36 :: lget Y 37 :: lget Y 38 :: lget Y 39 :: lget Y 40 :: lget Y 41 :: lget Y 42 :: lget Y 43 :: lget Y 44 :: lget Y 45 :: lget Y 46 :: lget Y 47 :: lget Y 48 :: lget Y 49 :: lget Y 50 :: lget Y 51 :: lget Y 52 :: lget Y 53 :: lget Y 54 :: lget Y 55 :: lget Y 56 :: lget Y 57 :: lget Y 58 :: lget Y 59 :: lget Y 60 :: lget Y 61 :: lget Y 62 :: lget Y 63 :: lget Y 64 :: lget Y 65 :: lget Y 66 :: lget Y 67 :: lget Y 68 :: lget Y 69 :: lget Y 70 :: lget Y 71 :: lget Y 72 :: lget Y 73 :: lget Y 74 :: lget Y 75 :: lget Y 76 :: lget Y 77 :: lget Y 78 :: lget Y 79 :: lget Y 80 :: lget Y 81 :: lget Y 82 :: lget Y 83 :: lget Y 84 :: lget Y 85 :: lget Y 86 :: lget Y 87 :: lget Y 88 :: lget Y 89 :: lget Y 90 :: lget Y 91 :: lget Y 92 :: lget Y 93 :: lget Y 94 :: lget Y 95 :: lget Y 96 :: lget Y 97 :: lget Y 98 :: lget Y 99 :: lget Y 100 :: [])) tk.length
   ⟨0, [_,_,_,_,_,_,_,_,_,_,_,_,_,_,_,_,_,_,_,_,_,_,_,_,_,_,_,_,_,_,_,_,_,_,_,_,_,_,_,_,_,_,_,_,_,_,_,_,_,_,_,_,_,_,_,_,_,_,_,_,_,_,_,_,_,_,_,_,_,_,_,_,_,_,_,_,_,_,_,_,_,_,_,_,_,_,_,_,_,_,_,_,_,_,_,_,_,_,_,_,_], rfl, Nat.zero_le _, fun k c d h => absurd h (Nat.not_lt_zero _), rfl, rfl, rfl⟩ ?_
 rintro q2 T M' H' ⟨j, Y, hq2, hj, hin, rfl, rfl, rfl⟩
 repeat (first | refine qM rfl rfl ?_ | refine zqa rfl rfl rfl ?_ | refine zq6 rfl rfl ‹_› ?_ | apply qR | apply qS)
 refine wops_cons (wop_cmp rfl rfl rfl rfl rfl (fun h => ?_) (fun h => ?_))
 rotate_left
 · have h : ¬ ((j : Int) < r.s) := of_decide_eq_false h
   repeat (first | apply qN | refine qM rfl rfl ?_ | refine zq4 rfl rfl rfl rfl (inc (by omega)) ?_ | refine qF rfl ?_ | apply qR | apply qE)
   refine ⟨tk.length - (i + 1), by omega, i + 1, [_,_,_,_,_,_,_,_,_,_,_,_,_,_,_,_,_,_,_,_,_,_,_,_,_,_,_,_,_,_,_,_,_,_,_,_,_,_,_,_,_,_,_,_,_,_,_,_,_,_,_,_,_,_,_,_,_,_,_,_,_,_,_,_,_,_,_,_,_,_,_,_,_,_,_,_,_,_,_,_,_,_,_,_,_,_,_,_,_,_,_,_,_,_,_,_,_,_,_,_,_,_], rfl, by omega, fun k j' a' b' c d hk' ha' hb' hc hd => ?_, rfl, rfl, rfl⟩
   by_cases e : k = i
   · subst e
     rw [ha] at ha'; rw [hb] at hb'; cases ha'; cases hb'
     obtain ⟨lj, _⟩ := List.getElem?_eq_some_iff.1 hc
     exact hin j' c d (by omega) hc hd
   · exact hall k j' a' b' c d (by omega) ha' hb' hc hd
 have hj' : j < tk.length := by have h : (j : Int) < r.s := of_decide_eq_true h; omega
 clear h
 obtain ⟨c, hc⟩ := l_some hj'
 obtain ⟨d, hd⟩ := l_some (show j < gp.length by omega)
 have ba := hst.tk _ (List.mem_of_getElem? ha)
 have bc := hst.tk _ (List.mem_of_getElem? hc)
 repeat (first | apply qN | refine qT rfl ?_ | apply qS | apply qK | apply qB)
 refine wp_drawK rfl ?_
 refine k_field rfl rfl rfl rfl ?_
 refine k_load rfl rfl rfl q0 (M _) ?_
 refine k_move rfl rfl rfl ?_
 refine k_indexI rfl rfl rfl hsx rfl ha hx2.lk fun pp hpp hpo => ?_
 refine k_load rfl rfl rfl hpp hpo ?_
 refine k_field rfl rfl rfl rfl ?_
 refine k_load rfl rfl rfl q0 (M _) ?_
 refine k_move rfl rfl rfl ?_
 refine k_indexI rfl rfl rfl hsx rfl hc hx2.lk fun pp2 hpp2 hpo2 => ?_
 refine k_load rfl rfl rfl hpp2 hpo2 ?_
 refine k_bin (op := .add) (v := .int .i64 (c + 1)) rfl rfl rfl rfl rfl (addI (by omega)) ?_
 by_cases h5 : a > c + 1
 · have e : v = false := by
     cases v with
     | false => rfl
     | true => exact absurd (.inl h5) (hok.1 rfl i j a b c d ha hb hc hd)
   rw [e] at hk
   refine k_bin (op := .gtr) (v := .bool true) rfl rfl rfl rfl rfl (by simp [binI]; omega) ?_
   repeat (first | apply qN | refine qM rfl rfl ?_ | refine k_nil ?_ | refine k_skip rfl rfl ?_ | refine k_move rfl rfl rfl ?_ | refine k_pick rfl rfl rfl rfl ?_ | refine qT rfl ?_ | apply qR | apply qS)
   refine wp_ret ?_
   exact ⟨_, _, rfl, hk⟩
 refine k_bin (op := .gtr) (v := .bool false) rfl rfl rfl rfl rfl (by simp [binI]; omega) ?_
 refine k_move rfl rfl rfl ?_
 refine k_move rfl rfl rfl ?_
 refine k_move rfl rfl rfl ?_
 have hgo : ¬ badP i j a b c d → ∀ (k : Nat) (c' d' : Int), k < j + 1 → tk[k]? = some c' → gp[k]? = some d' → ¬ badP i k a b c' d' := fun hb' k c' d' hk' hc' hd' => by
   by_cases e : k = j
   · subst e
     rw [hc] at hc'; rw [hd] at hd'; cases hc'; cases hd'
     exact hb'
   · exact hin k c' d' (by omega) hc' hd'
 by_cases h6 : i = j
 · have hnb : ¬ badP i j a b c d := fun h => h.elim h5 fun h => h.1 h6
   refine k_bin (op := .neq) (v := .bool false) rfl rfl rfl rfl rfl (by simp [binI]; omega) ?_
   repeat (first | apply qN | refine qM rfl rfl ?_ | refine zq4 rfl rfl rfl rfl (inc (by omega)) ?_ | refine k_nil ?_ | refine k_skip rfl rfl ?_ | refine k_move rfl rfl rfl ?_ | refine k_pick rfl rfl rfl rfl ?_ | refine qF rfl ?_ | apply qR | apply qK)
   exact ⟨tk.length - (j + 1), by omega, j + 1, [_,_,_,_,_,_,_,_,_,_,_,_,_,_,_,_,_,_,_,_,_,_,_,_,_,_,_,_,_,_,_,_,_,_,_,_,_,_,_,_,_,_,_,_,_,_,_,_,_,_,_,_,_,_,_,_,_,_,_,_,_,_,_,_,_,_,_,_,_,_,_,_,_,_,_,_,_,_,_,_,_,_,_,_,_,_,_,_,_,_,_,_,_,_,_,_,_,_,_,_,_], rfl, by omega, hgo hnb, rfl, rfl, rfl⟩
 refine k_bin (op := .neq) (v := .bool true) rfl rfl rfl rfl rfl (by simp [binI]; omega) ?_
 refine k_move rfl rfl rfl ?_
 refine k_field rfl rfl rfl rfl ?_
 refine k_load rfl rfl rfl q0 (M _) ?_
 refine k_move rfl rfl rfl ?_
 refine k_indexI rfl rfl rfl hsx rfl ha hx2.lk fun pp3 hpp3 hpo3 => ?_
 refine k_load rfl rfl rfl hpp3 hpo3 ?_
 refine k_field rfl rfl rfl rfl ?_
 refine k_load rfl rfl rfl q0 (M _) ?_
 refine k_move rfl rfl rfl ?_
 refine k_indexI rfl rfl rfl hsx rfl hc hx2.lk fun pp4 hpp4 hpo4 => ?_
 refine k_load rfl rfl rfl hpp4 hpo4 ?_
 by_cases h7 : a = c
 rotate_left
 · have hnb : ¬ badP i j a b c d := fun h => h.elim h5 fun h => h7 h.2.1
   refine k_bin (op := .eql) (v := .bool false) rfl rfl rfl rfl rfl (by simp [binI]; omega) ?_
   repeat (first | apply qN | refine qM rfl rfl ?_ | refine zq4 rfl rfl rfl rfl (inc (by omega)) ?_ | refine k_nil ?_ | refine k_skip rfl rfl ?_ | refine k_move rfl rfl rfl ?_ | refine k_pick rfl rfl rfl rfl ?_ | refine qF rfl ?_ | apply qR | apply qK)
   exact ⟨tk.length - (j + 1), by omega, j + 1, [_,_,_,_,_,_,_,_,_,_,_,_,_,_,_,_,_,_,_,_,_,_,_,_,_,_,_,_,_,_,_,_,_,_,_,_,_,_,_,_,_,_,_,_,_,_,_,_,_,_,_,_,_,_,_,_,_,_,_,_,_,_,_,_,_,_,_,_,_,_,_,_,_,_,_,_,_,_,_,_,_,_,_,_,_,_,_,_,_,_,_,_,_,_,_,_,_,_,_,_,_], rfl, by omega, hgo hnb, rfl, rfl, rfl⟩
 refine k_bin (op := .eql) (v := .bool true) rfl rfl rfl rfl rfl (by simp [binI]; omega) ?_
 refine k_pick rfl rfl rfl rfl ?_
 refine k_move rfl rfl rfl ?_
 refine k_field rfl rfl rfl rfl ?_
 refine k_load rfl rfl rfl q1 (M _) ?_
 refine k_move rfl rfl rfl ?_
 refine k_indexI rfl rfl rfl hsy rfl hb hy2.lk fun pp5 hpp5 hpo5 => ?_
 refine k_load rfl rfl rfl hpp5 hpo5 ?_
 refine k_field rfl rfl rfl rfl ?_
 refine k_load rfl rfl rfl q1 (M _) ?_
 refine k_move rfl rfl rfl ?_
 refine k_indexI rfl rfl rfl hsy rfl hd hy2.lk fun pp6 hpp6 hpo6 => ?_
 refine k_load rfl rfl rfl hpp6 hpo6 ?_
 by_cases h8 : b = d
 rotate_left
 · have hnb : ¬ badP i j a b c d := fun h => h.elim h5 fun h => h8 h.2.2
   refine k_bin (op := .eql) (v := .bool false) rfl rfl rfl rfl rfl (by simp [binI]; omega) ?_
   repeat (first | apply qN | refine qM rfl rfl ?_ | refine zq4 rfl rfl rfl rfl (inc (by omega)) ?_ | refine k_nil ?_ | refine k_pick rfl rfl rfl rfl ?_ | refine qF rfl ?_ | apply qR | apply qK)
   exact ⟨tk.length - (j + 1), by omega, j + 1, [_,_,_,_,_,_,_,_,_,_,_,_,_,_,_,_,_,_,_,_,_,_,_,_,_,_,_,_,_,_,_,_,_,_,_,_,_,_,_,_,_,_,_,_,_,_,_,_,_,_,_,_,_,_,_,_,_,_,_,_,_,_,_,_,_,_,_,_,_,_,_,_,_,_,_,_,_,_,_,_,_,_,_,_,_,_,_,_,_,_,_,_,_,_,_,_,_,_,_,_,_], rfl, by omega, hgo hnb, rfl, rfl, rfl⟩
 refine k_bin (op := .eql) (v := .bool true) rfl rfl rfl rfl rfl (by simp [binI]; omega) ?_
 have e : v = false := by
   cases v with
   | false => rfl
   | true => exact absurd (.inr ⟨h6, h7, h8⟩) (hok.1 rfl i j a b c d ha hb hc hd)
 rw [e] at hk
 repeat (first | apply qN | refine qM rfl rfl ?_ | refine k_nil ?_ | refine k_pick rfl rfl rfl rfl ?_ | refine qT rfl ?_ | apply qR | apply qS)
 refine wp_ret ?_
 exact ⟨_, _, rfl, hk⟩
end Go.Ev
