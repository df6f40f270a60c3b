/- Part of an evaluator of calls that is proved sound, and of what it gives about this program. No condition of its own. -/
import Derived.Test.YtjkgjemcmmgefaaGreatDoorEvNd
set_option linter.unusedVariables false
set_option linter.unusedSimpArgs false
set_option linter.unusedSectionVars false
set_option maxRecDepth 100000
set_option maxHeartbeats 8000000
namespace Go.Ev
open Go.Proofs
section
variable {R : Int → Int → Bool} {g g' : Nat → Int} {a e : Nat}
theorem Mg.whole (h : Mg R g a e g') {n : Nat} (h1 : a ≤ e) (h2 : e ≤ n) : (seg g' 0 n).Perm (seg g 0 n) := by
  rw [seg_append g' (Nat.zero_le a) (show a ≤ n by omega), seg_append g' h1 h2, seg_append g (Nat.zero_le a) (show a ≤ n by omega), seg_append g h1 h2,
    seg_ext (g := g') (h := g) (a := 0) (e := a) fun i _ hi => h.out i (.inl hi), seg_ext (g := g') (h := g) (a := e) (e := n) fun i hi _ => h.out i (.inr hi)]
  exact List.Perm.append_left _ (List.Perm.append_right _ h.perm)
theorem Mg.grow {gi : Nat → Int} {i : Nat} (h : Mg R g a i gi) (k : Mg R gi a (i + 1) g') (hi : a ≤ i) : Mg R g a (i + 1) g' := by
  refine ⟨k.sd, k.perm.trans ?_, fun j hj => (k.out j hj).trans (h.out j (by omega))⟩
  rw [seg_append gi hi (Nat.le_succ i), seg_append g hi (Nat.le_succ i), seg_ext (g := gi) (h := g) (a := i) (e := i + 1) fun j hj _ => h.out j (.inr hj)]
  exact List.Perm.append_right _ h.perm
theorem fl_seg (g : Nat → Int) (n : Nat) : fl g n = seg g 0 n := by
  unfold fl seg
  simp
end
variable {O : CallF} (hq : Quiet O)
include hq
theorem cIns (lt R : Int → Int → Bool) (hR : Tot R) (hlt : ∀ u v, v < u → lt u v = R u v) (H0 : AH) (b n tb : Nat) (hn : n ≤ 1000) (h39 : b < 2 ^ 39) (S : Int → Prop)
    (hcmp : ∀ (Hm : AH) (u v : Int), Hm.next = H0.next → Hm.gl = H0.gl → (∀ c, c ≠ b → Hm.get c = H0.get c) → S u → S v → ∀ K : AV → AH → Prop, (∀ z : Int, decide (z < 0) = lt u v → K (iv z) Hm) → Ca (ENV O) 63 [iv u, iv v, .ptr tb 0] Hm K)
    (a e : Nat) (g : Nat → Int) (H : AH) (hae : a ≤ e) (hen : e ≤ n) (hS : St H0 b (fl g n) H) (hSv : ∀ i, i < n → S (g i)) (hasc : ∀ i j, a ≤ i → i < j → j < e → g i < g j)
    (K : AV → AH → Prop) (hk : ∀ r H' g', St H0 b (fl g' n) H' → Mg R g a e g' → K r H') : Ca (ENV O) 165 [.slc b 0 n n, iv a, iv e, .fn (.func 63) [] [.ptr tb 0]] H K := by
  refine ca_intro (hq _ _ _ rfl) (fn := Tryz.f165) (by rfl) rfl ?_
  repeat (first | refine wops_nil ?_ | refine zq1 rfl rfl ?_ | refine zq2 rfl rfl ?_ | refine zq3 rfl rfl ?_ | refine zq4 rfl rfl rfl rfl (inc (by omega)) ?_ | refine zq5 rfl rfl rfl rfl rfl (by assumption) ?_ | refine zq6 rfl rfl (by assumption) ?_ | refine zq7 rfl rfl rfl ?_ | refine zq8 rfl rfl rfl ?_ | refine zq9 rfl rfl rfl rfl ?_ | refine mobs_move rfl rfl rfl ?_ | refine m_load rfl rfl rfl (by assumption) ?_ | refine mobs_nil ?_ | refine wd_nil ?_ | refine wd_skip rfl rfl ?_ | refine wd_loudSkip rfl rfl ?_ | refine wd_move rfl rfl rfl ?_ | refine wd_assign rfl rfl rfl ?_ | refine wd_pick rfl rfl rfl rfl ?_ | refine d_load rfl rfl rfl (by assumption) ?_ | refine d_lenI rfl rfl rfl rfl rfl rfl (by assumption) ?_ | refine wp_condT rfl ?_ | refine wp_condF rfl ?_ | refine wp_region ?_ | refine wp_seq ?_ | refine wp_skip ?_ | refine wp_exit ?_ | refine wp_block ?_)
  refine wp_loop (fun q T M H' => ∃ (i : Nat) (gi : Nat → Int) (Y : List AV), q = e + 1 - i ∧ a + 1 ≤ i ∧ (i ≤ e ∨ i = a + 1) ∧ Mg R g a i gi ∧ St H0 b (fl gi n) H' ∧ M = [] ∧
      T = (.slc b 0 n n :: iv a :: iv e :: .fn (.func 63) [] [.ptr tb 0] :: lget Y 0 :: lget Y 1 :: lget Y 2 :: lget Y 3 :: iv (i : Nat) :: lget Y 4 :: lget Y 5 :: lget Y 6 :: lget Y 7 :: lget Y 8 :: lget Y 9 :: lget Y 10 :: lget Y 11 :: lget Y 12 :: lget Y 13 :: lget Y 14 :: lget Y 15 :: lget Y 16 :: lget Y 17 :: lget Y 18 :: lget Y 19 :: lget Y 20 :: lget Y 21 :: lget Y 22 :: lget Y 23 :: lget Y 24 :: lget Y 25 :: lget Y 26 :: lget Y 27 :: lget Y 28 :: lget Y 29 :: lget Y 30 :: lget Y 31 :: lget Y 32 :: lget Y 33 :: lget Y 34 :: lget Y 35 :: lget Y 36 :: lget Y 37 :: lget Y 38 :: lget Y 39 :: lget Y 40 :: lget Y 41 :: lget Y 42 :: lget Y 43 :: lget Y 44 :: lget Y 45 :: lget Y 46 :: lget Y 47 :: [])) (e + 1 - (a + 1))
    ⟨a + 1, g, [_,_,_,_,_,_,_,_,_,_,_,_,_,_,_,_,_,_,_,_,_,_,_,_,_,_,_,_,_,_,_,_,_,_,_,_,_,_,_,_,_,_,_,_,_,_,_,_], rfl, Nat.le_refl _, .inr rfl, Mg.refl (fun i j h1 h2 h3 => by omega), hS, rfl, rfl⟩ ?_
  rintro q T M H1 ⟨i, gi, Y, hq1, hi1, hi2, hM, hS1, rfl, rfl⟩
  repeat (first | refine wops_nil ?_ | refine zq1 rfl rfl ?_ | refine zq2 rfl rfl ?_ | refine zq3 rfl rfl ?_ | refine zq4 rfl rfl rfl rfl (inc (by omega)) ?_ | refine zq5 rfl rfl rfl rfl rfl (by assumption) ?_ | refine zq6 rfl rfl (by assumption) ?_ | refine zq7 rfl rfl rfl ?_ | refine zq8 rfl rfl rfl ?_ | refine zq9 rfl rfl rfl rfl ?_ | refine mobs_move rfl rfl rfl ?_ | refine m_load rfl rfl rfl (by assumption) ?_ | refine mobs_nil ?_ | refine wd_nil ?_ | refine wd_skip rfl rfl ?_ | refine wd_loudSkip rfl rfl ?_ | refine wd_move rfl rfl rfl ?_ | refine wd_assign rfl rfl rfl ?_ | refine wd_pick rfl rfl rfl rfl ?_ | refine d_load rfl rfl rfl (by assumption) ?_ | refine d_lenI rfl rfl rfl rfl rfl rfl (by assumption) ?_ | refine wp_condT rfl ?_ | refine wp_condF rfl ?_ | refine wp_region ?_ | refine wp_seq ?_ | refine wp_skip ?_ | refine wp_exit ?_ | refine wp_block ?_)
  refine wops_cons (wop_cmp rfl rfl rfl rfl rfl (fun h => ?_) (fun h => ?_))
  rotate_left
  · have h : ¬ ((i : Int) < e) := of_decide_eq_false h
    repeat (first | refine wops_nil ?_ | refine zq1 rfl rfl ?_ | refine zq2 rfl rfl ?_ | refine zq3 rfl rfl ?_ | refine zq4 rfl rfl rfl rfl (inc (by omega)) ?_ | refine zq5 rfl rfl rfl rfl rfl (by assumption) ?_ | refine zq6 rfl rfl (by assumption) ?_ | refine zq7 rfl rfl rfl ?_ | refine zq8 rfl rfl rfl ?_ | refine zq9 rfl rfl rfl rfl ?_ | refine mobs_move rfl rfl rfl ?_ | refine m_load rfl rfl rfl (by assumption) ?_ | refine mobs_nil ?_ | refine wd_nil ?_ | refine wd_skip rfl rfl ?_ | refine wd_loudSkip rfl rfl ?_ | refine wd_move rfl rfl rfl ?_ | refine wd_assign rfl rfl rfl ?_ | refine wd_pick rfl rfl rfl rfl ?_ | refine d_load rfl rfl rfl (by assumption) ?_ | refine d_lenI rfl rfl rfl rfl rfl rfl (by assumption) ?_ | refine wp_condT rfl ?_ | refine wp_condF rfl ?_ | refine wp_region ?_ | refine wp_seq ?_ | refine wp_skip ?_ | refine wp_exit ?_ | refine wp_block ?_)
    refine ⟨_, _, rfl, hk _ H1 gi hS1 ?_⟩
    rcases hi2 with hi2 | hi2
    · rw [show e = i by omega]; exact hM
    · rcases Nat.lt_or_ge a e with h4 | h4
      · rw [show e = i by omega]; exact hM
      · have e1 : ∀ j, gi j = g j := fun j => by
          rcases Classical.em (a ≤ j ∧ j < i) with h' | h'
          · obtain ⟨x, x1, x2, x3⟩ := hM.mem h'.1 h'.2
            rw [← x3, show x = j by omega]
          · exact hM.out j (by omega)
        rw [show gi = g from funext e1]
        exact Mg.refl (fun i j h1 h2 h3 => by omega)
  have h : (i : Int) < e := of_decide_eq_true h
  have hie : i < e := by omega
  clear h
  have hxi : gi i = g i := hM.out i (.inr (Nat.le_refl _))
  have hgiS : ∀ j, j < n → S (gi j) := fun j hj => by
    rcases Classical.em (a ≤ j ∧ j < i) with h' | h'
    · obtain ⟨x, x1, x2, x3⟩ := hM.mem h'.1 h'.2
      rw [← x3]; exact hSv x (by omega)
    · rw [hM.out j (by omega)]; exact hSv j hj
  have hbef : ∀ j, a ≤ j → j < i → gi j < gi i := fun j h1 h2 => by
    obtain ⟨x, x1, x2, x3⟩ := hM.mem h1 h2
    rw [← x3, hxi]
    exact hasc x i x1 x2 hie
  repeat (first | refine wops_nil ?_ | refine zq1 rfl rfl ?_ | refine zq2 rfl rfl ?_ | refine zq3 rfl rfl ?_ | refine zq4 rfl rfl rfl rfl (inc (by omega)) ?_ | refine zq5 rfl rfl rfl rfl rfl (by assumption) ?_ | refine zq6 rfl rfl (by assumption) ?_ | refine zq7 rfl rfl rfl ?_ | refine zq8 rfl rfl rfl ?_ | refine zq9 rfl rfl rfl rfl ?_ | refine mobs_move rfl rfl rfl ?_ | refine m_load rfl rfl rfl (by assumption) ?_ | refine mobs_nil ?_ | refine wd_nil ?_ | refine wd_skip rfl rfl ?_ | refine wd_loudSkip rfl rfl ?_ | refine wd_move rfl rfl rfl ?_ | refine wd_assign rfl rfl rfl ?_ | refine wd_pick rfl rfl rfl rfl ?_ | refine d_load rfl rfl rfl (by assumption) ?_ | refine d_lenI rfl rfl rfl rfl rfl rfl (by assumption) ?_ | refine wp_condT rfl ?_ | refine wp_condF rfl ?_ | refine wp_region ?_ | refine wp_seq ?_ | refine wp_skip ?_ | refine wp_exit ?_ | refine wp_block ?_)
  refine wp_loop (fun q2 T M H' => ∃ (j : Nat) (Y : List AV), q2 = j ∧ a ≤ j ∧ j ≤ i ∧ (j = i ∨ R (gi i) (gi j) = true) ∧ St H0 b (fl (rot gi j i (i + 1)) n) H' ∧ M = [] ∧
      T = (.slc b 0 n n :: iv a :: iv e :: .fn (.func 63) [] [.ptr tb 0] :: lget Y 0 :: lget Y 1 :: lget Y 2 :: lget Y 3 :: iv (i : Nat) :: iv (j : Nat) :: lget Y 4 :: lget Y 5 :: lget Y 6 :: lget Y 7 :: lget Y 8 :: lget Y 9 :: lget Y 10 :: lget Y 11 :: lget Y 12 :: lget Y 13 :: lget Y 14 :: lget Y 15 :: lget Y 16 :: lget Y 17 :: lget Y 18 :: lget Y 19 :: lget Y 20 :: lget Y 21 :: lget Y 22 :: lget Y 23 :: lget Y 24 :: lget Y 25 :: lget Y 26 :: lget Y 27 :: lget Y 28 :: lget Y 29 :: lget Y 30 :: lget Y 31 :: lget Y 32 :: lget Y 33 :: lget Y 34 :: lget Y 35 :: lget Y 36 :: lget Y 37 :: lget Y 38 :: lget Y 39 :: lget Y 40 :: lget Y 41 :: lget Y 42 :: lget Y 43 :: lget Y 44 :: lget Y 45 :: lget Y 46 :: [])) i
    ⟨i, [_,_,_,_,_,_,_,_,_,_,_,_,_,_,_,_,_,_,_,_,_,_,_,_,_,_,_,_,_,_,_,_,_,_,_,_,_,_,_,_,_,_,_,_,_,_,_], rfl, by omega, Nat.le_refl _, .inl rfl, by rw [rot_id gi (.inl rfl) (Nat.le_refl _) (Nat.le_succ _)]; exact hS1, rfl, rfl⟩ ?_
  rintro q2 T M H2 ⟨j, Y, rfl, haj, hji, hC, hS2, rfl, rfl⟩
  have hlen2 : (ivs (fl (rot gi q2 i (i + 1)) n)).length = n := by rw [ivs_length, fl_length]
  have hSl2 : Sl H2 (.slc b 0 n n) (ivs (fl (rot gi q2 i (i + 1)) n)) := sl_cells h39 hS2.2.2.2 hlen2.symm fun _ _ h => h
  have v1 : rot gi q2 i (i + 1) q2 = gi i := by
    unfold rot
    rw [if_pos (by omega)]
    congr 1
    omega
  have v2 : 0 < q2 → rot gi q2 i (i + 1) (q2 - 1) = gi (q2 - 1) := fun h => rot_out gi (.inl (by omega)) hji (Nat.le_succ _)
  repeat (first | refine wops_nil ?_ | refine zq1 rfl rfl ?_ | refine zq2 rfl rfl ?_ | refine zq3 rfl rfl ?_ | refine zq4 rfl rfl rfl rfl (inc (by omega)) ?_ | refine zq5 rfl rfl rfl rfl rfl (by assumption) ?_ | refine zq6 rfl rfl (by assumption) ?_ | refine zq7 rfl rfl rfl ?_ | refine zq8 rfl rfl rfl ?_ | refine zq9 rfl rfl rfl rfl ?_ | refine mobs_move rfl rfl rfl ?_ | refine m_load rfl rfl rfl (by assumption) ?_ | refine mobs_nil ?_ | refine wd_nil ?_ | refine wd_skip rfl rfl ?_ | refine wd_loudSkip rfl rfl ?_ | refine wd_move rfl rfl rfl ?_ | refine wd_assign rfl rfl rfl ?_ | refine wd_pick rfl rfl rfl rfl ?_ | refine d_load rfl rfl rfl (by assumption) ?_ | refine d_lenI rfl rfl rfl rfl rfl rfl (by assumption) ?_ | refine wp_condT rfl ?_ | refine wp_condF rfl ?_ | refine wp_region ?_ | refine wp_seq ?_ | refine wp_skip ?_ | refine wp_exit ?_ | refine wp_block ?_)
  refine wp_drawG rfl (by kernel_rfl) ?_
  repeat (first | refine wops_nil ?_ | refine zq1 rfl rfl ?_ | refine zq2 rfl rfl ?_ | refine zq3 rfl rfl ?_ | refine zq4 rfl rfl rfl rfl (inc (by omega)) ?_ | refine zq5 rfl rfl rfl rfl rfl (by assumption) ?_ | refine zq6 rfl rfl (by assumption) ?_ | refine zq7 rfl rfl rfl ?_ | refine zq8 rfl rfl rfl ?_ | refine zq9 rfl rfl rfl rfl ?_ | refine mobs_move rfl rfl rfl ?_ | refine m_load rfl rfl rfl (by assumption) ?_ | refine mobs_nil ?_ | refine wd_nil ?_ | refine wd_skip rfl rfl ?_ | refine wd_loudSkip rfl rfl ?_ | refine wd_move rfl rfl rfl ?_ | refine wd_assign rfl rfl rfl ?_ | refine wd_pick rfl rfl rfl rfl ?_ | refine d_load rfl rfl rfl (by assumption) ?_ | refine d_lenI rfl rfl rfl rfl rfl rfl (by assumption) ?_ | refine wp_condT rfl ?_ | refine wp_condF rfl ?_ | refine wp_region ?_ | refine wp_seq ?_ | refine wp_skip ?_ | refine wp_exit ?_ | refine wp_block ?_)
  refine wd_cmp rfl rfl rfl rfl rfl rfl (fun h => ?_) (fun h => ?_)
  rotate_left
  · have h : ¬ ((q2 : Int) > (a : Int)) := of_decide_eq_false h
    have hja : q2 = a := by omega
    subst hja
    repeat (first | refine wops_nil ?_ | refine zq1 rfl rfl ?_ | refine zq2 rfl rfl ?_ | refine zq3 rfl rfl ?_ | refine zq4 rfl rfl rfl rfl (inc (by omega)) ?_ | refine zq5 rfl rfl rfl rfl rfl (by assumption) ?_ | refine zq6 rfl rfl (by assumption) ?_ | refine zq7 rfl rfl rfl ?_ | refine zq8 rfl rfl rfl ?_ | refine zq9 rfl rfl rfl rfl ?_ | refine mobs_move rfl rfl rfl ?_ | refine m_load rfl rfl rfl (by assumption) ?_ | refine mobs_nil ?_ | refine wd_nil ?_ | refine wd_skip rfl rfl ?_ | refine wd_loudSkip rfl rfl ?_ | refine wd_move rfl rfl rfl ?_ | refine wd_assign rfl rfl rfl ?_ | refine wd_pick rfl rfl rfl rfl ?_ | refine d_load rfl rfl rfl (by assumption) ?_ | refine d_lenI rfl rfl rfl rfl rfl rfl (by assumption) ?_ | refine wp_condT rfl ?_ | refine wp_condF rfl ?_ | refine wp_region ?_ | refine wp_seq ?_ | refine wp_skip ?_ | refine wp_exit ?_ | refine wp_block ?_)
    refine ⟨e + 1 - (i + 1), by omega, i + 1, _, [_,_,_,_,_,_,_,_,_,_,_,_,_,_,_,_,_,_,_,_,_,_,_,_,_,_,_,_,_,_,_,_,_,_,_,_,_,_,_,_,_,_,_,_,_,_,_,_], rfl, by omega, .inl (by omega), hM.grow (mg_right hR rfl haj hji hM.sd (.inl rfl) hC) (by omega), hS2, rfl, rfl⟩
  have h : (q2 : Int) > (a : Int) := of_decide_eq_true h
  have hja : a < q2 := by omega
  clear h
  repeat (first | refine wops_nil ?_ | refine zq1 rfl rfl ?_ | refine zq2 rfl rfl ?_ | refine zq3 rfl rfl ?_ | refine zq4 rfl rfl rfl rfl (inc (by omega)) ?_ | refine zq5 rfl rfl rfl rfl rfl (by assumption) ?_ | refine zq6 rfl rfl (by assumption) ?_ | refine zq7 rfl rfl rfl ?_ | refine zq8 rfl rfl rfl ?_ | refine zq9 rfl rfl rfl rfl ?_ | refine mobs_move rfl rfl rfl ?_ | refine m_load rfl rfl rfl (by assumption) ?_ | refine mobs_nil ?_ | refine wd_nil ?_ | refine wd_skip rfl rfl ?_ | refine wd_loudSkip rfl rfl ?_ | refine wd_move rfl rfl rfl ?_ | refine wd_assign rfl rfl rfl ?_ | refine wd_pick rfl rfl rfl rfl ?_ | refine d_load rfl rfl rfl (by assumption) ?_ | refine d_lenI rfl rfl rfl rfl rfl rfl (by assumption) ?_ | refine wp_condT rfl ?_ | refine wp_condF rfl ?_ | refine wp_region ?_ | refine wp_seq ?_ | refine wp_skip ?_ | refine wp_exit ?_ | refine wp_block ?_)
  refine d_indexI rfl rfl rfl hSl2 rfl (fl_get (show q2 < n by omega)) fun p hp => ?_
  repeat (first | refine wops_nil ?_ | refine zq1 rfl rfl ?_ | refine zq2 rfl rfl ?_ | refine zq3 rfl rfl ?_ | refine zq4 rfl rfl rfl rfl (inc (by omega)) ?_ | refine zq5 rfl rfl rfl rfl rfl (by assumption) ?_ | refine zq6 rfl rfl (by assumption) ?_ | refine zq7 rfl rfl rfl ?_ | refine zq8 rfl rfl rfl ?_ | refine zq9 rfl rfl rfl rfl ?_ | refine mobs_move rfl rfl rfl ?_ | refine m_load rfl rfl rfl (by assumption) ?_ | refine mobs_nil ?_ | refine wd_nil ?_ | refine wd_skip rfl rfl ?_ | refine wd_loudSkip rfl rfl ?_ | refine wd_move rfl rfl rfl ?_ | refine wd_assign rfl rfl rfl ?_ | refine wd_pick rfl rfl rfl rfl ?_ | refine d_load rfl rfl rfl (by assumption) ?_ | refine d_lenI rfl rfl rfl rfl rfl rfl (by assumption) ?_ | refine wp_condT rfl ?_ | refine wp_condF rfl ?_ | refine wp_region ?_ | refine wp_seq ?_ | refine wp_skip ?_ | refine wp_exit ?_ | refine wp_block ?_)
  refine wd_bin (op := .sub) rfl rfl rfl rfl rfl (subN1 (by omega) (by omega)) ?_
  repeat (first | refine wops_nil ?_ | refine zq1 rfl rfl ?_ | refine zq2 rfl rfl ?_ | refine zq3 rfl rfl ?_ | refine zq4 rfl rfl rfl rfl (inc (by omega)) ?_ | refine zq5 rfl rfl rfl rfl rfl (by assumption) ?_ | refine zq6 rfl rfl (by assumption) ?_ | refine zq7 rfl rfl rfl ?_ | refine zq8 rfl rfl rfl ?_ | refine zq9 rfl rfl rfl rfl ?_ | refine mobs_move rfl rfl rfl ?_ | refine m_load rfl rfl rfl (by assumption) ?_ | refine mobs_nil ?_ | refine wd_nil ?_ | refine wd_skip rfl rfl ?_ | refine wd_loudSkip rfl rfl ?_ | refine wd_move rfl rfl rfl ?_ | refine wd_assign rfl rfl rfl ?_ | refine wd_pick rfl rfl rfl rfl ?_ | refine d_load rfl rfl rfl (by assumption) ?_ | refine d_lenI rfl rfl rfl rfl rfl rfl (by assumption) ?_ | refine wp_condT rfl ?_ | refine wp_condF rfl ?_ | refine wp_region ?_ | refine wp_seq ?_ | refine wp_skip ?_ | refine wp_exit ?_ | refine wp_block ?_)
  refine d_indexI rfl rfl rfl hSl2 rfl (fl_get (show q2 - 1 < n by omega)) fun p hp => ?_
  repeat (first | refine wops_nil ?_ | refine zq1 rfl rfl ?_ | refine zq2 rfl rfl ?_ | refine zq3 rfl rfl ?_ | refine zq4 rfl rfl rfl rfl (inc (by omega)) ?_ | refine zq5 rfl rfl rfl rfl rfl (by assumption) ?_ | refine zq6 rfl rfl (by assumption) ?_ | refine zq7 rfl rfl rfl ?_ | refine zq8 rfl rfl rfl ?_ | refine zq9 rfl rfl rfl rfl ?_ | refine mobs_move rfl rfl rfl ?_ | refine m_load rfl rfl rfl (by assumption) ?_ | refine mobs_nil ?_ | refine wd_nil ?_ | refine wd_skip rfl rfl ?_ | refine wd_loudSkip rfl rfl ?_ | refine wd_move rfl rfl rfl ?_ | refine wd_assign rfl rfl rfl ?_ | refine wd_pick rfl rfl rfl rfl ?_ | refine d_load rfl rfl rfl (by assumption) ?_ | refine d_lenI rfl rfl rfl rfl rfl rfl (by assumption) ?_ | refine wp_condT rfl ?_ | refine wp_condF rfl ?_ | refine wp_region ?_ | refine wp_seq ?_ | refine wp_skip ?_ | refine wp_exit ?_ | refine wp_block ?_)
  refine wd_loudCall rfl rfl rfl (fun b h => by cases h) ?_
  refine wop_callFn rfl rfl rfl rfl (fn := Tryz.f63) (by rfl) ?_
  refine hcmp H2 (rot gi q2 i (i + 1) q2) (rot gi q2 i (i + 1) (q2 - 1)) hS2.1 hS2.2.1 hS2.2.2.1 (by rw [v1]; exact hgiS i (by omega)) (by rw [v2 (by omega)]; exact hgiS _ (by omega)) _ fun z hz => ⟨Nat.le_refl _, ?_⟩
  rw [v1, v2 (by omega), hlt _ _ (hbef (q2 - 1) (by omega) (by omega))] at hz
  refine wd_cmp rfl rfl rfl rfl rfl rfl (fun h => ?_) (fun h => ?_)
  rotate_left
  · have hl : R (gi (q2 - 1)) (gi i) = true := hR.tot _ _ (fun h' => by have := hbef (q2 - 1) (by omega) (by omega); omega) (by rw [← hz]; exact h)
    repeat (first | refine wops_nil ?_ | refine zq1 rfl rfl ?_ | refine zq2 rfl rfl ?_ | refine zq3 rfl rfl ?_ | refine zq4 rfl rfl rfl rfl (inc (by omega)) ?_ | refine zq5 rfl rfl rfl rfl rfl (by assumption) ?_ | refine zq6 rfl rfl (by assumption) ?_ | refine zq7 rfl rfl rfl ?_ | refine zq8 rfl rfl rfl ?_ | refine zq9 rfl rfl rfl rfl ?_ | refine mobs_move rfl rfl rfl ?_ | refine m_load rfl rfl rfl (by assumption) ?_ | refine mobs_nil ?_ | refine wd_nil ?_ | refine wd_skip rfl rfl ?_ | refine wd_loudSkip rfl rfl ?_ | refine wd_move rfl rfl rfl ?_ | refine wd_assign rfl rfl rfl ?_ | refine wd_pick rfl rfl rfl rfl ?_ | refine d_load rfl rfl rfl (by assumption) ?_ | refine d_lenI rfl rfl rfl rfl rfl rfl (by assumption) ?_ | refine wp_condT rfl ?_ | refine wp_condF rfl ?_ | refine wp_region ?_ | refine wp_seq ?_ | refine wp_skip ?_ | refine wp_exit ?_ | refine wp_block ?_)
    refine ⟨e + 1 - (i + 1), by omega, i + 1, _, [_,_,_,_,_,_,_,_,_,_,_,_,_,_,_,_,_,_,_,_,_,_,_,_,_,_,_,_,_,_,_,_,_,_,_,_,_,_,_,_,_,_,_,_,_,_,_,_], rfl, by omega, .inl (by omega), hM.grow (mg_right hR rfl haj hji hM.sd (.inr hl) hC) (by omega), hS2, rfl, rfl⟩
  have hl : R (gi i) (gi (q2 - 1)) = true := by rw [← hz]; exact h
  repeat (first | refine wops_nil ?_ | refine zq1 rfl rfl ?_ | refine zq2 rfl rfl ?_ | refine zq3 rfl rfl ?_ | refine zq4 rfl rfl rfl rfl (inc (by omega)) ?_ | refine zq5 rfl rfl rfl rfl rfl (by assumption) ?_ | refine zq6 rfl rfl (by assumption) ?_ | refine zq7 rfl rfl rfl ?_ | refine zq8 rfl rfl rfl ?_ | refine zq9 rfl rfl rfl rfl ?_ | refine mobs_move rfl rfl rfl ?_ | refine m_load rfl rfl rfl (by assumption) ?_ | refine mobs_nil ?_ | refine wd_nil ?_ | refine wd_skip rfl rfl ?_ | refine wd_loudSkip rfl rfl ?_ | refine wd_move rfl rfl rfl ?_ | refine wd_assign rfl rfl rfl ?_ | refine wd_pick rfl rfl rfl rfl ?_ | refine d_load rfl rfl rfl (by assumption) ?_ | refine d_lenI rfl rfl rfl rfl rfl rfl (by assumption) ?_ | refine wp_condT rfl ?_ | refine wp_condF rfl ?_ | refine wp_region ?_ | refine wp_seq ?_ | refine wp_skip ?_ | refine wp_exit ?_ | refine wp_block ?_)
  refine Wp.cut (fun T => ∃ Y : List AV, T = (.slc b 0 n n :: iv a :: iv e :: .fn (.func 63) [] [.ptr tb 0] :: lget Y 0 :: lget Y 1 :: lget Y 2 :: lget Y 3 :: iv (i : Nat) :: iv (q2 : Nat) :: lget Y 4 :: lget Y 5 :: lget Y 6 :: lget Y 7 :: lget Y 8 :: lget Y 9 :: lget Y 10 :: lget Y 11 :: lget Y 12 :: lget Y 13 :: lget Y 14 :: lget Y 15 :: lget Y 16 :: lget Y 17 :: lget Y 18 :: lget Y 19 :: lget Y 20 :: lget Y 21 :: lget Y 22 :: lget Y 23 :: lget Y 24 :: lget Y 25 :: lget Y 26 :: lget Y 27 :: lget Y 28 :: lget Y 29 :: lget Y 30 :: lget Y 31 :: lget Y 32 :: lget Y 33 :: lget Y 34 :: lget Y 35 :: lget Y 36 :: lget Y 37 :: lget Y 38 :: lget Y 39 :: lget Y 40 :: lget Y 41 :: lget Y 42 :: lget Y 43 :: lget Y 44 :: lget Y 45 :: lget Y 46 :: [])) ⟨[_,_,_,_,_,_,_,_,_,_,_,_,_,_,_,_,_,_,_,_,_,_,_,_,_,_,_,_,_,_,_,_,_,_,_,_,_,_,_,_,_,_,_,_,_,_,_], rfl⟩ ?_
  rintro T ⟨Y, rfl⟩
  refine wp_drawG rfl (by kernel_rfl) ?_
  repeat (first | refine wops_nil ?_ | refine zq1 rfl rfl ?_ | refine zq2 rfl rfl ?_ | refine zq3 rfl rfl ?_ | refine zq4 rfl rfl rfl rfl (inc (by omega)) ?_ | refine zq5 rfl rfl rfl rfl rfl (by assumption) ?_ | refine zq6 rfl rfl (by assumption) ?_ | refine zq7 rfl rfl rfl ?_ | refine zq8 rfl rfl rfl ?_ | refine zq9 rfl rfl rfl rfl ?_ | refine mobs_move rfl rfl rfl ?_ | refine m_load rfl rfl rfl (by assumption) ?_ | refine mobs_nil ?_ | refine wd_nil ?_ | refine wd_skip rfl rfl ?_ | refine wd_loudSkip rfl rfl ?_ | refine wd_move rfl rfl rfl ?_ | refine wd_assign rfl rfl rfl ?_ | refine wd_pick rfl rfl rfl rfl ?_ | refine d_load rfl rfl rfl (by assumption) ?_ | refine d_lenI rfl rfl rfl rfl rfl rfl (by assumption) ?_ | refine wp_condT rfl ?_ | refine wp_condF rfl ?_ | refine wp_region ?_ | refine wp_seq ?_ | refine wp_skip ?_ | refine wp_exit ?_ | refine wp_block ?_)
  refine wd_bin (op := .sub) rfl rfl rfl rfl rfl (subN1 (by omega) (by omega)) ?_
  repeat (first | refine wops_nil ?_ | refine zq1 rfl rfl ?_ | refine zq2 rfl rfl ?_ | refine zq3 rfl rfl ?_ | refine zq4 rfl rfl rfl rfl (inc (by omega)) ?_ | refine zq5 rfl rfl rfl rfl rfl (by assumption) ?_ | refine zq6 rfl rfl (by assumption) ?_ | refine zq7 rfl rfl rfl ?_ | refine zq8 rfl rfl rfl ?_ | refine zq9 rfl rfl rfl rfl ?_ | refine mobs_move rfl rfl rfl ?_ | refine m_load rfl rfl rfl (by assumption) ?_ | refine mobs_nil ?_ | refine wd_nil ?_ | refine wd_skip rfl rfl ?_ | refine wd_loudSkip rfl rfl ?_ | refine wd_move rfl rfl rfl ?_ | refine wd_assign rfl rfl rfl ?_ | refine wd_pick rfl rfl rfl rfl ?_ | refine d_load rfl rfl rfl (by assumption) ?_ | refine d_lenI rfl rfl rfl rfl rfl rfl (by assumption) ?_ | refine wp_condT rfl ?_ | refine wp_condF rfl ?_ | refine wp_region ?_ | refine wp_seq ?_ | refine wp_skip ?_ | refine wp_exit ?_ | refine wp_block ?_)
  refine wd_bin (op := .sub) rfl rfl rfl rfl rfl (subN1 (by omega) (by omega)) ?_
  repeat (first | refine wops_nil ?_ | refine zq1 rfl rfl ?_ | refine zq2 rfl rfl ?_ | refine zq3 rfl rfl ?_ | refine zq4 rfl rfl rfl rfl (inc (by omega)) ?_ | refine zq5 rfl rfl rfl rfl rfl (by assumption) ?_ | refine zq6 rfl rfl (by assumption) ?_ | refine zq7 rfl rfl rfl ?_ | refine zq8 rfl rfl rfl ?_ | refine zq9 rfl rfl rfl rfl ?_ | refine mobs_move rfl rfl rfl ?_ | refine m_load rfl rfl rfl (by assumption) ?_ | refine mobs_nil ?_ | refine wd_nil ?_ | refine wd_skip rfl rfl ?_ | refine wd_loudSkip rfl rfl ?_ | refine wd_move rfl rfl rfl ?_ | refine wd_assign rfl rfl rfl ?_ | refine wd_pick rfl rfl rfl rfl ?_ | refine d_load rfl rfl rfl (by assumption) ?_ | refine d_lenI rfl rfl rfl rfl rfl rfl (by assumption) ?_ | refine wp_condT rfl ?_ | refine wp_condF rfl ?_ | refine wp_region ?_ | refine wp_seq ?_ | refine wp_skip ?_ | refine wp_exit ?_ | refine wp_block ?_)
  refine d_indexI rfl rfl rfl hSl2 rfl (fl_get (show q2 - 1 < n by omega)) fun p hp => ?_
  repeat (first | refine wops_nil ?_ | refine zq1 rfl rfl ?_ | refine zq2 rfl rfl ?_ | refine zq3 rfl rfl ?_ | refine zq4 rfl rfl rfl rfl (inc (by omega)) ?_ | refine zq5 rfl rfl rfl rfl rfl (by assumption) ?_ | refine zq6 rfl rfl (by assumption) ?_ | refine zq7 rfl rfl rfl ?_ | refine zq8 rfl rfl rfl ?_ | refine zq9 rfl rfl rfl rfl ?_ | refine mobs_move rfl rfl rfl ?_ | refine m_load rfl rfl rfl (by assumption) ?_ | refine mobs_nil ?_ | refine wd_nil ?_ | refine wd_skip rfl rfl ?_ | refine wd_loudSkip rfl rfl ?_ | refine wd_move rfl rfl rfl ?_ | refine wd_assign rfl rfl rfl ?_ | refine wd_pick rfl rfl rfl rfl ?_ | refine d_load rfl rfl rfl (by assumption) ?_ | refine d_lenI rfl rfl rfl rfl rfl rfl (by assumption) ?_ | refine wp_condT rfl ?_ | refine wp_condF rfl ?_ | refine wp_region ?_ | refine wp_seq ?_ | refine wp_skip ?_ | refine wp_exit ?_ | refine wp_block ?_)
  refine d_indexI rfl rfl rfl hSl2 rfl (fl_get (show q2 < n by omega)) fun p hp => ?_
  repeat (first | refine wops_nil ?_ | refine zq1 rfl rfl ?_ | refine zq2 rfl rfl ?_ | refine zq3 rfl rfl ?_ | refine zq4 rfl rfl rfl rfl (inc (by omega)) ?_ | refine zq5 rfl rfl rfl rfl rfl (by assumption) ?_ | refine zq6 rfl rfl (by assumption) ?_ | refine zq7 rfl rfl rfl ?_ | refine zq8 rfl rfl rfl ?_ | refine zq9 rfl rfl rfl rfl ?_ | refine mobs_move rfl rfl rfl ?_ | refine m_load rfl rfl rfl (by assumption) ?_ | refine mobs_nil ?_ | refine wd_nil ?_ | refine wd_skip rfl rfl ?_ | refine wd_loudSkip rfl rfl ?_ | refine wd_move rfl rfl rfl ?_ | refine wd_assign rfl rfl rfl ?_ | refine wd_pick rfl rfl rfl rfl ?_ | refine d_load rfl rfl rfl (by assumption) ?_ | refine d_lenI rfl rfl rfl rfl rfl rfl (by assumption) ?_ | refine wp_condT rfl ?_ | refine wp_condF rfl ?_ | refine wp_region ?_ | refine wp_seq ?_ | refine wp_skip ?_ | refine wp_exit ?_ | refine wp_block ?_)
  refine d_indexOwn rfl rfl rfl rfl rfl (show q2 < n by omega) ?_
  refine wd_loud rfl rfl ?_
  refine o_store rfl rfl rfl hS2.2.2.2 (by omega) rfl ?_
  refine d_indexOwn rfl rfl rfl rfl rfl (show q2 - 1 < n by omega) ?_
  refine wd_loud rfl rfl ?_
  refine o_store rfl rfl rfl (get_set_eq h39) (by rw [List.length_set]; omega) rfl ?_
  refine wd_nil ?_
  repeat (first | refine wops_nil ?_ | refine zq1 rfl rfl ?_ | refine zq2 rfl rfl ?_ | refine zq3 rfl rfl ?_ | refine zq4 rfl rfl rfl rfl (inc (by omega)) ?_ | refine zq5 rfl rfl rfl rfl rfl (by assumption) ?_ | refine zq6 rfl rfl (by assumption) ?_ | refine zq7 rfl rfl rfl ?_ | refine zq8 rfl rfl rfl ?_ | refine zq9 rfl rfl rfl rfl ?_ | refine mobs_move rfl rfl rfl ?_ | refine m_load rfl rfl rfl (by assumption) ?_ | refine mobs_nil ?_ | refine wd_nil ?_ | refine wd_skip rfl rfl ?_ | refine wd_loudSkip rfl rfl ?_ | refine wd_move rfl rfl rfl ?_ | refine wd_assign rfl rfl rfl ?_ | refine wd_pick rfl rfl rfl rfl ?_ | refine d_load rfl rfl rfl (by assumption) ?_ | refine d_lenI rfl rfl rfl rfl rfl rfl (by assumption) ?_ | refine wp_condT rfl ?_ | refine wp_condF rfl ?_ | refine wp_region ?_ | refine wp_seq ?_ | refine wp_skip ?_ | refine wp_exit ?_ | refine wp_block ?_)
  refine wops_cons (wop_bin (op := .sub) rfl rfl rfl rfl (subN1 (by omega) (by omega)) ?_)
  repeat (first | refine wops_nil ?_ | refine zq1 rfl rfl ?_ | refine zq2 rfl rfl ?_ | refine zq3 rfl rfl ?_ | refine zq4 rfl rfl rfl rfl (inc (by omega)) ?_ | refine zq5 rfl rfl rfl rfl rfl (by assumption) ?_ | refine zq6 rfl rfl (by assumption) ?_ | refine zq7 rfl rfl rfl ?_ | refine zq8 rfl rfl rfl ?_ | refine zq9 rfl rfl rfl rfl ?_ | refine mobs_move rfl rfl rfl ?_ | refine m_load rfl rfl rfl (by assumption) ?_ | refine mobs_nil ?_ | refine wd_nil ?_ | refine wd_skip rfl rfl ?_ | refine wd_loudSkip rfl rfl ?_ | refine wd_move rfl rfl rfl ?_ | refine wd_assign rfl rfl rfl ?_ | refine wd_pick rfl rfl rfl rfl ?_ | refine d_load rfl rfl rfl (by assumption) ?_ | refine d_lenI rfl rfl rfl rfl rfl rfl (by assumption) ?_ | refine wp_condT rfl ?_ | refine wp_condF rfl ?_ | refine wp_region ?_ | refine wp_seq ?_ | refine wp_skip ?_ | refine wp_exit ?_ | refine wp_block ?_)
  refine ⟨q2 - 1, by omega, q2 - 1, [_,_,_,_,_,_,_,_,_,_,_,_,_,_,_,_,_,_,_,_,_,_,_,_,_,_,_,_,_,_,_,_,_,_,_,_,_,_,_,_,_,_,_,_,_,_,_], rfl, by omega, by omega, .inr hl, ⟨hS2.1, hS2.2.1, fun d hd => ?_, ?_⟩, rfl, rfl⟩
  · rw [get_set_ne h39 hd, get_set_ne h39 hd]; exact hS2.2.2.1 d hd
  · rw [get_set_eq h39]
    show some (AB.cells (((ivs (fl (rot gi q2 i (i + 1)) n)).set q2 (iv (rot gi q2 i (i + 1) (q2 - 1)))).set (q2 - 1) (iv (rot gi q2 i (i + 1) q2))) 3 0) = _
    rw [ivs_fl_set, ivs_fl_set, rot_down gi (by omega) hji]
end Go.Ev
namespace Go.Ev
open Go.Proofs
theorem dvd_step {d s a : Nat} (h1 : d ∣ s) (h2 : d ∣ a) (h : s < a) : s + d ≤ a := by
  obtain ⟨x, rfl⟩ := h1
  obtain ⟨y, rfl⟩ := h2
  have hxy : x < y := Nat.lt_of_mul_lt_mul_left h
  have := Nat.mul_le_mul_left d hxy
  rw [Nat.mul_succ] at this
  exact this
theorem div_blk {d a i : Nat} (hd : 0 < d) (h : d ∣ a) (h1 : a ≤ i) (h2 : i < a + d) : i / d = a / d := by
  obtain ⟨x, rfl⟩ := h
  rw [Nat.mul_div_cancel_left x hd]
  refine Nat.div_eq_of_lt_le ?_ ?_
  · rw [Nat.mul_comm]; exact h1
  · rw [Nat.succ_mul, Nat.mul_comm]; exact h2
def vb (d n : Nat) (g : Nat → Int) (lo : Nat) : Prop := ∀ j, lo ≤ j → j < n → ∃ v : Nat, g j = (v : Int) ∧ v / d = j / d
theorem vb_lt {d n lo i j : Nat} {g : Nat → Int} (h : vb d n g lo) (hi : lo ≤ i) (hi2 : i < n) (hj : lo ≤ j) (hj2 : j < n) (hq : i / d < j / d) : g i < g j := by
  obtain ⟨v, e1, e2⟩ := h i hi hi2
  obtain ⟨w, e3, e4⟩ := h j hj hj2
  rw [e1, e3]
  rcases Nat.lt_or_ge v w with h' | h'
  · omega
  · have := Nat.div_le_div_right (c := d) h'
    omega
theorem vb_mg {R : Int → Int → Bool} {d n lo a e q : Nat} {g g' : Nat → Int} (h : vb d n g lo) (hM : Mg R g a e g') (hla : lo ≤ a) (hen : e ≤ n) (hq : ∀ j, a ≤ j → j < e → j / d = q) : vb d n g' lo := fun j hj1 hj2 => by
  rcases Classical.em (a ≤ j ∧ j < e) with h' | h'
  · obtain ⟨x, x1, x2, x3⟩ := hM.mem h'.1 h'.2
    obtain ⟨v, e1, e2⟩ := h x (by omega) (by omega)
    exact ⟨v, by rw [← x3, e1], by rw [e2, hq x x1 x2, hq j h'.1 h'.2]⟩
  · rw [hM.out j (by omega)]; exact h j hj1 hj2
theorem vb_dbl {d n lo : Nat} {g : Nat → Int} (h : vb d n g lo) : vb (d * 2) n g lo := fun j hj1 hj2 => by
  obtain ⟨v, e1, e2⟩ := h j hj1 hj2
  exact ⟨v, e1, by rw [← Nat.div_div_eq_div_mul, ← Nat.div_div_eq_div_mul, e2]⟩
theorem mul2 {i : Nat} (h : i < 2000000000000000000) : binI .mul .i64 .i64 2 (i : Int) = some (.int .i64 ((i * 2 : Nat) : Int)) := by
  show some (Value.int .i64 (IntKind.i64.wrap (2 * (i : Int)))) = _
  rw [wrap_id (by omega) (by omega), show (2 * (i : Int)) = ((i * 2 : Nat) : Int) by omega]
theorem mul2' {i : Nat} (h : i < 2000000000000000000) : binI .mul .i64 .i64 (i : Int) 2 = some (.int .i64 ((i * 2 : Nat) : Int)) := by
  show some (Value.int .i64 (IntKind.i64.wrap ((i : Int) * 2))) = _
  rw [wrap_id (by omega) (by omega), show ((i : Int) * 2) = ((i * 2 : Nat) : Int) by omega]
def idn : Nat → Int := fun j => (j : Int)
variable {O : CallF} (hq : Quiet O)
include hq
theorem cStab (lt R : Int → Int → Bool) (hR : Tot R) (hlt : ∀ u v, v < u → lt u v = R u v) (H0 : AH) (b n tb : Nat) (hn : n ≤ 1000) (h39 : b < 2 ^ 39) (S : Int → Prop)
    (hcmp : ∀ (Hm : AH) (u v : Int), Hm.next = H0.next → Hm.gl = H0.gl → (∀ c, c ≠ b → Hm.get c = H0.get c) → S u → S v → ∀ K : AV → AH → Prop, (∀ z : Int, decide (z < 0) = lt u v → K (iv z) Hm) → Ca (ENV O) 63 [iv u, iv v, .ptr tb 0] Hm K)
    (H : AH) (hS : St H0 b (fl idn n) H) (hSv : ∀ i : Nat, i < n → S (i : Int))
    (K : AV → AH → Prop) (hk : ∀ r H' g', St H0 b (fl g' n) H' → Sd R g' 0 n → (seg g' 0 n).Perm (seg idn 0 n) → K r H') : Ca (ENV O) 116 [.slc b 0 n n, iv n, .fn (.func 63) [] [.ptr tb 0]] H K := by
  have hSp : ∀ g' : Nat → Int, (seg g' 0 n).Perm (seg idn 0 n) → ∀ i, i < n → S (g' i) := fun g' hp i hi => by
    obtain ⟨j, _, j2, j3⟩ := seg_mem.1 (hp.mem_iff.1 (seg_mem.2 ⟨i, Nat.zero_le _, hi, rfl⟩))
    rw [← j3]
    exact hSv j j2
  refine ca_intro (hq _ _ _ rfl) (fn := Tryz.f116) (by rfl) rfl ?_
  repeat (first | refine wops_nil ?_ | refine zq1 rfl rfl ?_ | refine zq2 rfl rfl ?_ | refine zq3 rfl rfl ?_ | refine zq4 rfl rfl rfl rfl (inc (by omega)) ?_ | refine zq5 rfl rfl rfl rfl rfl (by assumption) ?_ | refine zq6 rfl rfl (by assumption) ?_ | refine zq7 rfl rfl rfl ?_ | refine zq8 rfl rfl rfl ?_ | refine zq9 rfl rfl rfl rfl ?_ | refine wp_condT rfl ?_ | refine wp_condF rfl ?_ | refine wp_region ?_ | refine wp_seq ?_ | refine wp_skip ?_ | refine wp_exit ?_ | refine wp_block ?_)
  refine wp_loop (fun q T M H' => ∃ (a : Nat) (gk : Nat → Int) (Y : List AV), q = n - a ∧ 20 ∣ a ∧ a ≤ n ∧ (∀ s, 20 ∣ s → s < a → Sd R gk s (s + 20)) ∧ (∀ j, a ≤ j → gk j = (j : Int)) ∧ vb 20 n gk 0 ∧ (seg gk 0 n).Perm (seg idn 0 n) ∧ St H0 b (fl gk n) H' ∧ M = [] ∧
      T = (.slc b 0 n n :: iv n :: .fn (.func 63) [] [.ptr tb 0] :: lget Y 0 :: lget Y 1 :: lget Y 2 :: iv 20 :: iv (a : Nat) :: iv (a + 20 : Nat) :: lget Y 3 :: lget Y 4 :: lget Y 5 :: lget Y 6 :: lget Y 7 :: lget Y 8 :: lget Y 9 :: lget Y 10 :: lget Y 11 :: lget Y 12 :: lget Y 13 :: lget Y 14 :: lget Y 15 :: lget Y 16 :: lget Y 17 :: lget Y 18 :: lget Y 19 :: lget Y 20 :: lget Y 21 :: lget Y 22 :: lget Y 23 :: lget Y 24 :: lget Y 25 :: lget Y 26 :: lget Y 27 :: lget Y 28 :: lget Y 29 :: lget Y 30 :: lget Y 31 :: lget Y 32 :: lget Y 33 :: lget Y 34 :: lget Y 35 :: lget Y 36 :: lget Y 37 :: lget Y 38 :: lget Y 39 :: lget Y 40 :: lget Y 41 :: lget Y 42 :: lget Y 43 :: lget Y 44 :: lget Y 45 :: lget Y 46 :: lget Y 47 :: lget Y 48 :: lget Y 49 :: lget Y 50 :: lget Y 51 :: lget Y 52 :: lget Y 53 :: lget Y 54 :: lget Y 55 :: lget Y 56 :: [])) n
    ⟨0, idn, [_,_,_,_,_,_,_,_,_,_,_,_,_,_,_,_,_,_,_,_,_,_,_,_,_,_,_,_,_,_,_,_,_,_,_,_,_,_,_,_,_,_,_,_,_,_,_,_,_,_,_,_,_,_,_,_,_], rfl, Nat.dvd_zero _, Nat.zero_le _, (fun s _ h => by omega), (fun j _ => rfl), (fun j _ _ => ⟨j, rfl, rfl⟩), List.Perm.refl _, hS, rfl, rfl⟩ ?_
  rintro q T M H1 ⟨a, gk, Y, hq1, had, han, hsd, htl, hvb, hpm, hS1, rfl, rfl⟩
  repeat (first | refine wops_nil ?_ | refine zq1 rfl rfl ?_ | refine zq2 rfl rfl ?_ | refine zq3 rfl rfl ?_ | refine zq4 rfl rfl rfl rfl (inc (by omega)) ?_ | refine zq5 rfl rfl rfl rfl rfl (by assumption) ?_ | refine zq6 rfl rfl (by assumption) ?_ | refine zq7 rfl rfl rfl ?_ | refine zq8 rfl rfl rfl ?_ | refine zq9 rfl rfl rfl rfl ?_ | refine wp_condT rfl ?_ | refine wp_condF rfl ?_ | refine wp_region ?_ | refine wp_seq ?_ | refine wp_skip ?_ | refine wp_exit ?_ | refine wp_block ?_)
  refine wops_cons (wop_cmp rfl rfl rfl rfl rfl (fun h => ?_) (fun h => ?_))
  · have h : ((a + 20 : Nat) : Int) ≤ n := of_decide_eq_true h
    have han2 : a + 20 ≤ n := by omega
    clear h
    repeat (first | refine wops_nil ?_ | refine zq1 rfl rfl ?_ | refine zq2 rfl rfl ?_ | refine zq3 rfl rfl ?_ | refine zq4 rfl rfl rfl rfl (inc (by omega)) ?_ | refine zq5 rfl rfl rfl rfl rfl (by assumption) ?_ | refine zq6 rfl rfl (by assumption) ?_ | refine zq7 rfl rfl rfl ?_ | refine zq8 rfl rfl rfl ?_ | refine zq9 rfl rfl rfl rfl ?_ | refine wp_condT rfl ?_ | refine wp_condF rfl ?_ | refine wp_region ?_ | refine wp_seq ?_ | refine wp_skip ?_ | refine wp_exit ?_ | refine wp_block ?_)
    refine wops_cons (wop_callF rfl rfl rfl (fn := Tryz.f165) (by rfl) ?_)
    refine cIns hq lt R hR hlt H0 b n tb hn h39 S hcmp a (a + 20) gk H1 (by omega) han2 hS1 (hSp gk hpm) (fun i j h1 h2 h3 => by rw [htl i h1, htl j (by omega)]; omega) _ fun r H2 g2 h2 hM => ⟨Nat.le_of_eq (hS1.1.trans h2.1.symm), ?_⟩
    repeat (first | refine wops_nil ?_ | refine zq1 rfl rfl ?_ | refine zq2 rfl rfl ?_ | refine zq3 rfl rfl ?_ | refine zq4 rfl rfl rfl rfl (inc (by omega)) ?_ | refine zq5 rfl rfl rfl rfl rfl (by assumption) ?_ | refine zq6 rfl rfl (by assumption) ?_ | refine zq7 rfl rfl rfl ?_ | refine zq8 rfl rfl rfl ?_ | refine zq9 rfl rfl rfl rfl ?_ | refine wp_condT rfl ?_ | refine wp_condF rfl ?_ | refine wp_region ?_ | refine wp_seq ?_ | refine wp_skip ?_ | refine wp_exit ?_ | refine wp_block ?_)
    refine ⟨n - (a + 20), by omega, a + 20, g2, [_,_,_,_,_,_,_,_,_,_,_,_,_,_,_,_,_,_,_,_,_,_,_,_,_,_,_,_,_,_,_,_,_,_,_,_,_,_,_,_,_,_,_,_,_,_,_,_,_,_,_,_,_,_,_,_,_], rfl, Nat.dvd_add had (Nat.dvd_refl _), han2, fun s h1 h3 => ?_, fun j hj => ?_, vb_mg hvb hM (Nat.zero_le _) han2 (fun j h1 h3 => div_blk (by decide) had h1 h3), (hM.whole (by omega) han2).trans hpm, h2, rfl, rfl⟩
    · rcases Nat.lt_or_ge s a with h4 | h4
      · have := dvd_step h1 had h4
        exact (hsd s h1 h4).ext fun i _ hi => (hM.out i (.inl (by omega))).symm
      · rcases Nat.lt_or_ge a s with h5 | h5
        · have := dvd_step had h1 h5; omega
        · rw [show s = a by omega]; exact hM.sd
    · rw [hM.out j (.inr hj)]; exact htl j (by omega)
  have h : ¬ ((a + 20 : Nat) : Int) ≤ n := of_decide_eq_false h
  have han2 : n < a + 20 := by omega
  clear h
  repeat (first | refine wops_nil ?_ | refine zq1 rfl rfl ?_ | refine zq2 rfl rfl ?_ | refine zq3 rfl rfl ?_ | refine zq4 rfl rfl rfl rfl (inc (by omega)) ?_ | refine zq5 rfl rfl rfl rfl rfl (by assumption) ?_ | refine zq6 rfl rfl (by assumption) ?_ | refine zq7 rfl rfl rfl ?_ | refine zq8 rfl rfl rfl ?_ | refine zq9 rfl rfl rfl rfl ?_ | refine wp_condT rfl ?_ | refine wp_condF rfl ?_ | refine wp_region ?_ | refine wp_seq ?_ | refine wp_skip ?_ | refine wp_exit ?_ | refine wp_block ?_)
  refine wops_cons (wop_callF rfl rfl rfl (fn := Tryz.f165) (by rfl) ?_)
  refine cIns hq lt R hR hlt H0 b n tb hn h39 S hcmp a n gk H1 han (Nat.le_refl _) hS1 (hSp gk hpm) (fun i j h1 h2 h3 => by rw [htl i h1, htl j (by omega)]; omega) _ fun r H2 g2 h2 hM => ⟨Nat.le_of_eq (hS1.1.trans h2.1.symm), ?_⟩
  have hall : ∀ s, 20 ∣ s → s < n → Sd R g2 s (min (s + 20) n) := fun s h1 h3 => by
    rcases Nat.lt_or_ge s a with h4 | h4
    · have := dvd_step h1 had h4
      rw [Nat.min_eq_left (by omega)]
      exact (hsd s h1 h4).ext fun i _ hi => (hM.out i (.inl (by omega))).symm
    · rcases Nat.lt_or_ge a s with h5 | h5
      · have := dvd_step had h1 h5; omega
      · rw [show s = a by omega, Nat.min_eq_right (by omega)]; exact hM.sd
  have hvb2 : vb 20 n g2 0 := vb_mg hvb hM (Nat.zero_le _) (Nat.le_refl _) (fun j h1 h3 => div_blk (by decide) had h1 (by omega))
  have hpm2 := (hM.whole han (Nat.le_refl _)).trans hpm
  clear hM hvb hpm hsd htl hS1 hq1
  repeat (first | refine wops_nil ?_ | refine zq1 rfl rfl ?_ | refine zq2 rfl rfl ?_ | refine zq3 rfl rfl ?_ | refine zq4 rfl rfl rfl rfl (inc (by omega)) ?_ | refine zq5 rfl rfl rfl rfl rfl (by assumption) ?_ | refine zq6 rfl rfl (by assumption) ?_ | refine zq7 rfl rfl rfl ?_ | refine zq8 rfl rfl rfl ?_ | refine zq9 rfl rfl rfl rfl ?_ | refine wp_condT rfl ?_ | refine wp_condF rfl ?_ | refine wp_region ?_ | refine wp_seq ?_ | refine wp_skip ?_ | refine wp_exit ?_ | refine wp_block ?_)
  refine wp_loop (fun q T M H' => ∃ (d : Nat) (gk : Nat → Int) (Y : List AV), q = n - d ∧ 0 < d ∧ d ≤ 2000 ∧ (∀ s, d ∣ s → s < n → Sd R gk s (min (s + d) n)) ∧ vb d n gk 0 ∧ (seg gk 0 n).Perm (seg idn 0 n) ∧ St H0 b (fl gk n) H' ∧ M = [] ∧
      T = (.slc b 0 n n :: iv n :: .fn (.func 63) [] [.ptr tb 0] :: lget Y 0 :: lget Y 1 :: lget Y 2 :: iv (d : Nat) :: lget Y 3 :: lget Y 4 :: lget Y 5 :: lget Y 6 :: lget Y 7 :: lget Y 8 :: lget Y 9 :: lget Y 10 :: lget Y 11 :: lget Y 12 :: lget Y 13 :: lget Y 14 :: lget Y 15 :: lget Y 16 :: lget Y 17 :: lget Y 18 :: lget Y 19 :: lget Y 20 :: lget Y 21 :: lget Y 22 :: lget Y 23 :: lget Y 24 :: lget Y 25 :: lget Y 26 :: lget Y 27 :: lget Y 28 :: lget Y 29 :: lget Y 30 :: lget Y 31 :: lget Y 32 :: lget Y 33 :: lget Y 34 :: lget Y 35 :: lget Y 36 :: lget Y 37 :: lget Y 38 :: lget Y 39 :: lget Y 40 :: lget Y 41 :: lget Y 42 :: lget Y 43 :: lget Y 44 :: lget Y 45 :: lget Y 46 :: lget Y 47 :: lget Y 48 :: lget Y 49 :: lget Y 50 :: lget Y 51 :: lget Y 52 :: lget Y 53 :: lget Y 54 :: lget Y 55 :: lget Y 56 :: lget Y 57 :: lget Y 58 :: [])) (n - 20)
    ⟨20, g2, [_,_,_,_,_,_,_,_,_,_,_,_,_,_,_,_,_,_,_,_,_,_,_,_,_,_,_,_,_,_,_,_,_,_,_,_,_,_,_,_,_,_,_,_,_,_,_,_,_,_,_,_,_,_,_,_,_,_,_], rfl, by decide, by decide, hall, hvb2, hpm2, h2, rfl, rfl⟩ ?_
  clear hall hvb2 hpm2 h2
  rintro q T M H3 ⟨d, gk, Y, hq1, hd0, hd2, hsd, hvb, hpm, hS3, rfl, rfl⟩
  repeat (first | refine wops_nil ?_ | refine zq1 rfl rfl ?_ | refine zq2 rfl rfl ?_ | refine zq3 rfl rfl ?_ | refine zq4 rfl rfl rfl rfl (inc (by omega)) ?_ | refine zq5 rfl rfl rfl rfl rfl (by assumption) ?_ | refine zq6 rfl rfl (by assumption) ?_ | refine zq7 rfl rfl rfl ?_ | refine zq8 rfl rfl rfl ?_ | refine zq9 rfl rfl rfl rfl ?_ | refine wp_condT rfl ?_ | refine wp_condF rfl ?_ | refine wp_region ?_ | refine wp_seq ?_ | refine wp_skip ?_ | refine wp_exit ?_ | refine wp_block ?_)
  refine wops_cons (wop_cmp rfl rfl rfl rfl rfl (fun h => ?_) (fun h => ?_))
  rotate_left
  · have h : ¬ ((d : Int) < n) := of_decide_eq_false h
    repeat (first | refine wops_nil ?_ | refine zq1 rfl rfl ?_ | refine zq2 rfl rfl ?_ | refine zq3 rfl rfl ?_ | refine zq4 rfl rfl rfl rfl (inc (by omega)) ?_ | refine zq5 rfl rfl rfl rfl rfl (by assumption) ?_ | refine zq6 rfl rfl (by assumption) ?_ | refine zq7 rfl rfl rfl ?_ | refine zq8 rfl rfl rfl ?_ | refine zq9 rfl rfl rfl rfl ?_ | refine wp_condT rfl ?_ | refine wp_condF rfl ?_ | refine wp_region ?_ | refine wp_seq ?_ | refine wp_skip ?_ | refine wp_exit ?_ | refine wp_block ?_)
    refine ⟨_, _, rfl, hk _ H3 gk hS3 ?_ hpm⟩
    rcases Nat.eq_zero_or_pos n with h0 | h0
    · subst h0; exact fun i j h1 h2 h3 => by omega
    · have := hsd 0 (Nat.dvd_zero _) h0
      rwa [Nat.zero_add, Nat.min_eq_right (by omega)] at this
  have h : (d : Int) < n := of_decide_eq_true h
  have hdn : d < n := by omega
  clear h
  repeat (first | refine wops_nil ?_ | refine zq1 rfl rfl ?_ | refine zq2 rfl rfl ?_ | refine zq3 rfl rfl ?_ | refine zq4 rfl rfl rfl rfl (inc (by omega)) ?_ | refine zq5 rfl rfl rfl rfl rfl (by assumption) ?_ | refine zq6 rfl rfl (by assumption) ?_ | refine zq7 rfl rfl rfl ?_ | refine zq8 rfl rfl rfl ?_ | refine zq9 rfl rfl rfl rfl ?_ | refine wp_condT rfl ?_ | refine wp_condF rfl ?_ | refine wp_region ?_ | refine wp_seq ?_ | refine wp_skip ?_ | refine wp_exit ?_ | refine wp_block ?_)
  refine wops_cons (wop_bin (op := .mul) rfl rfl rfl rfl (mul2 (by omega)) ?_)
  repeat (first | refine wops_nil ?_ | refine zq1 rfl rfl ?_ | refine zq2 rfl rfl ?_ | refine zq3 rfl rfl ?_ | refine zq4 rfl rfl rfl rfl (inc (by omega)) ?_ | refine zq5 rfl rfl rfl rfl rfl (by assumption) ?_ | refine zq6 rfl rfl (by assumption) ?_ | refine zq7 rfl rfl rfl ?_ | refine zq8 rfl rfl rfl ?_ | refine zq9 rfl rfl rfl rfl ?_ | refine wp_condT rfl ?_ | refine wp_condF rfl ?_ | refine wp_region ?_ | refine wp_seq ?_ | refine wp_skip ?_ | refine wp_exit ?_ | refine wp_block ?_)
  refine wp_loop (fun q T M H' => ∃ (a : Nat) (gk : Nat → Int) (Y : List AV), q = n - a ∧ d * 2 ∣ a ∧ a ≤ n ∧ (∀ s, d * 2 ∣ s → s < a → Sd R gk s (s + d * 2)) ∧ (∀ s, d ∣ s → a ≤ s → s < n → Sd R gk s (min (s + d) n)) ∧ vb (d * 2) n gk 0 ∧ vb d n gk a ∧ (seg gk 0 n).Perm (seg idn 0 n) ∧ St H0 b (fl gk n) H' ∧ M = [] ∧
      T = (.slc b 0 n n :: iv n :: .fn (.func 63) [] [.ptr tb 0] :: lget Y 0 :: lget Y 1 :: lget Y 2 :: iv (d : Nat) :: iv (a : Nat) :: iv (a + d * 2 : Nat) :: lget Y 3 :: lget Y 4 :: lget Y 5 :: lget Y 6 :: lget Y 7 :: lget Y 8 :: lget Y 9 :: lget Y 10 :: lget Y 11 :: lget Y 12 :: lget Y 13 :: lget Y 14 :: lget Y 15 :: lget Y 16 :: lget Y 17 :: lget Y 18 :: lget Y 19 :: lget Y 20 :: lget Y 21 :: lget Y 22 :: lget Y 23 :: lget Y 24 :: lget Y 25 :: lget Y 26 :: lget Y 27 :: lget Y 28 :: lget Y 29 :: lget Y 30 :: lget Y 31 :: lget Y 32 :: lget Y 33 :: lget Y 34 :: lget Y 35 :: lget Y 36 :: lget Y 37 :: lget Y 38 :: lget Y 39 :: lget Y 40 :: lget Y 41 :: lget Y 42 :: lget Y 43 :: lget Y 44 :: lget Y 45 :: lget Y 46 :: lget Y 47 :: lget Y 48 :: lget Y 49 :: lget Y 50 :: lget Y 51 :: lget Y 52 :: lget Y 53 :: lget Y 54 :: lget Y 55 :: lget Y 56 :: [])) n
    ⟨0, gk, [_,_,_,_,_,_,_,_,_,_,_,_,_,_,_,_,_,_,_,_,_,_,_,_,_,_,_,_,_,_,_,_,_,_,_,_,_,_,_,_,_,_,_,_,_,_,_,_,_,_,_,_,_,_,_,_,_], rfl, Nat.dvd_zero _, Nat.zero_le _, (fun s _ h => by omega), (fun s h1 _ h3 => hsd s h1 h3), vb_dbl hvb, hvb, hpm, hS3, rfl, by rw [Nat.zero_add]; rfl⟩ ?_
  clear hsd hvb hpm hS3
  rintro q2 T M H4 ⟨a, gk, Y, hq2, had, han, hsd, htl, hvb2, hvb, hpm, hS4, rfl, rfl⟩
  have hda : d ∣ a := Nat.dvd_trans (Nat.dvd_mul_right d 2) had
  have hord : ∀ e, e ≤ n → e ≤ a + d * 2 → ∀ i j, a ≤ i → i < a + d → a + d ≤ j → j < e → gk i < gk j := fun e he1 he2 i j h1 h2 h3 h4 => by
    refine vb_lt hvb h1 (by omega) (by omega) (by omega) ?_
    rw [div_blk hd0 hda h1 h2, div_blk hd0 (Nat.dvd_add hda (Nat.dvd_refl _)) h3 (by omega), Nat.add_div_right _ hd0]
    omega
  repeat (first | refine wops_nil ?_ | refine zq1 rfl rfl ?_ | refine zq2 rfl rfl ?_ | refine zq3 rfl rfl ?_ | refine zq4 rfl rfl rfl rfl (inc (by omega)) ?_ | refine zq5 rfl rfl rfl rfl rfl (by assumption) ?_ | refine zq6 rfl rfl (by assumption) ?_ | refine zq7 rfl rfl rfl ?_ | refine zq8 rfl rfl rfl ?_ | refine zq9 rfl rfl rfl rfl ?_ | refine wp_condT rfl ?_ | refine wp_condF rfl ?_ | refine wp_region ?_ | refine wp_seq ?_ | refine wp_skip ?_ | refine wp_exit ?_ | refine wp_block ?_)
  refine wops_cons (wop_cmp rfl rfl rfl rfl rfl (fun h => ?_) (fun h => ?_))
  · have h : ((a + d * 2 : Nat) : Int) ≤ n := of_decide_eq_true h
    have han2 : a + d * 2 ≤ n := by omega
    clear h
    repeat (first | refine wops_nil ?_ | refine zq1 rfl rfl ?_ | refine zq2 rfl rfl ?_ | refine zq3 rfl rfl ?_ | refine zq4 rfl rfl rfl rfl (inc (by omega)) ?_ | refine zq5 rfl rfl rfl rfl rfl (by assumption) ?_ | refine zq6 rfl rfl (by assumption) ?_ | refine zq7 rfl rfl rfl ?_ | refine zq8 rfl rfl rfl ?_ | refine zq9 rfl rfl rfl rfl ?_ | refine wp_condT rfl ?_ | refine wp_condF rfl ?_ | refine wp_region ?_ | refine wp_seq ?_ | refine wp_skip ?_ | refine wp_exit ?_ | refine wp_block ?_)
    refine wops_cons (wop_bin (op := .add) rfl rfl rfl rfl (addN (i := a) (j := d) (by omega)) ?_)
    repeat (first | refine wops_nil ?_ | refine zq1 rfl rfl ?_ | refine zq2 rfl rfl ?_ | refine zq3 rfl rfl ?_ | refine zq4 rfl rfl rfl rfl (inc (by omega)) ?_ | refine zq5 rfl rfl rfl rfl rfl (by assumption) ?_ | refine zq6 rfl rfl (by assumption) ?_ | refine zq7 rfl rfl rfl ?_ | refine zq8 rfl rfl rfl ?_ | refine zq9 rfl rfl rfl rfl ?_ | refine wp_condT rfl ?_ | refine wp_condF rfl ?_ | refine wp_region ?_ | refine wp_seq ?_ | refine wp_skip ?_ | refine wp_exit ?_ | refine wp_block ?_)
    refine wops_cons (wop_callF rfl rfl rfl (fn := Tryz.f166) (by rfl) ?_)
    have s1 := htl a hda (Nat.le_refl _) (by omega)
    have s2 := htl (a + d) (Nat.dvd_add hda (Nat.dvd_refl _)) (by omega) (by omega)
    rw [Nat.min_eq_left (by omega)] at s1 s2
    rw [show a + d + d = a + d * 2 by omega] at s2
    refine cSym hq lt R hR hlt H0 b n tb hn h39 S hcmp _ a (a + d) (a + d * 2) gk H4 rfl (by omega) (by omega) han2 hS4 (hSp gk hpm) s1 s2 (hord _ han2 (Nat.le_refl _)) _ fun r H5 g5 h5 hM => ⟨Nat.le_of_eq (hS4.1.trans h5.1.symm), ?_⟩
    repeat (first | refine wops_nil ?_ | refine zq1 rfl rfl ?_ | refine zq2 rfl rfl ?_ | refine zq3 rfl rfl ?_ | refine zq4 rfl rfl rfl rfl (inc (by omega)) ?_ | refine zq5 rfl rfl rfl rfl rfl (by assumption) ?_ | refine zq6 rfl rfl (by assumption) ?_ | refine zq7 rfl rfl rfl ?_ | refine zq8 rfl rfl rfl ?_ | refine zq9 rfl rfl rfl rfl ?_ | refine wp_condT rfl ?_ | refine wp_condF rfl ?_ | refine wp_region ?_ | refine wp_seq ?_ | refine wp_skip ?_ | refine wp_exit ?_ | refine wp_block ?_)
    refine wops_cons (wop_bin (op := .mul) rfl rfl rfl rfl (mul2 (by omega)) ?_)
    refine wops_cons (wop_bin (op := .add) rfl rfl rfl rfl (addN (i := a + d * 2) (j := d * 2) (by omega)) ?_)
    repeat (first | refine wops_nil ?_ | refine zq1 rfl rfl ?_ | refine zq2 rfl rfl ?_ | refine zq3 rfl rfl ?_ | refine zq4 rfl rfl rfl rfl (inc (by omega)) ?_ | refine zq5 rfl rfl rfl rfl rfl (by assumption) ?_ | refine zq6 rfl rfl (by assumption) ?_ | refine zq7 rfl rfl rfl ?_ | refine zq8 rfl rfl rfl ?_ | refine zq9 rfl rfl rfl rfl ?_ | refine wp_condT rfl ?_ | refine wp_condF rfl ?_ | refine wp_region ?_ | refine wp_seq ?_ | refine wp_skip ?_ | refine wp_exit ?_ | refine wp_block ?_)
    refine ⟨n - (a + d * 2), by omega, a + d * 2, g5, [_,_,_,_,_,_,_,_,_,_,_,_,_,_,_,_,_,_,_,_,_,_,_,_,_,_,_,_,_,_,_,_,_,_,_,_,_,_,_,_,_,_,_,_,_,_,_,_,_,_,_,_,_,_,_,_,_], rfl, Nat.dvd_add had (Nat.dvd_refl _), han2, fun s h1 h3 => ?_, fun s h1 h3 h4 => ?_, vb_mg hvb2 hM (Nat.zero_le _) han2 (fun j h1 h3 => div_blk (by omega) had h1 h3), fun j h1 h3 => ?_, (hM.whole (by omega) han2).trans hpm, h5, rfl, rfl⟩
    · rcases Nat.lt_or_ge s a with h4 | h4
      · have := dvd_step h1 had h4
        exact (hsd s h1 h4).ext fun i _ hi => (hM.out i (.inl (by omega))).symm
      · rcases Nat.lt_or_ge a s with h5 | h5
        · have := dvd_step had h1 h5; omega
        · rw [show s = a by omega]; exact hM.sd
    · exact (htl s h1 (by omega) h4).ext fun i hi _ => (hM.out i (.inr (by omega))).symm
    · rw [hM.out j (.inr h1)]; exact hvb j (by omega) h3
  have h : ¬ ((a + d * 2 : Nat) : Int) ≤ n := of_decide_eq_false h
  have han2 : n < a + d * 2 := by omega
  clear h
  -- what stands from a on is at most two blocks
  have hdbl : ∀ g', Mg R gk a n g' → ∀ s, d * 2 ∣ s → s < n → Sd R g' s (min (s + d * 2) n) := fun g' hM s h1 h3 => by
    rcases Nat.lt_or_ge s a with h4 | h4
    · have := dvd_step h1 had h4
      rw [Nat.min_eq_left (by omega)]
      exact (hsd s h1 h4).ext fun i _ hi => (hM.out i (.inl (by omega))).symm
    · rcases Nat.lt_or_ge a s with h5 | h5
      · have := dvd_step had h1 h5; omega
      · rw [show s = a by omega, Nat.min_eq_right (by omega)]; exact hM.sd
  have hvd : ∀ g', Mg R gk a n g' → vb (d * 2) n g' 0 := fun g' hM => vb_mg hvb2 hM (Nat.zero_le _) (Nat.le_refl _) (fun j h1 h3 => div_blk (by omega) had h1 (by omega))
  repeat (first | refine wops_nil ?_ | refine zq1 rfl rfl ?_ | refine zq2 rfl rfl ?_ | refine zq3 rfl rfl ?_ | refine zq4 rfl rfl rfl rfl (inc (by omega)) ?_ | refine zq5 rfl rfl rfl rfl rfl (by assumption) ?_ | refine zq6 rfl rfl (by assumption) ?_ | refine zq7 rfl rfl rfl ?_ | refine zq8 rfl rfl rfl ?_ | refine zq9 rfl rfl rfl rfl ?_ | refine wp_condT rfl ?_ | refine wp_condF rfl ?_ | refine wp_region ?_ | refine wp_seq ?_ | refine wp_skip ?_ | refine wp_exit ?_ | refine wp_block ?_)
  refine wops_cons (wop_bin (op := .add) rfl rfl rfl rfl (addN (i := a) (j := d) (by omega)) ?_)
  repeat (first | refine wops_nil ?_ | refine zq1 rfl rfl ?_ | refine zq2 rfl rfl ?_ | refine zq3 rfl rfl ?_ | refine zq4 rfl rfl rfl rfl (inc (by omega)) ?_ | refine zq5 rfl rfl rfl rfl rfl (by assumption) ?_ | refine zq6 rfl rfl (by assumption) ?_ | refine zq7 rfl rfl rfl ?_ | refine zq8 rfl rfl rfl ?_ | refine zq9 rfl rfl rfl rfl ?_ | refine wp_condT rfl ?_ | refine wp_condF rfl ?_ | refine wp_region ?_ | refine wp_seq ?_ | refine wp_skip ?_ | refine wp_exit ?_ | refine wp_block ?_)
  refine wops_cons (wop_cmp rfl rfl rfl rfl rfl (fun h => ?_) (fun h => ?_))
  · have h : ((a + d : Nat) : Int) < n := of_decide_eq_true h
    have hadn : a + d < n := by omega
    clear h
    repeat (first | refine wops_nil ?_ | refine zq1 rfl rfl ?_ | refine zq2 rfl rfl ?_ | refine zq3 rfl rfl ?_ | refine zq4 rfl rfl rfl rfl (inc (by omega)) ?_ | refine zq5 rfl rfl rfl rfl rfl (by assumption) ?_ | refine zq6 rfl rfl (by assumption) ?_ | refine zq7 rfl rfl rfl ?_ | refine zq8 rfl rfl rfl ?_ | refine zq9 rfl rfl rfl rfl ?_ | refine wp_condT rfl ?_ | refine wp_condF rfl ?_ | refine wp_region ?_ | refine wp_seq ?_ | refine wp_skip ?_ | refine wp_exit ?_ | refine wp_block ?_)
    refine wops_cons (wop_callF rfl rfl rfl (fn := Tryz.f166) (by rfl) ?_)
    have s1 := htl a hda (Nat.le_refl _) (by omega)
    have s2 := htl (a + d) (Nat.dvd_add hda (Nat.dvd_refl _)) (by omega) hadn
    rw [Nat.min_eq_left (by omega)] at s1
    rw [Nat.min_eq_right (by omega)] at s2
    refine cSym hq lt R hR hlt H0 b n tb hn h39 S hcmp _ a (a + d) n gk H4 rfl (by omega) hadn (Nat.le_refl _) hS4 (hSp gk hpm) s1 s2 (hord _ (Nat.le_refl _) (by omega)) _ fun r H5 g5 h5 hM => ⟨Nat.le_of_eq (hS4.1.trans h5.1.symm), ?_⟩
    repeat (first | refine wops_nil ?_ | refine zq1 rfl rfl ?_ | refine zq2 rfl rfl ?_ | refine zq3 rfl rfl ?_ | refine zq4 rfl rfl rfl rfl (inc (by omega)) ?_ | refine zq5 rfl rfl rfl rfl rfl (by assumption) ?_ | refine zq6 rfl rfl (by assumption) ?_ | refine zq7 rfl rfl rfl ?_ | refine zq8 rfl rfl rfl ?_ | refine zq9 rfl rfl rfl rfl ?_ | refine wp_condT rfl ?_ | refine wp_condF rfl ?_ | refine wp_region ?_ | refine wp_seq ?_ | refine wp_skip ?_ | refine wp_exit ?_ | refine wp_block ?_)
    refine wops_cons (wop_bin (op := .mul) rfl rfl rfl rfl (mul2' (by omega)) ?_)
    repeat (first | refine wops_nil ?_ | refine zq1 rfl rfl ?_ | refine zq2 rfl rfl ?_ | refine zq3 rfl rfl ?_ | refine zq4 rfl rfl rfl rfl (inc (by omega)) ?_ | refine zq5 rfl rfl rfl rfl rfl (by assumption) ?_ | refine zq6 rfl rfl (by assumption) ?_ | refine zq7 rfl rfl rfl ?_ | refine zq8 rfl rfl rfl ?_ | refine zq9 rfl rfl rfl rfl ?_ | refine wp_condT rfl ?_ | refine wp_condF rfl ?_ | refine wp_region ?_ | refine wp_seq ?_ | refine wp_skip ?_ | refine wp_exit ?_ | refine wp_block ?_)
    exact ⟨n - d * 2, by omega, d * 2, g5, [_,_,_,_,_,_,_,_,_,_,_,_,_,_,_,_,_,_,_,_,_,_,_,_,_,_,_,_,_,_,_,_,_,_,_,_,_,_,_,_,_,_,_,_,_,_,_,_,_,_,_,_,_,_,_,_,_,_,_], rfl, by omega, by omega, hdbl g5 hM, hvd g5 hM, (hM.whole han (Nat.le_refl _)).trans hpm, h5, rfl, rfl⟩
  · have h : ¬ ((a + d : Nat) : Int) < n := of_decide_eq_false h
    have hadn : n ≤ a + d := by omega
    clear h
    have hM : Mg R gk a n gk := Mg.refl (by
      rcases Nat.lt_or_ge a n with h' | h'
      · have := htl a hda (Nat.le_refl _) h'
        rwa [Nat.min_eq_right (by omega)] at this
      · exact fun i j h1 h2 h3 => by omega)
    repeat (first | refine wops_nil ?_ | refine zq1 rfl rfl ?_ | refine zq2 rfl rfl ?_ | refine zq3 rfl rfl ?_ | refine zq4 rfl rfl rfl rfl (inc (by omega)) ?_ | refine zq5 rfl rfl rfl rfl rfl (by assumption) ?_ | refine zq6 rfl rfl (by assumption) ?_ | refine zq7 rfl rfl rfl ?_ | refine zq8 rfl rfl rfl ?_ | refine zq9 rfl rfl rfl rfl ?_ | refine wp_condT rfl ?_ | refine wp_condF rfl ?_ | refine wp_region ?_ | refine wp_seq ?_ | refine wp_skip ?_ | refine wp_exit ?_ | refine wp_block ?_)
    refine wops_cons (wop_bin (op := .mul) rfl rfl rfl rfl (mul2' (by omega)) ?_)
    repeat (first | refine wops_nil ?_ | refine zq1 rfl rfl ?_ | refine zq2 rfl rfl ?_ | refine zq3 rfl rfl ?_ | refine zq4 rfl rfl rfl rfl (inc (by omega)) ?_ | refine zq5 rfl rfl rfl rfl rfl (by assumption) ?_ | refine zq6 rfl rfl (by assumption) ?_ | refine zq7 rfl rfl rfl ?_ | refine zq8 rfl rfl rfl ?_ | refine zq9 rfl rfl rfl rfl ?_ | refine wp_condT rfl ?_ | refine wp_condF rfl ?_ | refine wp_region ?_ | refine wp_seq ?_ | refine wp_skip ?_ | refine wp_exit ?_ | refine wp_block ?_)
    exact ⟨n - d * 2, by omega, d * 2, gk, [_,_,_,_,_,_,_,_,_,_,_,_,_,_,_,_,_,_,_,_,_,_,_,_,_,_,_,_,_,_,_,_,_,_,_,_,_,_,_,_,_,_,_,_,_,_,_,_,_,_,_,_,_,_,_,_,_,_,_], rfl, by omega, by omega, hdbl gk hM, hvd gk hM, hpm, hS4, rfl, rfl⟩
end Go.Ev
