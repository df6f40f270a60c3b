/- Part of an evaluator of calls that is proved sound, and of what it gives about this program. No condition of its own. -/
import Derived.Test.YtjkgjemcmmgefaaGreatDoorEvNa
import Derived.Test.YtjkgjemcmmgefaaGreatDoorEwI2
set_option linter.unusedVariables false
set_option linter.unusedSimpArgs false
set_option linter.unusedSectionVars false
set_option maxRecDepth 100000
set_option maxHeartbeats 4000000
namespace Go.Ev
open Go.Proofs
def St (H : AH) (b : Nat) (l : List Int) (H' : AH) : Prop := H'.next = H.next ∧ H'.gl = H.gl ∧ (∀ c, c ≠ b → H'.get c = H.get c) ∧ H'.get b = some (.cells (ivs l) 3 0)
theorem St.refl {H : AH} {b : Nat} {l : List Int} (h : H.get b = some (.cells (ivs l) 3 0)) : St H b l H := ⟨rfl, rfl, fun _ _ => rfl, h⟩
theorem St.trans {H H1 H2 : AH} {b : Nat} {l l' : List Int} (h : St H b l H1) (k : St H1 b l' H2) : St H b l' H2 := ⟨k.1.trans h.1, k.2.1.trans h.2.1, fun c hc => (k.2.2.1 c hc).trans (h.2.2.1 c hc), k.2.2.2⟩
theorem addN {i j : Nat} (h : i + j < 4611686018427387904) : binI .add .i64 .i64 (i : Int) (j : Int) = some (.int .i64 ((i + j : Nat) : Int)) := by
  show some (Value.int .i64 (IntKind.i64.wrap ((i : Int) + j))) = _
  rw [wrap_id (by omega) (by omega)]
  rfl
theorem subN {i j : Nat} (h : j ≤ i) (h2 : i < 4611686018427387904) : binI .sub .i64 .i64 (i : Int) (j : Int) = some (.int .i64 ((i - j : Nat) : Int)) := by
  show some (Value.int .i64 (IntKind.i64.wrap ((i : Int) - j))) = _
  rw [wrap_id (by omega) (by omega), show ((i : Int) - j) = ((i - j : Nat) : Int) by omega]
theorem subN1 {i : Nat} (h : 1 ≤ i) (h2 : i < 4611686018427387904) : binI .sub .i64 .i64 (i : Int) 1 = some (.int .i64 ((i - 1 : Nat) : Int)) := subN (j := 1) h h2
theorem ivs_fl_set (g : Nat → Int) (n i : Nat) (z : Int) : (ivs (fl g n)).set i (iv z) = ivs (fl (upd g i z) n) := by
  rw [← fl_set]
  simp [ivs, List.map_set]
variable {O : CallF} (hq : Quiet O)
include hq
theorem c230 (H : AH) (b n : Nat) (g : Nat → Int) (a c m : Nat) (h39 : b < 2 ^ 39) (hb : H.get b = some (.cells (ivs (fl g n)) 3 0)) (hac : a + m ≤ c) (hcn : c + m ≤ n) (hn : n ≤ 1000) (f : AV) (K : AV → AH → Prop) (hk : ∀ r H', St H b (fl (swp g a c m) n) H' → K r H') :
    Ca (ENV O) 230 [.slc b 0 n n, iv a, iv c, iv m, f] H K := by
  refine ca_intro (hq _ _ _ rfl) (fn := Tryz.f230) (by rfl) rfl ?_
  repeat (first | refine wops_nil ?_ | refine zq1 rfl rfl ?_ | refine zq2 rfl rfl ?_ | refine zq3 rfl rfl ?_ | refine zq4 rfl rfl rfl rfl (inc (by omega)) ?_ | refine zq5 rfl rfl rfl rfl rfl (by assumption) ?_ | refine zq6 rfl rfl (by assumption) ?_ | refine zq7 rfl rfl rfl ?_ | refine zq8 rfl rfl rfl ?_ | refine zq9 rfl rfl rfl rfl ?_ | refine mobs_move rfl rfl rfl ?_ | refine m_load rfl rfl rfl (by assumption) ?_ | refine mobs_nil ?_ | refine wd_nil ?_ | refine wd_skip rfl rfl ?_ | refine wd_loudSkip rfl rfl ?_ | refine wd_move rfl rfl rfl ?_ | refine wd_assign rfl rfl rfl ?_ | refine wd_pick rfl rfl rfl rfl ?_ | refine d_load rfl rfl rfl (by assumption) ?_ | refine d_lenI rfl rfl rfl rfl rfl rfl (by assumption) ?_ | refine wp_condT rfl ?_ | refine wp_condF rfl ?_ | refine wp_region ?_ | refine wp_seq ?_ | refine wp_skip ?_ | refine wp_exit ?_ | refine wp_block ?_)
  refine wp_loop (fun q T M H' => ∃ (i : Nat) (Y : List AV), q = m - i ∧ i ≤ m ∧ St H b (fl (swp g a c i) n) H' ∧ M = [] ∧ T = (.slc b 0 n n :: iv a :: iv c :: iv m :: lget Y 0 :: lget Y 1 :: lget Y 2 :: lget Y 3 :: lget Y 4 :: lget Y 5 :: iv (i : Nat) :: lget Y 6 :: lget Y 7 :: lget Y 8 :: lget Y 9 :: lget Y 10 :: lget Y 11 :: lget Y 12 :: lget Y 13 :: lget Y 14 :: lget Y 15 :: lget Y 16 :: lget Y 17 :: lget Y 18 :: lget Y 19 :: lget Y 20 :: lget Y 21 :: lget Y 22 :: lget Y 23 :: lget Y 24 :: lget Y 25 :: lget Y 26 :: lget Y 27 :: lget Y 28 :: lget Y 29 :: lget Y 30 :: lget Y 31 :: lget Y 32 :: [])) m
    ⟨0, [_,_,_,_,_,_,_,_,_,_,_,_,_,_,_,_,_,_,_,_,_,_,_,_,_,_,_,_,_,_,_,_,_], rfl, Nat.zero_le _, by rw [swp_zero]; exact St.refl hb, rfl, rfl⟩ ?_
  rintro q T M H' ⟨i, Y, hq1, hi, hS, rfl, rfl⟩
  repeat (first | refine wops_nil ?_ | refine zq1 rfl rfl ?_ | refine zq2 rfl rfl ?_ | refine zq3 rfl rfl ?_ | refine zq4 rfl rfl rfl rfl (inc (by omega)) ?_ | refine zq5 rfl rfl rfl rfl rfl (by assumption) ?_ | refine zq6 rfl rfl (by assumption) ?_ | refine zq7 rfl rfl rfl ?_ | refine zq8 rfl rfl rfl ?_ | refine zq9 rfl rfl rfl rfl ?_ | refine mobs_move rfl rfl rfl ?_ | refine m_load rfl rfl rfl (by assumption) ?_ | refine mobs_nil ?_ | refine wd_nil ?_ | refine wd_skip rfl rfl ?_ | refine wd_loudSkip rfl rfl ?_ | refine wd_move rfl rfl rfl ?_ | refine wd_assign rfl rfl rfl ?_ | refine wd_pick rfl rfl rfl rfl ?_ | refine d_load rfl rfl rfl (by assumption) ?_ | refine d_lenI rfl rfl rfl rfl rfl rfl (by assumption) ?_ | refine wp_condT rfl ?_ | refine wp_condF rfl ?_ | refine wp_region ?_ | refine wp_seq ?_ | refine wp_skip ?_ | refine wp_exit ?_ | refine wp_block ?_)
  refine wops_cons (wop_cmp rfl rfl rfl rfl rfl (fun h => ?_) (fun h => ?_))
  rotate_left
  · have h : ¬ ((i : Int) < m) := of_decide_eq_false h
    repeat (first | refine wops_nil ?_ | refine zq1 rfl rfl ?_ | refine zq2 rfl rfl ?_ | refine zq3 rfl rfl ?_ | refine zq4 rfl rfl rfl rfl (inc (by omega)) ?_ | refine zq5 rfl rfl rfl rfl rfl (by assumption) ?_ | refine zq6 rfl rfl (by assumption) ?_ | refine zq7 rfl rfl rfl ?_ | refine zq8 rfl rfl rfl ?_ | refine zq9 rfl rfl rfl rfl ?_ | refine mobs_move rfl rfl rfl ?_ | refine m_load rfl rfl rfl (by assumption) ?_ | refine mobs_nil ?_ | refine wd_nil ?_ | refine wd_skip rfl rfl ?_ | refine wd_loudSkip rfl rfl ?_ | refine wd_move rfl rfl rfl ?_ | refine wd_assign rfl rfl rfl ?_ | refine wd_pick rfl rfl rfl rfl ?_ | refine d_load rfl rfl rfl (by assumption) ?_ | refine d_lenI rfl rfl rfl rfl rfl rfl (by assumption) ?_ | refine wp_condT rfl ?_ | refine wp_condF rfl ?_ | refine wp_region ?_ | refine wp_seq ?_ | refine wp_skip ?_ | refine wp_exit ?_ | refine wp_block ?_)
    refine ⟨_, _, rfl, hk _ H' ?_⟩
    rw [show m = i by omega]
    exact hS
  have h : (i : Int) < m := of_decide_eq_true h
  have him : i < m := by omega
  clear h
  have hlen : (ivs (fl (swp g a c i) n)).length = n := by rw [ivs_length, fl_length]
  have hSl : Sl H' (.slc b 0 n n) (ivs (fl (swp g a c i) n)) := sl_cells h39 hS.2.2.2 hlen.symm fun _ _ h => h
  have e1 := swp_at1 g (show a + (i + 1) ≤ c by omega)
  have e2 := swp_at2 g (show a + (i + 1) ≤ c by omega)
  have g1 : (fl (swp g a c i) n)[c + i]? = some (g (c + i)) := by rw [fl_get (by omega), e1]
  have g2 : (fl (swp g a c i) n)[a + i]? = some (g (a + i)) := by rw [fl_get (by omega), e2]
  repeat (first | refine wops_nil ?_ | refine zq1 rfl rfl ?_ | refine zq2 rfl rfl ?_ | refine zq3 rfl rfl ?_ | refine zq4 rfl rfl rfl rfl (inc (by omega)) ?_ | refine zq5 rfl rfl rfl rfl rfl (by assumption) ?_ | refine zq6 rfl rfl (by assumption) ?_ | refine zq7 rfl rfl rfl ?_ | refine zq8 rfl rfl rfl ?_ | refine zq9 rfl rfl rfl rfl ?_ | refine mobs_move rfl rfl rfl ?_ | refine m_load rfl rfl rfl (by assumption) ?_ | refine mobs_nil ?_ | refine wd_nil ?_ | refine wd_skip rfl rfl ?_ | refine wd_loudSkip rfl rfl ?_ | refine wd_move rfl rfl rfl ?_ | refine wd_assign rfl rfl rfl ?_ | refine wd_pick rfl rfl rfl rfl ?_ | refine d_load rfl rfl rfl (by assumption) ?_ | refine d_lenI rfl rfl rfl rfl rfl rfl (by assumption) ?_ | refine wp_condT rfl ?_ | refine wp_condF rfl ?_ | refine wp_region ?_ | refine wp_seq ?_ | refine wp_skip ?_ | refine wp_exit ?_ | refine wp_block ?_)
  refine wp_drawG rfl (by kernel_rfl) ?_
  repeat (first | refine wops_nil ?_ | refine zq1 rfl rfl ?_ | refine zq2 rfl rfl ?_ | refine zq3 rfl rfl ?_ | refine zq4 rfl rfl rfl rfl (inc (by omega)) ?_ | refine zq5 rfl rfl rfl rfl rfl (by assumption) ?_ | refine zq6 rfl rfl (by assumption) ?_ | refine zq7 rfl rfl rfl ?_ | refine zq8 rfl rfl rfl ?_ | refine zq9 rfl rfl rfl rfl ?_ | refine mobs_move rfl rfl rfl ?_ | refine m_load rfl rfl rfl (by assumption) ?_ | refine mobs_nil ?_ | refine wd_nil ?_ | refine wd_skip rfl rfl ?_ | refine wd_loudSkip rfl rfl ?_ | refine wd_move rfl rfl rfl ?_ | refine wd_assign rfl rfl rfl ?_ | refine wd_pick rfl rfl rfl rfl ?_ | refine d_load rfl rfl rfl (by assumption) ?_ | refine d_lenI rfl rfl rfl rfl rfl rfl (by assumption) ?_ | refine wp_condT rfl ?_ | refine wp_condF rfl ?_ | refine wp_region ?_ | refine wp_seq ?_ | refine wp_skip ?_ | refine wp_exit ?_ | refine wp_block ?_)
  refine wd_bin (op := .add) rfl rfl rfl rfl rfl (addN (by omega)) ?_
  repeat (first | refine wops_nil ?_ | refine zq1 rfl rfl ?_ | refine zq2 rfl rfl ?_ | refine zq3 rfl rfl ?_ | refine zq4 rfl rfl rfl rfl (inc (by omega)) ?_ | refine zq5 rfl rfl rfl rfl rfl (by assumption) ?_ | refine zq6 rfl rfl (by assumption) ?_ | refine zq7 rfl rfl rfl ?_ | refine zq8 rfl rfl rfl ?_ | refine zq9 rfl rfl rfl rfl ?_ | refine mobs_move rfl rfl rfl ?_ | refine m_load rfl rfl rfl (by assumption) ?_ | refine mobs_nil ?_ | refine wd_nil ?_ | refine wd_skip rfl rfl ?_ | refine wd_loudSkip rfl rfl ?_ | refine wd_move rfl rfl rfl ?_ | refine wd_assign rfl rfl rfl ?_ | refine wd_pick rfl rfl rfl rfl ?_ | refine d_load rfl rfl rfl (by assumption) ?_ | refine d_lenI rfl rfl rfl rfl rfl rfl (by assumption) ?_ | refine wp_condT rfl ?_ | refine wp_condF rfl ?_ | refine wp_region ?_ | refine wp_seq ?_ | refine wp_skip ?_ | refine wp_exit ?_ | refine wp_block ?_)
  refine wd_bin (op := .add) rfl rfl rfl rfl rfl (addN (by omega)) ?_
  repeat (first | refine wops_nil ?_ | refine zq1 rfl rfl ?_ | refine zq2 rfl rfl ?_ | refine zq3 rfl rfl ?_ | refine zq4 rfl rfl rfl rfl (inc (by omega)) ?_ | refine zq5 rfl rfl rfl rfl rfl (by assumption) ?_ | refine zq6 rfl rfl (by assumption) ?_ | refine zq7 rfl rfl rfl ?_ | refine zq8 rfl rfl rfl ?_ | refine zq9 rfl rfl rfl rfl ?_ | refine mobs_move rfl rfl rfl ?_ | refine m_load rfl rfl rfl (by assumption) ?_ | refine mobs_nil ?_ | refine wd_nil ?_ | refine wd_skip rfl rfl ?_ | refine wd_loudSkip rfl rfl ?_ | refine wd_move rfl rfl rfl ?_ | refine wd_assign rfl rfl rfl ?_ | refine wd_pick rfl rfl rfl rfl ?_ | refine d_load rfl rfl rfl (by assumption) ?_ | refine d_lenI rfl rfl rfl rfl rfl rfl (by assumption) ?_ | refine wp_condT rfl ?_ | refine wp_condF rfl ?_ | refine wp_region ?_ | refine wp_seq ?_ | refine wp_skip ?_ | refine wp_exit ?_ | refine wp_block ?_)
  refine wd_bin (op := .add) rfl rfl rfl rfl rfl (addN (by omega)) ?_
  repeat (first | refine wops_nil ?_ | refine zq1 rfl rfl ?_ | refine zq2 rfl rfl ?_ | refine zq3 rfl rfl ?_ | refine zq4 rfl rfl rfl rfl (inc (by omega)) ?_ | refine zq5 rfl rfl rfl rfl rfl (by assumption) ?_ | refine zq6 rfl rfl (by assumption) ?_ | refine zq7 rfl rfl rfl ?_ | refine zq8 rfl rfl rfl ?_ | refine zq9 rfl rfl rfl rfl ?_ | refine mobs_move rfl rfl rfl ?_ | refine m_load rfl rfl rfl (by assumption) ?_ | refine mobs_nil ?_ | refine wd_nil ?_ | refine wd_skip rfl rfl ?_ | refine wd_loudSkip rfl rfl ?_ | refine wd_move rfl rfl rfl ?_ | refine wd_assign rfl rfl rfl ?_ | refine wd_pick rfl rfl rfl rfl ?_ | refine d_load rfl rfl rfl (by assumption) ?_ | refine d_lenI rfl rfl rfl rfl rfl rfl (by assumption) ?_ | refine wp_condT rfl ?_ | refine wp_condF rfl ?_ | refine wp_region ?_ | refine wp_seq ?_ | refine wp_skip ?_ | refine wp_exit ?_ | refine wp_block ?_)
  refine d_indexI rfl rfl rfl hSl rfl g1 fun p hp => ?_
  repeat (first | refine wops_nil ?_ | refine zq1 rfl rfl ?_ | refine zq2 rfl rfl ?_ | refine zq3 rfl rfl ?_ | refine zq4 rfl rfl rfl rfl (inc (by omega)) ?_ | refine zq5 rfl rfl rfl rfl rfl (by assumption) ?_ | refine zq6 rfl rfl (by assumption) ?_ | refine zq7 rfl rfl rfl ?_ | refine zq8 rfl rfl rfl ?_ | refine zq9 rfl rfl rfl rfl ?_ | refine mobs_move rfl rfl rfl ?_ | refine m_load rfl rfl rfl (by assumption) ?_ | refine mobs_nil ?_ | refine wd_nil ?_ | refine wd_skip rfl rfl ?_ | refine wd_loudSkip rfl rfl ?_ | refine wd_move rfl rfl rfl ?_ | refine wd_assign rfl rfl rfl ?_ | refine wd_pick rfl rfl rfl rfl ?_ | refine d_load rfl rfl rfl (by assumption) ?_ | refine d_lenI rfl rfl rfl rfl rfl rfl (by assumption) ?_ | refine wp_condT rfl ?_ | refine wp_condF rfl ?_ | refine wp_region ?_ | refine wp_seq ?_ | refine wp_skip ?_ | refine wp_exit ?_ | refine wp_block ?_)
  refine wd_bin (op := .add) rfl rfl rfl rfl rfl (addN (by omega)) ?_
  repeat (first | refine wops_nil ?_ | refine zq1 rfl rfl ?_ | refine zq2 rfl rfl ?_ | refine zq3 rfl rfl ?_ | refine zq4 rfl rfl rfl rfl (inc (by omega)) ?_ | refine zq5 rfl rfl rfl rfl rfl (by assumption) ?_ | refine zq6 rfl rfl (by assumption) ?_ | refine zq7 rfl rfl rfl ?_ | refine zq8 rfl rfl rfl ?_ | refine zq9 rfl rfl rfl rfl ?_ | refine mobs_move rfl rfl rfl ?_ | refine m_load rfl rfl rfl (by assumption) ?_ | refine mobs_nil ?_ | refine wd_nil ?_ | refine wd_skip rfl rfl ?_ | refine wd_loudSkip rfl rfl ?_ | refine wd_move rfl rfl rfl ?_ | refine wd_assign rfl rfl rfl ?_ | refine wd_pick rfl rfl rfl rfl ?_ | refine d_load rfl rfl rfl (by assumption) ?_ | refine d_lenI rfl rfl rfl rfl rfl rfl (by assumption) ?_ | refine wp_condT rfl ?_ | refine wp_condF rfl ?_ | refine wp_region ?_ | refine wp_seq ?_ | refine wp_skip ?_ | refine wp_exit ?_ | refine wp_block ?_)
  refine d_indexI rfl rfl rfl hSl rfl g2 fun p hp => ?_
  repeat (first | refine wops_nil ?_ | refine zq1 rfl rfl ?_ | refine zq2 rfl rfl ?_ | refine zq3 rfl rfl ?_ | refine zq4 rfl rfl rfl rfl (inc (by omega)) ?_ | refine zq5 rfl rfl rfl rfl rfl (by assumption) ?_ | refine zq6 rfl rfl (by assumption) ?_ | refine zq7 rfl rfl rfl ?_ | refine zq8 rfl rfl rfl ?_ | refine zq9 rfl rfl rfl rfl ?_ | refine mobs_move rfl rfl rfl ?_ | refine m_load rfl rfl rfl (by assumption) ?_ | refine mobs_nil ?_ | refine wd_nil ?_ | refine wd_skip rfl rfl ?_ | refine wd_loudSkip rfl rfl ?_ | refine wd_move rfl rfl rfl ?_ | refine wd_assign rfl rfl rfl ?_ | refine wd_pick rfl rfl rfl rfl ?_ | refine d_load rfl rfl rfl (by assumption) ?_ | refine d_lenI rfl rfl rfl rfl rfl rfl (by assumption) ?_ | refine wp_condT rfl ?_ | refine wp_condF rfl ?_ | refine wp_region ?_ | refine wp_seq ?_ | refine wp_skip ?_ | refine wp_exit ?_ | refine wp_block ?_)
  refine d_indexOwn rfl rfl rfl rfl rfl (show a + i < n by omega) ?_
  refine wd_loud rfl rfl ?_
  refine o_store rfl rfl rfl hS.2.2.2 (by omega) rfl ?_
  refine d_indexOwn rfl rfl rfl rfl rfl (show c + i < n by omega) ?_
  refine wd_loud rfl rfl ?_
  refine o_store rfl rfl rfl (get_set_eq h39) (by rw [List.length_set]; omega) rfl ?_
  refine wd_nil ?_
  repeat (first | refine wops_nil ?_ | refine zq1 rfl rfl ?_ | refine zq2 rfl rfl ?_ | refine zq3 rfl rfl ?_ | refine zq4 rfl rfl rfl rfl (inc (by omega)) ?_ | refine zq5 rfl rfl rfl rfl rfl (by assumption) ?_ | refine zq6 rfl rfl (by assumption) ?_ | refine zq7 rfl rfl rfl ?_ | refine zq8 rfl rfl rfl ?_ | refine zq9 rfl rfl rfl rfl ?_ | refine mobs_move rfl rfl rfl ?_ | refine m_load rfl rfl rfl (by assumption) ?_ | refine mobs_nil ?_ | refine wd_nil ?_ | refine wd_skip rfl rfl ?_ | refine wd_loudSkip rfl rfl ?_ | refine wd_move rfl rfl rfl ?_ | refine wd_assign rfl rfl rfl ?_ | refine wd_pick rfl rfl rfl rfl ?_ | refine d_load rfl rfl rfl (by assumption) ?_ | refine d_lenI rfl rfl rfl rfl rfl rfl (by assumption) ?_ | refine wp_condT rfl ?_ | refine wp_condF rfl ?_ | refine wp_region ?_ | refine wp_seq ?_ | refine wp_skip ?_ | refine wp_exit ?_ | refine wp_block ?_)
  refine ⟨m - (i + 1), by omega, i + 1, [_,_,_,_,_,_,_,_,_,_,_,_,_,_,_,_,_,_,_,_,_,_,_,_,_,_,_,_,_,_,_,_,_], rfl, by omega, ⟨hS.1, hS.2.1, fun d hd => ?_, ?_⟩, rfl, rfl⟩
  · rw [get_set_ne h39 hd, get_set_ne h39 hd]; exact hS.2.2.1 d hd
  · rw [get_set_eq h39]
    show some (AB.cells (((ivs (fl (swp g a c i) n)).set (a + i) (iv (g (c + i)))).set (c + i) (iv (g (a + i)))) 3 0) = _
    rw [ivs_fl_set, ivs_fl_set, swp_succ g (by omega)]
theorem c203 (H : AH) (b n : Nat) (g : Nat → Int) (a m e : Nat) (h39 : b < 2 ^ 39) (hb : H.get b = some (.cells (ivs (fl g n)) 3 0)) (ham : a < m) (hme : m < e) (hen : e ≤ n) (hn : n ≤ 1000) (f : AV) (K : AV → AH → Prop) (hk : ∀ r H', St H b (fl (rot g a m e) n) H' → K r H') :
    Ca (ENV O) 203 [.slc b 0 n n, iv a, iv m, iv e, f] H K := by
  refine ca_intro (hq _ _ _ rfl) (fn := Tryz.f203) (by rfl) rfl ?_
  repeat (first | refine wops_nil ?_ | refine zq1 rfl rfl ?_ | refine zq2 rfl rfl ?_ | refine zq3 rfl rfl ?_ | refine zq4 rfl rfl rfl rfl (inc (by omega)) ?_ | refine zq5 rfl rfl rfl rfl rfl (by assumption) ?_ | refine zq6 rfl rfl (by assumption) ?_ | refine zq7 rfl rfl rfl ?_ | refine zq8 rfl rfl rfl ?_ | refine zq9 rfl rfl rfl rfl ?_ | refine mobs_move rfl rfl rfl ?_ | refine m_load rfl rfl rfl (by assumption) ?_ | refine mobs_nil ?_ | refine wd_nil ?_ | refine wd_skip rfl rfl ?_ | refine wd_loudSkip rfl rfl ?_ | refine wd_move rfl rfl rfl ?_ | refine wd_assign rfl rfl rfl ?_ | refine wd_pick rfl rfl rfl rfl ?_ | refine d_load rfl rfl rfl (by assumption) ?_ | refine d_lenI rfl rfl rfl rfl rfl rfl (by assumption) ?_ | refine wp_condT rfl ?_ | refine wp_condF rfl ?_ | refine wp_region ?_ | refine wp_seq ?_ | refine wp_skip ?_ | refine wp_exit ?_ | refine wp_block ?_)
  refine wops_cons (wop_bin (op := .sub) rfl rfl rfl rfl (subN (by omega) (by omega)) ?_)
  repeat (first | refine wops_nil ?_ | refine zq1 rfl rfl ?_ | refine zq2 rfl rfl ?_ | refine zq3 rfl rfl ?_ | refine zq4 rfl rfl rfl rfl (inc (by omega)) ?_ | refine zq5 rfl rfl rfl rfl rfl (by assumption) ?_ | refine zq6 rfl rfl (by assumption) ?_ | refine zq7 rfl rfl rfl ?_ | refine zq8 rfl rfl rfl ?_ | refine zq9 rfl rfl rfl rfl ?_ | refine mobs_move rfl rfl rfl ?_ | refine m_load rfl rfl rfl (by assumption) ?_ | refine mobs_nil ?_ | refine wd_nil ?_ | refine wd_skip rfl rfl ?_ | refine wd_loudSkip rfl rfl ?_ | refine wd_move rfl rfl rfl ?_ | refine wd_assign rfl rfl rfl ?_ | refine wd_pick rfl rfl rfl rfl ?_ | refine d_load rfl rfl rfl (by assumption) ?_ | refine d_lenI rfl rfl rfl rfl rfl rfl (by assumption) ?_ | refine wp_condT rfl ?_ | refine wp_condF rfl ?_ | refine wp_region ?_ | refine wp_seq ?_ | refine wp_skip ?_ | refine wp_exit ?_ | refine wp_block ?_)
  refine wops_cons (wop_bin (op := .sub) rfl rfl rfl rfl (subN (by omega) (by omega)) ?_)
  repeat (first | refine wops_nil ?_ | refine zq1 rfl rfl ?_ | refine zq2 rfl rfl ?_ | refine zq3 rfl rfl ?_ | refine zq4 rfl rfl rfl rfl (inc (by omega)) ?_ | refine zq5 rfl rfl rfl rfl rfl (by assumption) ?_ | refine zq6 rfl rfl (by assumption) ?_ | refine zq7 rfl rfl rfl ?_ | refine zq8 rfl rfl rfl ?_ | refine zq9 rfl rfl rfl rfl ?_ | refine mobs_move rfl rfl rfl ?_ | refine m_load rfl rfl rfl (by assumption) ?_ | refine mobs_nil ?_ | refine wd_nil ?_ | refine wd_skip rfl rfl ?_ | refine wd_loudSkip rfl rfl ?_ | refine wd_move rfl rfl rfl ?_ | refine wd_assign rfl rfl rfl ?_ | refine wd_pick rfl rfl rfl rfl ?_ | refine d_load rfl rfl rfl (by assumption) ?_ | refine d_lenI rfl rfl rfl rfl rfl rfl (by assumption) ?_ | refine wp_condT rfl ?_ | refine wp_condF rfl ?_ | refine wp_region ?_ | refine wp_seq ?_ | refine wp_skip ?_ | refine wp_exit ?_ | refine wp_block ?_)
  refine wp_loop (fun q T M H' => ∃ (i j : Nat) (gk : Nat → Int) (Y : List AV), q = i + j ∧ 1 ≤ i ∧ 1 ≤ j ∧ i ≤ m ∧ m + j ≤ n ∧ rot gk (m - i) m (m + j) = rot g a m e ∧ St H b (fl gk n) H' ∧ M = [] ∧ T = (.slc b 0 n n :: iv a :: iv m :: iv e :: f :: lget Y 0 :: lget Y 1 :: lget Y 2 :: lget Y 3 :: lget Y 4 :: iv (i : Nat) :: iv (j : Nat) :: lget Y 5 :: lget Y 6 :: lget Y 7 :: lget Y 8 :: lget Y 9 :: lget Y 10 :: lget Y 11 :: lget Y 12 :: lget Y 13 :: lget Y 14 :: lget Y 15 :: lget Y 16 :: lget Y 17 :: lget Y 18 :: lget Y 19 :: lget Y 20 :: lget Y 21 :: lget Y 22 :: lget Y 23 :: lget Y 24 :: lget Y 25 :: lget Y 26 :: lget Y 27 :: lget Y 28 :: lget Y 29 :: lget Y 30 :: lget Y 31 :: lget Y 32 :: lget Y 33 :: lget Y 34 :: lget Y 35 :: lget Y 36 :: lget Y 37 :: lget Y 38 :: lget Y 39 :: lget Y 40 :: lget Y 41 :: lget Y 42 :: lget Y 43 :: lget Y 44 :: lget Y 45 :: lget Y 46 :: lget Y 47 :: lget Y 48 :: lget Y 49 :: lget Y 50 :: [])) (m - a + (e - m))
    ⟨m - a, e - m, g, [_,_,_,_,_,_,_,_,_,_,_,_,_,_,_,_,_,_,_,_,_,_,_,_,_,_,_,_,_,_,_,_,_,_,_,_,_,_,_,_,_,_,_,_,_,_,_,_,_,_,_], rfl, by omega, by omega, by omega, by omega, by rw [show m - (m - a) = a by omega, show m + (e - m) = e by omega], St.refl hb, rfl, rfl⟩ ?_
  rintro q T M H' ⟨i, j, gk, Y, rfl, hi1, hj1, him, hjn, hrot, hS, rfl, rfl⟩
  repeat (first | refine wops_nil ?_ | refine zq1 rfl rfl ?_ | refine zq2 rfl rfl ?_ | refine zq3 rfl rfl ?_ | refine zq4 rfl rfl rfl rfl (inc (by omega)) ?_ | refine zq5 rfl rfl rfl rfl rfl (by assumption) ?_ | refine zq6 rfl rfl (by assumption) ?_ | refine zq7 rfl rfl rfl ?_ | refine zq8 rfl rfl rfl ?_ | refine zq9 rfl rfl rfl rfl ?_ | refine mobs_move rfl rfl rfl ?_ | refine m_load rfl rfl rfl (by assumption) ?_ | refine mobs_nil ?_ | refine wd_nil ?_ | refine wd_skip rfl rfl ?_ | refine wd_loudSkip rfl rfl ?_ | refine wd_move rfl rfl rfl ?_ | refine wd_assign rfl rfl rfl ?_ | refine wd_pick rfl rfl rfl rfl ?_ | refine d_load rfl rfl rfl (by assumption) ?_ | refine d_lenI rfl rfl rfl rfl rfl rfl (by assumption) ?_ | refine wp_condT rfl ?_ | refine wp_condF rfl ?_ | refine wp_region ?_ | refine wp_seq ?_ | refine wp_skip ?_ | refine wp_exit ?_ | refine wp_block ?_)
  refine wops_cons (wop_cmp rfl rfl rfl rfl rfl (fun h => ?_) (fun h => ?_))
  rotate_left
  · have h : (i : Int) = j := by simpa using h
    have e : i = j := by omega
    subst e
    repeat (first | refine wops_nil ?_ | refine zq1 rfl rfl ?_ | refine zq2 rfl rfl ?_ | refine zq3 rfl rfl ?_ | refine zq4 rfl rfl rfl rfl (inc (by omega)) ?_ | refine zq5 rfl rfl rfl rfl rfl (by assumption) ?_ | refine zq6 rfl rfl (by assumption) ?_ | refine zq7 rfl rfl rfl ?_ | refine zq8 rfl rfl rfl ?_ | refine zq9 rfl rfl rfl rfl ?_ | refine mobs_move rfl rfl rfl ?_ | refine m_load rfl rfl rfl (by assumption) ?_ | refine mobs_nil ?_ | refine wd_nil ?_ | refine wd_skip rfl rfl ?_ | refine wd_loudSkip rfl rfl ?_ | refine wd_move rfl rfl rfl ?_ | refine wd_assign rfl rfl rfl ?_ | refine wd_pick rfl rfl rfl rfl ?_ | refine d_load rfl rfl rfl (by assumption) ?_ | refine d_lenI rfl rfl rfl rfl rfl rfl (by assumption) ?_ | refine wp_condT rfl ?_ | refine wp_condF rfl ?_ | refine wp_region ?_ | refine wp_seq ?_ | refine wp_skip ?_ | refine wp_exit ?_ | refine wp_block ?_)
    refine wops_cons (wop_bin (op := .sub) rfl rfl rfl rfl (subN (by omega) (by omega)) ?_)
    repeat (first | refine wops_nil ?_ | refine zq1 rfl rfl ?_ | refine zq2 rfl rfl ?_ | refine zq3 rfl rfl ?_ | refine zq4 rfl rfl rfl rfl (inc (by omega)) ?_ | refine zq5 rfl rfl rfl rfl rfl (by assumption) ?_ | refine zq6 rfl rfl (by assumption) ?_ | refine zq7 rfl rfl rfl ?_ | refine zq8 rfl rfl rfl ?_ | refine zq9 rfl rfl rfl rfl ?_ | refine mobs_move rfl rfl rfl ?_ | refine m_load rfl rfl rfl (by assumption) ?_ | refine mobs_nil ?_ | refine wd_nil ?_ | refine wd_skip rfl rfl ?_ | refine wd_loudSkip rfl rfl ?_ | refine wd_move rfl rfl rfl ?_ | refine wd_assign rfl rfl rfl ?_ | refine wd_pick rfl rfl rfl rfl ?_ | refine d_load rfl rfl rfl (by assumption) ?_ | refine d_lenI rfl rfl rfl rfl rfl rfl (by assumption) ?_ | refine wp_condT rfl ?_ | refine wp_condF rfl ?_ | refine wp_region ?_ | refine wp_seq ?_ | refine wp_skip ?_ | refine wp_exit ?_ | refine wp_block ?_)
    refine wops_cons (wop_callF rfl rfl rfl (fn := Tryz.f230) (by rfl) ?_)
    refine c230 hq H' b n gk (m - i) m i h39 hS.2.2.2 (by omega) (by omega) hn f _ fun r H2 h2 => ⟨Nat.le_of_eq h2.1.symm, ?_⟩
    repeat (first | refine wops_nil ?_ | refine zq1 rfl rfl ?_ | refine zq2 rfl rfl ?_ | refine zq3 rfl rfl ?_ | refine zq4 rfl rfl rfl rfl (inc (by omega)) ?_ | refine zq5 rfl rfl rfl rfl rfl (by assumption) ?_ | refine zq6 rfl rfl (by assumption) ?_ | refine zq7 rfl rfl rfl ?_ | refine zq8 rfl rfl rfl ?_ | refine zq9 rfl rfl rfl rfl ?_ | refine mobs_move rfl rfl rfl ?_ | refine m_load rfl rfl rfl (by assumption) ?_ | refine mobs_nil ?_ | refine wd_nil ?_ | refine wd_skip rfl rfl ?_ | refine wd_loudSkip rfl rfl ?_ | refine wd_move rfl rfl rfl ?_ | refine wd_assign rfl rfl rfl ?_ | refine wd_pick rfl rfl rfl rfl ?_ | refine d_load rfl rfl rfl (by assumption) ?_ | refine d_lenI rfl rfl rfl rfl rfl rfl (by assumption) ?_ | refine wp_condT rfl ?_ | refine wp_condF rfl ?_ | refine wp_region ?_ | refine wp_seq ?_ | refine wp_skip ?_ | refine wp_exit ?_ | refine wp_block ?_)
    refine ⟨_, _, rfl, hk _ H2 ?_⟩
    rw [← hrot, ← rot_eq gk him]
    exact hS.trans h2
  have hne : ¬ (i : Int) = j := by simpa using h
  clear h
  repeat (first | refine wops_nil ?_ | refine zq1 rfl rfl ?_ | refine zq2 rfl rfl ?_ | refine zq3 rfl rfl ?_ | refine zq4 rfl rfl rfl rfl (inc (by omega)) ?_ | refine zq5 rfl rfl rfl rfl rfl (by assumption) ?_ | refine zq6 rfl rfl (by assumption) ?_ | refine zq7 rfl rfl rfl ?_ | refine zq8 rfl rfl rfl ?_ | refine zq9 rfl rfl rfl rfl ?_ | refine mobs_move rfl rfl rfl ?_ | refine m_load rfl rfl rfl (by assumption) ?_ | refine mobs_nil ?_ | refine wd_nil ?_ | refine wd_skip rfl rfl ?_ | refine wd_loudSkip rfl rfl ?_ | refine wd_move rfl rfl rfl ?_ | refine wd_assign rfl rfl rfl ?_ | refine wd_pick rfl rfl rfl rfl ?_ | refine d_load rfl rfl rfl (by assumption) ?_ | refine d_lenI rfl rfl rfl rfl rfl rfl (by assumption) ?_ | refine wp_condT rfl ?_ | refine wp_condF rfl ?_ | refine wp_region ?_ | refine wp_seq ?_ | refine wp_skip ?_ | refine wp_exit ?_ | refine wp_block ?_)
  refine wops_cons (wop_cmp rfl rfl rfl rfl rfl (fun h => ?_) (fun h => ?_))
  · have h : (i : Int) > j := of_decide_eq_true h
    repeat (first | refine wops_nil ?_ | refine zq1 rfl rfl ?_ | refine zq2 rfl rfl ?_ | refine zq3 rfl rfl ?_ | refine zq4 rfl rfl rfl rfl (inc (by omega)) ?_ | refine zq5 rfl rfl rfl rfl rfl (by assumption) ?_ | refine zq6 rfl rfl (by assumption) ?_ | refine zq7 rfl rfl rfl ?_ | refine zq8 rfl rfl rfl ?_ | refine zq9 rfl rfl rfl rfl ?_ | refine mobs_move rfl rfl rfl ?_ | refine m_load rfl rfl rfl (by assumption) ?_ | refine mobs_nil ?_ | refine wd_nil ?_ | refine wd_skip rfl rfl ?_ | refine wd_loudSkip rfl rfl ?_ | refine wd_move rfl rfl rfl ?_ | refine wd_assign rfl rfl rfl ?_ | refine wd_pick rfl rfl rfl rfl ?_ | refine d_load rfl rfl rfl (by assumption) ?_ | refine d_lenI rfl rfl rfl rfl rfl rfl (by assumption) ?_ | refine wp_condT rfl ?_ | refine wp_condF rfl ?_ | refine wp_region ?_ | refine wp_seq ?_ | refine wp_skip ?_ | refine wp_exit ?_ | refine wp_block ?_)
    refine wops_cons (wop_bin (op := .sub) rfl rfl rfl rfl (subN (by omega) (by omega)) ?_)
    repeat (first | refine wops_nil ?_ | refine zq1 rfl rfl ?_ | refine zq2 rfl rfl ?_ | refine zq3 rfl rfl ?_ | refine zq4 rfl rfl rfl rfl (inc (by omega)) ?_ | refine zq5 rfl rfl rfl rfl rfl (by assumption) ?_ | refine zq6 rfl rfl (by assumption) ?_ | refine zq7 rfl rfl rfl ?_ | refine zq8 rfl rfl rfl ?_ | refine zq9 rfl rfl rfl rfl ?_ | refine mobs_move rfl rfl rfl ?_ | refine m_load rfl rfl rfl (by assumption) ?_ | refine mobs_nil ?_ | refine wd_nil ?_ | refine wd_skip rfl rfl ?_ | refine wd_loudSkip rfl rfl ?_ | refine wd_move rfl rfl rfl ?_ | refine wd_assign rfl rfl rfl ?_ | refine wd_pick rfl rfl rfl rfl ?_ | refine d_load rfl rfl rfl (by assumption) ?_ | refine d_lenI rfl rfl rfl rfl rfl rfl (by assumption) ?_ | refine wp_condT rfl ?_ | refine wp_condF rfl ?_ | refine wp_region ?_ | refine wp_seq ?_ | refine wp_skip ?_ | refine wp_exit ?_ | refine wp_block ?_)
    refine wops_cons (wop_callF rfl rfl rfl (fn := Tryz.f230) (by rfl) ?_)
    refine c230 hq H' b n gk (m - i) m j h39 hS.2.2.2 (by omega) (by omega) hn f _ fun r H2 h2 => ⟨Nat.le_of_eq h2.1.symm, ?_⟩
    repeat (first | refine wops_nil ?_ | refine zq1 rfl rfl ?_ | refine zq2 rfl rfl ?_ | refine zq3 rfl rfl ?_ | refine zq4 rfl rfl rfl rfl (inc (by omega)) ?_ | refine zq5 rfl rfl rfl rfl rfl (by assumption) ?_ | refine zq6 rfl rfl (by assumption) ?_ | refine zq7 rfl rfl rfl ?_ | refine zq8 rfl rfl rfl ?_ | refine zq9 rfl rfl rfl rfl ?_ | refine mobs_move rfl rfl rfl ?_ | refine m_load rfl rfl rfl (by assumption) ?_ | refine mobs_nil ?_ | refine wd_nil ?_ | refine wd_skip rfl rfl ?_ | refine wd_loudSkip rfl rfl ?_ | refine wd_move rfl rfl rfl ?_ | refine wd_assign rfl rfl rfl ?_ | refine wd_pick rfl rfl rfl rfl ?_ | refine d_load rfl rfl rfl (by assumption) ?_ | refine d_lenI rfl rfl rfl rfl rfl rfl (by assumption) ?_ | refine wp_condT rfl ?_ | refine wp_condF rfl ?_ | refine wp_region ?_ | refine wp_seq ?_ | refine wp_skip ?_ | refine wp_exit ?_ | refine wp_block ?_)
    refine wops_cons (wop_bin (op := .sub) rfl rfl rfl rfl (subN (by omega) (by omega)) ?_)
    repeat (first | refine wops_nil ?_ | refine zq1 rfl rfl ?_ | refine zq2 rfl rfl ?_ | refine zq3 rfl rfl ?_ | refine zq4 rfl rfl rfl rfl (inc (by omega)) ?_ | refine zq5 rfl rfl rfl rfl rfl (by assumption) ?_ | refine zq6 rfl rfl (by assumption) ?_ | refine zq7 rfl rfl rfl ?_ | refine zq8 rfl rfl rfl ?_ | refine zq9 rfl rfl rfl rfl ?_ | refine mobs_move rfl rfl rfl ?_ | refine m_load rfl rfl rfl (by assumption) ?_ | refine mobs_nil ?_ | refine wd_nil ?_ | refine wd_skip rfl rfl ?_ | refine wd_loudSkip rfl rfl ?_ | refine wd_move rfl rfl rfl ?_ | refine wd_assign rfl rfl rfl ?_ | refine wd_pick rfl rfl rfl rfl ?_ | refine d_load rfl rfl rfl (by assumption) ?_ | refine d_lenI rfl rfl rfl rfl rfl rfl (by assumption) ?_ | refine wp_condT rfl ?_ | refine wp_condF rfl ?_ | refine wp_region ?_ | refine wp_seq ?_ | refine wp_skip ?_ | refine wp_exit ?_ | refine wp_block ?_)
    exact ⟨i - j + j, by omega, i - j, j, _, [_,_,_,_,_,_,_,_,_,_,_,_,_,_,_,_,_,_,_,_,_,_,_,_,_,_,_,_,_,_,_,_,_,_,_,_,_,_,_,_,_,_,_,_,_,_,_,_,_,_,_], rfl, by omega, hj1, by omega, hjn, by rw [rot_gt gk (by omega) him]; exact hrot, hS.trans h2, rfl, rfl⟩
  · have h : ¬ (i : Int) > j := of_decide_eq_false h
    repeat (first | refine wops_nil ?_ | refine zq1 rfl rfl ?_ | refine zq2 rfl rfl ?_ | refine zq3 rfl rfl ?_ | refine zq4 rfl rfl rfl rfl (inc (by omega)) ?_ | refine zq5 rfl rfl rfl rfl rfl (by assumption) ?_ | refine zq6 rfl rfl (by assumption) ?_ | refine zq7 rfl rfl rfl ?_ | refine zq8 rfl rfl rfl ?_ | refine zq9 rfl rfl rfl rfl ?_ | refine mobs_move rfl rfl rfl ?_ | refine m_load rfl rfl rfl (by assumption) ?_ | refine mobs_nil ?_ | refine wd_nil ?_ | refine wd_skip rfl rfl ?_ | refine wd_loudSkip rfl rfl ?_ | refine wd_move rfl rfl rfl ?_ | refine wd_assign rfl rfl rfl ?_ | refine wd_pick rfl rfl rfl rfl ?_ | refine d_load rfl rfl rfl (by assumption) ?_ | refine d_lenI rfl rfl rfl rfl rfl rfl (by assumption) ?_ | refine wp_condT rfl ?_ | refine wp_condF rfl ?_ | refine wp_region ?_ | refine wp_seq ?_ | refine wp_skip ?_ | refine wp_exit ?_ | refine wp_block ?_)
    refine wops_cons (wop_bin (op := .sub) rfl rfl rfl rfl (subN (by omega) (by omega)) ?_)
    repeat (first | refine wops_nil ?_ | refine zq1 rfl rfl ?_ | refine zq2 rfl rfl ?_ | refine zq3 rfl rfl ?_ | refine zq4 rfl rfl rfl rfl (inc (by omega)) ?_ | refine zq5 rfl rfl rfl rfl rfl (by assumption) ?_ | refine zq6 rfl rfl (by assumption) ?_ | refine zq7 rfl rfl rfl ?_ | refine zq8 rfl rfl rfl ?_ | refine zq9 rfl rfl rfl rfl ?_ | refine mobs_move rfl rfl rfl ?_ | refine m_load rfl rfl rfl (by assumption) ?_ | refine mobs_nil ?_ | refine wd_nil ?_ | refine wd_skip rfl rfl ?_ | refine wd_loudSkip rfl rfl ?_ | refine wd_move rfl rfl rfl ?_ | refine wd_assign rfl rfl rfl ?_ | refine wd_pick rfl rfl rfl rfl ?_ | refine d_load rfl rfl rfl (by assumption) ?_ | refine d_lenI rfl rfl rfl rfl rfl rfl (by assumption) ?_ | refine wp_condT rfl ?_ | refine wp_condF rfl ?_ | refine wp_region ?_ | refine wp_seq ?_ | refine wp_skip ?_ | refine wp_exit ?_ | refine wp_block ?_)
    refine wops_cons (wop_bin (op := .add) rfl rfl rfl rfl (addN (by omega)) ?_)
    repeat (first | refine wops_nil ?_ | refine zq1 rfl rfl ?_ | refine zq2 rfl rfl ?_ | refine zq3 rfl rfl ?_ | refine zq4 rfl rfl rfl rfl (inc (by omega)) ?_ | refine zq5 rfl rfl rfl rfl rfl (by assumption) ?_ | refine zq6 rfl rfl (by assumption) ?_ | refine zq7 rfl rfl rfl ?_ | refine zq8 rfl rfl rfl ?_ | refine zq9 rfl rfl rfl rfl ?_ | refine mobs_move rfl rfl rfl ?_ | refine m_load rfl rfl rfl (by assumption) ?_ | refine mobs_nil ?_ | refine wd_nil ?_ | refine wd_skip rfl rfl ?_ | refine wd_loudSkip rfl rfl ?_ | refine wd_move rfl rfl rfl ?_ | refine wd_assign rfl rfl rfl ?_ | refine wd_pick rfl rfl rfl rfl ?_ | refine d_load rfl rfl rfl (by assumption) ?_ | refine d_lenI rfl rfl rfl rfl rfl rfl (by assumption) ?_ | refine wp_condT rfl ?_ | refine wp_condF rfl ?_ | refine wp_region ?_ | refine wp_seq ?_ | refine wp_skip ?_ | refine wp_exit ?_ | refine wp_block ?_)
    refine wops_cons (wop_bin (op := .sub) rfl rfl rfl rfl (subN (by omega) (by omega)) ?_)
    repeat (first | refine wops_nil ?_ | refine zq1 rfl rfl ?_ | refine zq2 rfl rfl ?_ | refine zq3 rfl rfl ?_ | refine zq4 rfl rfl rfl rfl (inc (by omega)) ?_ | refine zq5 rfl rfl rfl rfl rfl (by assumption) ?_ | refine zq6 rfl rfl (by assumption) ?_ | refine zq7 rfl rfl rfl ?_ | refine zq8 rfl rfl rfl ?_ | refine zq9 rfl rfl rfl rfl ?_ | refine mobs_move rfl rfl rfl ?_ | refine m_load rfl rfl rfl (by assumption) ?_ | refine mobs_nil ?_ | refine wd_nil ?_ | refine wd_skip rfl rfl ?_ | refine wd_loudSkip rfl rfl ?_ | refine wd_move rfl rfl rfl ?_ | refine wd_assign rfl rfl rfl ?_ | refine wd_pick rfl rfl rfl rfl ?_ | refine d_load rfl rfl rfl (by assumption) ?_ | refine d_lenI rfl rfl rfl rfl rfl rfl (by assumption) ?_ | refine wp_condT rfl ?_ | refine wp_condF rfl ?_ | refine wp_region ?_ | refine wp_seq ?_ | refine wp_skip ?_ | refine wp_exit ?_ | refine wp_block ?_)
    refine wops_cons (wop_callF rfl rfl rfl (fn := Tryz.f230) (by rfl) ?_)
    refine c230 hq H' b n gk (m - i) (m + j - i) i h39 hS.2.2.2 (by omega) (by omega) hn f _ fun r H2 h2 => ⟨Nat.le_of_eq h2.1.symm, ?_⟩
    repeat (first | refine wops_nil ?_ | refine zq1 rfl rfl ?_ | refine zq2 rfl rfl ?_ | refine zq3 rfl rfl ?_ | refine zq4 rfl rfl rfl rfl (inc (by omega)) ?_ | refine zq5 rfl rfl rfl rfl rfl (by assumption) ?_ | refine zq6 rfl rfl (by assumption) ?_ | refine zq7 rfl rfl rfl ?_ | refine zq8 rfl rfl rfl ?_ | refine zq9 rfl rfl rfl rfl ?_ | refine mobs_move rfl rfl rfl ?_ | refine m_load rfl rfl rfl (by assumption) ?_ | refine mobs_nil ?_ | refine wd_nil ?_ | refine wd_skip rfl rfl ?_ | refine wd_loudSkip rfl rfl ?_ | refine wd_move rfl rfl rfl ?_ | refine wd_assign rfl rfl rfl ?_ | refine wd_pick rfl rfl rfl rfl ?_ | refine d_load rfl rfl rfl (by assumption) ?_ | refine d_lenI rfl rfl rfl rfl rfl rfl (by assumption) ?_ | refine wp_condT rfl ?_ | refine wp_condF rfl ?_ | refine wp_region ?_ | refine wp_seq ?_ | refine wp_skip ?_ | refine wp_exit ?_ | refine wp_block ?_)
    refine wops_cons (wop_bin (op := .sub) rfl rfl rfl rfl (subN (by omega) (by omega)) ?_)
    repeat (first | refine wops_nil ?_ | refine zq1 rfl rfl ?_ | refine zq2 rfl rfl ?_ | refine zq3 rfl rfl ?_ | refine zq4 rfl rfl rfl rfl (inc (by omega)) ?_ | refine zq5 rfl rfl rfl rfl rfl (by assumption) ?_ | refine zq6 rfl rfl (by assumption) ?_ | refine zq7 rfl rfl rfl ?_ | refine zq8 rfl rfl rfl ?_ | refine zq9 rfl rfl rfl rfl ?_ | refine mobs_move rfl rfl rfl ?_ | refine m_load rfl rfl rfl (by assumption) ?_ | refine mobs_nil ?_ | refine wd_nil ?_ | refine wd_skip rfl rfl ?_ | refine wd_loudSkip rfl rfl ?_ | refine wd_move rfl rfl rfl ?_ | refine wd_assign rfl rfl rfl ?_ | refine wd_pick rfl rfl rfl rfl ?_ | refine d_load rfl rfl rfl (by assumption) ?_ | refine d_lenI rfl rfl rfl rfl rfl rfl (by assumption) ?_ | refine wp_condT rfl ?_ | refine wp_condF rfl ?_ | refine wp_region ?_ | refine wp_seq ?_ | refine wp_skip ?_ | refine wp_exit ?_ | refine wp_block ?_)
    exact ⟨i + (j - i), by omega, i, j - i, _, [_,_,_,_,_,_,_,_,_,_,_,_,_,_,_,_,_,_,_,_,_,_,_,_,_,_,_,_,_,_,_,_,_,_,_,_,_,_,_,_,_,_,_,_,_,_,_,_,_,_,_], rfl, hi1, by omega, him, by omega, by rw [rot_lt gk (by omega) him]; exact hrot, hS.trans h2, rfl, rfl⟩
end Go.Ev
namespace Go.Ev
structure Tot (R : Int → Int → Bool) : Prop where
  tr : ∀ x y z, R x y = true → R y z = true → R x z = true
  tot : ∀ x y, x ≠ y → R x y = false → R y x = true
structure Mg (R : Int → Int → Bool) (g : Nat → Int) (a e : Nat) (g' : Nat → Int) : Prop where
  sd : Sd R g' a e
  perm : (seg g' a e).Perm (seg g a e)
  out : ∀ i, i < a ∨ e ≤ i → g' i = g i
theorem Mg.refl {R : Int → Int → Bool} {g : Nat → Int} {a e : Nat} (h : Sd R g a e) : Mg R g a e g := ⟨h, List.Perm.refl _, fun _ _ => rfl⟩
theorem Mg.mem {R : Int → Int → Bool} {g g' : Nat → Int} {a e : Nat} (h : Mg R g a e g') {i : Nat} (h1 : a ≤ i) (h2 : i < e) : ∃ j, a ≤ j ∧ j < e ∧ g j = g' i :=
  seg_mem.1 (h.perm.mem_iff.1 (seg_mem.2 ⟨i, h1, h2, rfl⟩))
section
variable {R : Int → Int → Bool} (hR : Tot R) {g : Nat → Int} {a m e : Nat}
include hR
theorem mg_left {i : Nat} (hm : m = a + 1) (h1 : m ≤ i) (h2 : i ≤ e) (hs : Sd R g m e) (hb : i = m ∨ R (g (i - 1)) (g a) = true) (hc : i = e ∨ R (g a) (g i) = true) : Mg R g a e (rot g a m i) := by
  subst hm
  refine ⟨?_, rot_perm g (Nat.le_refl a) (by omega) h1 h2, fun j hj => rot_out g (by omega) (by omega) h1⟩
  have e1 : ∀ j, a ≤ j → j < i - 1 → rot g a (a + 1) i j = g (j + 1) := fun j hj1 hj2 => by
    unfold rot
    rw [if_pos (by omega)]
    congr 1
    omega
  have e2 : rot g a (a + 1) i (i - 1) = g a := by
    unfold rot
    rw [if_neg (by omega), if_pos (by omega)]
    congr 1
    omega
  have e3 : ∀ j, i ≤ j → rot g a (a + 1) i j = g j := fun j hj => rot_out g (.inr hj) (by omega) h1
  have k1 : ∀ j, a + 1 ≤ j → j < i → R (g j) (g a) = true := fun j hj1 hj2 => by
    rcases hb with hb | hb
    · omega
    · rcases Nat.lt_or_ge j (i - 1) with h | h
      · exact hR.tr _ _ _ (hs j (i - 1) hj1 h (by omega)) hb
      · rw [show j = i - 1 by omega]; exact hb
  have k2 : ∀ j, i ≤ j → j < e → R (g a) (g j) = true := fun j hj1 hj2 => by
    rcases hc with hc | hc
    · omega
    · rcases Nat.lt_or_ge i j with h | h
      · exact hR.tr _ _ _ hc (hs i j h1 h hj2)
      · rw [show j = i by omega]; exact hc
  intro x y hx hxy hy
  rcases Nat.lt_or_ge y (i - 1) with c1 | c1
  · rw [e1 x hx (by omega), e1 y (by omega) c1]
    exact hs _ _ (by omega) (by omega) (by omega)
  · rcases Nat.lt_or_ge x (i - 1) with c2 | c2
    · rw [e1 x hx c2]
      rcases Nat.lt_or_ge y i with c3 | c3
      · rw [show y = i - 1 by omega, e2]
        exact k1 _ (by omega) (by omega)
      · rw [e3 y c3]
        exact hs _ _ (by omega) (by omega) hy
    · rcases Nat.lt_or_ge x i with c3 | c3
      · rw [show x = i - 1 by omega, e2, e3 y (by omega)]
        exact k2 y (by omega) hy
      · rw [e3 x c3, e3 y (by omega)]
        exact hs _ _ (by omega) hxy hy
theorem mg_right {i : Nat} (he : e = m + 1) (h1 : a ≤ i) (h2 : i ≤ m) (hs : Sd R g a m) (hb : i = a ∨ R (g (i - 1)) (g m) = true) (hc : i = m ∨ R (g m) (g i) = true) : Mg R g a e (rot g i m (m + 1)) := by
  subst he
  refine ⟨?_, rot_perm g h1 h2 (by omega) (Nat.le_refl _), fun j hj => rot_out g (by omega) h2 (by omega)⟩
  have e1 : ∀ j, j < i → rot g i m (m + 1) j = g j := fun j hj => rot_out g (.inl hj) h2 (by omega)
  have e2 : rot g i m (m + 1) i = g m := by
    unfold rot
    rw [if_pos (by omega)]
    congr 1
    omega
  have e3 : ∀ j, i < j → j < m + 1 → rot g i m (m + 1) j = g (j - 1) := fun j hj1 hj2 => by
    unfold rot
    rw [if_neg (by omega), if_pos (by omega)]
    congr 1
    omega
  have k1 : ∀ j, a ≤ j → j < i → R (g j) (g m) = true := fun j hj1 hj2 => by
    rcases hb with hb | hb
    · omega
    · rcases Nat.lt_or_ge j (i - 1) with h | h
      · exact hR.tr _ _ _ (hs j (i - 1) hj1 h (by omega)) hb
      · rw [show j = i - 1 by omega]; exact hb
  have k2 : ∀ j, i ≤ j → j < m → R (g m) (g j) = true := fun j hj1 hj2 => by
    rcases hc with hc | hc
    · omega
    · rcases Nat.lt_or_ge i j with h | h
      · exact hR.tr _ _ _ hc (hs i j h1 h hj2)
      · rw [show j = i by omega]; exact hc
  intro x y hx hxy hy
  rcases Nat.lt_or_ge y i with c1 | c1
  · rw [e1 x (by omega), e1 y c1]
    exact hs x y hx hxy (by omega)
  · rcases Nat.lt_or_ge i y with c2 | c2
    · rw [e3 y c2 hy]
      rcases Nat.lt_or_ge x i with c3 | c3
      · rw [e1 x c3]
        exact hs _ _ hx (by omega) (by omega)
      · rcases Nat.lt_or_ge i x with c4 | c4
        · rw [e3 x c4 (by omega)]
          exact hs _ _ (by omega) (by omega) (by omega)
        · rw [show x = i by omega, e2]
          exact k2 _ (by omega) (by omega)
    · rw [show y = i by omega, e2, e1 x (by omega)]
      exact k1 x hx (by omega)
structure Mid (R : Int → Int → Bool) (g1 : Nat → Int) (a s mid t e : Nat) : Prop where
  s1 : Sd R g1 a s
  s2 : Sd R g1 s mid
  s3 : Sd R g1 mid t
  s4 : Sd R g1 t e
  o1 : ∀ i j, a ≤ i → i < s → s ≤ j → j < mid → g1 i < g1 j
  o2 : ∀ i j, mid ≤ i → i < t → t ≤ j → j < e → g1 i < g1 j
  cr : ∀ i j, a ≤ i → i < mid → mid ≤ j → j < e → R (g1 i) (g1 j) = true
theorem mid_step {s mid : Nat} (ham : a < m) (hme : m < e) (hL : Sd R g a m) (hRt : Sd R g m e) (ho : ∀ i j, a ≤ i → i < m → m ≤ j → j < e → g i < g j) (hmid : mid = (a + e) / 2)
    (h1 : a ≤ s) (h2 : s ≤ m) (h3 : s ≤ mid) (h4 : mid + m - s ≤ e)
    (hB : (mid + m - s = e ∨ s = a) ∨ R (g (mid + m - s)) (g (s - 1)) = false) (hC : (mid = s ∨ s = m) ∨ R (g (mid + m - s - 1)) (g s) = true) :
    Mid R (rot g s m (mid + m - s)) a s mid (mid + m - s) e := by
  have f1 : ∀ i, i < s → rot g s m (mid + m - s) i = g i := fun i hi => rot_out g (.inl hi) h2 (by omega)
  have f2 : ∀ i, s ≤ i → i < mid → rot g s m (mid + m - s) i = g (i - s + m) := fun i hi1 hi2 => by
    unfold rot
    rw [if_pos (by omega)]
  have f3 : ∀ i, mid ≤ i → i < mid + m - s → rot g s m (mid + m - s) i = g (i - mid + s) := fun i hi1 hi2 => by
    unfold rot
    rw [if_neg (by omega), if_pos (by omega)]
    congr 1
    omega
  have f4 : ∀ i, mid + m - s ≤ i → rot g s m (mid + m - s) i = g i := fun i hi => rot_out g (.inr hi) h2 (by omega)
  -- the four pairs of pieces
  have p3 : ∀ i j, a ≤ i → i < s → mid + m - s ≤ j → j < e → R (g i) (g j) = true := fun i j hi1 hi2 hj1 hj2 => by
    have hx : R (g (s - 1)) (g (mid + m - s)) = true := by
      rcases hB with hB | hB
      · omega
      · exact hR.tot _ _ (fun h => by have := ho (s - 1) (mid + m - s) (by omega) (by omega) (by omega) (by omega); omega) hB
    have hy : R (g i) (g (mid + m - s)) = true := by
      rcases Nat.lt_or_ge i (s - 1) with h | h
      · exact hR.tr _ _ _ (hL i (s - 1) hi1 h (by omega)) hx
      · rw [show i = s - 1 by omega]; exact hx
    rcases Nat.lt_or_ge (mid + m - s) j with h | h
    · exact hR.tr _ _ _ hy (hRt _ j (by omega) h hj2)
    · rw [show j = mid + m - s by omega]; exact hy
  have p4 : ∀ i j, m ≤ i → i < mid + m - s → s ≤ j → j < m → R (g i) (g j) = true := fun i j hi1 hi2 hj1 hj2 => by
    have hx : R (g (mid + m - s - 1)) (g s) = true := by
      rcases hC with hC | hC
      · omega
      · exact hC
    have hy : R (g i) (g s) = true := by
      rcases Nat.lt_or_ge i (mid + m - s - 1) with h | h
      · exact hR.tr _ _ _ (hRt i _ hi1 h (by omega)) hx
      · rw [show i = mid + m - s - 1 by omega]; exact hx
    rcases Nat.lt_or_ge s j with h | h
    · exact hR.tr _ _ _ hy (hL s j h1 h hj2)
    · rw [show j = s by omega]; exact hy
  refine ⟨?_, ?_, ?_, ?_, ?_, ?_, ?_⟩
  · intro i j hi hij hj
    rw [f1 i (by omega), f1 j hj]
    exact hL i j hi hij (by omega)
  · intro i j hi hij hj
    rw [f2 i hi (by omega), f2 j (by omega) hj]
    exact hRt _ _ (by omega) (by omega) (by omega)
  · intro i j hi hij hj
    rw [f3 i hi (by omega), f3 j (by omega) hj]
    exact hL _ _ (by omega) (by omega) (by omega)
  · intro i j hi hij hj
    rw [f4 i hi, f4 j (by omega)]
    exact hRt i j (by omega) hij hj
  · intro i j hi1 hi2 hj1 hj2
    rw [f1 i hi2, f2 j hj1 hj2]
    exact ho _ _ hi1 (by omega) (by omega) (by omega)
  · intro i j hi1 hi2 hj1 hj2
    rw [f3 i hi1 hi2, f4 j hj1]
    exact ho _ _ (by omega) (by omega) (by omega) hj2
  · intro i j hi1 hi2 hj1 hj2
    rcases Nat.lt_or_ge i s with c1 | c1
    · rw [f1 i c1]
      rcases Nat.lt_or_ge j (mid + m - s) with c2 | c2
      · rw [f3 j hj1 c2]
        exact hL _ _ hi1 (by omega) (by omega)
      · rw [f4 j c2]
        exact p3 i j hi1 c1 c2 hj2
    · rw [f2 i c1 hi2]
      rcases Nat.lt_or_ge j (mid + m - s) with c2 | c2
      · rw [f3 j hj1 c2]
        exact p4 _ _ (by omega) (by omega) (by omega) (by omega)
      · rw [f4 j c2]
        exact hRt _ _ (by omega) (by omega) hj2
end
theorem mg_join {R : Int → Int → Bool} (_ : Tot R) {g : Nat → Int} {a e : Nat} {g1 g2 g3 : Nat → Int} {mid : Nat} (h1 : a ≤ mid) (h2 : mid ≤ e) (hp : (seg g1 a e).Perm (seg g a e)) (ho : ∀ i, i < a ∨ e ≤ i → g1 i = g i)
    (hcr : ∀ i j, a ≤ i → i < mid → mid ≤ j → j < e → R (g1 i) (g1 j) = true) (k1 : Mg R g1 a mid g2) (k2 : Mg R g2 mid e g3) : Mg R g a e g3 := by
  have q1 : ∀ i, i < mid → g3 i = g2 i := fun i hi => k2.out i (.inl hi)
  have q2 : ∀ i, mid ≤ i → g2 i = g1 i := fun i hi => k1.out i (.inr hi)
  refine ⟨Sd.join (m := mid) (k1.sd.ext fun i _ hi => (q1 i hi).symm) k2.sd fun i j hi1 hi2 hj1 hj2 => ?_, ?_, fun i hi => ?_⟩
  · obtain ⟨x, x1, x2, x3⟩ := k1.mem hi1 hi2
    obtain ⟨y, y1, y2, y3⟩ := k2.mem hj1 hj2
    rw [q1 i hi2, ← x3, ← y3, q2 y y1]
    exact hcr x y x1 x2 y1 y2
  · refine List.Perm.trans ?_ hp
    rw [seg_append g3 h1 h2, seg_append g1 h1 h2, seg_ext (g := g3) (h := g2) (a := a) (e := mid) fun i _ hi => q1 i hi]
    refine List.Perm.append k1.perm (k2.perm.trans ?_)
    rw [seg_ext (g := g2) (h := g1) (a := mid) (e := e) fun i hi _ => q2 i hi]
  · rw [k2.out i (by omega), k1.out i (by omega)]
    exact ho i hi
end Go.Ev
