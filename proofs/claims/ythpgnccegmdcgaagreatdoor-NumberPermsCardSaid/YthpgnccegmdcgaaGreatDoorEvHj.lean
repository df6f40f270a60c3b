/- Part of an evaluator of calls that is proved sound, and of what it gives about this program. No condition of its own. -/
import Derived.Test.YthpgnccegmdcgaaGreatDoorEvHi
set_option linter.unusedVariables false
set_option linter.unusedSimpArgs false
set_option maxRecDepth 100000
set_option maxHeartbeats 4000000
namespace Go.Ev
open Go.Proofs

theorem WOps.T {E : Env} {ops : Array Oper} {l : List Oper} {T T' : List AV} {H : AH} {K : List AV → AH → Prop} (h : T = T') (hw : WOps E ops l T' H K) : WOps E ops l T H K := h ▸ hw

theorem two_facts (l m : List Int) (two : Int) (h : two = firstNZ [permE l, permE m, if ((l.length : Int) != m.length) = true then 2 else 0]) :
    (two ≠ 0 → compS l m = ([], two)) ∧ (two = 0 → compS l m = (compL l m, 0) ∧ permE l = 0 ∧ permE m = 0 ∧ l.length = m.length) := by
  subst h
  simp only [firstNZ, compS]
  by_cases h1 : permE l = 0
  · by_cases h2 : permE m = 0
    · by_cases h3 : l.length = m.length
      · have : ((l.length : Int) != m.length) = false := by simp [h3]
        simp [h1, h2, h3]
      · have : ((l.length : Int) != m.length) = true := by simp; omega
        simp [h1, h2, h3, this]
    · simp [h1, h2]
  · simp [h1]

variable {O : CallF} (hq : Quiet O)
include hq

theorem c3 (H : AH) (hA : ∀ H', H'.gl = H.gl → O 8 [] H' = some (.v (.bool true), H')) (x y : AV) (l m : List Int) (hx : Sl H x (ivs l)) (ho : Old H x) (hy : Sl H y (ivs m)) (ho2 : Old H y) (hr : H.next + 500000 < 2 ^ 39) (K : AV → AH → Prop) (hk : ∀ H', K (.v (.bool true)) H') : Ca (ENV O) 3 [x, y] H K := by
  refine ca_intro (hq _ _ _ rfl) (fn := Tryz.f3) (by rfl) rfl ?_
  repeat (first
    | refine wops_nil ?_
    | refine wops_cons (wop_skip' rfl rfl ?_)
    | refine wops_cons (wop_move rfl rfl ?_)
    | refine wops_cons (wop_assign rfl rfl ?_)
    | refine wops_cons (wop_bin (op := .add) rfl rfl rfl rfl (inc (by omega)) ?_)
    | refine wops_cons (o_lenI rfl rfl rfl rfl rfl (by assumption) ?_)
    | refine wops_cons (o_load rfl rfl (by assumption) ?_)
    | refine wops_cons (wop_pick rfl rfl rfl ?_)
    | refine wops_cons (wop_not rfl rfl rfl ?_)
    | refine wops_cons (wop_extract rfl rfl rfl rfl ?_)
    | refine mobs_move rfl rfl rfl ?_
    | refine m_load rfl rfl rfl (by assumption) ?_
    | refine mobs_nil ?_
    | refine wd_nil ?_
    | refine wd_skip rfl rfl ?_
    | refine wd_loudSkip rfl rfl ?_
    | refine wd_move rfl rfl rfl ?_
    | refine wd_assign rfl rfl rfl ?_
    | refine wd_pick rfl rfl rfl rfl ?_
    | refine d_load rfl rfl rfl (by assumption) ?_
    | refine d_lenI rfl rfl rfl rfl rfl rfl (by assumption) ?_
    | refine wp_condT rfl ?_
    | refine wp_condF rfl ?_
    | refine wp_region ?_
    | refine wp_seq ?_
    | refine wp_skip ?_
    | refine wp_exit ?_
    | refine wp_block ?_)
  refine WOps.T (T' := (x :: y :: .v undef :: .v undef :: .v (.bool false) :: .v undef :: .v undef :: .v undef :: .v undef :: .v undef :: .v undef :: .v undef :: .v undef :: .v undef :: .v undef :: .v undef :: .v undef :: .v undef :: .v undef :: .v undef :: .v undef :: .v undef :: .v undef :: .v undef :: .v undef :: .v undef :: .v undef :: .v undef :: .v undef :: .v undef :: .v undef :: .v undef :: .v undef :: .v undef :: .v undef :: .v undef :: .v undef :: .v undef :: .v undef :: .v undef :: .v undef :: .v undef :: .v undef :: .v undef :: .v undef :: .v undef :: .v undef :: .v undef :: .v undef :: .v undef :: .v undef :: .v undef :: .v undef :: .v undef :: .v undef :: .v undef :: .v undef :: .v undef :: .v undef :: .v undef :: .v undef :: .v undef :: .v undef :: .v undef :: .v undef :: .v undef :: .v undef :: .v undef :: .v undef :: .v undef :: .v undef :: .v undef :: .v undef :: .v undef :: .v undef :: .v undef :: .v undef :: .v undef :: .v undef :: .v undef :: .v undef :: .v undef :: .v undef :: .v undef :: .v undef :: [])) rfl ?_
  refine wops_cons (wop_callF rfl rfl rfl (fn := Tryz.f8) (by rfl) ?_)
  refine ca_oracle (hA H rfl) ⟨Nat.le_refl _, ?_⟩
  repeat (first
    | refine wops_nil ?_
    | refine wops_cons (wop_skip' rfl rfl ?_)
    | refine wops_cons (wop_move rfl rfl ?_)
    | refine wops_cons (wop_assign rfl rfl ?_)
    | refine wops_cons (wop_bin (op := .add) rfl rfl rfl rfl (inc (by omega)) ?_)
    | refine wops_cons (o_lenI rfl rfl rfl rfl rfl (by assumption) ?_)
    | refine wops_cons (o_load rfl rfl (by assumption) ?_)
    | refine wops_cons (wop_pick rfl rfl rfl ?_)
    | refine wops_cons (wop_not rfl rfl rfl ?_)
    | refine wops_cons (wop_extract rfl rfl rfl rfl ?_)
    | refine mobs_move rfl rfl rfl ?_
    | refine m_load rfl rfl rfl (by assumption) ?_
    | refine mobs_nil ?_
    | refine wd_nil ?_
    | refine wd_skip rfl rfl ?_
    | refine wd_loudSkip rfl rfl ?_
    | refine wd_move rfl rfl rfl ?_
    | refine wd_assign rfl rfl rfl ?_
    | refine wd_pick rfl rfl rfl rfl ?_
    | refine d_load rfl rfl rfl (by assumption) ?_
    | refine d_lenI rfl rfl rfl rfl rfl rfl (by assumption) ?_
    | refine wp_condT rfl ?_
    | refine wp_condF rfl ?_
    | refine wp_region ?_
    | refine wp_seq ?_
    | refine wp_skip ?_
    | refine wp_exit ?_
    | refine wp_block ?_)
  refine WOps.T (T' := (x :: y :: .v undef :: .v undef :: .v (.bool false) :: .v undef :: .v undef :: .v undef :: .v undef :: .v undef :: .v undef :: .v (.bool true) :: .v (.bool false) :: .v (.bool false) :: x :: iv l.length :: .v undef :: .v undef :: .v undef :: .v undef :: .v undef :: .v undef :: .v undef :: .v undef :: .v undef :: .v undef :: .v undef :: .v undef :: .v undef :: .v undef :: .v undef :: .v undef :: .v undef :: .v undef :: .v undef :: .v undef :: .v undef :: .v undef :: .v undef :: .v undef :: .v undef :: .v undef :: .v undef :: .v undef :: .v undef :: .v undef :: .v undef :: .v undef :: .v undef :: .v undef :: .v undef :: .v undef :: .v undef :: .v undef :: .v undef :: .v undef :: .v undef :: .v undef :: .v undef :: .v undef :: .v undef :: .v undef :: .v undef :: .v undef :: .v undef :: .v undef :: .v undef :: .v undef :: .v undef :: .v undef :: .v undef :: .v undef :: .v undef :: .v undef :: .v undef :: .v undef :: .v undef :: .v undef :: .v undef :: .v undef :: .v undef :: .v undef :: .v undef :: .v undef :: .v undef :: [])) rfl ?_
  refine wops_cons (wop_cmp rfl rfl rfl rfl rfl (fun h => ?_) (fun h => ?_))
  · repeat (first
      | refine wops_nil ?_
      | refine wops_cons (wop_skip' rfl rfl ?_)
      | refine wops_cons (wop_move rfl rfl ?_)
      | refine wops_cons (wop_assign rfl rfl ?_)
      | refine wops_cons (wop_bin (op := .add) rfl rfl rfl rfl (inc (by omega)) ?_)
      | refine wops_cons (o_lenI rfl rfl rfl rfl rfl (by assumption) ?_)
      | refine wops_cons (o_load rfl rfl (by assumption) ?_)
      | refine wops_cons (wop_pick rfl rfl rfl ?_)
      | refine wops_cons (wop_not rfl rfl rfl ?_)
      | refine wops_cons (wop_extract rfl rfl rfl rfl ?_)
      | refine mobs_move rfl rfl rfl ?_
      | refine m_load rfl rfl rfl (by assumption) ?_
      | refine mobs_nil ?_
      | refine wd_nil ?_
      | refine wd_skip rfl rfl ?_
      | refine wd_loudSkip rfl rfl ?_
      | refine wd_move rfl rfl rfl ?_
      | refine wd_assign rfl rfl rfl ?_
      | refine wd_pick rfl rfl rfl rfl ?_
      | refine d_load rfl rfl rfl (by assumption) ?_
      | refine d_lenI rfl rfl rfl rfl rfl rfl (by assumption) ?_
      | refine wp_condT rfl ?_
      | refine wp_condF rfl ?_
      | refine wp_region ?_
      | refine wp_seq ?_
      | refine wp_skip ?_
      | refine wp_exit ?_
      | refine wp_block ?_)
    refine wops_cons (wop_callF rfl rfl rfl (fn := Tryz.f8) (by rfl) ?_)
    refine ca_oracle (hA H rfl) ⟨Nat.le_refl _, ?_⟩
    repeat (first
      | refine wops_nil ?_
      | refine wops_cons (wop_skip' rfl rfl ?_)
      | refine wops_cons (wop_move rfl rfl ?_)
      | refine wops_cons (wop_assign rfl rfl ?_)
      | refine wops_cons (wop_bin (op := .add) rfl rfl rfl rfl (inc (by omega)) ?_)
      | refine wops_cons (o_lenI rfl rfl rfl rfl rfl (by assumption) ?_)
      | refine wops_cons (o_load rfl rfl (by assumption) ?_)
      | refine wops_cons (wop_pick rfl rfl rfl ?_)
      | refine wops_cons (wop_not rfl rfl rfl ?_)
      | refine wops_cons (wop_extract rfl rfl rfl rfl ?_)
      | refine mobs_move rfl rfl rfl ?_
      | refine m_load rfl rfl rfl (by assumption) ?_
      | refine mobs_nil ?_
      | refine wd_nil ?_
      | refine wd_skip rfl rfl ?_
      | refine wd_loudSkip rfl rfl ?_
      | refine wd_move rfl rfl rfl ?_
      | refine wd_assign rfl rfl rfl ?_
      | refine wd_pick rfl rfl rfl rfl ?_
      | refine d_load rfl rfl rfl (by assumption) ?_
      | refine d_lenI rfl rfl rfl rfl rfl rfl (by assumption) ?_
      | refine wp_condT rfl ?_
      | refine wp_condF rfl ?_
      | refine wp_region ?_
      | refine wp_seq ?_
      | refine wp_skip ?_
      | refine wp_exit ?_
      | refine wp_block ?_)
    refine wp_ret ?_
    exact ⟨_, _, rfl, hk _⟩
  have hl260 : ¬ ((l.length : Int) > 260) := of_decide_eq_false h
  repeat (first
    | refine wops_nil ?_
    | refine wops_cons (wop_skip' rfl rfl ?_)
    | refine wops_cons (wop_move rfl rfl ?_)
    | refine wops_cons (wop_assign rfl rfl ?_)
    | refine wops_cons (wop_bin (op := .add) rfl rfl rfl rfl (inc (by omega)) ?_)
    | refine wops_cons (o_lenI rfl rfl rfl rfl rfl (by assumption) ?_)
    | refine wops_cons (o_load rfl rfl (by assumption) ?_)
    | refine wops_cons (wop_pick rfl rfl rfl ?_)
    | refine wops_cons (wop_not rfl rfl rfl ?_)
    | refine wops_cons (wop_extract rfl rfl rfl rfl ?_)
    | refine mobs_move rfl rfl rfl ?_
    | refine m_load rfl rfl rfl (by assumption) ?_
    | refine mobs_nil ?_
    | refine wd_nil ?_
    | refine wd_skip rfl rfl ?_
    | refine wd_loudSkip rfl rfl ?_
    | refine wd_move rfl rfl rfl ?_
    | refine wd_assign rfl rfl rfl ?_
    | refine wd_pick rfl rfl rfl rfl ?_
    | refine d_load rfl rfl rfl (by assumption) ?_
    | refine d_lenI rfl rfl rfl rfl rfl rfl (by assumption) ?_
    | refine wp_condT rfl ?_
    | refine wp_condF rfl ?_
    | refine wp_region ?_
    | refine wp_seq ?_
    | refine wp_skip ?_
    | refine wp_exit ?_
    | refine wp_block ?_)
  refine WOps.T (T' := (x :: y :: .v undef :: .v undef :: .v (.bool false) :: .v undef :: .v undef :: .v undef :: .v undef :: .v undef :: .v undef :: .v (.bool true) :: .v (.bool false) :: .v (.bool false) :: x :: iv l.length :: .v (.bool false) :: .v (.bool false) :: .v (.bool false) :: y :: iv m.length :: .v undef :: .v undef :: .v undef :: .v undef :: .v undef :: .v undef :: .v undef :: .v undef :: .v undef :: .v undef :: .v undef :: .v undef :: .v undef :: .v undef :: .v undef :: .v undef :: .v undef :: .v undef :: .v undef :: .v undef :: .v undef :: .v undef :: .v undef :: .v undef :: .v undef :: .v undef :: .v undef :: .v undef :: .v undef :: .v undef :: .v undef :: .v undef :: .v undef :: .v undef :: .v undef :: .v undef :: .v undef :: .v undef :: .v undef :: .v undef :: .v undef :: .v undef :: .v undef :: .v undef :: .v undef :: .v undef :: .v undef :: .v undef :: .v undef :: .v undef :: .v undef :: .v undef :: .v undef :: .v undef :: .v undef :: .v undef :: .v undef :: .v undef :: .v undef :: .v undef :: .v undef :: .v undef :: .v undef :: .v undef :: [])) rfl ?_
  refine wops_cons (wop_cmp rfl rfl rfl rfl rfl (fun h => ?_) (fun h => ?_))
  · repeat (first
      | refine wops_nil ?_
      | refine wops_cons (wop_skip' rfl rfl ?_)
      | refine wops_cons (wop_move rfl rfl ?_)
      | refine wops_cons (wop_assign rfl rfl ?_)
      | refine wops_cons (wop_bin (op := .add) rfl rfl rfl rfl (inc (by omega)) ?_)
      | refine wops_cons (o_lenI rfl rfl rfl rfl rfl (by assumption) ?_)
      | refine wops_cons (o_load rfl rfl (by assumption) ?_)
      | refine wops_cons (wop_pick rfl rfl rfl ?_)
      | refine wops_cons (wop_not rfl rfl rfl ?_)
      | refine wops_cons (wop_extract rfl rfl rfl rfl ?_)
      | refine mobs_move rfl rfl rfl ?_
      | refine m_load rfl rfl rfl (by assumption) ?_
      | refine mobs_nil ?_
      | refine wd_nil ?_
      | refine wd_skip rfl rfl ?_
      | refine wd_loudSkip rfl rfl ?_
      | refine wd_move rfl rfl rfl ?_
      | refine wd_assign rfl rfl rfl ?_
      | refine wd_pick rfl rfl rfl rfl ?_
      | refine d_load rfl rfl rfl (by assumption) ?_
      | refine d_lenI rfl rfl rfl rfl rfl rfl (by assumption) ?_
      | refine wp_condT rfl ?_
      | refine wp_condF rfl ?_
      | refine wp_region ?_
      | refine wp_seq ?_
      | refine wp_skip ?_
      | refine wp_exit ?_
      | refine wp_block ?_)
    refine wops_cons (wop_callF rfl rfl rfl (fn := Tryz.f8) (by rfl) ?_)
    refine ca_oracle (hA H rfl) ⟨Nat.le_refl _, ?_⟩
    repeat (first
      | refine wops_nil ?_
      | refine wops_cons (wop_skip' rfl rfl ?_)
      | refine wops_cons (wop_move rfl rfl ?_)
      | refine wops_cons (wop_assign rfl rfl ?_)
      | refine wops_cons (wop_bin (op := .add) rfl rfl rfl rfl (inc (by omega)) ?_)
      | refine wops_cons (o_lenI rfl rfl rfl rfl rfl (by assumption) ?_)
      | refine wops_cons (o_load rfl rfl (by assumption) ?_)
      | refine wops_cons (wop_pick rfl rfl rfl ?_)
      | refine wops_cons (wop_not rfl rfl rfl ?_)
      | refine wops_cons (wop_extract rfl rfl rfl rfl ?_)
      | refine mobs_move rfl rfl rfl ?_
      | refine m_load rfl rfl rfl (by assumption) ?_
      | refine mobs_nil ?_
      | refine wd_nil ?_
      | refine wd_skip rfl rfl ?_
      | refine wd_loudSkip rfl rfl ?_
      | refine wd_move rfl rfl rfl ?_
      | refine wd_assign rfl rfl rfl ?_
      | refine wd_pick rfl rfl rfl rfl ?_
      | refine d_load rfl rfl rfl (by assumption) ?_
      | refine d_lenI rfl rfl rfl rfl rfl rfl (by assumption) ?_
      | refine wp_condT rfl ?_
      | refine wp_condF rfl ?_
      | refine wp_region ?_
      | refine wp_seq ?_
      | refine wp_skip ?_
      | refine wp_exit ?_
      | refine wp_block ?_)
    refine wp_ret ?_
    exact ⟨_, _, rfl, hk _⟩
  have hm260 : ¬ ((m.length : Int) > 260) := of_decide_eq_false h
  repeat (first
    | refine wops_nil ?_
    | refine wops_cons (wop_skip' rfl rfl ?_)
    | refine wops_cons (wop_move rfl rfl ?_)
    | refine wops_cons (wop_assign rfl rfl ?_)
    | refine wops_cons (wop_bin (op := .add) rfl rfl rfl rfl (inc (by omega)) ?_)
    | refine wops_cons (o_lenI rfl rfl rfl rfl rfl (by assumption) ?_)
    | refine wops_cons (o_load rfl rfl (by assumption) ?_)
    | refine wops_cons (wop_pick rfl rfl rfl ?_)
    | refine wops_cons (wop_not rfl rfl rfl ?_)
    | refine wops_cons (wop_extract rfl rfl rfl rfl ?_)
    | refine mobs_move rfl rfl rfl ?_
    | refine m_load rfl rfl rfl (by assumption) ?_
    | refine mobs_nil ?_
    | refine wd_nil ?_
    | refine wd_skip rfl rfl ?_
    | refine wd_loudSkip rfl rfl ?_
    | refine wd_move rfl rfl rfl ?_
    | refine wd_assign rfl rfl rfl ?_
    | refine wd_pick rfl rfl rfl rfl ?_
    | refine d_load rfl rfl rfl (by assumption) ?_
    | refine d_lenI rfl rfl rfl rfl rfl rfl (by assumption) ?_
    | refine wp_condT rfl ?_
    | refine wp_condF rfl ?_
    | refine wp_region ?_
    | refine wp_seq ?_
    | refine wp_skip ?_
    | refine wp_exit ?_
    | refine wp_block ?_)
  refine WOps.T (T' := (x :: y :: .v undef :: .v undef :: .v (.bool false) :: .v undef :: .v undef :: .v undef :: .v undef :: .v undef :: .v undef :: .v (.bool true) :: .v (.bool false) :: .v (.bool false) :: x :: iv l.length :: .v (.bool false) :: .v (.bool false) :: .v (.bool false) :: y :: iv m.length :: .v (.bool false) :: .v (.bool false) :: .v undef :: x :: .v undef :: .v undef :: .v undef :: .v undef :: .v undef :: .v undef :: .v undef :: .v undef :: .v undef :: .v undef :: .v undef :: .v undef :: .v undef :: .v undef :: .v undef :: .v undef :: .v undef :: .v undef :: .v undef :: .v undef :: .v undef :: .v undef :: .v undef :: .v undef :: .v undef :: .v undef :: .v undef :: .v undef :: .v undef :: .v undef :: .v undef :: .v undef :: .v undef :: .v undef :: .v undef :: .v undef :: .v undef :: .v undef :: .v undef :: .v undef :: .v undef :: .v undef :: .v undef :: .v undef :: .v undef :: .v undef :: .v undef :: .v undef :: .v undef :: .v undef :: .v undef :: .v undef :: .v undef :: .v undef :: .v undef :: .v undef :: .v undef :: .v undef :: .v undef :: .v undef :: [])) rfl ?_
  refine wops_cons (wop_callF rfl rfl rfl (fn := Tryz.f9) (by rfl) ?_)
  refine c9 hq H x l hx _ ⟨Nat.le_refl _, ?_⟩
  repeat (first
    | refine wops_nil ?_
    | refine wops_cons (wop_skip' rfl rfl ?_)
    | refine wops_cons (wop_move rfl rfl ?_)
    | refine wops_cons (wop_assign rfl rfl ?_)
    | refine wops_cons (wop_bin (op := .add) rfl rfl rfl rfl (inc (by omega)) ?_)
    | refine wops_cons (o_lenI rfl rfl rfl rfl rfl (by assumption) ?_)
    | refine wops_cons (o_load rfl rfl (by assumption) ?_)
    | refine wops_cons (wop_pick rfl rfl rfl ?_)
    | refine wops_cons (wop_not rfl rfl rfl ?_)
    | refine wops_cons (wop_extract rfl rfl rfl rfl ?_)
    | refine mobs_move rfl rfl rfl ?_
    | refine m_load rfl rfl rfl (by assumption) ?_
    | refine mobs_nil ?_
    | refine wd_nil ?_
    | refine wd_skip rfl rfl ?_
    | refine wd_loudSkip rfl rfl ?_
    | refine wd_move rfl rfl rfl ?_
    | refine wd_assign rfl rfl rfl ?_
    | refine wd_pick rfl rfl rfl rfl ?_
    | refine d_load rfl rfl rfl (by assumption) ?_
    | refine d_lenI rfl rfl rfl rfl rfl rfl (by assumption) ?_
    | refine wp_condT rfl ?_
    | refine wp_condF rfl ?_
    | refine wp_region ?_
    | refine wp_seq ?_
    | refine wp_skip ?_
    | refine wp_exit ?_
    | refine wp_block ?_)
  refine WOps.T (T' := (x :: y :: .v undef :: .v undef :: .v (.bool false) :: iv (permE l) :: .v undef :: .v undef :: .v undef :: .v undef :: .v undef :: .v (.bool true) :: .v (.bool false) :: .v (.bool false) :: x :: iv l.length :: .v (.bool false) :: .v (.bool false) :: .v (.bool false) :: y :: iv m.length :: .v (.bool false) :: .v (.bool false) :: .v undef :: x :: iv (permE l) :: iv (permE l) :: y :: .v undef :: .v undef :: .v undef :: .v undef :: .v undef :: .v undef :: .v undef :: .v undef :: .v undef :: .v undef :: .v undef :: .v undef :: .v undef :: .v undef :: .v undef :: .v undef :: .v undef :: .v undef :: .v undef :: .v undef :: .v undef :: .v undef :: .v undef :: .v undef :: .v undef :: .v undef :: .v undef :: .v undef :: .v undef :: .v undef :: .v undef :: .v undef :: .v undef :: .v undef :: .v undef :: .v undef :: .v undef :: .v undef :: .v undef :: .v undef :: .v undef :: .v undef :: .v undef :: .v undef :: .v undef :: .v undef :: .v undef :: .v undef :: .v undef :: .v undef :: .v undef :: .v undef :: .v undef :: .v undef :: .v undef :: .v undef :: .v undef :: [])) rfl ?_
  refine wops_cons (wop_callF rfl rfl rfl (fn := Tryz.f9) (by rfl) ?_)
  refine c9 hq H y m hy _ ⟨Nat.le_refl _, ?_⟩
  repeat (first
    | refine wops_nil ?_
    | refine wops_cons (wop_skip' rfl rfl ?_)
    | refine wops_cons (wop_move rfl rfl ?_)
    | refine wops_cons (wop_assign rfl rfl ?_)
    | refine wops_cons (wop_bin (op := .add) rfl rfl rfl rfl (inc (by omega)) ?_)
    | refine wops_cons (o_lenI rfl rfl rfl rfl rfl (by assumption) ?_)
    | refine wops_cons (o_load rfl rfl (by assumption) ?_)
    | refine wops_cons (wop_pick rfl rfl rfl ?_)
    | refine wops_cons (wop_not rfl rfl rfl ?_)
    | refine wops_cons (wop_extract rfl rfl rfl rfl ?_)
    | refine mobs_move rfl rfl rfl ?_
    | refine m_load rfl rfl rfl (by assumption) ?_
    | refine mobs_nil ?_
    | refine wd_nil ?_
    | refine wd_skip rfl rfl ?_
    | refine wd_loudSkip rfl rfl ?_
    | refine wd_move rfl rfl rfl ?_
    | refine wd_assign rfl rfl rfl ?_
    | refine wd_pick rfl rfl rfl rfl ?_
    | refine d_load rfl rfl rfl (by assumption) ?_
    | refine d_lenI rfl rfl rfl rfl rfl rfl (by assumption) ?_
    | refine wp_condT rfl ?_
    | refine wp_condF rfl ?_
    | refine wp_region ?_
    | refine wp_seq ?_
    | refine wp_skip ?_
    | refine wp_exit ?_
    | refine wp_block ?_)
  refine WOps.T (T' := (x :: y :: .v undef :: .v undef :: .v (.bool false) :: iv (permE l) :: .v undef :: .v undef :: .v undef :: .v undef :: .v undef :: .v (.bool true) :: .v (.bool false) :: .v (.bool false) :: x :: iv l.length :: .v (.bool false) :: .v (.bool false) :: .v (.bool false) :: y :: iv m.length :: .v (.bool false) :: .v (.bool false) :: .v undef :: x :: iv (permE l) :: iv (permE l) :: y :: iv (permE m) :: x :: iv l.length :: y :: iv m.length :: .v undef :: .v undef :: .v undef :: .v undef :: .v undef :: .v undef :: .v undef :: .v undef :: .v undef :: .v undef :: .v undef :: .v undef :: .v undef :: .v undef :: .v undef :: .v undef :: .v undef :: .v undef :: .v undef :: .v undef :: .v undef :: .v undef :: .v undef :: .v undef :: .v undef :: .v undef :: .v undef :: .v undef :: .v undef :: .v undef :: .v undef :: .v undef :: .v undef :: .v undef :: .v undef :: .v undef :: .v undef :: .v undef :: .v undef :: .v undef :: .v undef :: .v undef :: .v undef :: .v undef :: .v undef :: .v undef :: .v undef :: .v undef :: .v undef :: .v undef :: .v undef :: .v undef :: [])) rfl ?_
  refine wops_cons (wop_bin rfl rfl rfl rfl rfl ?_)
  refine wops_cons (wop_callF rfl rfl rfl (fn := Tryz.f11) (by rfl) ?_)
  refine c11 hq H _ 2 _ ⟨Nat.le_refl _, ?_⟩
  refine wops_cons (o_build3 rfl rfl rfl rfl rfl (by omega) ?_)
  have k1 := (Keeps.refl H).add (.cells (ivs [permE l, permE m, if ((l.length : Int) != m.length) = true then 2 else 0]) 3 0) (by omega)
  have hs1 := sl_new (H := H) (cs := ivs [permE l, permE m, if ((l.length : Int) != m.length) = true then 2 else 0]) (e := 3) (by omega) 3
  refine WOps.T (T' := (x :: y :: .v undef :: .v undef :: .v (.bool false) :: iv (permE l) :: .v undef :: .v undef :: .v undef :: .v undef :: .v undef :: .v (.bool true) :: .v (.bool false) :: .v (.bool false) :: x :: iv l.length :: .v (.bool false) :: .v (.bool false) :: .v (.bool false) :: y :: iv m.length :: .v (.bool false) :: .v (.bool false) :: .v undef :: x :: iv (permE l) :: iv (permE l) :: y :: iv (permE m) :: x :: iv l.length :: y :: iv m.length :: .v (.bool ((l.length : Int) != m.length)) :: iv (if ((l.length : Int) != m.length) = true then 2 else 0) :: .slc H.next 0 3 3 :: .v undef :: .v undef :: .v undef :: .v undef :: .v undef :: .v undef :: .v undef :: .v undef :: .v undef :: .v undef :: .v undef :: .v undef :: .v undef :: .v undef :: .v undef :: .v undef :: .v undef :: .v undef :: .v undef :: .v undef :: .v undef :: .v undef :: .v undef :: .v undef :: .v undef :: .v undef :: .v undef :: .v undef :: .v undef :: .v undef :: .v undef :: .v undef :: .v undef :: .v undef :: .v undef :: .v undef :: .v undef :: .v undef :: .v undef :: .v undef :: .v undef :: .v undef :: .v undef :: .v undef :: .v undef :: .v undef :: .v undef :: .v undef :: .v undef :: [])) rfl ?_
  refine wops_cons (wop_callF rfl rfl rfl (fn := Tryz.f10) (by rfl) ?_)
  refine c10 hq (H.add (.cells (ivs [permE l, permE m, if ((l.length : Int) != m.length) = true then 2 else 0]) 3 0)) _ [permE l, permE m, if ((l.length : Int) != m.length) = true then 2 else 0] hs1 (by show 3 ≤ 1000; decide) _ ⟨Nat.le_refl _, ?_⟩
  have n1 : (H.add (.cells (ivs [permE l, permE m, if ((l.length : Int) != m.length) = true then 2 else 0]) 3 0)).next = H.next + 1 := rfl
  clear hs1
  generalize H.add (.cells (ivs [permE l, permE m, if ((l.length : Int) != m.length) = true then 2 else 0]) 3 0) = H1 at k1 n1 ⊢
  generalize htw : firstNZ [permE l, permE m, if ((l.length : Int) != m.length) = true then 2 else 0] = two
  obtain ⟨htwo1, htwo2⟩ := two_facts l m two htw.symm
  repeat (first
    | refine wops_nil ?_
    | refine wops_cons (wop_skip' rfl rfl ?_)
    | refine wops_cons (wop_move rfl rfl ?_)
    | refine wops_cons (wop_assign rfl rfl ?_)
    | refine wops_cons (wop_bin (op := .add) rfl rfl rfl rfl (inc (by omega)) ?_)
    | refine wops_cons (o_lenI rfl rfl rfl rfl rfl (by assumption) ?_)
    | refine wops_cons (o_load rfl rfl (by assumption) ?_)
    | refine wops_cons (wop_pick rfl rfl rfl ?_)
    | refine wops_cons (wop_not rfl rfl rfl ?_)
    | refine wops_cons (wop_extract rfl rfl rfl rfl ?_)
    | refine mobs_move rfl rfl rfl ?_
    | refine m_load rfl rfl rfl (by assumption) ?_
    | refine mobs_nil ?_
    | refine wd_nil ?_
    | refine wd_skip rfl rfl ?_
    | refine wd_loudSkip rfl rfl ?_
    | refine wd_move rfl rfl rfl ?_
    | refine wd_assign rfl rfl rfl ?_
    | refine wd_pick rfl rfl rfl rfl ?_
    | refine d_load rfl rfl rfl (by assumption) ?_
    | refine d_lenI rfl rfl rfl rfl rfl rfl (by assumption) ?_
    | refine wp_condT rfl ?_
    | refine wp_condF rfl ?_
    | refine wp_region ?_
    | refine wp_seq ?_
    | refine wp_skip ?_
    | refine wp_exit ?_
    | refine wp_block ?_)
  refine WOps.T (T' := (x :: y :: .v undef :: .v undef :: .v (.bool false) :: iv (permE l) :: iv two :: .v undef :: .v undef :: .v undef :: .v undef :: .v (.bool true) :: .v (.bool false) :: .v (.bool false) :: x :: iv l.length :: .v (.bool false) :: .v (.bool false) :: .v (.bool false) :: y :: iv m.length :: .v (.bool false) :: .v (.bool false) :: .v undef :: x :: iv (permE l) :: iv (permE l) :: y :: iv (permE m) :: x :: iv l.length :: y :: iv m.length :: .v (.bool ((l.length : Int) != m.length)) :: iv (if ((l.length : Int) != m.length) = true then 2 else 0) :: .slc H.next 0 3 3 :: iv two :: x :: .v undef :: .v undef :: .v undef :: .v undef :: .v undef :: .v undef :: .v undef :: .v undef :: .v undef :: .v undef :: .v undef :: .v undef :: .v undef :: .v undef :: .v undef :: .v undef :: .v undef :: .v undef :: .v undef :: .v undef :: .v undef :: .v undef :: .v undef :: .v undef :: .v undef :: .v undef :: .v undef :: .v undef :: .v undef :: .v undef :: .v undef :: .v undef :: .v undef :: .v undef :: .v undef :: .v undef :: .v undef :: .v undef :: .v undef :: .v undef :: .v undef :: .v undef :: .v undef :: .v undef :: .v undef :: .v undef :: .v undef :: [])) rfl ?_
  refine wops_cons (wop_callF rfl rfl rfl (fn := Tryz.f12) (by rfl) ?_)
  refine c12 hq H1 x l (hx.keep ho k1) (ho.keep k1) (by omega) _ fun H2 k2 n2 => ⟨k2.nx, ?_⟩
  have k2 := k1.trans k2
  repeat (first
    | refine wops_nil ?_
    | refine wops_cons (wop_skip' rfl rfl ?_)
    | refine wops_cons (wop_move rfl rfl ?_)
    | refine wops_cons (wop_assign rfl rfl ?_)
    | refine wops_cons (wop_bin (op := .add) rfl rfl rfl rfl (inc (by omega)) ?_)
    | refine wops_cons (o_lenI rfl rfl rfl rfl rfl (by assumption) ?_)
    | refine wops_cons (o_load rfl rfl (by assumption) ?_)
    | refine wops_cons (wop_pick rfl rfl rfl ?_)
    | refine wops_cons (wop_not rfl rfl rfl ?_)
    | refine wops_cons (wop_extract rfl rfl rfl rfl ?_)
    | refine mobs_move rfl rfl rfl ?_
    | refine m_load rfl rfl rfl (by assumption) ?_
    | refine mobs_nil ?_
    | refine wd_nil ?_
    | refine wd_skip rfl rfl ?_
    | refine wd_loudSkip rfl rfl ?_
    | refine wd_move rfl rfl rfl ?_
    | refine wd_assign rfl rfl rfl ?_
    | refine wd_pick rfl rfl rfl rfl ?_
    | refine d_load rfl rfl rfl (by assumption) ?_
    | refine d_lenI rfl rfl rfl rfl rfl rfl (by assumption) ?_
    | refine wp_condT rfl ?_
    | refine wp_condF rfl ?_
    | refine wp_region ?_
    | refine wp_seq ?_
    | refine wp_skip ?_
    | refine wp_exit ?_
    | refine wp_block ?_)
  refine WOps.T (T' := (x :: y :: .v undef :: .v undef :: .v (.bool false) :: iv (permE l) :: iv two :: .v undef :: .v undef :: .v undef :: .v undef :: .v (.bool true) :: .v (.bool false) :: .v (.bool false) :: x :: iv l.length :: .v (.bool false) :: .v (.bool false) :: .v (.bool false) :: y :: iv m.length :: .v (.bool false) :: .v (.bool false) :: .v undef :: x :: iv (permE l) :: iv (permE l) :: y :: iv (permE m) :: x :: iv l.length :: y :: iv m.length :: .v (.bool ((l.length : Int) != m.length)) :: iv (if ((l.length : Int) != m.length) = true then 2 else 0) :: .slc H.next 0 3 3 :: iv two :: x :: iv (permE l) :: iv (permE l) :: .v undef :: .v undef :: .v undef :: .v undef :: .v undef :: .v undef :: .v undef :: .v undef :: .v undef :: .v undef :: .v undef :: .v undef :: .v undef :: .v undef :: .v undef :: .v undef :: .v undef :: .v undef :: .v undef :: .v undef :: .v undef :: .v undef :: .v undef :: .v undef :: .v undef :: .v undef :: .v undef :: .v undef :: .v undef :: .v undef :: .v undef :: .v undef :: .v undef :: .v undef :: .v undef :: .v undef :: .v undef :: .v undef :: .v undef :: .v undef :: .v undef :: .v undef :: .v undef :: .v undef :: .v undef :: [])) rfl ?_
  refine wops_cons (wop_cmp rfl rfl rfl rfl rfl (fun h => ?_) (fun h => ?_))
  · exact absurd h (by simp)
  clear h
  repeat (first
    | refine wops_nil ?_
    | refine wops_cons (wop_skip' rfl rfl ?_)
    | refine wops_cons (wop_move rfl rfl ?_)
    | refine wops_cons (wop_assign rfl rfl ?_)
    | refine wops_cons (wop_bin (op := .add) rfl rfl rfl rfl (inc (by omega)) ?_)
    | refine wops_cons (o_lenI rfl rfl rfl rfl rfl (by assumption) ?_)
    | refine wops_cons (o_load rfl rfl (by assumption) ?_)
    | refine wops_cons (wop_pick rfl rfl rfl ?_)
    | refine wops_cons (wop_not rfl rfl rfl ?_)
    | refine wops_cons (wop_extract rfl rfl rfl rfl ?_)
    | refine mobs_move rfl rfl rfl ?_
    | refine m_load rfl rfl rfl (by assumption) ?_
    | refine mobs_nil ?_
    | refine wd_nil ?_
    | refine wd_skip rfl rfl ?_
    | refine wd_loudSkip rfl rfl ?_
    | refine wd_move rfl rfl rfl ?_
    | refine wd_assign rfl rfl rfl ?_
    | refine wd_pick rfl rfl rfl rfl ?_
    | refine d_load rfl rfl rfl (by assumption) ?_
    | refine d_lenI rfl rfl rfl rfl rfl rfl (by assumption) ?_
    | refine wp_condT rfl ?_
    | refine wp_condF rfl ?_
    | refine wp_region ?_
    | refine wp_seq ?_
    | refine wp_skip ?_
    | refine wp_exit ?_
    | refine wp_block ?_)
  refine WOps.T (T' := (x :: y :: .v undef :: .v undef :: .v (.bool false) :: iv (permE l) :: iv two :: .v undef :: .v undef :: .v undef :: .v undef :: .v (.bool true) :: .v (.bool false) :: .v (.bool false) :: x :: iv l.length :: .v (.bool false) :: .v (.bool false) :: .v (.bool false) :: y :: iv m.length :: .v (.bool false) :: .v (.bool false) :: .v undef :: x :: iv (permE l) :: iv (permE l) :: y :: iv (permE m) :: x :: iv l.length :: y :: iv m.length :: .v (.bool ((l.length : Int) != m.length)) :: iv (if ((l.length : Int) != m.length) = true then 2 else 0) :: .slc H.next 0 3 3 :: iv two :: x :: iv (permE l) :: iv (permE l) :: .v (.bool false) :: .v undef :: x :: y :: .v undef :: .v undef :: .v undef :: .v undef :: .v undef :: .v undef :: .v undef :: .v undef :: .v undef :: .v undef :: .v undef :: .v undef :: .v undef :: .v undef :: .v undef :: .v undef :: .v undef :: .v undef :: .v undef :: .v undef :: .v undef :: .v undef :: .v undef :: .v undef :: .v undef :: .v undef :: .v undef :: .v undef :: .v undef :: .v undef :: .v undef :: .v undef :: .v undef :: .v undef :: .v undef :: .v undef :: .v undef :: .v undef :: .v undef :: .v undef :: .v undef :: [])) rfl ?_
  refine wops_cons (wop_callF rfl rfl rfl (fn := Tryz.f13) (by rfl) ?_)
  refine c13 hq H2 x y l m (hx.keep ho k2) (ho.keep k2) (hy.keep ho2 k2) (ho2.keep k2) (by omega) _ fun H3 c k3 n3 hc hco => ⟨k3.nx, ?_⟩
  have k3' := k2.trans k3
  repeat (first
    | refine wops_nil ?_
    | refine wops_cons (wop_skip' rfl rfl ?_)
    | refine wops_cons (wop_move rfl rfl ?_)
    | refine wops_cons (wop_assign rfl rfl ?_)
    | refine wops_cons (wop_bin (op := .add) rfl rfl rfl rfl (inc (by omega)) ?_)
    | refine wops_cons (o_lenI rfl rfl rfl rfl rfl (by assumption) ?_)
    | refine wops_cons (o_load rfl rfl (by assumption) ?_)
    | refine wops_cons (wop_pick rfl rfl rfl ?_)
    | refine wops_cons (wop_not rfl rfl rfl ?_)
    | refine wops_cons (wop_extract rfl rfl rfl rfl ?_)
    | refine mobs_move rfl rfl rfl ?_
    | refine m_load rfl rfl rfl (by assumption) ?_
    | refine mobs_nil ?_
    | refine wd_nil ?_
    | refine wd_skip rfl rfl ?_
    | refine wd_loudSkip rfl rfl ?_
    | refine wd_move rfl rfl rfl ?_
    | refine wd_assign rfl rfl rfl ?_
    | refine wd_pick rfl rfl rfl rfl ?_
    | refine d_load rfl rfl rfl (by assumption) ?_
    | refine d_lenI rfl rfl rfl rfl rfl rfl (by assumption) ?_
    | refine wp_condT rfl ?_
    | refine wp_condF rfl ?_
    | refine wp_region ?_
    | refine wp_seq ?_
    | refine wp_skip ?_
    | refine wp_exit ?_
    | refine wp_block ?_)
  refine WOps.T (T' := (x :: y :: .v undef :: .v undef :: .v (.bool false) :: iv (permE l) :: iv two :: c :: iv (compS l m).2 :: .v undef :: .v undef :: .v (.bool true) :: .v (.bool false) :: .v (.bool false) :: x :: iv l.length :: .v (.bool false) :: .v (.bool false) :: .v (.bool false) :: y :: iv m.length :: .v (.bool false) :: .v (.bool false) :: .v undef :: x :: iv (permE l) :: iv (permE l) :: y :: iv (permE m) :: x :: iv l.length :: y :: iv m.length :: .v (.bool ((l.length : Int) != m.length)) :: iv (if ((l.length : Int) != m.length) = true then 2 else 0) :: .slc H.next 0 3 3 :: iv two :: x :: iv (permE l) :: iv (permE l) :: .v (.bool false) :: .tup [c, iv (compS l m).2] :: x :: y :: .tup [c, iv (compS l m).2] :: c :: iv (compS l m).2 :: .v undef :: x :: .v undef :: .v undef :: .v undef :: .v undef :: .v undef :: .v undef :: .v undef :: .v undef :: .v undef :: .v undef :: .v undef :: .v undef :: .v undef :: .v undef :: .v undef :: .v undef :: .v undef :: .v undef :: .v undef :: .v undef :: .v undef :: .v undef :: .v undef :: .v undef :: .v undef :: .v undef :: .v undef :: .v undef :: .v undef :: .v undef :: .v undef :: .v undef :: .v undef :: .v undef :: .v undef :: .v undef :: [])) rfl ?_
  refine wops_cons (wop_callF rfl rfl rfl (fn := Tryz.f14) (by rfl) ?_)
  refine c14 hq H3 x l (hx.keep ho k3') (ho.keep k3') (by omega) _ fun H4 v k4 n4 hv hvo => ⟨k4.nx, ?_⟩
  have k4' := k3'.trans k4
  have hc4 := hc.keep hco k4
  have hco4 := hco.keep k4
  have hx4 := hx.keep ho k4'
  have hy4 := hy.keep ho2 k4'
  repeat (first
    | refine wops_nil ?_
    | refine wops_cons (wop_skip' rfl rfl ?_)
    | refine wops_cons (wop_move rfl rfl ?_)
    | refine wops_cons (wop_assign rfl rfl ?_)
    | refine wops_cons (wop_bin (op := .add) rfl rfl rfl rfl (inc (by omega)) ?_)
    | refine wops_cons (o_lenI rfl rfl rfl rfl rfl (by assumption) ?_)
    | refine wops_cons (o_load rfl rfl (by assumption) ?_)
    | refine wops_cons (wop_pick rfl rfl rfl ?_)
    | refine wops_cons (wop_not rfl rfl rfl ?_)
    | refine wops_cons (wop_extract rfl rfl rfl rfl ?_)
    | refine mobs_move rfl rfl rfl ?_
    | refine m_load rfl rfl rfl (by assumption) ?_
    | refine mobs_nil ?_
    | refine wd_nil ?_
    | refine wd_skip rfl rfl ?_
    | refine wd_loudSkip rfl rfl ?_
    | refine wd_move rfl rfl rfl ?_
    | refine wd_assign rfl rfl rfl ?_
    | refine wd_pick rfl rfl rfl rfl ?_
    | refine d_load rfl rfl rfl (by assumption) ?_
    | refine d_lenI rfl rfl rfl rfl rfl rfl (by assumption) ?_
    | refine wp_condT rfl ?_
    | refine wp_condF rfl ?_
    | refine wp_region ?_
    | refine wp_seq ?_
    | refine wp_skip ?_
    | refine wp_exit ?_
    | refine wp_block ?_)
  refine WOps.T (T' := (x :: y :: .v undef :: .v undef :: .v (.bool false) :: iv (permE l) :: iv two :: c :: iv (compS l m).2 :: v :: iv (powS l (-1)).2 :: .v (.bool true) :: .v (.bool false) :: .v (.bool false) :: x :: iv l.length :: .v (.bool false) :: .v (.bool false) :: .v (.bool false) :: y :: iv m.length :: .v (.bool false) :: .v (.bool false) :: .v undef :: x :: iv (permE l) :: iv (permE l) :: y :: iv (permE m) :: x :: iv l.length :: y :: iv m.length :: .v (.bool ((l.length : Int) != m.length)) :: iv (if ((l.length : Int) != m.length) = true then 2 else 0) :: .slc H.next 0 3 3 :: iv two :: x :: iv (permE l) :: iv (permE l) :: .v (.bool false) :: .tup [c, iv (compS l m).2] :: x :: y :: .tup [c, iv (compS l m).2] :: c :: iv (compS l m).2 :: .tup [v, iv (powS l (-1)).2] :: x :: .tup [v, iv (powS l (-1)).2] :: v :: iv (powS l (-1)).2 :: iv (permE l) :: .v undef :: .v undef :: .v undef :: .v undef :: .v undef :: .v undef :: .v undef :: .v undef :: .v undef :: .v undef :: .v undef :: .v undef :: .v undef :: .v undef :: .v undef :: .v undef :: .v undef :: .v undef :: .v undef :: .v undef :: .v undef :: .v undef :: .v undef :: .v undef :: .v undef :: .v undef :: .v undef :: .v undef :: .v undef :: .v undef :: .v undef :: .v undef :: [])) rfl ?_
  refine wops_cons (wop_cmp rfl rfl rfl rfl rfl (fun h => ?_) (fun h => ?_))
  · have h1 : permE l ≠ 0 := by simpa using h
    have ep : powS l (-1) = ([], permE l) := by rw [powS, if_pos h1]
    repeat (first
      | refine wops_nil ?_
      | refine wops_cons (wop_skip' rfl rfl ?_)
      | refine wops_cons (wop_move rfl rfl ?_)
      | refine wops_cons (wop_assign rfl rfl ?_)
      | refine wops_cons (wop_bin (op := .add) rfl rfl rfl rfl (inc (by omega)) ?_)
      | refine wops_cons (o_lenI rfl rfl rfl rfl rfl (by assumption) ?_)
      | refine wops_cons (o_load rfl rfl (by assumption) ?_)
      | refine wops_cons (wop_pick rfl rfl rfl ?_)
      | refine wops_cons (wop_not rfl rfl rfl ?_)
      | refine wops_cons (wop_extract rfl rfl rfl rfl ?_)
      | refine mobs_move rfl rfl rfl ?_
      | refine m_load rfl rfl rfl (by assumption) ?_
      | refine mobs_nil ?_
      | refine wd_nil ?_
      | refine wd_skip rfl rfl ?_
      | refine wd_loudSkip rfl rfl ?_
      | refine wd_move rfl rfl rfl ?_
      | refine wd_assign rfl rfl rfl ?_
      | refine wd_pick rfl rfl rfl rfl ?_
      | refine d_load rfl rfl rfl (by assumption) ?_
      | refine d_lenI rfl rfl rfl rfl rfl rfl (by assumption) ?_
      | refine wp_condT rfl ?_
      | refine wp_condF rfl ?_
      | refine wp_region ?_
      | refine wp_seq ?_
      | refine wp_skip ?_
      | refine wp_exit ?_
      | refine wp_block ?_)
    refine WOps.T (T' := (x :: y :: .v undef :: .v undef :: .v (.bool false) :: iv (permE l) :: iv two :: c :: iv (compS l m).2 :: v :: iv (powS l (-1)).2 :: .v (.bool true) :: .v (.bool false) :: .v (.bool false) :: x :: iv l.length :: .v (.bool false) :: .v (.bool false) :: .v (.bool false) :: y :: iv m.length :: .v (.bool false) :: .v (.bool false) :: .v undef :: x :: iv (permE l) :: iv (permE l) :: y :: iv (permE m) :: x :: iv l.length :: y :: iv m.length :: .v (.bool ((l.length : Int) != m.length)) :: iv (if ((l.length : Int) != m.length) = true then 2 else 0) :: .slc H.next 0 3 3 :: iv two :: x :: iv (permE l) :: iv (permE l) :: .v (.bool false) :: .tup [c, iv (compS l m).2] :: x :: y :: .tup [c, iv (compS l m).2] :: c :: iv (compS l m).2 :: .tup [v, iv (powS l (-1)).2] :: x :: .tup [v, iv (powS l (-1)).2] :: v :: iv (powS l (-1)).2 :: iv (permE l) :: .v (.bool true) :: .v (.bool true) :: v :: iv (powS l (-1)).2 :: iv (permE l) :: .v undef :: .v undef :: .v undef :: .v undef :: .v undef :: .v undef :: .v undef :: .v undef :: .v undef :: .v undef :: .v undef :: .v undef :: .v undef :: .v undef :: .v undef :: .v undef :: .v undef :: .v undef :: .v undef :: .v undef :: .v undef :: .v undef :: .v undef :: .v undef :: .v undef :: .v undef :: .v undef :: [])) rfl ?_
    refine wops_cons (wop_callF rfl rfl rfl (fn := Tryz.f15) (by rfl) ?_)
    refine c15 hq H4 v (.v (.slice none 0 0)) (powS l (-1)).1 [] (powS l (-1)).2 (permE l) hv ⟨rfl, .inl rfl⟩ (by rw [ep]; exact Nat.zero_le _) _ ⟨Nat.le_refl _, ?_⟩
    rw [show listB (powS l (-1)).1 (powS l (-1)).2 (permE l) [] = true by rw [ep]; simp [listB, h1]]
    repeat (first
      | refine wops_nil ?_
      | refine wops_cons (wop_skip' rfl rfl ?_)
      | refine wops_cons (wop_move rfl rfl ?_)
      | refine wops_cons (wop_assign rfl rfl ?_)
      | refine wops_cons (wop_bin (op := .add) rfl rfl rfl rfl (inc (by omega)) ?_)
      | refine wops_cons (o_lenI rfl rfl rfl rfl rfl (by assumption) ?_)
      | refine wops_cons (o_load rfl rfl (by assumption) ?_)
      | refine wops_cons (wop_pick rfl rfl rfl ?_)
      | refine wops_cons (wop_not rfl rfl rfl ?_)
      | refine wops_cons (wop_extract rfl rfl rfl rfl ?_)
      | refine mobs_move rfl rfl rfl ?_
      | refine m_load rfl rfl rfl (by assumption) ?_
      | refine mobs_nil ?_
      | refine wd_nil ?_
      | refine wd_skip rfl rfl ?_
      | refine wd_loudSkip rfl rfl ?_
      | refine wd_move rfl rfl rfl ?_
      | refine wd_assign rfl rfl rfl ?_
      | refine wd_pick rfl rfl rfl rfl ?_
      | refine d_load rfl rfl rfl (by assumption) ?_
      | refine d_lenI rfl rfl rfl rfl rfl rfl (by assumption) ?_
      | refine wp_condT rfl ?_
      | refine wp_condF rfl ?_
      | refine wp_region ?_
      | refine wp_seq ?_
      | refine wp_skip ?_
      | refine wp_exit ?_
      | refine wp_block ?_)
    refine WOps.T (T' := (x :: y :: .v undef :: .v undef :: .v (.bool false) :: iv (permE l) :: iv two :: c :: iv (compS l m).2 :: v :: iv (powS l (-1)).2 :: .v (.bool true) :: .v (.bool false) :: .v (.bool false) :: x :: iv l.length :: .v (.bool false) :: .v (.bool false) :: .v (.bool false) :: y :: iv m.length :: .v (.bool false) :: .v (.bool false) :: .v undef :: x :: iv (permE l) :: iv (permE l) :: y :: iv (permE m) :: x :: iv l.length :: y :: iv m.length :: .v (.bool ((l.length : Int) != m.length)) :: iv (if ((l.length : Int) != m.length) = true then 2 else 0) :: .slc H.next 0 3 3 :: iv two :: x :: iv (permE l) :: iv (permE l) :: .v (.bool false) :: .tup [c, iv (compS l m).2] :: x :: y :: .tup [c, iv (compS l m).2] :: c :: iv (compS l m).2 :: .tup [v, iv (powS l (-1)).2] :: x :: .tup [v, iv (powS l (-1)).2] :: v :: iv (powS l (-1)).2 :: iv (permE l) :: .v (.bool true) :: .v (.bool true) :: v :: iv (powS l (-1)).2 :: iv (permE l) :: .v (.bool true) :: .v (.bool false) :: .v (.bool false) :: .v (.bool false) :: iv (permE l) :: .v undef :: .v undef :: .v undef :: .v undef :: .v undef :: .v undef :: .v undef :: .v undef :: .v undef :: .v undef :: .v undef :: .v undef :: .v undef :: .v undef :: .v undef :: .v undef :: .v undef :: .v undef :: .v undef :: .v undef :: .v undef :: .v undef :: [])) rfl ?_
    refine wops_cons (wop_cmp rfl rfl rfl rfl rfl (fun h => ?_) (fun h => ?_))
    · exact absurd h (by simp [h1])
    clear h
    repeat (first
      | refine wops_nil ?_
      | refine wops_cons (wop_skip' rfl rfl ?_)
      | refine wops_cons (wop_move rfl rfl ?_)
      | refine wops_cons (wop_assign rfl rfl ?_)
      | refine wops_cons (wop_bin (op := .add) rfl rfl rfl rfl (inc (by omega)) ?_)
      | refine wops_cons (o_lenI rfl rfl rfl rfl rfl (by assumption) ?_)
      | refine wops_cons (o_load rfl rfl (by assumption) ?_)
      | refine wops_cons (wop_pick rfl rfl rfl ?_)
      | refine wops_cons (wop_not rfl rfl rfl ?_)
      | refine wops_cons (wop_extract rfl rfl rfl rfl ?_)
      | refine mobs_move rfl rfl rfl ?_
      | refine m_load rfl rfl rfl (by assumption) ?_
      | refine mobs_nil ?_
      | refine wd_nil ?_
      | refine wd_skip rfl rfl ?_
      | refine wd_loudSkip rfl rfl ?_
      | refine wd_move rfl rfl rfl ?_
      | refine wd_assign rfl rfl rfl ?_
      | refine wd_pick rfl rfl rfl rfl ?_
      | refine d_load rfl rfl rfl (by assumption) ?_
      | refine d_lenI rfl rfl rfl rfl rfl rfl (by assumption) ?_
      | refine wp_condT rfl ?_
      | refine wp_condF rfl ?_
      | refine wp_region ?_
      | refine wp_seq ?_
      | refine wp_skip ?_
      | refine wp_exit ?_
      | refine wp_block ?_)
    refine WOps.T (T' := (x :: y :: .v undef :: .v undef :: .v (.bool false) :: iv (permE l) :: iv two :: c :: iv (compS l m).2 :: v :: iv (powS l (-1)).2 :: .v (.bool true) :: .v (.bool false) :: .v (.bool false) :: x :: iv l.length :: .v (.bool false) :: .v (.bool false) :: .v (.bool false) :: y :: iv m.length :: .v (.bool false) :: .v (.bool false) :: .v undef :: x :: iv (permE l) :: iv (permE l) :: y :: iv (permE m) :: x :: iv l.length :: y :: iv m.length :: .v (.bool ((l.length : Int) != m.length)) :: iv (if ((l.length : Int) != m.length) = true then 2 else 0) :: .slc H.next 0 3 3 :: iv two :: x :: iv (permE l) :: iv (permE l) :: .v (.bool false) :: .tup [c, iv (compS l m).2] :: x :: y :: .tup [c, iv (compS l m).2] :: c :: iv (compS l m).2 :: .tup [v, iv (powS l (-1)).2] :: x :: .tup [v, iv (powS l (-1)).2] :: v :: iv (powS l (-1)).2 :: iv (permE l) :: .v (.bool true) :: .v (.bool true) :: v :: iv (powS l (-1)).2 :: iv (permE l) :: .v (.bool true) :: .v (.bool false) :: .v (.bool false) :: .v (.bool false) :: iv (permE l) :: .v (.bool false) :: .v (.bool false) :: .v undef :: .v undef :: .v undef :: .v undef :: .v undef :: .v undef :: .v (.bool false) :: .v (.bool false) :: iv two :: .v undef :: .v undef :: .v undef :: .v undef :: .v undef :: .v undef :: .v undef :: .v undef :: .v undef :: .v undef :: .v undef :: [])) rfl ?_
    refine wops_cons (wop_cmp rfl rfl rfl rfl rfl (fun h => ?_) (fun h => ?_))
    · have ht : two ≠ 0 := by simpa using h
      have ec : compS l m = ([], two) := htwo1 ht
      repeat (first
        | refine wops_nil ?_
        | refine wops_cons (wop_skip' rfl rfl ?_)
        | refine wops_cons (wop_move rfl rfl ?_)
        | refine wops_cons (wop_assign rfl rfl ?_)
        | refine wops_cons (wop_bin (op := .add) rfl rfl rfl rfl (inc (by omega)) ?_)
        | refine wops_cons (o_lenI rfl rfl rfl rfl rfl (by assumption) ?_)
        | refine wops_cons (o_load rfl rfl (by assumption) ?_)
        | refine wops_cons (wop_pick rfl rfl rfl ?_)
        | refine wops_cons (wop_not rfl rfl rfl ?_)
        | refine wops_cons (wop_extract rfl rfl rfl rfl ?_)
        | refine mobs_move rfl rfl rfl ?_
        | refine m_load rfl rfl rfl (by assumption) ?_
        | refine mobs_nil ?_
        | refine wd_nil ?_
        | refine wd_skip rfl rfl ?_
        | refine wd_loudSkip rfl rfl ?_
        | refine wd_move rfl rfl rfl ?_
        | refine wd_assign rfl rfl rfl ?_
        | refine wd_pick rfl rfl rfl rfl ?_
        | refine d_load rfl rfl rfl (by assumption) ?_
        | refine d_lenI rfl rfl rfl rfl rfl rfl (by assumption) ?_
        | refine wp_condT rfl ?_
        | refine wp_condF rfl ?_
        | refine wp_region ?_
        | refine wp_seq ?_
        | refine wp_skip ?_
        | refine wp_exit ?_
        | refine wp_block ?_)
      refine WOps.T (T' := (x :: y :: .v undef :: .v undef :: .v (.bool false) :: iv (permE l) :: iv two :: c :: iv (compS l m).2 :: v :: iv (powS l (-1)).2 :: .v (.bool true) :: .v (.bool false) :: .v (.bool false) :: x :: iv l.length :: .v (.bool false) :: .v (.bool false) :: .v (.bool false) :: y :: iv m.length :: .v (.bool false) :: .v (.bool false) :: .v undef :: x :: iv (permE l) :: iv (permE l) :: y :: iv (permE m) :: x :: iv l.length :: y :: iv m.length :: .v (.bool ((l.length : Int) != m.length)) :: iv (if ((l.length : Int) != m.length) = true then 2 else 0) :: .slc H.next 0 3 3 :: iv two :: x :: iv (permE l) :: iv (permE l) :: .v (.bool false) :: .tup [c, iv (compS l m).2] :: x :: y :: .tup [c, iv (compS l m).2] :: c :: iv (compS l m).2 :: .tup [v, iv (powS l (-1)).2] :: x :: .tup [v, iv (powS l (-1)).2] :: v :: iv (powS l (-1)).2 :: iv (permE l) :: .v (.bool true) :: .v (.bool true) :: v :: iv (powS l (-1)).2 :: iv (permE l) :: .v (.bool true) :: .v (.bool false) :: .v (.bool false) :: .v (.bool false) :: iv (permE l) :: .v (.bool false) :: .v (.bool false) :: .v undef :: .v undef :: .v undef :: .v undef :: .v undef :: .v undef :: .v (.bool false) :: .v (.bool false) :: iv two :: .v (.bool true) :: c :: iv (compS l m).2 :: iv two :: .v undef :: .v undef :: .v undef :: .v undef :: .v undef :: .v undef :: .v undef :: [])) rfl ?_
      refine wops_cons (wop_callF rfl rfl rfl (fn := Tryz.f15) (by rfl) ?_)
      refine c15 hq _ c (.v (.slice none 0 0)) (compS l m).1 [] (compS l m).2 two hc4 ⟨rfl, .inl rfl⟩ (by rw [ec]; exact Nat.zero_le _) _ ⟨Nat.le_refl _, ?_⟩
      rw [show listB (compS l m).1 (compS l m).2 two [] = true by rw [ec]; simp [listB, ht]]
      repeat (first
        | refine wops_nil ?_
        | refine wops_cons (wop_skip' rfl rfl ?_)
        | refine wops_cons (wop_move rfl rfl ?_)
        | refine wops_cons (wop_assign rfl rfl ?_)
        | refine wops_cons (wop_bin (op := .add) rfl rfl rfl rfl (inc (by omega)) ?_)
        | refine wops_cons (o_lenI rfl rfl rfl rfl rfl (by assumption) ?_)
        | refine wops_cons (o_load rfl rfl (by assumption) ?_)
        | refine wops_cons (wop_pick rfl rfl rfl ?_)
        | refine wops_cons (wop_not rfl rfl rfl ?_)
        | refine wops_cons (wop_extract rfl rfl rfl rfl ?_)
        | refine mobs_move rfl rfl rfl ?_
        | refine m_load rfl rfl rfl (by assumption) ?_
        | refine mobs_nil ?_
        | refine wd_nil ?_
        | refine wd_skip rfl rfl ?_
        | refine wd_loudSkip rfl rfl ?_
        | refine wd_move rfl rfl rfl ?_
        | refine wd_assign rfl rfl rfl ?_
        | refine wd_pick rfl rfl rfl rfl ?_
        | refine d_load rfl rfl rfl (by assumption) ?_
        | refine d_lenI rfl rfl rfl rfl rfl rfl (by assumption) ?_
        | refine wp_condT rfl ?_
        | refine wp_condF rfl ?_
        | refine wp_region ?_
        | refine wp_seq ?_
        | refine wp_skip ?_
        | refine wp_exit ?_
        | refine wp_block ?_)
      refine wp_ret ?_
      exact ⟨_, _, rfl, hk _⟩
    · have ht : two = 0 := by simpa using h
      obtain ⟨ec, hl0, hm0, hlm⟩ := htwo2 ht
      obtain ⟨hl1, hokl⟩ := permE_zero hl0
      repeat (first
        | refine wops_nil ?_
        | refine wops_cons (wop_skip' rfl rfl ?_)
        | refine wops_cons (wop_move rfl rfl ?_)
        | refine wops_cons (wop_assign rfl rfl ?_)
        | refine wops_cons (wop_bin (op := .add) rfl rfl rfl rfl (inc (by omega)) ?_)
        | refine wops_cons (o_lenI rfl rfl rfl rfl rfl (by assumption) ?_)
        | refine wops_cons (o_load rfl rfl (by assumption) ?_)
        | refine wops_cons (wop_pick rfl rfl rfl ?_)
        | refine wops_cons (wop_not rfl rfl rfl ?_)
        | refine wops_cons (wop_extract rfl rfl rfl rfl ?_)
        | refine mobs_move rfl rfl rfl ?_
        | refine m_load rfl rfl rfl (by assumption) ?_
        | refine mobs_nil ?_
        | refine wd_nil ?_
        | refine wd_skip rfl rfl ?_
        | refine wd_loudSkip rfl rfl ?_
        | refine wd_move rfl rfl rfl ?_
        | refine wd_assign rfl rfl rfl ?_
        | refine wd_pick rfl rfl rfl rfl ?_
        | refine d_load rfl rfl rfl (by assumption) ?_
        | refine d_lenI rfl rfl rfl rfl rfl rfl (by assumption) ?_
        | refine wp_condT rfl ?_
        | refine wp_condF rfl ?_
        | refine wp_region ?_
        | refine wp_seq ?_
        | refine wp_skip ?_
        | refine wp_exit ?_
        | refine wp_block ?_)
      refine WOps.T (T' := (x :: y :: .v undef :: .v undef :: .v (.bool false) :: iv (permE l) :: iv two :: c :: iv (compS l m).2 :: v :: iv (powS l (-1)).2 :: .v (.bool true) :: .v (.bool false) :: .v (.bool false) :: x :: iv l.length :: .v (.bool false) :: .v (.bool false) :: .v (.bool false) :: y :: iv m.length :: .v (.bool false) :: .v (.bool false) :: .v undef :: x :: iv (permE l) :: iv (permE l) :: y :: iv (permE m) :: x :: iv l.length :: y :: iv m.length :: .v (.bool ((l.length : Int) != m.length)) :: iv (if ((l.length : Int) != m.length) = true then 2 else 0) :: .slc H.next 0 3 3 :: iv two :: x :: iv (permE l) :: iv (permE l) :: .v (.bool false) :: .tup [c, iv (compS l m).2] :: x :: y :: .tup [c, iv (compS l m).2] :: c :: iv (compS l m).2 :: .tup [v, iv (powS l (-1)).2] :: x :: .tup [v, iv (powS l (-1)).2] :: v :: iv (powS l (-1)).2 :: iv (permE l) :: .v (.bool true) :: .v (.bool true) :: v :: iv (powS l (-1)).2 :: iv (permE l) :: .v (.bool true) :: .v (.bool false) :: .v (.bool false) :: .v (.bool false) :: iv (permE l) :: .v (.bool false) :: .v (.bool false) :: .v undef :: .v undef :: .v undef :: .v undef :: .v undef :: .v undef :: .v (.bool false) :: .v (.bool false) :: iv two :: .v (.bool false) :: .v undef :: .v undef :: .v undef :: .v undef :: c :: iv (compS l m).2 :: x :: y :: .v undef :: .v undef :: [])) rfl ?_
      refine wops_cons (wop_callF rfl rfl rfl (fn := Tryz.f17) (by rfl) ?_)
      refine c17 hq _ x y l m hx4 (ho.keep k4') hy4 (ho2.keep k4') hl1 (fun z hz => by have := hokl.mem hz; omega) (by omega) _ fun H9 w k9 n9 hw hwo => ⟨k9.nx, ?_⟩
      refine WOps.T (T' := (x :: y :: .v undef :: .v undef :: .v (.bool false) :: iv (permE l) :: iv two :: c :: iv (compS l m).2 :: v :: iv (powS l (-1)).2 :: .v (.bool true) :: .v (.bool false) :: .v (.bool false) :: x :: iv l.length :: .v (.bool false) :: .v (.bool false) :: .v (.bool false) :: y :: iv m.length :: .v (.bool false) :: .v (.bool false) :: .v undef :: x :: iv (permE l) :: iv (permE l) :: y :: iv (permE m) :: x :: iv l.length :: y :: iv m.length :: .v (.bool ((l.length : Int) != m.length)) :: iv (if ((l.length : Int) != m.length) = true then 2 else 0) :: .slc H.next 0 3 3 :: iv two :: x :: iv (permE l) :: iv (permE l) :: .v (.bool false) :: .tup [c, iv (compS l m).2] :: x :: y :: .tup [c, iv (compS l m).2] :: c :: iv (compS l m).2 :: .tup [v, iv (powS l (-1)).2] :: x :: .tup [v, iv (powS l (-1)).2] :: v :: iv (powS l (-1)).2 :: iv (permE l) :: .v (.bool true) :: .v (.bool true) :: v :: iv (powS l (-1)).2 :: iv (permE l) :: .v (.bool true) :: .v (.bool false) :: .v (.bool false) :: .v (.bool false) :: iv (permE l) :: .v (.bool false) :: .v (.bool false) :: .v undef :: .v undef :: .v undef :: .v undef :: .v undef :: .v undef :: .v (.bool false) :: .v (.bool false) :: iv two :: .v (.bool false) :: .v undef :: .v undef :: .v undef :: .v undef :: c :: iv (compS l m).2 :: x :: y :: w :: .v undef :: [])) rfl ?_
      refine wops_cons (wop_callF rfl rfl rfl (fn := Tryz.f15) (by rfl) ?_)
      refine c15 hq H9 c w (compS l m).1 (compL l m) (compS l m).2 0 (hc4.keep hco4 k9) hw (by rw [ec]; simp [compL]; omega) _ ⟨Nat.le_refl _, ?_⟩
      rw [show listB (compS l m).1 (compS l m).2 0 (compL l m) = true by rw [ec]; simp [listB]]
      repeat (first
        | refine wops_nil ?_
        | refine wops_cons (wop_skip' rfl rfl ?_)
        | refine wops_cons (wop_move rfl rfl ?_)
        | refine wops_cons (wop_assign rfl rfl ?_)
        | refine wops_cons (wop_bin (op := .add) rfl rfl rfl rfl (inc (by omega)) ?_)
        | refine wops_cons (o_lenI rfl rfl rfl rfl rfl (by assumption) ?_)
        | refine wops_cons (o_load rfl rfl (by assumption) ?_)
        | refine wops_cons (wop_pick rfl rfl rfl ?_)
        | refine wops_cons (wop_not rfl rfl rfl ?_)
        | refine wops_cons (wop_extract rfl rfl rfl rfl ?_)
        | refine mobs_move rfl rfl rfl ?_
        | refine m_load rfl rfl rfl (by assumption) ?_
        | refine mobs_nil ?_
        | refine wd_nil ?_
        | refine wd_skip rfl rfl ?_
        | refine wd_loudSkip rfl rfl ?_
        | refine wd_move rfl rfl rfl ?_
        | refine wd_assign rfl rfl rfl ?_
        | refine wd_pick rfl rfl rfl rfl ?_
        | refine d_load rfl rfl rfl (by assumption) ?_
        | refine d_lenI rfl rfl rfl rfl rfl rfl (by assumption) ?_
        | refine wp_condT rfl ?_
        | refine wp_condF rfl ?_
        | refine wp_region ?_
        | refine wp_seq ?_
        | refine wp_skip ?_
        | refine wp_exit ?_
        | refine wp_block ?_)
      refine wp_ret ?_
      exact ⟨_, _, rfl, hk _⟩
  · have h1 : permE l = 0 := by simpa using h
    obtain ⟨hl1, hokl⟩ := permE_zero h1
    have ep : powS l (-1) = (invL l, 0) := by rw [powS, if_neg (by simp [h1]), pow_neg1 hokl]
    repeat (first
      | refine wops_nil ?_
      | refine wops_cons (wop_skip' rfl rfl ?_)
      | refine wops_cons (wop_move rfl rfl ?_)
      | refine wops_cons (wop_assign rfl rfl ?_)
      | refine wops_cons (wop_bin (op := .add) rfl rfl rfl rfl (inc (by omega)) ?_)
      | refine wops_cons (o_lenI rfl rfl rfl rfl rfl (by assumption) ?_)
      | refine wops_cons (o_load rfl rfl (by assumption) ?_)
      | refine wops_cons (wop_pick rfl rfl rfl ?_)
      | refine wops_cons (wop_not rfl rfl rfl ?_)
      | refine wops_cons (wop_extract rfl rfl rfl rfl ?_)
      | refine mobs_move rfl rfl rfl ?_
      | refine m_load rfl rfl rfl (by assumption) ?_
      | refine mobs_nil ?_
      | refine wd_nil ?_
      | refine wd_skip rfl rfl ?_
      | refine wd_loudSkip rfl rfl ?_
      | refine wd_move rfl rfl rfl ?_
      | refine wd_assign rfl rfl rfl ?_
      | refine wd_pick rfl rfl rfl rfl ?_
      | refine d_load rfl rfl rfl (by assumption) ?_
      | refine d_lenI rfl rfl rfl rfl rfl rfl (by assumption) ?_
      | refine wp_condT rfl ?_
      | refine wp_condF rfl ?_
      | refine wp_region ?_
      | refine wp_seq ?_
      | refine wp_skip ?_
      | refine wp_exit ?_
      | refine wp_block ?_)
    refine WOps.T (T' := (x :: y :: .v undef :: .v undef :: .v (.bool false) :: iv (permE l) :: iv two :: c :: iv (compS l m).2 :: v :: iv (powS l (-1)).2 :: .v (.bool true) :: .v (.bool false) :: .v (.bool false) :: x :: iv l.length :: .v (.bool false) :: .v (.bool false) :: .v (.bool false) :: y :: iv m.length :: .v (.bool false) :: .v (.bool false) :: .v undef :: x :: iv (permE l) :: iv (permE l) :: y :: iv (permE m) :: x :: iv l.length :: y :: iv m.length :: .v (.bool ((l.length : Int) != m.length)) :: iv (if ((l.length : Int) != m.length) = true then 2 else 0) :: .slc H.next 0 3 3 :: iv two :: x :: iv (permE l) :: iv (permE l) :: .v (.bool false) :: .tup [c, iv (compS l m).2] :: x :: y :: .tup [c, iv (compS l m).2] :: c :: iv (compS l m).2 :: .tup [v, iv (powS l (-1)).2] :: x :: .tup [v, iv (powS l (-1)).2] :: v :: iv (powS l (-1)).2 :: iv (permE l) :: .v (.bool false) :: .v (.bool false) :: .v undef :: .v undef :: .v undef :: .v undef :: .v undef :: .v (.bool false) :: .v (.bool false) :: iv (permE l) :: .v undef :: .v undef :: .v undef :: .v undef :: .v undef :: .v undef :: .v undef :: .v undef :: .v undef :: .v undef :: .v undef :: .v undef :: .v undef :: .v undef :: .v undef :: .v undef :: .v undef :: .v undef :: .v undef :: .v undef :: .v undef :: .v undef :: [])) rfl ?_
    refine wops_cons (wop_cmp rfl rfl rfl rfl rfl (fun h => ?_) (fun h => ?_))
    rotate_left
    · exact absurd h (by simp [h1])
    clear h
    repeat (first
      | refine wops_nil ?_
      | refine wops_cons (wop_skip' rfl rfl ?_)
      | refine wops_cons (wop_move rfl rfl ?_)
      | refine wops_cons (wop_assign rfl rfl ?_)
      | refine wops_cons (wop_bin (op := .add) rfl rfl rfl rfl (inc (by omega)) ?_)
      | refine wops_cons (o_lenI rfl rfl rfl rfl rfl (by assumption) ?_)
      | refine wops_cons (o_load rfl rfl (by assumption) ?_)
      | refine wops_cons (wop_pick rfl rfl rfl ?_)
      | refine wops_cons (wop_not rfl rfl rfl ?_)
      | refine wops_cons (wop_extract rfl rfl rfl rfl ?_)
      | refine mobs_move rfl rfl rfl ?_
      | refine m_load rfl rfl rfl (by assumption) ?_
      | refine mobs_nil ?_
      | refine wd_nil ?_
      | refine wd_skip rfl rfl ?_
      | refine wd_loudSkip rfl rfl ?_
      | refine wd_move rfl rfl rfl ?_
      | refine wd_assign rfl rfl rfl ?_
      | refine wd_pick rfl rfl rfl rfl ?_
      | refine d_load rfl rfl rfl (by assumption) ?_
      | refine d_lenI rfl rfl rfl rfl rfl rfl (by assumption) ?_
      | refine wp_condT rfl ?_
      | refine wp_condF rfl ?_
      | refine wp_region ?_
      | refine wp_seq ?_
      | refine wp_skip ?_
      | refine wp_exit ?_
      | refine wp_block ?_)
    refine WOps.T (T' := (x :: y :: .v undef :: .v undef :: .v (.bool false) :: iv (permE l) :: iv two :: c :: iv (compS l m).2 :: v :: iv (powS l (-1)).2 :: .v (.bool true) :: .v (.bool false) :: .v (.bool false) :: x :: iv l.length :: .v (.bool false) :: .v (.bool false) :: .v (.bool false) :: y :: iv m.length :: .v (.bool false) :: .v (.bool false) :: .v undef :: x :: iv (permE l) :: iv (permE l) :: y :: iv (permE m) :: x :: iv l.length :: y :: iv m.length :: .v (.bool ((l.length : Int) != m.length)) :: iv (if ((l.length : Int) != m.length) = true then 2 else 0) :: .slc H.next 0 3 3 :: iv two :: x :: iv (permE l) :: iv (permE l) :: .v (.bool false) :: .tup [c, iv (compS l m).2] :: x :: y :: .tup [c, iv (compS l m).2] :: c :: iv (compS l m).2 :: .tup [v, iv (powS l (-1)).2] :: x :: .tup [v, iv (powS l (-1)).2] :: v :: iv (powS l (-1)).2 :: iv (permE l) :: .v (.bool false) :: .v (.bool false) :: .v undef :: .v undef :: .v undef :: .v undef :: .v undef :: .v (.bool false) :: .v (.bool false) :: iv (permE l) :: .v (.bool true) :: .v (.bool true) :: v :: iv (powS l (-1)).2 :: x :: .v undef :: .v undef :: .v undef :: .v undef :: .v undef :: .v undef :: .v undef :: .v undef :: .v undef :: .v undef :: .v undef :: .v undef :: .v undef :: .v undef :: .v undef :: .v undef :: .v undef :: [])) rfl ?_
    refine wops_cons (wop_callF rfl rfl rfl (fn := Tryz.f16) (by rfl) ?_)
    refine c16 hq H4 x l hx4 (ho.keep k4') hl1 hokl (by omega) _ fun H5 u k5 n5 hu huo => ⟨k5.nx, ?_⟩
    refine WOps.T (T' := (x :: y :: .v undef :: .v undef :: .v (.bool false) :: iv (permE l) :: iv two :: c :: iv (compS l m).2 :: v :: iv (powS l (-1)).2 :: .v (.bool true) :: .v (.bool false) :: .v (.bool false) :: x :: iv l.length :: .v (.bool false) :: .v (.bool false) :: .v (.bool false) :: y :: iv m.length :: .v (.bool false) :: .v (.bool false) :: .v undef :: x :: iv (permE l) :: iv (permE l) :: y :: iv (permE m) :: x :: iv l.length :: y :: iv m.length :: .v (.bool ((l.length : Int) != m.length)) :: iv (if ((l.length : Int) != m.length) = true then 2 else 0) :: .slc H.next 0 3 3 :: iv two :: x :: iv (permE l) :: iv (permE l) :: .v (.bool false) :: .tup [c, iv (compS l m).2] :: x :: y :: .tup [c, iv (compS l m).2] :: c :: iv (compS l m).2 :: .tup [v, iv (powS l (-1)).2] :: x :: .tup [v, iv (powS l (-1)).2] :: v :: iv (powS l (-1)).2 :: iv (permE l) :: .v (.bool false) :: .v (.bool false) :: .v undef :: .v undef :: .v undef :: .v undef :: .v undef :: .v (.bool false) :: .v (.bool false) :: iv (permE l) :: .v (.bool true) :: .v (.bool true) :: v :: iv (powS l (-1)).2 :: x :: u :: .v undef :: .v undef :: .v undef :: .v undef :: .v undef :: .v undef :: .v undef :: .v undef :: .v undef :: .v undef :: .v undef :: .v undef :: .v undef :: .v undef :: .v undef :: .v undef :: [])) rfl ?_
    refine wops_cons (wop_callF rfl rfl rfl (fn := Tryz.f15) (by rfl) ?_)
    refine c15 hq H5 v u (powS l (-1)).1 (invL l) (powS l (-1)).2 0 (hv.keep hvo k5) hu (by rw [ep]; simp [invL, length_rangeI]; omega) _ ⟨Nat.le_refl _, ?_⟩
    rw [show listB (powS l (-1)).1 (powS l (-1)).2 0 (invL l) = true by rw [ep]; simp [listB]]
    have k5' := k4'.trans k5
    repeat (first
      | refine wops_nil ?_
      | refine wops_cons (wop_skip' rfl rfl ?_)
      | refine wops_cons (wop_move rfl rfl ?_)
      | refine wops_cons (wop_assign rfl rfl ?_)
      | refine wops_cons (wop_bin (op := .add) rfl rfl rfl rfl (inc (by omega)) ?_)
      | refine wops_cons (o_lenI rfl rfl rfl rfl rfl (by assumption) ?_)
      | refine wops_cons (o_load rfl rfl (by assumption) ?_)
      | refine wops_cons (wop_pick rfl rfl rfl ?_)
      | refine wops_cons (wop_not rfl rfl rfl ?_)
      | refine wops_cons (wop_extract rfl rfl rfl rfl ?_)
      | refine mobs_move rfl rfl rfl ?_
      | refine m_load rfl rfl rfl (by assumption) ?_
      | refine mobs_nil ?_
      | refine wd_nil ?_
      | refine wd_skip rfl rfl ?_
      | refine wd_loudSkip rfl rfl ?_
      | refine wd_move rfl rfl rfl ?_
      | refine wd_assign rfl rfl rfl ?_
      | refine wd_pick rfl rfl rfl rfl ?_
      | refine d_load rfl rfl rfl (by assumption) ?_
      | refine d_lenI rfl rfl rfl rfl rfl rfl (by assumption) ?_
      | refine wp_condT rfl ?_
      | refine wp_condF rfl ?_
      | refine wp_region ?_
      | refine wp_seq ?_
      | refine wp_skip ?_
      | refine wp_exit ?_
      | refine wp_block ?_)
    refine WOps.T (T' := (x :: y :: .v undef :: .v undef :: .v (.bool false) :: iv (permE l) :: iv two :: c :: iv (compS l m).2 :: v :: iv (powS l (-1)).2 :: .v (.bool true) :: .v (.bool false) :: .v (.bool false) :: x :: iv l.length :: .v (.bool false) :: .v (.bool false) :: .v (.bool false) :: y :: iv m.length :: .v (.bool false) :: .v (.bool false) :: .v undef :: x :: iv (permE l) :: iv (permE l) :: y :: iv (permE m) :: x :: iv l.length :: y :: iv m.length :: .v (.bool ((l.length : Int) != m.length)) :: iv (if ((l.length : Int) != m.length) = true then 2 else 0) :: .slc H.next 0 3 3 :: iv two :: x :: iv (permE l) :: iv (permE l) :: .v (.bool false) :: .tup [c, iv (compS l m).2] :: x :: y :: .tup [c, iv (compS l m).2] :: c :: iv (compS l m).2 :: .tup [v, iv (powS l (-1)).2] :: x :: .tup [v, iv (powS l (-1)).2] :: v :: iv (powS l (-1)).2 :: iv (permE l) :: .v (.bool false) :: .v (.bool false) :: .v undef :: .v undef :: .v undef :: .v undef :: .v undef :: .v (.bool false) :: .v (.bool false) :: iv (permE l) :: .v (.bool true) :: .v (.bool true) :: v :: iv (powS l (-1)).2 :: x :: u :: .v (.bool true) :: .v (.bool false) :: .v (.bool false) :: .v (.bool false) :: iv two :: .v undef :: .v undef :: .v undef :: .v undef :: .v undef :: .v undef :: .v undef :: .v undef :: .v undef :: .v undef :: .v undef :: [])) rfl ?_
    refine wops_cons (wop_cmp rfl rfl rfl rfl rfl (fun h => ?_) (fun h => ?_))
    · have ht : two ≠ 0 := by simpa using h
      have ec : compS l m = ([], two) := htwo1 ht
      repeat (first
        | refine wops_nil ?_
        | refine wops_cons (wop_skip' rfl rfl ?_)
        | refine wops_cons (wop_move rfl rfl ?_)
        | refine wops_cons (wop_assign rfl rfl ?_)
        | refine wops_cons (wop_bin (op := .add) rfl rfl rfl rfl (inc (by omega)) ?_)
        | refine wops_cons (o_lenI rfl rfl rfl rfl rfl (by assumption) ?_)
        | refine wops_cons (o_load rfl rfl (by assumption) ?_)
        | refine wops_cons (wop_pick rfl rfl rfl ?_)
        | refine wops_cons (wop_not rfl rfl rfl ?_)
        | refine wops_cons (wop_extract rfl rfl rfl rfl ?_)
        | refine mobs_move rfl rfl rfl ?_
        | refine m_load rfl rfl rfl (by assumption) ?_
        | refine mobs_nil ?_
        | refine wd_nil ?_
        | refine wd_skip rfl rfl ?_
        | refine wd_loudSkip rfl rfl ?_
        | refine wd_move rfl rfl rfl ?_
        | refine wd_assign rfl rfl rfl ?_
        | refine wd_pick rfl rfl rfl rfl ?_
        | refine d_load rfl rfl rfl (by assumption) ?_
        | refine d_lenI rfl rfl rfl rfl rfl rfl (by assumption) ?_
        | refine wp_condT rfl ?_
        | refine wp_condF rfl ?_
        | refine wp_region ?_
        | refine wp_seq ?_
        | refine wp_skip ?_
        | refine wp_exit ?_
        | refine wp_block ?_)
      refine WOps.T (T' := (x :: y :: .v undef :: .v undef :: .v (.bool false) :: iv (permE l) :: iv two :: c :: iv (compS l m).2 :: v :: iv (powS l (-1)).2 :: .v (.bool true) :: .v (.bool false) :: .v (.bool false) :: x :: iv l.length :: .v (.bool false) :: .v (.bool false) :: .v (.bool false) :: y :: iv m.length :: .v (.bool false) :: .v (.bool false) :: .v undef :: x :: iv (permE l) :: iv (permE l) :: y :: iv (permE m) :: x :: iv l.length :: y :: iv m.length :: .v (.bool ((l.length : Int) != m.length)) :: iv (if ((l.length : Int) != m.length) = true then 2 else 0) :: .slc H.next 0 3 3 :: iv two :: x :: iv (permE l) :: iv (permE l) :: .v (.bool false) :: .tup [c, iv (compS l m).2] :: x :: y :: .tup [c, iv (compS l m).2] :: c :: iv (compS l m).2 :: .tup [v, iv (powS l (-1)).2] :: x :: .tup [v, iv (powS l (-1)).2] :: v :: iv (powS l (-1)).2 :: iv (permE l) :: .v (.bool false) :: .v (.bool false) :: .v undef :: .v undef :: .v undef :: .v undef :: .v undef :: .v (.bool false) :: .v (.bool false) :: iv (permE l) :: .v (.bool true) :: .v (.bool true) :: v :: iv (powS l (-1)).2 :: x :: u :: .v (.bool true) :: .v (.bool false) :: .v (.bool false) :: .v (.bool false) :: iv two :: .v (.bool true) :: c :: iv (compS l m).2 :: iv two :: .v undef :: .v undef :: .v undef :: .v undef :: .v undef :: .v undef :: .v undef :: [])) rfl ?_
      refine wops_cons (wop_callF rfl rfl rfl (fn := Tryz.f15) (by rfl) ?_)
      refine c15 hq _ c (.v (.slice none 0 0)) (compS l m).1 [] (compS l m).2 two (hc4.keep hco4 k5) ⟨rfl, .inl rfl⟩ (by rw [ec]; exact Nat.zero_le _) _ ⟨Nat.le_refl _, ?_⟩
      rw [show listB (compS l m).1 (compS l m).2 two [] = true by rw [ec]; simp [listB, ht]]
      repeat (first
        | refine wops_nil ?_
        | refine wops_cons (wop_skip' rfl rfl ?_)
        | refine wops_cons (wop_move rfl rfl ?_)
        | refine wops_cons (wop_assign rfl rfl ?_)
        | refine wops_cons (wop_bin (op := .add) rfl rfl rfl rfl (inc (by omega)) ?_)
        | refine wops_cons (o_lenI rfl rfl rfl rfl rfl (by assumption) ?_)
        | refine wops_cons (o_load rfl rfl (by assumption) ?_)
        | refine wops_cons (wop_pick rfl rfl rfl ?_)
        | refine wops_cons (wop_not rfl rfl rfl ?_)
        | refine wops_cons (wop_extract rfl rfl rfl rfl ?_)
        | refine mobs_move rfl rfl rfl ?_
        | refine m_load rfl rfl rfl (by assumption) ?_
        | refine mobs_nil ?_
        | refine wd_nil ?_
        | refine wd_skip rfl rfl ?_
        | refine wd_loudSkip rfl rfl ?_
        | refine wd_move rfl rfl rfl ?_
        | refine wd_assign rfl rfl rfl ?_
        | refine wd_pick rfl rfl rfl rfl ?_
        | refine d_load rfl rfl rfl (by assumption) ?_
        | refine d_lenI rfl rfl rfl rfl rfl rfl (by assumption) ?_
        | refine wp_condT rfl ?_
        | refine wp_condF rfl ?_
        | refine wp_region ?_
        | refine wp_seq ?_
        | refine wp_skip ?_
        | refine wp_exit ?_
        | refine wp_block ?_)
      refine wp_ret ?_
      exact ⟨_, _, rfl, hk _⟩
    · have ht : two = 0 := by simpa using h
      obtain ⟨ec, hl0, hm0, hlm⟩ := htwo2 ht
      obtain ⟨hl1, hokl⟩ := permE_zero hl0
      repeat (first
        | refine wops_nil ?_
        | refine wops_cons (wop_skip' rfl rfl ?_)
        | refine wops_cons (wop_move rfl rfl ?_)
        | refine wops_cons (wop_assign rfl rfl ?_)
        | refine wops_cons (wop_bin (op := .add) rfl rfl rfl rfl (inc (by omega)) ?_)
        | refine wops_cons (o_lenI rfl rfl rfl rfl rfl (by assumption) ?_)
        | refine wops_cons (o_load rfl rfl (by assumption) ?_)
        | refine wops_cons (wop_pick rfl rfl rfl ?_)
        | refine wops_cons (wop_not rfl rfl rfl ?_)
        | refine wops_cons (wop_extract rfl rfl rfl rfl ?_)
        | refine mobs_move rfl rfl rfl ?_
        | refine m_load rfl rfl rfl (by assumption) ?_
        | refine mobs_nil ?_
        | refine wd_nil ?_
        | refine wd_skip rfl rfl ?_
        | refine wd_loudSkip rfl rfl ?_
        | refine wd_move rfl rfl rfl ?_
        | refine wd_assign rfl rfl rfl ?_
        | refine wd_pick rfl rfl rfl rfl ?_
        | refine d_load rfl rfl rfl (by assumption) ?_
        | refine d_lenI rfl rfl rfl rfl rfl rfl (by assumption) ?_
        | refine wp_condT rfl ?_
        | refine wp_condF rfl ?_
        | refine wp_region ?_
        | refine wp_seq ?_
        | refine wp_skip ?_
        | refine wp_exit ?_
        | refine wp_block ?_)
      refine WOps.T (T' := (x :: y :: .v undef :: .v undef :: .v (.bool false) :: iv (permE l) :: iv two :: c :: iv (compS l m).2 :: v :: iv (powS l (-1)).2 :: .v (.bool true) :: .v (.bool false) :: .v (.bool false) :: x :: iv l.length :: .v (.bool false) :: .v (.bool false) :: .v (.bool false) :: y :: iv m.length :: .v (.bool false) :: .v (.bool false) :: .v undef :: x :: iv (permE l) :: iv (permE l) :: y :: iv (permE m) :: x :: iv l.length :: y :: iv m.length :: .v (.bool ((l.length : Int) != m.length)) :: iv (if ((l.length : Int) != m.length) = true then 2 else 0) :: .slc H.next 0 3 3 :: iv two :: x :: iv (permE l) :: iv (permE l) :: .v (.bool false) :: .tup [c, iv (compS l m).2] :: x :: y :: .tup [c, iv (compS l m).2] :: c :: iv (compS l m).2 :: .tup [v, iv (powS l (-1)).2] :: x :: .tup [v, iv (powS l (-1)).2] :: v :: iv (powS l (-1)).2 :: iv (permE l) :: .v (.bool false) :: .v (.bool false) :: .v undef :: .v undef :: .v undef :: .v undef :: .v undef :: .v (.bool false) :: .v (.bool false) :: iv (permE l) :: .v (.bool true) :: .v (.bool true) :: v :: iv (powS l (-1)).2 :: x :: u :: .v (.bool true) :: .v (.bool false) :: .v (.bool false) :: .v (.bool false) :: iv two :: .v (.bool false) :: .v undef :: .v undef :: .v undef :: .v undef :: c :: iv (compS l m).2 :: x :: y :: .v undef :: .v undef :: [])) rfl ?_
      refine wops_cons (wop_callF rfl rfl rfl (fn := Tryz.f17) (by rfl) ?_)
      refine c17 hq _ x y l m (hx.keep ho k5') (ho.keep k5') (hy.keep ho2 k5') (ho2.keep k5') hl1 (fun z hz => by have := hokl.mem hz; omega) (by omega) _ fun H9 w k9 n9 hw hwo => ⟨k9.nx, ?_⟩
      refine WOps.T (T' := (x :: y :: .v undef :: .v undef :: .v (.bool false) :: iv (permE l) :: iv two :: c :: iv (compS l m).2 :: v :: iv (powS l (-1)).2 :: .v (.bool true) :: .v (.bool false) :: .v (.bool false) :: x :: iv l.length :: .v (.bool false) :: .v (.bool false) :: .v (.bool false) :: y :: iv m.length :: .v (.bool false) :: .v (.bool false) :: .v undef :: x :: iv (permE l) :: iv (permE l) :: y :: iv (permE m) :: x :: iv l.length :: y :: iv m.length :: .v (.bool ((l.length : Int) != m.length)) :: iv (if ((l.length : Int) != m.length) = true then 2 else 0) :: .slc H.next 0 3 3 :: iv two :: x :: iv (permE l) :: iv (permE l) :: .v (.bool false) :: .tup [c, iv (compS l m).2] :: x :: y :: .tup [c, iv (compS l m).2] :: c :: iv (compS l m).2 :: .tup [v, iv (powS l (-1)).2] :: x :: .tup [v, iv (powS l (-1)).2] :: v :: iv (powS l (-1)).2 :: iv (permE l) :: .v (.bool false) :: .v (.bool false) :: .v undef :: .v undef :: .v undef :: .v undef :: .v undef :: .v (.bool false) :: .v (.bool false) :: iv (permE l) :: .v (.bool true) :: .v (.bool true) :: v :: iv (powS l (-1)).2 :: x :: u :: .v (.bool true) :: .v (.bool false) :: .v (.bool false) :: .v (.bool false) :: iv two :: .v (.bool false) :: .v undef :: .v undef :: .v undef :: .v undef :: c :: iv (compS l m).2 :: x :: y :: w :: .v undef :: [])) rfl ?_
      refine wops_cons (wop_callF rfl rfl rfl (fn := Tryz.f15) (by rfl) ?_)
      refine c15 hq H9 c w (compS l m).1 (compL l m) (compS l m).2 0 ((hc4.keep hco4 k5).keep (hco4.keep k5) k9) hw (by rw [ec]; simp [compL]; omega) _ ⟨Nat.le_refl _, ?_⟩
      rw [show listB (compS l m).1 (compS l m).2 0 (compL l m) = true by rw [ec]; simp [listB]]
      repeat (first
        | refine wops_nil ?_
        | refine wops_cons (wop_skip' rfl rfl ?_)
        | refine wops_cons (wop_move rfl rfl ?_)
        | refine wops_cons (wop_assign rfl rfl ?_)
        | refine wops_cons (wop_bin (op := .add) rfl rfl rfl rfl (inc (by omega)) ?_)
        | refine wops_cons (o_lenI rfl rfl rfl rfl rfl (by assumption) ?_)
        | refine wops_cons (o_load rfl rfl (by assumption) ?_)
        | refine wops_cons (wop_pick rfl rfl rfl ?_)
        | refine wops_cons (wop_not rfl rfl rfl ?_)
        | refine wops_cons (wop_extract rfl rfl rfl rfl ?_)
        | refine mobs_move rfl rfl rfl ?_
        | refine m_load rfl rfl rfl (by assumption) ?_
        | refine mobs_nil ?_
        | refine wd_nil ?_
        | refine wd_skip rfl rfl ?_
        | refine wd_loudSkip rfl rfl ?_
        | refine wd_move rfl rfl rfl ?_
        | refine wd_assign rfl rfl rfl ?_
        | refine wd_pick rfl rfl rfl rfl ?_
        | refine d_load rfl rfl rfl (by assumption) ?_
        | refine d_lenI rfl rfl rfl rfl rfl rfl (by assumption) ?_
        | refine wp_condT rfl ?_
        | refine wp_condF rfl ?_
        | refine wp_region ?_
        | refine wp_seq ?_
        | refine wp_skip ?_
        | refine wp_exit ?_
        | refine wp_block ?_)
      refine wp_ret ?_
      exact ⟨_, _, rfl, hk _⟩
end Go.Ev
