/- Part of an evaluator of calls that is proved sound, and of what it gives about this program. No condition of its own. -/
import Derived.Test.YtjkgjemcmmgefaaGreatDoorEvNg
import Derived.Test.YtjkgjemcmmgefaaGreatDoorEwHa
import Derived.Test.YtjkgjemcmmgefaaGreatDoorEwI1
import Derived.Test.YtjkgjemcmmgefaaGreatDoorEwI4
set_option linter.unusedVariables false
set_option linter.unusedSimpArgs false
set_option linter.unusedSectionVars false
set_option maxRecDepth 100000
set_option maxHeartbeats 8000000
namespace Go.Ev
open Go.Proofs
theorem quo_at {total sum : Int} {l : List Int} {i : Nat} {z : Int} (h : l[i]? = some z) : (quoL total sum l)[i]? = some ((total * z).tdiv sum) := by simp [quoL, h]
theorem rem_at {total sum : Int} {l : List Int} {i : Nat} {z : Int} (h : l[i]? = some z) : (remL total sum l)[i]? = some ((total * z).tmod sum) := by simp [remL, h]
variable {O : CallF} (hq : Quiet O)
include hq
theorem c28 (H : AH) (x : AV) (l : List Int) (total : Int) (hx : Sl H x (ivs l)) (ho : Old H x) (ht : 0 ≤ total ∧ total ≤ 999999999) (hl0 : 0 < l.length) (hl : l.length ≤ 256) (hwz : ∀ z ∈ l, wOk z) (hs0 : 0 < sumL l)
    (hq0 : ∀ z ∈ quoL total (sumL l) l, 0 ≤ z ∧ z ≤ total) (hleft : ∀ i, i ≤ l.length → 0 ≤ total - sumL ((quoL total (sumL l) l).take i)) (hleft2 : total - sumL (quoL total (sumL l) l) ≤ l.length) (hr : H.next + 2000 < 2 ^ 39)
    (g' : Nat → Int) (hsd : Sd (RS (remL total (sumL l) l)) g' 0 l.length) (hpm : (seg g' 0 l.length).Perm (seg idn 0 l.length)) (K : AV → AH → Prop)
    (hk : ∀ H' c, Keeps H H' → H'.next ≤ H.next + 1100 → Sl H' c (ivs (bump (quoL total (sumL l) l) ((fl g' l.length).take (total - sumL (quoL total (sumL l) l)).toNat))) → Old H' c → K c H') : Ca (ENV O) 28 [iv total, x] H K := by
  refine ca_intro (hq _ _ _ rfl) (fn := Tryz.f28) (by rfl) rfl ?_
  have hqn : (quoL total (sumL l) l).length = l.length := by simp [quoL]
  have hrn : (remL total (sumL l) l).length = l.length := by simp [remL]
  repeat (first | refine wops_nil ?_ | refine zq1 rfl rfl ?_ | refine zq2 rfl rfl ?_ | refine zq3 rfl rfl ?_ | refine zq4 rfl rfl rfl rfl (inc (by omega)) ?_ | refine zq5 rfl rfl rfl rfl rfl (by assumption) ?_ | refine zq6 rfl rfl (by assumption) ?_ | refine zq7 rfl rfl rfl ?_ | refine zq8 rfl rfl rfl ?_ | refine zq9 rfl rfl rfl rfl ?_ | refine mobs_move rfl rfl rfl ?_ | refine m_load rfl rfl rfl (by assumption) ?_ | refine mobs_nil ?_ | refine wd_nil ?_ | refine wd_skip rfl rfl ?_ | refine wd_loudSkip rfl rfl ?_ | refine wd_move rfl rfl rfl ?_ | refine wd_assign rfl rfl rfl ?_ | refine wd_pick rfl rfl rfl rfl ?_ | refine d_load rfl rfl rfl (by assumption) ?_ | refine d_lenI rfl rfl rfl rfl rfl rfl (by assumption) ?_ | refine wp_condT rfl ?_ | refine wp_condF rfl ?_ | refine wp_region ?_ | refine wp_seq ?_ | refine wp_skip ?_ | refine wp_exit ?_ | refine wp_block ?_)
  refine wp_loop (fun q T M H' => H' = H ∧ ∃ (i : Nat) (Y : List AV), q = l.length - i ∧ i ≤ l.length ∧ M = [] ∧ T = (iv total :: x :: lget Y 0 :: lget Y 1 :: lget Y 2 :: iv (sumL (l.take i)) :: iv (i : Nat) :: lget Y 3 :: lget Y 4 :: lget Y 5 :: lget Y 6 :: lget Y 7 :: lget Y 8 :: lget Y 9 :: lget Y 10 :: lget Y 11 :: lget Y 12 :: lget Y 13 :: lget Y 14 :: lget Y 15 :: lget Y 16 :: lget Y 17 :: lget Y 18 :: lget Y 19 :: lget Y 20 :: lget Y 21 :: lget Y 22 :: lget Y 23 :: lget Y 24 :: lget Y 25 :: lget Y 26 :: lget Y 27 :: lget Y 28 :: lget Y 29 :: lget Y 30 :: lget Y 31 :: lget Y 32 :: lget Y 33 :: lget Y 34 :: lget Y 35 :: lget Y 36 :: lget Y 37 :: lget Y 38 :: lget Y 39 :: lget Y 40 :: lget Y 41 :: lget Y 42 :: lget Y 43 :: lget Y 44 :: lget Y 45 :: lget Y 46 :: lget Y 47 :: lget Y 48 :: lget Y 49 :: lget Y 50 :: lget Y 51 :: lget Y 52 :: lget Y 53 :: lget Y 54 :: lget Y 55 :: lget Y 56 :: lget Y 57 :: lget Y 58 :: lget Y 59 :: lget Y 60 :: lget Y 61 :: lget Y 62 :: lget Y 63 :: lget Y 64 :: lget Y 65 :: lget Y 66 :: lget Y 67 :: lget Y 68 :: lget Y 69 :: lget Y 70 :: lget Y 71 :: lget Y 72 :: lget Y 73 :: lget Y 74 :: lget Y 75 :: lget Y 76 :: lget Y 77 :: lget Y 78 :: lget Y 79 :: lget Y 80 :: lget Y 81 :: lget Y 82 :: lget Y 83 :: lget Y 84 :: lget Y 85 :: [])) l.length
    ⟨rfl, 0, [_,_,_,_,_,_,_,_,_,_,_,_,_,_,_,_,_,_,_,_,_,_,_,_,_,_,_,_,_,_,_,_,_,_,_,_,_,_,_,_,_,_,_,_,_,_,_,_,_,_,_,_,_,_,_,_,_,_,_,_,_,_,_,_,_,_,_,_,_,_,_,_,_,_,_,_,_,_,_,_,_,_,_,_,_,_], rfl, Nat.zero_le _, rfl, rfl⟩ ?_
  rintro q T M H' ⟨rfl, i, Y, hq1, hi, rfl, rfl⟩
  repeat (first | refine wops_nil ?_ | refine zq1 rfl rfl ?_ | refine zq2 rfl rfl ?_ | refine zq3 rfl rfl ?_ | refine zq4 rfl rfl rfl rfl (inc (by omega)) ?_ | refine zq5 rfl rfl rfl rfl rfl (by assumption) ?_ | refine zq6 rfl rfl (by assumption) ?_ | refine zq7 rfl rfl rfl ?_ | refine zq8 rfl rfl rfl ?_ | refine zq9 rfl rfl rfl rfl ?_ | refine mobs_move rfl rfl rfl ?_ | refine m_load rfl rfl rfl (by assumption) ?_ | refine mobs_nil ?_ | refine wd_nil ?_ | refine wd_skip rfl rfl ?_ | refine wd_loudSkip rfl rfl ?_ | refine wd_move rfl rfl rfl ?_ | refine wd_assign rfl rfl rfl ?_ | refine wd_pick rfl rfl rfl rfl ?_ | refine d_load rfl rfl rfl (by assumption) ?_ | refine d_lenI rfl rfl rfl rfl rfl rfl (by assumption) ?_ | refine wp_condT rfl ?_ | refine wp_condF rfl ?_ | refine wp_region ?_ | refine wp_seq ?_ | refine wp_skip ?_ | refine wp_exit ?_ | refine wp_block ?_)
  refine wops_cons (wop_cmp rfl rfl rfl rfl rfl (fun h => ?_) (fun h => ?_))
  · have h : (i : Int) < l.length := of_decide_eq_true h
    obtain ⟨z, hz⟩ := l_some (show i < l.length by omega)
    have hzw := hwz z (List.mem_of_getElem? hz)
    unfold wOk at hzw
    have hb := sumL_bound (l := l) (i := i) (fun j y _ hy => hwz y (List.mem_of_getElem? hy)) (by omega)
    repeat (first | refine wops_nil ?_ | refine zq1 rfl rfl ?_ | refine zq2 rfl rfl ?_ | refine zq3 rfl rfl ?_ | refine zq4 rfl rfl rfl rfl (inc (by omega)) ?_ | refine zq5 rfl rfl rfl rfl rfl (by assumption) ?_ | refine zq6 rfl rfl (by assumption) ?_ | refine zq7 rfl rfl rfl ?_ | refine zq8 rfl rfl rfl ?_ | refine zq9 rfl rfl rfl rfl ?_ | refine mobs_move rfl rfl rfl ?_ | refine m_load rfl rfl rfl (by assumption) ?_ | refine mobs_nil ?_ | refine wd_nil ?_ | refine wd_skip rfl rfl ?_ | refine wd_loudSkip rfl rfl ?_ | refine wd_move rfl rfl rfl ?_ | refine wd_assign rfl rfl rfl ?_ | refine wd_pick rfl rfl rfl rfl ?_ | refine d_load rfl rfl rfl (by assumption) ?_ | refine d_lenI rfl rfl rfl rfl rfl rfl (by assumption) ?_ | refine wp_condT rfl ?_ | refine wp_condF rfl ?_ | refine wp_region ?_ | refine wp_seq ?_ | refine wp_skip ?_ | refine wp_exit ?_ | refine wp_block ?_)
    refine wops_cons (o_indexI rfl rfl hx rfl hz fun p hp => ?_)
    repeat (first | refine wops_nil ?_ | refine zq1 rfl rfl ?_ | refine zq2 rfl rfl ?_ | refine zq3 rfl rfl ?_ | refine zq4 rfl rfl rfl rfl (inc (by omega)) ?_ | refine zq5 rfl rfl rfl rfl rfl (by assumption) ?_ | refine zq6 rfl rfl (by assumption) ?_ | refine zq7 rfl rfl rfl ?_ | refine zq8 rfl rfl rfl ?_ | refine zq9 rfl rfl rfl rfl ?_ | refine mobs_move rfl rfl rfl ?_ | refine m_load rfl rfl rfl (by assumption) ?_ | refine mobs_nil ?_ | refine wd_nil ?_ | refine wd_skip rfl rfl ?_ | refine wd_loudSkip rfl rfl ?_ | refine wd_move rfl rfl rfl ?_ | refine wd_assign rfl rfl rfl ?_ | refine wd_pick rfl rfl rfl rfl ?_ | refine d_load rfl rfl rfl (by assumption) ?_ | refine d_lenI rfl rfl rfl rfl rfl rfl (by assumption) ?_ | refine wp_condT rfl ?_ | refine wp_condF rfl ?_ | refine wp_region ?_ | refine wp_seq ?_ | refine wp_skip ?_ | refine wp_exit ?_ | refine wp_block ?_)
    refine wops_cons (wop_bin (op := .add) (v := .int .i64 (sumL (l.take (i + 1)))) rfl rfl rfl rfl ?_ ?_)
    · show some (Value.int .i64 (IntKind.i64.wrap (sumL (l.take i) + z))) = _
      rw [sumL_take hz, wrap_id (by omega) (by omega)]
    repeat (first | refine wops_nil ?_ | refine zq1 rfl rfl ?_ | refine zq2 rfl rfl ?_ | refine zq3 rfl rfl ?_ | refine zq4 rfl rfl rfl rfl (inc (by omega)) ?_ | refine zq5 rfl rfl rfl rfl rfl (by assumption) ?_ | refine zq6 rfl rfl (by assumption) ?_ | refine zq7 rfl rfl rfl ?_ | refine zq8 rfl rfl rfl ?_ | refine zq9 rfl rfl rfl rfl ?_ | refine mobs_move rfl rfl rfl ?_ | refine m_load rfl rfl rfl (by assumption) ?_ | refine mobs_nil ?_ | refine wd_nil ?_ | refine wd_skip rfl rfl ?_ | refine wd_loudSkip rfl rfl ?_ | refine wd_move rfl rfl rfl ?_ | refine wd_assign rfl rfl rfl ?_ | refine wd_pick rfl rfl rfl rfl ?_ | refine d_load rfl rfl rfl (by assumption) ?_ | refine d_lenI rfl rfl rfl rfl rfl rfl (by assumption) ?_ | refine wp_condT rfl ?_ | refine wp_condF rfl ?_ | refine wp_region ?_ | refine wp_seq ?_ | refine wp_skip ?_ | refine wp_exit ?_ | refine wp_block ?_)
    exact ⟨l.length - (i + 1), by omega, rfl, i + 1, [_,_,_,_,_,_,_,_,_,_,_,_,_,_,_,_,_,_,_,_,_,_,_,_,_,_,_,_,_,_,_,_,_,_,_,_,_,_,_,_,_,_,_,_,_,_,_,_,_,_,_,_,_,_,_,_,_,_,_,_,_,_,_,_,_,_,_,_,_,_,_,_,_,_,_,_,_,_,_,_,_,_,_,_,_,_], rfl, by omega, rfl, rfl⟩
  have h : ¬ ((i : Int) < l.length) := of_decide_eq_false h
  have e : i = l.length := by omega
  subst e
  rw [List.take_length]
  clear h hi hq1
  repeat (first | refine wops_nil ?_ | refine zq1 rfl rfl ?_ | refine zq2 rfl rfl ?_ | refine zq3 rfl rfl ?_ | refine zq4 rfl rfl rfl rfl (inc (by omega)) ?_ | refine zq5 rfl rfl rfl rfl rfl (by assumption) ?_ | refine zq6 rfl rfl (by assumption) ?_ | refine zq7 rfl rfl rfl ?_ | refine zq8 rfl rfl rfl ?_ | refine zq9 rfl rfl rfl rfl ?_ | refine mobs_move rfl rfl rfl ?_ | refine m_load rfl rfl rfl (by assumption) ?_ | refine mobs_nil ?_ | refine wd_nil ?_ | refine wd_skip rfl rfl ?_ | refine wd_loudSkip rfl rfl ?_ | refine wd_move rfl rfl rfl ?_ | refine wd_assign rfl rfl rfl ?_ | refine wd_pick rfl rfl rfl rfl ?_ | refine d_load rfl rfl rfl (by assumption) ?_ | refine d_lenI rfl rfl rfl rfl rfl rfl (by assumption) ?_ | refine wp_condT rfl ?_ | refine wp_condF rfl ?_ | refine wp_region ?_ | refine wp_seq ?_ | refine wp_skip ?_ | refine wp_exit ?_ | refine wp_block ?_)
  refine wp_loop (fun q T M H2 => ∃ (i : Nat) (Y : List AV) (s r : AV), q = l.length - i ∧ i ≤ l.length ∧ Keeps H' H2 ∧ H2.next ≤ H'.next + 4 * i ∧ Gr H2 3 s (ivs ((quoL total (sumL l) l).take i)) ∧ Gr H2 3 r (ivs ((remL total (sumL l) l).take i)) ∧ (∀ b, s.own = some b → H'.next ≤ b) ∧ (∀ b, r.own = some b → H'.next ≤ b) ∧ (∀ b, s.own = some b → r.own ≠ some b) ∧ M = [] ∧
      T = (iv total :: x :: lget Y 0 :: lget Y 1 :: lget Y 2 :: iv (sumL l) :: lget Y 3 :: s :: r :: iv (total - sumL ((quoL total (sumL l) l).take i)) :: iv (i : Nat) :: lget Y 4 :: lget Y 5 :: lget Y 6 :: lget Y 7 :: lget Y 8 :: lget Y 9 :: lget Y 10 :: lget Y 11 :: lget Y 12 :: lget Y 13 :: lget Y 14 :: lget Y 15 :: lget Y 16 :: lget Y 17 :: lget Y 18 :: lget Y 19 :: lget Y 20 :: lget Y 21 :: lget Y 22 :: lget Y 23 :: lget Y 24 :: lget Y 25 :: lget Y 26 :: lget Y 27 :: lget Y 28 :: lget Y 29 :: lget Y 30 :: lget Y 31 :: lget Y 32 :: lget Y 33 :: lget Y 34 :: lget Y 35 :: lget Y 36 :: lget Y 37 :: lget Y 38 :: lget Y 39 :: lget Y 40 :: lget Y 41 :: lget Y 42 :: lget Y 43 :: lget Y 44 :: lget Y 45 :: lget Y 46 :: lget Y 47 :: lget Y 48 :: lget Y 49 :: lget Y 50 :: lget Y 51 :: lget Y 52 :: lget Y 53 :: lget Y 54 :: lget Y 55 :: lget Y 56 :: lget Y 57 :: lget Y 58 :: lget Y 59 :: lget Y 60 :: lget Y 61 :: lget Y 62 :: lget Y 63 :: lget Y 64 :: lget Y 65 :: lget Y 66 :: lget Y 67 :: lget Y 68 :: lget Y 69 :: lget Y 70 :: lget Y 71 :: lget Y 72 :: lget Y 73 :: lget Y 74 :: lget Y 75 :: lget Y 76 :: lget Y 77 :: lget Y 78 :: lget Y 79 :: lget Y 80 :: lget Y 81 :: lget Y 82 :: [])) l.length
    ⟨0, [_,_,_,_,_,_,_,_,_,_,_,_,_,_,_,_,_,_,_,_,_,_,_,_,_,_,_,_,_,_,_,_,_,_,_,_,_,_,_,_,_,_,_,_,_,_,_,_,_,_,_,_,_,_,_,_,_,_,_,_,_,_,_,_,_,_,_,_,_,_,_,_,_,_,_,_,_,_,_,_,_,_,_], .v (.slice none 0 0), .v (.slice none 0 0), rfl, Nat.zero_le _, Keeps.refl H', Nat.le_refl _, .inl ⟨rfl, rfl⟩, .inl ⟨rfl, rfl⟩, (fun b h => by cases h), (fun b h => by cases h), (fun b h => by cases h), rfl, by rw [show total - sumL ((quoL total (sumL l) l).take 0) = total by simp [sumL]]; rfl⟩ ?_
  rintro q T M H2 ⟨i, Y, s, r, hq1, hi, k2, n2, hGs, hGr, hos, hor, hne, rfl, rfl⟩
  have hx2 := hx.keep ho k2
  repeat (first | refine wops_nil ?_ | refine zq1 rfl rfl ?_ | refine zq2 rfl rfl ?_ | refine zq3 rfl rfl ?_ | refine zq4 rfl rfl rfl rfl (inc (by omega)) ?_ | refine zq5 rfl rfl rfl rfl rfl (by assumption) ?_ | refine zq6 rfl rfl (by assumption) ?_ | refine zq7 rfl rfl rfl ?_ | refine zq8 rfl rfl rfl ?_ | refine zq9 rfl rfl rfl rfl ?_ | refine mobs_move rfl rfl rfl ?_ | refine m_load rfl rfl rfl (by assumption) ?_ | refine mobs_nil ?_ | refine wd_nil ?_ | refine wd_skip rfl rfl ?_ | refine wd_loudSkip rfl rfl ?_ | refine wd_move rfl rfl rfl ?_ | refine wd_assign rfl rfl rfl ?_ | refine wd_pick rfl rfl rfl rfl ?_ | refine d_load rfl rfl rfl (by assumption) ?_ | refine d_lenI rfl rfl rfl rfl rfl rfl (by assumption) ?_ | refine wp_condT rfl ?_ | refine wp_condF rfl ?_ | refine wp_region ?_ | refine wp_seq ?_ | refine wp_skip ?_ | refine wp_exit ?_ | refine wp_block ?_)
  refine wops_cons (wop_cmp rfl rfl rfl rfl rfl (fun h => ?_) (fun h => ?_))
  · have h : (i : Int) < l.length := of_decide_eq_true h
    have hi' : i < l.length := by omega
    clear h
    obtain ⟨z, hz⟩ := l_some hi'
    have hzw := hwz z (List.mem_of_getElem? hz)
    unfold wOk at hzw
    have hqi := quo_at (total := total) (sum := sumL l) hz
    have hri := rem_at (total := total) (sum := sumL l) hz
    have hqb := hq0 _ (List.mem_of_getElem? hqi)
    have hm1 : 0 ≤ total * z := Int.mul_nonneg ht.1 hzw.1
    have hm2 : total * z ≤ 999999999 * 999999999 := Int.mul_le_mul ht.2 hzw.2 hzw.1 (by decide)
    have hl1 := hleft i (by omega)
    have hl2 := hleft (i + 1) (by omega)
    have hst := sumL_take hqi
    rw [hst] at hl2
    repeat (first | refine wops_nil ?_ | refine zq1 rfl rfl ?_ | refine zq2 rfl rfl ?_ | refine zq3 rfl rfl ?_ | refine zq4 rfl rfl rfl rfl (inc (by omega)) ?_ | refine zq5 rfl rfl rfl rfl rfl (by assumption) ?_ | refine zq6 rfl rfl (by assumption) ?_ | refine zq7 rfl rfl rfl ?_ | refine zq8 rfl rfl rfl ?_ | refine zq9 rfl rfl rfl rfl ?_ | refine mobs_move rfl rfl rfl ?_ | refine m_load rfl rfl rfl (by assumption) ?_ | refine mobs_nil ?_ | refine wd_nil ?_ | refine wd_skip rfl rfl ?_ | refine wd_loudSkip rfl rfl ?_ | refine wd_move rfl rfl rfl ?_ | refine wd_assign rfl rfl rfl ?_ | refine wd_pick rfl rfl rfl rfl ?_ | refine d_load rfl rfl rfl (by assumption) ?_ | refine d_lenI rfl rfl rfl rfl rfl rfl (by assumption) ?_ | refine wp_condT rfl ?_ | refine wp_condF rfl ?_ | refine wp_region ?_ | refine wp_seq ?_ | refine wp_skip ?_ | refine wp_exit ?_ | refine wp_block ?_)
    refine wops_cons (o_indexI rfl rfl hx2 rfl hz fun p hp => ?_)
    repeat (first | refine wops_nil ?_ | refine zq1 rfl rfl ?_ | refine zq2 rfl rfl ?_ | refine zq3 rfl rfl ?_ | refine zq4 rfl rfl rfl rfl (inc (by omega)) ?_ | refine zq5 rfl rfl rfl rfl rfl (by assumption) ?_ | refine zq6 rfl rfl (by assumption) ?_ | refine zq7 rfl rfl rfl ?_ | refine zq8 rfl rfl rfl ?_ | refine zq9 rfl rfl rfl rfl ?_ | refine mobs_move rfl rfl rfl ?_ | refine m_load rfl rfl rfl (by assumption) ?_ | refine mobs_nil ?_ | refine wd_nil ?_ | refine wd_skip rfl rfl ?_ | refine wd_loudSkip rfl rfl ?_ | refine wd_move rfl rfl rfl ?_ | refine wd_assign rfl rfl rfl ?_ | refine wd_pick rfl rfl rfl rfl ?_ | refine d_load rfl rfl rfl (by assumption) ?_ | refine d_lenI rfl rfl rfl rfl rfl rfl (by assumption) ?_ | refine wp_condT rfl ?_ | refine wp_condF rfl ?_ | refine wp_region ?_ | refine wp_seq ?_ | refine wp_skip ?_ | refine wp_exit ?_ | refine wp_block ?_)
    refine wops_cons (wop_bin (op := .mul) (v := .int .i64 (total * z)) rfl rfl rfl rfl ?_ ?_)
    · show some (Value.int .i64 (IntKind.i64.wrap (total * z))) = _
      rw [wrap_id (by omega) (by omega)]
    repeat (first | refine wops_nil ?_ | refine zq1 rfl rfl ?_ | refine zq2 rfl rfl ?_ | refine zq3 rfl rfl ?_ | refine zq4 rfl rfl rfl rfl (inc (by omega)) ?_ | refine zq5 rfl rfl rfl rfl rfl (by assumption) ?_ | refine zq6 rfl rfl (by assumption) ?_ | refine zq7 rfl rfl rfl ?_ | refine zq8 rfl rfl rfl ?_ | refine zq9 rfl rfl rfl rfl ?_ | refine mobs_move rfl rfl rfl ?_ | refine m_load rfl rfl rfl (by assumption) ?_ | refine mobs_nil ?_ | refine wd_nil ?_ | refine wd_skip rfl rfl ?_ | refine wd_loudSkip rfl rfl ?_ | refine wd_move rfl rfl rfl ?_ | refine wd_assign rfl rfl rfl ?_ | refine wd_pick rfl rfl rfl rfl ?_ | refine d_load rfl rfl rfl (by assumption) ?_ | refine d_lenI rfl rfl rfl rfl rfl rfl (by assumption) ?_ | refine wp_condT rfl ?_ | refine wp_condF rfl ?_ | refine wp_region ?_ | refine wp_seq ?_ | refine wp_skip ?_ | refine wp_exit ?_ | refine wp_block ?_)
    refine wops_cons (wop_quo rfl rfl rfl rfl (by omega) ?_)
    rw [wrap_id (by omega) (by omega)]
    have r2 : H2.next < 2 ^ 39 := by omega
    refine wops_cons (o_build1 rfl rfl rfl r2 ?_)
    have k3 := k2.add (.cells [iv ((total * z).tdiv (sumL l))] 3 0) r2
    have g3 : (H2.add (.cells [iv ((total * z).tdiv (sumL l))] 3 0)).get H2.next = some (.cells [iv ((total * z).tdiv (sumL l))] 3 0) := get_add_eq r2
    have Gs3 : Gr (H2.add (.cells [iv ((total * z).tdiv (sumL l))] 3 0)) 3 s (ivs ((quoL total (sumL l) l).take i)) := hGs.frame (Nat.le_succ _) fun b hb => get_add_ne r2 (by have := hGs.old b hb; omega)
    have Gr3 : Gr (H2.add (.cells [iv ((total * z).tdiv (sumL l))] 3 0)) 3 r (ivs ((remL total (sumL l) l).take i)) := hGr.frame (Nat.le_succ _) fun b hb => get_add_ne r2 (by have := hGr.old b hb; omega)
    refine wops_cons (o_append rfl rfl rfl rfl rfl (by rw [ivs_length, List.length_take]; omega) (by show H2.next + 1 < 2 ^ 39; omega) rfl g3 rfl Gs3 fun s4 H4 es4 n4 gl4 b4 _ Gs4 => ?_)
    have k4 := keeps_append k3 n4 gl4 b4 hos
    have n4 : H4.next = H2.next + 1 + 1 := n4
    have hs4 : s4.own = some (H2.next + 1) := by rw [es4]; rfl
    have Gr4 : Gr H4 3 r (ivs ((remL total (sumL l) l).take i)) := Gr3.frame (by show H2.next + 1 ≤ _; omega) fun b hb => b4 b (by have := hGr.old b hb; show b ≠ H2.next + 1; omega) (fun h => hne b h hb)
    have Gs4 : Gr H4 3 s4 (ivs ((quoL total (sumL l) l).take (i + 1))) := by
      have e : ivs ((quoL total (sumL l) l).take (i + 1)) = ivs ((quoL total (sumL l) l).take i) ++ [iv ((total * z).tdiv (sumL l))] := by rw [List.take_add_one, hqi]; simp [ivs]
      rw [e]; exact Gs4
    have hx4 := hx.keep ho k4
    clear Gs3 Gr3 g3 hx2
    repeat (first | refine wops_nil ?_ | refine zq1 rfl rfl ?_ | refine zq2 rfl rfl ?_ | refine zq3 rfl rfl ?_ | refine zq4 rfl rfl rfl rfl (inc (by omega)) ?_ | refine zq5 rfl rfl rfl rfl rfl (by assumption) ?_ | refine zq6 rfl rfl (by assumption) ?_ | refine zq7 rfl rfl rfl ?_ | refine zq8 rfl rfl rfl ?_ | refine zq9 rfl rfl rfl rfl ?_ | refine mobs_move rfl rfl rfl ?_ | refine m_load rfl rfl rfl (by assumption) ?_ | refine mobs_nil ?_ | refine wd_nil ?_ | refine wd_skip rfl rfl ?_ | refine wd_loudSkip rfl rfl ?_ | refine wd_move rfl rfl rfl ?_ | refine wd_assign rfl rfl rfl ?_ | refine wd_pick rfl rfl rfl rfl ?_ | refine d_load rfl rfl rfl (by assumption) ?_ | refine d_lenI rfl rfl rfl rfl rfl rfl (by assumption) ?_ | refine wp_condT rfl ?_ | refine wp_condF rfl ?_ | refine wp_region ?_ | refine wp_seq ?_ | refine wp_skip ?_ | refine wp_exit ?_ | refine wp_block ?_)
    refine wops_cons (o_indexI rfl rfl hx4 rfl hz fun p hp => ?_)
    repeat (first | refine wops_nil ?_ | refine zq1 rfl rfl ?_ | refine zq2 rfl rfl ?_ | refine zq3 rfl rfl ?_ | refine zq4 rfl rfl rfl rfl (inc (by omega)) ?_ | refine zq5 rfl rfl rfl rfl rfl (by assumption) ?_ | refine zq6 rfl rfl (by assumption) ?_ | refine zq7 rfl rfl rfl ?_ | refine zq8 rfl rfl rfl ?_ | refine zq9 rfl rfl rfl rfl ?_ | refine mobs_move rfl rfl rfl ?_ | refine m_load rfl rfl rfl (by assumption) ?_ | refine mobs_nil ?_ | refine wd_nil ?_ | refine wd_skip rfl rfl ?_ | refine wd_loudSkip rfl rfl ?_ | refine wd_move rfl rfl rfl ?_ | refine wd_assign rfl rfl rfl ?_ | refine wd_pick rfl rfl rfl rfl ?_ | refine d_load rfl rfl rfl (by assumption) ?_ | refine d_lenI rfl rfl rfl rfl rfl rfl (by assumption) ?_ | refine wp_condT rfl ?_ | refine wp_condF rfl ?_ | refine wp_region ?_ | refine wp_seq ?_ | refine wp_skip ?_ | refine wp_exit ?_ | refine wp_block ?_)
    refine wops_cons (wop_bin (op := .mul) (v := .int .i64 (total * z)) rfl rfl rfl rfl ?_ ?_)
    · show some (Value.int .i64 (IntKind.i64.wrap (total * z))) = _
      rw [wrap_id (by omega) (by omega)]
    repeat (first | refine wops_nil ?_ | refine zq1 rfl rfl ?_ | refine zq2 rfl rfl ?_ | refine zq3 rfl rfl ?_ | refine zq4 rfl rfl rfl rfl (inc (by omega)) ?_ | refine zq5 rfl rfl rfl rfl rfl (by assumption) ?_ | refine zq6 rfl rfl (by assumption) ?_ | refine zq7 rfl rfl rfl ?_ | refine zq8 rfl rfl rfl ?_ | refine zq9 rfl rfl rfl rfl ?_ | refine mobs_move rfl rfl rfl ?_ | refine m_load rfl rfl rfl (by assumption) ?_ | refine mobs_nil ?_ | refine wd_nil ?_ | refine wd_skip rfl rfl ?_ | refine wd_loudSkip rfl rfl ?_ | refine wd_move rfl rfl rfl ?_ | refine wd_assign rfl rfl rfl ?_ | refine wd_pick rfl rfl rfl rfl ?_ | refine d_load rfl rfl rfl (by assumption) ?_ | refine d_lenI rfl rfl rfl rfl rfl rfl (by assumption) ?_ | refine wp_condT rfl ?_ | refine wp_condF rfl ?_ | refine wp_region ?_ | refine wp_seq ?_ | refine wp_skip ?_ | refine wp_exit ?_ | refine wp_block ?_)
    refine wops_cons (wop_rem rfl rfl rfl rfl (by omega) ?_)
    have r4 : H4.next < 2 ^ 39 := by omega
    refine wops_cons (o_build1 rfl rfl rfl r4 ?_)
    have k5 := k4.add (.cells [iv ((total * z).tmod (sumL l))] 3 0) r4
    have g5 : (H4.add (.cells [iv ((total * z).tmod (sumL l))] 3 0)).get H4.next = some (.cells [iv ((total * z).tmod (sumL l))] 3 0) := get_add_eq r4
    have Gs5 : Gr (H4.add (.cells [iv ((total * z).tmod (sumL l))] 3 0)) 3 s4 (ivs ((quoL total (sumL l) l).take (i + 1))) := Gs4.frame (Nat.le_succ _) fun b hb => get_add_ne r4 (by have := Gs4.old b hb; omega)
    have Gr5 : Gr (H4.add (.cells [iv ((total * z).tmod (sumL l))] 3 0)) 3 r (ivs ((remL total (sumL l) l).take i)) := Gr4.frame (Nat.le_succ _) fun b hb => get_add_ne r4 (by have := Gr4.old b hb; omega)
    refine wops_cons (o_append rfl rfl rfl rfl rfl (by rw [ivs_length, List.length_take]; omega) (by show H4.next + 1 < 2 ^ 39; omega) rfl g5 rfl Gr5 fun r6 H6 er6 n6 gl6 b6 _ Gr6 => ?_)
    have k6 := keeps_append k5 n6 gl6 b6 hor
    have n6 : H6.next = H4.next + 1 + 1 := n6
    have Gs6 : Gr H6 3 s4 (ivs ((quoL total (sumL l) l).take (i + 1))) := Gs5.frame (by show H4.next + 1 ≤ _; omega) fun b hb => b6 b (by have := Gs4.old b hb; show b ≠ H4.next + 1; omega) (fun h => by rw [hs4] at hb; cases hb; have := hGr.old _ h; omega)
    have Gr6 : Gr H6 3 r6 (ivs ((remL total (sumL l) l).take (i + 1))) := by
      have e : ivs ((remL total (sumL l) l).take (i + 1)) = ivs ((remL total (sumL l) l).take i) ++ [iv ((total * z).tmod (sumL l))] := by rw [List.take_add_one, hri]; simp [ivs]
      rw [e]; exact Gr6
    clear Gs5 Gr5 g5 hx4
    have hS6 : True ∧ Sl H6 s4 (ivs ((quoL total (sumL l) l).take (i + 1))) := ⟨trivial, Gs6.sl⟩
    repeat (first | refine wops_nil ?_ | refine zq1 rfl rfl ?_ | refine zq2 rfl rfl ?_ | refine zq3 rfl rfl ?_ | refine zq4 rfl rfl rfl rfl (inc (by omega)) ?_ | refine zq5 rfl rfl rfl rfl rfl (by assumption) ?_ | refine zq6 rfl rfl (by assumption) ?_ | refine zq7 rfl rfl rfl ?_ | refine zq8 rfl rfl rfl ?_ | refine zq9 rfl rfl rfl rfl ?_ | refine mobs_move rfl rfl rfl ?_ | refine m_load rfl rfl rfl (by assumption) ?_ | refine mobs_nil ?_ | refine wd_nil ?_ | refine wd_skip rfl rfl ?_ | refine wd_loudSkip rfl rfl ?_ | refine wd_move rfl rfl rfl ?_ | refine wd_assign rfl rfl rfl ?_ | refine wd_pick rfl rfl rfl rfl ?_ | refine d_load rfl rfl rfl (by assumption) ?_ | refine d_lenI rfl rfl rfl rfl rfl rfl (by assumption) ?_ | refine wp_condT rfl ?_ | refine wp_condF rfl ?_ | refine wp_region ?_ | refine wp_seq ?_ | refine wp_skip ?_ | refine wp_exit ?_ | refine wp_block ?_)
    refine wops_cons (o_indexI (z := (total * z).tdiv (sumL l)) rfl rfl hS6.2 rfl (by rw [List.getElem?_take, if_pos (Nat.lt_succ_self i), hqi]) fun p hp => ?_)
    repeat (first | refine wops_nil ?_ | refine zq1 rfl rfl ?_ | refine zq2 rfl rfl ?_ | refine zq3 rfl rfl ?_ | refine zq4 rfl rfl rfl rfl (inc (by omega)) ?_ | refine zq5 rfl rfl rfl rfl rfl (by assumption) ?_ | refine zq6 rfl rfl (by assumption) ?_ | refine zq7 rfl rfl rfl ?_ | refine zq8 rfl rfl rfl ?_ | refine zq9 rfl rfl rfl rfl ?_ | refine mobs_move rfl rfl rfl ?_ | refine m_load rfl rfl rfl (by assumption) ?_ | refine mobs_nil ?_ | refine wd_nil ?_ | refine wd_skip rfl rfl ?_ | refine wd_loudSkip rfl rfl ?_ | refine wd_move rfl rfl rfl ?_ | refine wd_assign rfl rfl rfl ?_ | refine wd_pick rfl rfl rfl rfl ?_ | refine d_load rfl rfl rfl (by assumption) ?_ | refine d_lenI rfl rfl rfl rfl rfl rfl (by assumption) ?_ | refine wp_condT rfl ?_ | refine wp_condF rfl ?_ | refine wp_region ?_ | refine wp_seq ?_ | refine wp_skip ?_ | refine wp_exit ?_ | refine wp_block ?_)
    refine wops_cons (wop_bin (op := .sub) (v := .int .i64 (total - sumL ((quoL total (sumL l) l).take (i + 1)))) rfl rfl rfl rfl ?_ ?_)
    · show some (Value.int .i64 (IntKind.i64.wrap (total - sumL ((quoL total (sumL l) l).take i) - (total * z).tdiv (sumL l)))) = _
      have hbd := sub_bounds hl2 ht.2 (sumL_nonneg (l := (quoL total (sumL l) l).take i) fun y hy => (hq0 y (List.mem_of_mem_take hy)).1) hqb.1
      rw [hst, wrap_id hbd.1 hbd.2, Int.sub_sub]
    repeat (first | refine wops_nil ?_ | refine zq1 rfl rfl ?_ | refine zq2 rfl rfl ?_ | refine zq3 rfl rfl ?_ | refine zq4 rfl rfl rfl rfl (inc (by omega)) ?_ | refine zq5 rfl rfl rfl rfl rfl (by assumption) ?_ | refine zq6 rfl rfl (by assumption) ?_ | refine zq7 rfl rfl rfl ?_ | refine zq8 rfl rfl rfl ?_ | refine zq9 rfl rfl rfl rfl ?_ | refine mobs_move rfl rfl rfl ?_ | refine m_load rfl rfl rfl (by assumption) ?_ | refine mobs_nil ?_ | refine wd_nil ?_ | refine wd_skip rfl rfl ?_ | refine wd_loudSkip rfl rfl ?_ | refine wd_move rfl rfl rfl ?_ | refine wd_assign rfl rfl rfl ?_ | refine wd_pick rfl rfl rfl rfl ?_ | refine d_load rfl rfl rfl (by assumption) ?_ | refine d_lenI rfl rfl rfl rfl rfl rfl (by assumption) ?_ | refine wp_condT rfl ?_ | refine wp_condF rfl ?_ | refine wp_region ?_ | refine wp_seq ?_ | refine wp_skip ?_ | refine wp_exit ?_ | refine wp_block ?_)
    exact ⟨l.length - (i + 1), by omega, i + 1, [_,_,_,_,_,_,_,_,_,_,_,_,_,_,_,_,_,_,_,_,_,_,_,_,_,_,_,_,_,_,_,_,_,_,_,_,_,_,_,_,_,_,_,_,_,_,_,_,_,_,_,_,_,_,_,_,_,_,_,_,_,_,_,_,_,_,_,_,_,_,_,_,_,_,_,_,_,_,_,_,_,_,_], s4, r6, rfl, by omega, k6, by omega, Gs6, Gr6, (fun b hb => by rw [hs4] at hb; cases hb; have := k2.nx; omega), (fun b hb => by subst er6; cases hb; show H'.next ≤ H4.next + 1; have := k4.nx; omega), (fun b hb h => by rw [hs4] at hb; subst er6; have e1 := Option.some.inj hb; have e2 : H4.next + 1 = b := Option.some.inj h; omega), rfl, rfl⟩
  have h : ¬ ((i : Int) < l.length) := of_decide_eq_false h
  have e : i = l.length := by omega
  subst e
  clear h hi hq1
  rw [List.take_of_length_le (by omega)] at hGs hGr
  rw [List.take_of_length_le (by omega)]
  have hn1 : H2.next ≤ H'.next + 1024 := by omega
  have hl0' := hleft l.length (Nat.le_refl _)
  rw [List.take_of_length_le (by omega)] at hl0'
  obtain ⟨m, hm⟩ := Int.eq_ofNat_of_zero_le hl0'
  have hmn : m ≤ l.length := by omega
  have hmt : (total - sumL (quoL total (sumL l) l)).toNat = m := by omega
  rw [hmt] at hk
  rw [hm]
  have hrem0 : ∀ i, 0 ≤ (remL total (sumL l) l).getD i 0 := fun i => by
    rcases Nat.lt_or_ge i l.length with hi | hi
    · obtain ⟨z, hz⟩ := l_some hi
      have hzw := hwz z (List.mem_of_getElem? hz)
      rw [List.getD_eq_getElem?_getD, rem_at hz]
      exact Int.tmod_nonneg _ (Int.mul_nonneg ht.1 hzw.1)
    · rw [List.getD_eq_getElem?_getD, List.getElem?_eq_none (by omega)]
      exact Int.le_refl _
  obtain ⟨bs, bs1, bs2, hsb, hgs⟩ : ∃ b, b < H2.next ∧ b < 2 ^ 39 ∧ s = .slu b 0 l.length 1 ∧ H2.get b = some (.cells (ivs (quoL total (sumL l) l)) 3 1) := by
    rcases hGs with ⟨_, h2⟩ | ⟨b, h1, h2, h3, h4⟩
    · have := congrArg List.length h2; rw [ivs_length, hqn, List.length_nil] at this; omega
    · exact ⟨b, h1, h2, by rw [h3, ivs_length, hqn], h4⟩
  obtain ⟨br, br1, br2, hrb, hgr⟩ : ∃ b, b < H2.next ∧ b < 2 ^ 39 ∧ r = .slu b 0 l.length 1 ∧ H2.get b = some (.cells (ivs (remL total (sumL l) l)) 3 1) := by
    rcases hGr with ⟨_, h2⟩ | ⟨b, h1, h2, h3, h4⟩
    · have := congrArg List.length h2; rw [ivs_length, hrn, List.length_nil] at this; omega
    · exact ⟨b, h1, h2, by rw [h3, ivs_length, hrn], h4⟩
  have hbs := hos bs (by rw [hsb]; rfl)
  have hbr := hor br (by rw [hrb]; rfl)
  have hbb : bs ≠ br := fun e => hne bs (by rw [hsb]; rfl) (by rw [hrb, e]; rfl)
  subst hsb hrb
  have hinit : ∀ i, i < l.length → (remL total (sumL l) l)[i]? = some (restF (remL total (sumL l) l) g' 0 i) := fun i hi => by
    obtain ⟨z, hz⟩ := l_some hi
    rw [rem_at hz]
    unfold restF
    rw [if_neg (by rintro ⟨s, s1, _⟩; omega), List.getD_eq_getElem?_getD, rem_at hz]
    rfl
  clear hGs hGr hos hor hne
  repeat (first | refine wops_nil ?_ | refine zq1 rfl rfl ?_ | refine zq2 rfl rfl ?_ | refine zq3 rfl rfl ?_ | refine zq4 rfl rfl rfl rfl (inc (by omega)) ?_ | refine zq5 rfl rfl rfl rfl rfl (by assumption) ?_ | refine zq6 rfl rfl (by assumption) ?_ | refine zq7 rfl rfl rfl ?_ | refine zq8 rfl rfl rfl ?_ | refine zq9 rfl rfl rfl rfl ?_ | refine mobs_move rfl rfl rfl ?_ | refine m_load rfl rfl rfl (by assumption) ?_ | refine mobs_nil ?_ | refine wd_nil ?_ | refine wd_skip rfl rfl ?_ | refine wd_loudSkip rfl rfl ?_ | refine wd_move rfl rfl rfl ?_ | refine wd_assign rfl rfl rfl ?_ | refine wd_pick rfl rfl rfl rfl ?_ | refine d_load rfl rfl rfl (by assumption) ?_ | refine d_lenI rfl rfl rfl rfl rfl rfl (by assumption) ?_ | refine wp_condT rfl ?_ | refine wp_condF rfl ?_ | refine wp_region ?_ | refine wp_seq ?_ | refine wp_skip ?_ | refine wp_exit ?_ | refine wp_block ?_)
  refine wp_loop (fun q T M H3 => ∃ (t : Nat) (Y : List AV) (rs : List Int), q = m - t ∧ t ≤ m ∧ H3.next = H2.next ∧ H3.gl = H2.gl ∧ (∀ c, c ≠ bs → c ≠ br → H3.get c = H2.get c) ∧ H3.get bs = some (.cells (ivs (bump (quoL total (sumL l) l) ((fl g' l.length).take t))) 3 1) ∧ H3.get br = some (.cells (ivs rs) 3 1) ∧ rs.length = l.length ∧
      (∀ i, i < l.length → rs[i]? = some (restF (remL total (sumL l) l) g' t i)) ∧ M = [] ∧ T = (iv total :: x :: lget Y 0 :: lget Y 1 :: lget Y 2 :: lget Y 3 :: lget Y 4 :: .slu bs 0 l.length 1 :: .slu br 0 l.length 1 :: iv (m - t : Nat) :: lget Y 5 :: lget Y 6 :: lget Y 7 :: lget Y 8 :: lget Y 9 :: lget Y 10 :: lget Y 11 :: lget Y 12 :: lget Y 13 :: lget Y 14 :: lget Y 15 :: lget Y 16 :: lget Y 17 :: lget Y 18 :: lget Y 19 :: lget Y 20 :: lget Y 21 :: lget Y 22 :: lget Y 23 :: lget Y 24 :: lget Y 25 :: lget Y 26 :: lget Y 27 :: lget Y 28 :: lget Y 29 :: lget Y 30 :: lget Y 31 :: lget Y 32 :: lget Y 33 :: lget Y 34 :: lget Y 35 :: lget Y 36 :: lget Y 37 :: lget Y 38 :: lget Y 39 :: lget Y 40 :: lget Y 41 :: lget Y 42 :: lget Y 43 :: lget Y 44 :: lget Y 45 :: lget Y 46 :: lget Y 47 :: lget Y 48 :: lget Y 49 :: lget Y 50 :: lget Y 51 :: lget Y 52 :: lget Y 53 :: lget Y 54 :: lget Y 55 :: lget Y 56 :: lget Y 57 :: lget Y 58 :: lget Y 59 :: lget Y 60 :: lget Y 61 :: lget Y 62 :: lget Y 63 :: lget Y 64 :: lget Y 65 :: lget Y 66 :: lget Y 67 :: lget Y 68 :: lget Y 69 :: lget Y 70 :: lget Y 71 :: lget Y 72 :: lget Y 73 :: lget Y 74 :: lget Y 75 :: lget Y 76 :: lget Y 77 :: lget Y 78 :: lget Y 79 :: lget Y 80 :: lget Y 81 :: lget Y 82 :: lget Y 83 :: lget Y 84 :: [])) m
    ⟨0, [_,_,_,_,_,_,_,_,_,_,_,_,_,_,_,_,_,_,_,_,_,_,_,_,_,_,_,_,_,_,_,_,_,_,_,_,_,_,_,_,_,_,_,_,_,_,_,_,_,_,_,_,_,_,_,_,_,_,_,_,_,_,_,_,_,_,_,_,_,_,_,_,_,_,_,_,_,_,_,_,_,_,_,_,_], remL total (sumL l) l, rfl, Nat.zero_le _, rfl, rfl, fun _ _ _ => rfl, hgs, hgr, hrn, hinit, rfl, rfl⟩ ?_
  rintro q T M H3 ⟨t, Y, rs, hq1, htm, n3, gl3, g3, gs3, gr3, lr3, hrs, rfl, rfl⟩
  have k3 : Keeps H' H3 := ⟨by have := k2.nx; omega, gl3.trans k2.gl, fun c hc => (g3 c (by omega) (by omega)).trans (k2.get c hc)⟩
  have hx3 := hx.keep ho k3
  have hbl : (bump (quoL total (sumL l) l) ((fl g' l.length).take t)).length = l.length := by rw [bump_length, hqn]
  repeat (first | refine wops_nil ?_ | refine zq1 rfl rfl ?_ | refine zq2 rfl rfl ?_ | refine zq3 rfl rfl ?_ | refine zq4 rfl rfl rfl rfl (inc (by omega)) ?_ | refine zq5 rfl rfl rfl rfl rfl (by assumption) ?_ | refine zq6 rfl rfl (by assumption) ?_ | refine zq7 rfl rfl rfl ?_ | refine zq8 rfl rfl rfl ?_ | refine zq9 rfl rfl rfl rfl ?_ | refine mobs_move rfl rfl rfl ?_ | refine m_load rfl rfl rfl (by assumption) ?_ | refine mobs_nil ?_ | refine wd_nil ?_ | refine wd_skip rfl rfl ?_ | refine wd_loudSkip rfl rfl ?_ | refine wd_move rfl rfl rfl ?_ | refine wd_assign rfl rfl rfl ?_ | refine wd_pick rfl rfl rfl rfl ?_ | refine d_load rfl rfl rfl (by assumption) ?_ | refine d_lenI rfl rfl rfl rfl rfl rfl (by assumption) ?_ | refine wp_condT rfl ?_ | refine wp_condF rfl ?_ | refine wp_region ?_ | refine wp_seq ?_ | refine wp_skip ?_ | refine wp_exit ?_ | refine wp_block ?_)
  refine wops_cons (wop_cmp rfl rfl rfl rfl rfl (fun h => ?_) (fun h => ?_))
  rotate_left
  · have h : ¬ (((m - t : Nat) : Int) > 0) := of_decide_eq_false h
    have e : t = m := by omega
    subst e
    repeat (first | refine wops_nil ?_ | refine zq1 rfl rfl ?_ | refine zq2 rfl rfl ?_ | refine zq3 rfl rfl ?_ | refine zq4 rfl rfl rfl rfl (inc (by omega)) ?_ | refine zq5 rfl rfl rfl rfl rfl (by assumption) ?_ | refine zq6 rfl rfl (by assumption) ?_ | refine zq7 rfl rfl rfl ?_ | refine zq8 rfl rfl rfl ?_ | refine zq9 rfl rfl rfl rfl ?_ | refine mobs_move rfl rfl rfl ?_ | refine m_load rfl rfl rfl (by assumption) ?_ | refine mobs_nil ?_ | refine wd_nil ?_ | refine wd_skip rfl rfl ?_ | refine wd_loudSkip rfl rfl ?_ | refine wd_move rfl rfl rfl ?_ | refine wd_assign rfl rfl rfl ?_ | refine wd_pick rfl rfl rfl rfl ?_ | refine d_load rfl rfl rfl (by assumption) ?_ | refine d_lenI rfl rfl rfl rfl rfl rfl (by assumption) ?_ | refine wp_condT rfl ?_ | refine wp_condF rfl ?_ | refine wp_region ?_ | refine wp_seq ?_ | refine wp_skip ?_ | refine wp_exit ?_ | refine wp_block ?_)
    refine wp_ret ?_
    refine ⟨_, _, rfl, hk H3 _ k3 (by omega) ?_ (fun c hc => by cases hc; omega)⟩
    exact ⟨by rw [ivs_length, hbl], bs2, rfl, _, _, _, gs3, fun j v hv => by rw [Nat.zero_add]; exact hv⟩
  have h : ((m - t : Nat) : Int) > 0 := of_decide_eq_true h
  have htm' : t < m := by omega
  clear h
  have hSr : Sl H3 (.slu br 0 l.length 1) (ivs rs) := ⟨by rw [ivs_length, lr3], br2, rfl, _, _, _, gr3, fun j v hv => by rw [Nat.zero_add]; exact hv⟩
  repeat (first | refine wops_nil ?_ | refine zq1 rfl rfl ?_ | refine zq2 rfl rfl ?_ | refine zq3 rfl rfl ?_ | refine zq4 rfl rfl rfl rfl (inc (by omega)) ?_ | refine zq5 rfl rfl rfl rfl rfl (by assumption) ?_ | refine zq6 rfl rfl (by assumption) ?_ | refine zq7 rfl rfl rfl ?_ | refine zq8 rfl rfl rfl ?_ | refine zq9 rfl rfl rfl rfl ?_ | refine mobs_move rfl rfl rfl ?_ | refine m_load rfl rfl rfl (by assumption) ?_ | refine mobs_nil ?_ | refine wd_nil ?_ | refine wd_skip rfl rfl ?_ | refine wd_loudSkip rfl rfl ?_ | refine wd_move rfl rfl rfl ?_ | refine wd_assign rfl rfl rfl ?_ | refine wd_pick rfl rfl rfl rfl ?_ | refine d_load rfl rfl rfl (by assumption) ?_ | refine d_lenI rfl rfl rfl rfl rfl rfl (by assumption) ?_ | refine wp_condT rfl ?_ | refine wp_condF rfl ?_ | refine wp_region ?_ | refine wp_seq ?_ | refine wp_skip ?_ | refine wp_exit ?_ | refine wp_block ?_)
  refine wp_loop (fun q2 T M H4 => H4 = H3 ∧ ∃ (i best : Nat) (Y : List AV), q2 = l.length - i ∧ 1 ≤ i ∧ i ≤ l.length ∧ best < i ∧ (∀ j, j < i → restF (remL total (sumL l) l) g' t j ≤ restF (remL total (sumL l) l) g' t best ∧ (j < best → restF (remL total (sumL l) l) g' t j < restF (remL total (sumL l) l) g' t best)) ∧ M = [] ∧
      T = (iv total :: x :: lget Y 0 :: lget Y 1 :: lget Y 2 :: lget Y 3 :: lget Y 4 :: .slu bs 0 l.length 1 :: .slu br 0 l.length 1 :: iv (m - t : Nat) :: lget Y 5 :: iv (best : Nat) :: iv (i : Nat) :: lget Y 6 :: lget Y 7 :: lget Y 8 :: lget Y 9 :: lget Y 10 :: lget Y 11 :: lget Y 12 :: lget Y 13 :: lget Y 14 :: lget Y 15 :: lget Y 16 :: lget Y 17 :: lget Y 18 :: lget Y 19 :: lget Y 20 :: lget Y 21 :: lget Y 22 :: lget Y 23 :: lget Y 24 :: lget Y 25 :: lget Y 26 :: lget Y 27 :: lget Y 28 :: lget Y 29 :: lget Y 30 :: lget Y 31 :: lget Y 32 :: lget Y 33 :: lget Y 34 :: lget Y 35 :: lget Y 36 :: lget Y 37 :: lget Y 38 :: lget Y 39 :: lget Y 40 :: lget Y 41 :: lget Y 42 :: lget Y 43 :: lget Y 44 :: lget Y 45 :: lget Y 46 :: lget Y 47 :: lget Y 48 :: lget Y 49 :: lget Y 50 :: lget Y 51 :: lget Y 52 :: lget Y 53 :: lget Y 54 :: lget Y 55 :: lget Y 56 :: lget Y 57 :: lget Y 58 :: lget Y 59 :: lget Y 60 :: lget Y 61 :: lget Y 62 :: lget Y 63 :: lget Y 64 :: lget Y 65 :: lget Y 66 :: lget Y 67 :: lget Y 68 :: lget Y 69 :: lget Y 70 :: lget Y 71 :: lget Y 72 :: lget Y 73 :: lget Y 74 :: lget Y 75 :: lget Y 76 :: lget Y 77 :: lget Y 78 :: lget Y 79 :: lget Y 80 :: lget Y 81 :: lget Y 82 :: [])) (l.length - 1)
    ⟨rfl, 1, 0, [_,_,_,_,_,_,_,_,_,_,_,_,_,_,_,_,_,_,_,_,_,_,_,_,_,_,_,_,_,_,_,_,_,_,_,_,_,_,_,_,_,_,_,_,_,_,_,_,_,_,_,_,_,_,_,_,_,_,_,_,_,_,_,_,_,_,_,_,_,_,_,_,_,_,_,_,_,_,_,_,_,_,_], rfl, Nat.le_refl _, hl0, by decide, (fun j hj => by rw [show j = 0 by omega]; exact ⟨Int.le_refl _, fun h => by omega⟩), rfl, rfl⟩ ?_
  rintro q2 T M H4 ⟨rfl, i, best, Y, hq2, hi1, hi2, hbi, hmax, rfl, rfl⟩
  repeat (first | refine wops_nil ?_ | refine zq1 rfl rfl ?_ | refine zq2 rfl rfl ?_ | refine zq3 rfl rfl ?_ | refine zq4 rfl rfl rfl rfl (inc (by omega)) ?_ | refine zq5 rfl rfl rfl rfl rfl (by assumption) ?_ | refine zq6 rfl rfl (by assumption) ?_ | refine zq7 rfl rfl rfl ?_ | refine zq8 rfl rfl rfl ?_ | refine zq9 rfl rfl rfl rfl ?_ | refine mobs_move rfl rfl rfl ?_ | refine m_load rfl rfl rfl (by assumption) ?_ | refine mobs_nil ?_ | refine wd_nil ?_ | refine wd_skip rfl rfl ?_ | refine wd_loudSkip rfl rfl ?_ | refine wd_move rfl rfl rfl ?_ | refine wd_assign rfl rfl rfl ?_ | refine wd_pick rfl rfl rfl rfl ?_ | refine d_load rfl rfl rfl (by assumption) ?_ | refine d_lenI rfl rfl rfl rfl rfl rfl (by assumption) ?_ | refine wp_condT rfl ?_ | refine wp_condF rfl ?_ | refine wp_region ?_ | refine wp_seq ?_ | refine wp_skip ?_ | refine wp_exit ?_ | refine wp_block ?_)
  refine wops_cons (wop_cmp rfl rfl rfl rfl rfl (fun h => ?_) (fun h => ?_))
  · have h : (i : Int) < l.length := of_decide_eq_true h
    have hil : i < l.length := by omega
    clear h
    repeat (first | refine wops_nil ?_ | refine zq1 rfl rfl ?_ | refine zq2 rfl rfl ?_ | refine zq3 rfl rfl ?_ | refine zq4 rfl rfl rfl rfl (inc (by omega)) ?_ | refine zq5 rfl rfl rfl rfl rfl (by assumption) ?_ | refine zq6 rfl rfl (by assumption) ?_ | refine zq7 rfl rfl rfl ?_ | refine zq8 rfl rfl rfl ?_ | refine zq9 rfl rfl rfl rfl ?_ | refine mobs_move rfl rfl rfl ?_ | refine m_load rfl rfl rfl (by assumption) ?_ | refine mobs_nil ?_ | refine wd_nil ?_ | refine wd_skip rfl rfl ?_ | refine wd_loudSkip rfl rfl ?_ | refine wd_move rfl rfl rfl ?_ | refine wd_assign rfl rfl rfl ?_ | refine wd_pick rfl rfl rfl rfl ?_ | refine d_load rfl rfl rfl (by assumption) ?_ | refine d_lenI rfl rfl rfl rfl rfl rfl (by assumption) ?_ | refine wp_condT rfl ?_ | refine wp_condF rfl ?_ | refine wp_region ?_ | refine wp_seq ?_ | refine wp_skip ?_ | refine wp_exit ?_ | refine wp_block ?_)
    refine wp_drawG rfl (by kernel_rfl) ?_
    repeat (first | refine wops_nil ?_ | refine zq1 rfl rfl ?_ | refine zq2 rfl rfl ?_ | refine zq3 rfl rfl ?_ | refine zq4 rfl rfl rfl rfl (inc (by omega)) ?_ | refine zq5 rfl rfl rfl rfl rfl (by assumption) ?_ | refine zq6 rfl rfl (by assumption) ?_ | refine zq7 rfl rfl rfl ?_ | refine zq8 rfl rfl rfl ?_ | refine zq9 rfl rfl rfl rfl ?_ | refine mobs_move rfl rfl rfl ?_ | refine m_load rfl rfl rfl (by assumption) ?_ | refine mobs_nil ?_ | refine wd_nil ?_ | refine wd_skip rfl rfl ?_ | refine wd_loudSkip rfl rfl ?_ | refine wd_move rfl rfl rfl ?_ | refine wd_assign rfl rfl rfl ?_ | refine wd_pick rfl rfl rfl rfl ?_ | refine d_load rfl rfl rfl (by assumption) ?_ | refine d_lenI rfl rfl rfl rfl rfl rfl (by assumption) ?_ | refine wp_condT rfl ?_ | refine wp_condF rfl ?_ | refine wp_region ?_ | refine wp_seq ?_ | refine wp_skip ?_ | refine wp_exit ?_ | refine wp_block ?_)
    refine d_indexI rfl rfl rfl hSr rfl (hrs i hil) fun p hp => ?_
    repeat (first | refine wops_nil ?_ | refine zq1 rfl rfl ?_ | refine zq2 rfl rfl ?_ | refine zq3 rfl rfl ?_ | refine zq4 rfl rfl rfl rfl (inc (by omega)) ?_ | refine zq5 rfl rfl rfl rfl rfl (by assumption) ?_ | refine zq6 rfl rfl (by assumption) ?_ | refine zq7 rfl rfl rfl ?_ | refine zq8 rfl rfl rfl ?_ | refine zq9 rfl rfl rfl rfl ?_ | refine mobs_move rfl rfl rfl ?_ | refine m_load rfl rfl rfl (by assumption) ?_ | refine mobs_nil ?_ | refine wd_nil ?_ | refine wd_skip rfl rfl ?_ | refine wd_loudSkip rfl rfl ?_ | refine wd_move rfl rfl rfl ?_ | refine wd_assign rfl rfl rfl ?_ | refine wd_pick rfl rfl rfl rfl ?_ | refine d_load rfl rfl rfl (by assumption) ?_ | refine d_lenI rfl rfl rfl rfl rfl rfl (by assumption) ?_ | refine wp_condT rfl ?_ | refine wp_condF rfl ?_ | refine wp_region ?_ | refine wp_seq ?_ | refine wp_skip ?_ | refine wp_exit ?_ | refine wp_block ?_)
    refine d_indexI rfl rfl rfl hSr rfl (hrs best (by omega)) fun p hp => ?_
    repeat (first | refine wops_nil ?_ | refine zq1 rfl rfl ?_ | refine zq2 rfl rfl ?_ | refine zq3 rfl rfl ?_ | refine zq4 rfl rfl rfl rfl (inc (by omega)) ?_ | refine zq5 rfl rfl rfl rfl rfl (by assumption) ?_ | refine zq6 rfl rfl (by assumption) ?_ | refine zq7 rfl rfl rfl ?_ | refine zq8 rfl rfl rfl ?_ | refine zq9 rfl rfl rfl rfl ?_ | refine mobs_move rfl rfl rfl ?_ | refine m_load rfl rfl rfl (by assumption) ?_ | refine mobs_nil ?_ | refine wd_nil ?_ | refine wd_skip rfl rfl ?_ | refine wd_loudSkip rfl rfl ?_ | refine wd_move rfl rfl rfl ?_ | refine wd_assign rfl rfl rfl ?_ | refine wd_pick rfl rfl rfl rfl ?_ | refine d_load rfl rfl rfl (by assumption) ?_ | refine d_lenI rfl rfl rfl rfl rfl rfl (by assumption) ?_ | refine wp_condT rfl ?_ | refine wp_condF rfl ?_ | refine wp_region ?_ | refine wp_seq ?_ | refine wp_skip ?_ | refine wp_exit ?_ | refine wp_block ?_)
    refine wd_cmp rfl rfl rfl rfl rfl rfl (fun h => ?_) (fun h => ?_)
    · have h : restF (remL total (sumL l) l) g' t i > restF (remL total (sumL l) l) g' t best := of_decide_eq_true h
      repeat (first | refine wops_nil ?_ | refine zq1 rfl rfl ?_ | refine zq2 rfl rfl ?_ | refine zq3 rfl rfl ?_ | refine zq4 rfl rfl rfl rfl (inc (by omega)) ?_ | refine zq5 rfl rfl rfl rfl rfl (by assumption) ?_ | refine zq6 rfl rfl (by assumption) ?_ | refine zq7 rfl rfl rfl ?_ | refine zq8 rfl rfl rfl ?_ | refine zq9 rfl rfl rfl rfl ?_ | refine mobs_move rfl rfl rfl ?_ | refine m_load rfl rfl rfl (by assumption) ?_ | refine mobs_nil ?_ | refine wd_nil ?_ | refine wd_skip rfl rfl ?_ | refine wd_loudSkip rfl rfl ?_ | refine wd_move rfl rfl rfl ?_ | refine wd_assign rfl rfl rfl ?_ | refine wd_pick rfl rfl rfl rfl ?_ | refine d_load rfl rfl rfl (by assumption) ?_ | refine d_lenI rfl rfl rfl rfl rfl rfl (by assumption) ?_ | refine wp_condT rfl ?_ | refine wp_condF rfl ?_ | refine wp_region ?_ | refine wp_seq ?_ | refine wp_skip ?_ | refine wp_exit ?_ | refine wp_block ?_)
      refine ⟨l.length - (i + 1), by omega, rfl, i + 1, i, [_,_,_,_,_,_,_,_,_,_,_,_,_,_,_,_,_,_,_,_,_,_,_,_,_,_,_,_,_,_,_,_,_,_,_,_,_,_,_,_,_,_,_,_,_,_,_,_,_,_,_,_,_,_,_,_,_,_,_,_,_,_,_,_,_,_,_,_,_,_,_,_,_,_,_,_,_,_,_,_,_,_,_], rfl, by omega, by omega, by omega, fun j hj => ?_, rfl, rfl⟩
      rcases Nat.lt_or_ge j i with c | c
      · have := (hmax j c).1
        exact ⟨by omega, fun _ => by omega⟩
      · rw [show j = i by omega]; exact ⟨Int.le_refl _, fun h => by omega⟩
    · have h : ¬ restF (remL total (sumL l) l) g' t i > restF (remL total (sumL l) l) g' t best := of_decide_eq_false h
      repeat (first | refine wops_nil ?_ | refine zq1 rfl rfl ?_ | refine zq2 rfl rfl ?_ | refine zq3 rfl rfl ?_ | refine zq4 rfl rfl rfl rfl (inc (by omega)) ?_ | refine zq5 rfl rfl rfl rfl rfl (by assumption) ?_ | refine zq6 rfl rfl (by assumption) ?_ | refine zq7 rfl rfl rfl ?_ | refine zq8 rfl rfl rfl ?_ | refine zq9 rfl rfl rfl rfl ?_ | refine mobs_move rfl rfl rfl ?_ | refine m_load rfl rfl rfl (by assumption) ?_ | refine mobs_nil ?_ | refine wd_nil ?_ | refine wd_skip rfl rfl ?_ | refine wd_loudSkip rfl rfl ?_ | refine wd_move rfl rfl rfl ?_ | refine wd_assign rfl rfl rfl ?_ | refine wd_pick rfl rfl rfl rfl ?_ | refine d_load rfl rfl rfl (by assumption) ?_ | refine d_lenI rfl rfl rfl rfl rfl rfl (by assumption) ?_ | refine wp_condT rfl ?_ | refine wp_condF rfl ?_ | refine wp_region ?_ | refine wp_seq ?_ | refine wp_skip ?_ | refine wp_exit ?_ | refine wp_block ?_)
      refine ⟨l.length - (i + 1), by omega, rfl, i + 1, best, [_,_,_,_,_,_,_,_,_,_,_,_,_,_,_,_,_,_,_,_,_,_,_,_,_,_,_,_,_,_,_,_,_,_,_,_,_,_,_,_,_,_,_,_,_,_,_,_,_,_,_,_,_,_,_,_,_,_,_,_,_,_,_,_,_,_,_,_,_,_,_,_,_,_,_,_,_,_,_,_,_,_,_], rfl, by omega, by omega, by omega, fun j hj => ?_, rfl, rfl⟩
      rcases Nat.lt_or_ge j i with c | c
      · exact hmax j c
      · rw [show j = i by omega]; exact ⟨by omega, fun h => by omega⟩
  have h : ¬ ((i : Int) < l.length) := of_decide_eq_false h
  have e : i = l.length := by omega
  subst e
  clear h hq2 hi1 hi2
  have hnb : g' t = (best : Int) := next_best hsd hpm hrem0 (show t < l.length by omega) hbi hmax
  obtain ⟨v, hv⟩ := l_some (l := bump (quoL total (sumL l) l) ((fl g' l.length).take t)) (show best < _ by rw [hbl]; exact hbi)
  have hpA : At H4 (.ptr bs best) (iv v) := ⟨bs2, _, _, _, gs3, ivs_get hv⟩
  have hvb := bump_bound hq0 ht.1 v (List.mem_of_getElem? hv)
  rw [List.length_take] at hvb
  have hbsl : best < (ivs (bump (quoL total (sumL l) l) ((fl g' l.length).take t))).length := by rw [ivs_length, hbl]; exact hbi
  have hbrl : best < (ivs rs).length := by rw [ivs_length, lr3]; exact hbi
  repeat (first | refine wops_nil ?_ | refine zq1 rfl rfl ?_ | refine zq2 rfl rfl ?_ | refine zq3 rfl rfl ?_ | refine zq4 rfl rfl rfl rfl (inc (by omega)) ?_ | refine zq5 rfl rfl rfl rfl rfl (by assumption) ?_ | refine zq6 rfl rfl (by assumption) ?_ | refine zq7 rfl rfl rfl ?_ | refine zq8 rfl rfl rfl ?_ | refine zq9 rfl rfl rfl rfl ?_ | refine mobs_move rfl rfl rfl ?_ | refine m_load rfl rfl rfl (by assumption) ?_ | refine mobs_nil ?_ | refine wd_nil ?_ | refine wd_skip rfl rfl ?_ | refine wd_loudSkip rfl rfl ?_ | refine wd_move rfl rfl rfl ?_ | refine wd_assign rfl rfl rfl ?_ | refine wd_pick rfl rfl rfl rfl ?_ | refine d_load rfl rfl rfl (by assumption) ?_ | refine d_lenI rfl rfl rfl rfl rfl rfl (by assumption) ?_ | refine wp_condT rfl ?_ | refine wp_condF rfl ?_ | refine wp_region ?_ | refine wp_seq ?_ | refine wp_skip ?_ | refine wp_exit ?_ | refine wp_block ?_)
  refine wops_cons (o_indexSlu rfl rfl rfl rfl hbi ?_)
  repeat (first | refine wops_nil ?_ | refine zq1 rfl rfl ?_ | refine zq2 rfl rfl ?_ | refine zq3 rfl rfl ?_ | refine zq4 rfl rfl rfl rfl (inc (by omega)) ?_ | refine zq5 rfl rfl rfl rfl rfl (by assumption) ?_ | refine zq6 rfl rfl (by assumption) ?_ | refine zq7 rfl rfl rfl ?_ | refine zq8 rfl rfl rfl ?_ | refine zq9 rfl rfl rfl rfl ?_ | refine mobs_move rfl rfl rfl ?_ | refine m_load rfl rfl rfl (by assumption) ?_ | refine mobs_nil ?_ | refine wd_nil ?_ | refine wd_skip rfl rfl ?_ | refine wd_loudSkip rfl rfl ?_ | refine wd_move rfl rfl rfl ?_ | refine wd_assign rfl rfl rfl ?_ | refine wd_pick rfl rfl rfl rfl ?_ | refine d_load rfl rfl rfl (by assumption) ?_ | refine d_lenI rfl rfl rfl rfl rfl rfl (by assumption) ?_ | refine wp_condT rfl ?_ | refine wp_condF rfl ?_ | refine wp_region ?_ | refine wp_seq ?_ | refine wp_skip ?_ | refine wp_exit ?_ | refine wp_block ?_)
  refine wops_cons (wop_bin (op := .add) (v := .int .i64 (v + 1)) rfl rfl rfl rfl ?_ ?_)
  · show some (Value.int .i64 (IntKind.i64.wrap (v + 1))) = _
    rw [wrap_id (by omega) (by omega)]
  repeat (first | refine wops_nil ?_ | refine zq1 rfl rfl ?_ | refine zq2 rfl rfl ?_ | refine zq3 rfl rfl ?_ | refine zq4 rfl rfl rfl rfl (inc (by omega)) ?_ | refine zq5 rfl rfl rfl rfl rfl (by assumption) ?_ | refine zq6 rfl rfl (by assumption) ?_ | refine zq7 rfl rfl rfl ?_ | refine zq8 rfl rfl rfl ?_ | refine zq9 rfl rfl rfl rfl ?_ | refine mobs_move rfl rfl rfl ?_ | refine m_load rfl rfl rfl (by assumption) ?_ | refine mobs_nil ?_ | refine wd_nil ?_ | refine wd_skip rfl rfl ?_ | refine wd_loudSkip rfl rfl ?_ | refine wd_move rfl rfl rfl ?_ | refine wd_assign rfl rfl rfl ?_ | refine wd_pick rfl rfl rfl rfl ?_ | refine d_load rfl rfl rfl (by assumption) ?_ | refine d_lenI rfl rfl rfl rfl rfl rfl (by assumption) ?_ | refine wp_condT rfl ?_ | refine wp_condF rfl ?_ | refine wp_region ?_ | refine wp_seq ?_ | refine wp_skip ?_ | refine wp_exit ?_ | refine wp_block ?_)
  refine wops_cons (o_indexSlu rfl rfl rfl rfl hbi ?_)
  refine wops_cons (o_store rfl rfl rfl gs3 hbsl rfl ?_)
  repeat (first | refine wops_nil ?_ | refine zq1 rfl rfl ?_ | refine zq2 rfl rfl ?_ | refine zq3 rfl rfl ?_ | refine zq4 rfl rfl rfl rfl (inc (by omega)) ?_ | refine zq5 rfl rfl rfl rfl rfl (by assumption) ?_ | refine zq6 rfl rfl (by assumption) ?_ | refine zq7 rfl rfl rfl ?_ | refine zq8 rfl rfl rfl ?_ | refine zq9 rfl rfl rfl rfl ?_ | refine mobs_move rfl rfl rfl ?_ | refine m_load rfl rfl rfl (by assumption) ?_ | refine mobs_nil ?_ | refine wd_nil ?_ | refine wd_skip rfl rfl ?_ | refine wd_loudSkip rfl rfl ?_ | refine wd_move rfl rfl rfl ?_ | refine wd_assign rfl rfl rfl ?_ | refine wd_pick rfl rfl rfl rfl ?_ | refine d_load rfl rfl rfl (by assumption) ?_ | refine d_lenI rfl rfl rfl rfl rfl rfl (by assumption) ?_ | refine wp_condT rfl ?_ | refine wp_condF rfl ?_ | refine wp_region ?_ | refine wp_seq ?_ | refine wp_skip ?_ | refine wp_exit ?_ | refine wp_block ?_)
  refine wops_cons (o_indexSlu rfl rfl rfl rfl hbi ?_)
  refine wops_cons (o_store rfl rfl rfl ((get_set_ne (by omega) (fun e => hbb e.symm)).trans gr3) hbrl rfl ?_)
  repeat (first | refine wops_nil ?_ | refine zq1 rfl rfl ?_ | refine zq2 rfl rfl ?_ | refine zq3 rfl rfl ?_ | refine zq4 rfl rfl rfl rfl (inc (by omega)) ?_ | refine zq5 rfl rfl rfl rfl rfl (by assumption) ?_ | refine zq6 rfl rfl (by assumption) ?_ | refine zq7 rfl rfl rfl ?_ | refine zq8 rfl rfl rfl ?_ | refine zq9 rfl rfl rfl rfl ?_ | refine mobs_move rfl rfl rfl ?_ | refine m_load rfl rfl rfl (by assumption) ?_ | refine mobs_nil ?_ | refine wd_nil ?_ | refine wd_skip rfl rfl ?_ | refine wd_loudSkip rfl rfl ?_ | refine wd_move rfl rfl rfl ?_ | refine wd_assign rfl rfl rfl ?_ | refine wd_pick rfl rfl rfl rfl ?_ | refine d_load rfl rfl rfl (by assumption) ?_ | refine d_lenI rfl rfl rfl rfl rfl rfl (by assumption) ?_ | refine wp_condT rfl ?_ | refine wp_condF rfl ?_ | refine wp_region ?_ | refine wp_seq ?_ | refine wp_skip ?_ | refine wp_exit ?_ | refine wp_block ?_)
  refine wops_cons (wop_bin (op := .sub) (v := .int .i64 ((m - (t + 1) : Nat) : Int)) rfl rfl rfl rfl ?_ ?_)
  · have h := subN1 (i := m - t) (by omega) (by omega)
    rw [show m - t - 1 = m - (t + 1) by omega] at h
    exact h
  repeat (first | refine wops_nil ?_ | refine zq1 rfl rfl ?_ | refine zq2 rfl rfl ?_ | refine zq3 rfl rfl ?_ | refine zq4 rfl rfl rfl rfl (inc (by omega)) ?_ | refine zq5 rfl rfl rfl rfl rfl (by assumption) ?_ | refine zq6 rfl rfl (by assumption) ?_ | refine zq7 rfl rfl rfl ?_ | refine zq8 rfl rfl rfl ?_ | refine zq9 rfl rfl rfl rfl ?_ | refine mobs_move rfl rfl rfl ?_ | refine m_load rfl rfl rfl (by assumption) ?_ | refine mobs_nil ?_ | refine wd_nil ?_ | refine wd_skip rfl rfl ?_ | refine wd_loudSkip rfl rfl ?_ | refine wd_move rfl rfl rfl ?_ | refine wd_assign rfl rfl rfl ?_ | refine wd_pick rfl rfl rfl rfl ?_ | refine d_load rfl rfl rfl (by assumption) ?_ | refine d_lenI rfl rfl rfl rfl rfl rfl (by assumption) ?_ | refine wp_condT rfl ?_ | refine wp_condF rfl ?_ | refine wp_region ?_ | refine wp_seq ?_ | refine wp_skip ?_ | refine wp_exit ?_ | refine wp_block ?_)
  refine ⟨m - (t + 1), by omega, t + 1, [_,_,_,_,_,_,_,_,_,_,_,_,_,_,_,_,_,_,_,_,_,_,_,_,_,_,_,_,_,_,_,_,_,_,_,_,_,_,_,_,_,_,_,_,_,_,_,_,_,_,_,_,_,_,_,_,_,_,_,_,_,_,_,_,_,_,_,_,_,_,_,_,_,_,_,_,_,_,_,_,_,_,_,_,_], rs.set best (-1), rfl, by omega, n3, gl3, fun c h1 h2 => ?_, ?_, ?_, by rw [List.length_set]; exact lr3, fun i hi => ?_, rfl, rfl⟩
  · exact (get_set_ne (by omega) h2).trans ((get_set_ne (by omega) h1).trans (g3 c h1 h2))
  · refine (get_set_ne (by omega) hbb).trans ((get_set_eq (by omega)).trans ?_)
    rw [List.take_add_one, fl_get (show t < l.length by omega), hnb]
    show some (AB.cells ((ivs _).set best (iv (v + 1))) 3 1) = some (AB.cells (ivs (bump _ (_ ++ [(best : Int)]))) 3 1)
    rw [bump_snoc, ivs_set, List.getD_eq_getElem?_getD, show ((best : Nat) : Int).toNat = best from rfl, hv]
    rfl
  · refine (get_set_eq (by omega)).trans ?_
    show some (AB.cells ((ivs rs).set best (iv (-1))) 3 1) = _
    rw [ivs_set]
  · rw [rest_succ, List.getElem?_set, hnb]
    by_cases c : best = i
    · rw [if_pos c, if_pos (by omega), if_pos (by omega)]
    · rw [if_neg c, if_neg (by omega)]
      exact hrs i hi
end Go.Ev
namespace Go.Ev
open Go.Proofs
variable {O : CallF} (hq : Quiet O)
include hq
theorem c26e (H : AH) (x : AV) (l : List Int) (total : Int) (hx : Sl H x (ivs l)) (h : ¬ ((0 ≤ total ∧ total ≤ 999999999) ∧ weightE l = 0)) (K : AV → AH → Prop)
    (hk : K (.tup [.v (.slice none 0 0), iv (if 0 ≤ total ∧ total ≤ 999999999 then weightE l else 3)]) H) : Ca (ENV O) 26 [iv total, x] H K := by
  refine ca_intro (hq _ _ _ rfl) (fn := Tryz.f26) (by rfl) rfl ?_
  repeat (first | refine wops_nil ?_ | refine zq1 rfl rfl ?_ | refine zq2 rfl rfl ?_ | refine zq3 rfl rfl ?_ | refine zq4 rfl rfl rfl rfl (inc (by omega)) ?_ | refine zq5 rfl rfl rfl rfl rfl (by assumption) ?_ | refine zq6 rfl rfl (by assumption) ?_ | refine zq7 rfl rfl rfl ?_ | refine zq8 rfl rfl rfl ?_ | refine zq9 rfl rfl rfl rfl ?_ | refine wp_condT rfl ?_ | refine wp_condF rfl ?_ | refine wp_region ?_ | refine wp_seq ?_ | refine wp_skip ?_ | refine wp_exit ?_ | refine wp_block ?_)
  refine wops_cons (wop_callF rfl rfl rfl (fn := Tryz.f60) (by rfl) ?_)
  refine c60 hq H total 0 999999999 _ ⟨Nat.le_refl _, ?_⟩
  by_cases ht : 0 ≤ total ∧ total ≤ 999999999
  · rw [decide_eq_true ht]
    rw [if_pos ht] at hk
    have hw : weightE l ≠ 0 := fun e => h ⟨ht, e⟩
    repeat (first | refine wops_nil ?_ | refine zq1 rfl rfl ?_ | refine zq2 rfl rfl ?_ | refine zq3 rfl rfl ?_ | refine zq4 rfl rfl rfl rfl (inc (by omega)) ?_ | refine zq5 rfl rfl rfl rfl rfl (by assumption) ?_ | refine zq6 rfl rfl (by assumption) ?_ | refine zq7 rfl rfl rfl ?_ | refine zq8 rfl rfl rfl ?_ | refine zq9 rfl rfl rfl rfl ?_ | refine wp_condT rfl ?_ | refine wp_condF rfl ?_ | refine wp_region ?_ | refine wp_seq ?_ | refine wp_skip ?_ | refine wp_exit ?_ | refine wp_block ?_)
    refine wops_cons (wop_callF rfl rfl rfl (fn := Tryz.f61) (by rfl) ?_)
    refine c61 hq H x l hx _ ⟨Nat.le_refl _, ?_⟩
    rw [if_neg hw]
    repeat (first | refine wops_nil ?_ | refine zq1 rfl rfl ?_ | refine zq2 rfl rfl ?_ | refine zq3 rfl rfl ?_ | refine zq4 rfl rfl rfl rfl (inc (by omega)) ?_ | refine zq5 rfl rfl rfl rfl rfl (by assumption) ?_ | refine zq6 rfl rfl (by assumption) ?_ | refine zq7 rfl rfl rfl ?_ | refine zq8 rfl rfl rfl ?_ | refine zq9 rfl rfl rfl rfl ?_ | refine wp_condT rfl ?_ | refine wp_condF rfl ?_ | refine wp_region ?_ | refine wp_seq ?_ | refine wp_skip ?_ | refine wp_exit ?_ | refine wp_block ?_)
    refine wops_cons (wop_cmp rfl rfl rfl rfl rfl (fun h => ?_) (fun h => ?_))
    rotate_left
    · have h2 : ¬ ((weightE l) ≠ 0) := by first | exact of_decide_eq_false h | (simpa using h)
      exact absurd hw h2
    repeat (first | refine wops_nil ?_ | refine zq1 rfl rfl ?_ | refine zq2 rfl rfl ?_ | refine zq3 rfl rfl ?_ | refine zq4 rfl rfl rfl rfl (inc (by omega)) ?_ | refine zq5 rfl rfl rfl rfl rfl (by assumption) ?_ | refine zq6 rfl rfl (by assumption) ?_ | refine zq7 rfl rfl rfl ?_ | refine zq8 rfl rfl rfl ?_ | refine zq9 rfl rfl rfl rfl ?_ | refine wp_condT rfl ?_ | refine wp_condF rfl ?_ | refine wp_region ?_ | refine wp_seq ?_ | refine wp_skip ?_ | refine wp_exit ?_ | refine wp_block ?_)
    refine wp_ret ?_
    exact ⟨_, _, rfl, hk⟩
  · rw [decide_eq_false ht]
    rw [if_neg ht] at hk
    repeat (first | refine wops_nil ?_ | refine zq1 rfl rfl ?_ | refine zq2 rfl rfl ?_ | refine zq3 rfl rfl ?_ | refine zq4 rfl rfl rfl rfl (inc (by omega)) ?_ | refine zq5 rfl rfl rfl rfl rfl (by assumption) ?_ | refine zq6 rfl rfl (by assumption) ?_ | refine zq7 rfl rfl rfl ?_ | refine zq8 rfl rfl rfl ?_ | refine zq9 rfl rfl rfl rfl ?_ | refine wp_condT rfl ?_ | refine wp_condF rfl ?_ | refine wp_region ?_ | refine wp_seq ?_ | refine wp_skip ?_ | refine wp_exit ?_ | refine wp_block ?_)
    refine wp_ret ?_
    exact ⟨_, _, rfl, hk⟩
theorem c29e (H : AH) (key n : Int) (h : ¬ (1 ≤ key ∧ key ≤ 2147483646 ∧ 0 ≤ n ∧ n ≤ 256)) (K : AV → AH → Prop) (hk : K (.tup [.v (.slice none 0 0), iv 3]) H) : Ca (ENV O) 29 [iv key, iv n] H K := by
  refine ca_intro (hq _ _ _ rfl) (fn := Tryz.f29) (by rfl) rfl ?_
  repeat (first | refine wops_nil ?_ | refine zq1 rfl rfl ?_ | refine zq2 rfl rfl ?_ | refine zq3 rfl rfl ?_ | refine zq4 rfl rfl rfl rfl (inc (by omega)) ?_ | refine zq5 rfl rfl rfl rfl rfl (by assumption) ?_ | refine zq6 rfl rfl (by assumption) ?_ | refine zq7 rfl rfl rfl ?_ | refine zq8 rfl rfl rfl ?_ | refine zq9 rfl rfl rfl rfl ?_ | refine wp_condT rfl ?_ | refine wp_condF rfl ?_ | refine wp_region ?_ | refine wp_seq ?_ | refine wp_skip ?_ | refine wp_exit ?_ | refine wp_block ?_)
  refine wops_cons (wop_callF rfl rfl rfl (fn := Tryz.f60) (by rfl) ?_)
  refine c60 hq H key 1 2147483646 _ ⟨Nat.le_refl _, ?_⟩
  by_cases h1 : 1 ≤ key ∧ key ≤ 2147483646
  · rw [decide_eq_true h1]
    repeat (first | refine wops_nil ?_ | refine zq1 rfl rfl ?_ | refine zq2 rfl rfl ?_ | refine zq3 rfl rfl ?_ | refine zq4 rfl rfl rfl rfl (inc (by omega)) ?_ | refine zq5 rfl rfl rfl rfl rfl (by assumption) ?_ | refine zq6 rfl rfl (by assumption) ?_ | refine zq7 rfl rfl rfl ?_ | refine zq8 rfl rfl rfl ?_ | refine zq9 rfl rfl rfl rfl ?_ | refine wp_condT rfl ?_ | refine wp_condF rfl ?_ | refine wp_region ?_ | refine wp_seq ?_ | refine wp_skip ?_ | refine wp_exit ?_ | refine wp_block ?_)
    refine wops_cons (wop_callF rfl rfl rfl (fn := Tryz.f60) (by rfl) ?_)
    refine c60 hq H n 0 256 _ ⟨Nat.le_refl _, ?_⟩
    rw [decide_eq_false (show ¬ (0 ≤ n ∧ n ≤ 256) by omega)]
    repeat (first | refine wops_nil ?_ | refine zq1 rfl rfl ?_ | refine zq2 rfl rfl ?_ | refine zq3 rfl rfl ?_ | refine zq4 rfl rfl rfl rfl (inc (by omega)) ?_ | refine zq5 rfl rfl rfl rfl rfl (by assumption) ?_ | refine zq6 rfl rfl (by assumption) ?_ | refine zq7 rfl rfl rfl ?_ | refine zq8 rfl rfl rfl ?_ | refine zq9 rfl rfl rfl rfl ?_ | refine wp_condT rfl ?_ | refine wp_condF rfl ?_ | refine wp_region ?_ | refine wp_seq ?_ | refine wp_skip ?_ | refine wp_exit ?_ | refine wp_block ?_)
    refine wp_ret ?_
    exact ⟨_, _, rfl, hk⟩
  · rw [decide_eq_false h1]
    repeat (first | refine wops_nil ?_ | refine zq1 rfl rfl ?_ | refine zq2 rfl rfl ?_ | refine zq3 rfl rfl ?_ | refine zq4 rfl rfl rfl rfl (inc (by omega)) ?_ | refine zq5 rfl rfl rfl rfl rfl (by assumption) ?_ | refine zq6 rfl rfl (by assumption) ?_ | refine zq7 rfl rfl rfl ?_ | refine zq8 rfl rfl rfl ?_ | refine zq9 rfl rfl rfl rfl ?_ | refine wp_condT rfl ?_ | refine wp_condF rfl ?_ | refine wp_region ?_ | refine wp_seq ?_ | refine wp_skip ?_ | refine wp_exit ?_ | refine wp_block ?_)
    refine wp_ret ?_
    exact ⟨_, _, rfl, hk⟩
end Go.Ev
namespace Go.Ev
open Go.Proofs
theorem wop_appendU {E : Env} {T : List AV} {H : AH} {ops : Array Oper} {o : Oper} {K : AV → AH → Prop} {c : Call} {t xt e e' : TypeId} {s x : Operand} {i : TypeInfo} {z : Value} {cs new : List AV} {b n : Nat} (ho : o.op = .call c) (hg : wantedA o ops T = true) (hc : c.callee = .builtin .append) (hargs : c.args.toList = [s, x]) (ht : c.argTypes[0]? = some t) (hxt : c.argTypes[1]? = some xt)
    (hu : runPure E.P (underlying t) = some (.slice e)) (hux : runPure E.P (underlying xt) = some (.slice e')) (hi : runPure E.P (typeInfo e) = some i) (hs : runPure E.P (sizeOf e) = some 1) (hz : runPure E.P (zeroValue e) = some z) (hz0 : z.cells.size = 1) (hb : i.bytes ≤ 2 ^ 8)
    (hlen : cs.length + n ≤ 2 ^ 30) (hr : H.next < 2 ^ 39) (hsx : av T s = .slu b 0 cs.length 1) (hgb : H.get b = some (.cells cs e 1)) (hn : lenA (av T x) = some n) (hf : firstA 1 n (av T x) H = some new) (h1 : new.all AV.one = true) (hnl : new.length = n)
    (hk : K (.slu H.next 0 (cs.length + n) 1) ((H.set b none).add (.cells (cs ++ new) e 1))) : WOp E ops o T H K := by
  have hlt : Nat.blt H.next (2 ^ 39) = true := Nat.ble_eq_true_of_le hr
  have e1 : Nat.ble ((cs.length + n) * i.bytes) (2 ^ 40) = true := Nat.ble_eq_true_of_le (by
    have := Nat.mul_le_mul hlen hb
    exact Nat.le_trans this (by decide))
  have e2 : Nat.ble (cs.length + n) (2 ^ 40) = true := Nat.ble_eq_true_of_le (Nat.le_trans hlen (by decide))
  have hf' : firstA (0 + 1) n (av T x) H = some new := hf
  have hall : (new.all AV.one && Nat.beq new.length (n * (0 + 1))) = true := by rw [h1, hnl]; simp
  refine wop_val (by rw [ho]; simp only [still, hc]) hg (r := .slu H.next 0 (cs.length + n) 1) (H' := (H.set b none).add (.cells (cs ++ new) e 1)) ?_ (Nat.le_succ _) hk
  unfold opEval; rw [ho]
  simp only [oCall, hc, oBuiltin, hargs, appendA, ht, hxt, hu, hux, isIntD, hi, hs, hz, hz0, hn]
  rw [if_pos (by decide), hf']
  simp only
  rw [if_pos hall]
  simp only [hsx, hgb]
  rw [if_pos (by rw [e1, e2]; simp)]
  simp only [newU, show (H.set b none).next = H.next from rfl, hlt, if_true, Option.map_some]
theorem wop_appendE {E : Env} {T : List AV} {H : AH} {ops : Array Oper} {o : Oper} {K : AV → AH → Prop} {c : Call} {t xt e e' e0 : TypeId} {s x : Operand} {i : TypeInfo} {z : Value} {new : List AV} {b n g : Nat} (ho : o.op = .call c) (hg : wantedA o ops T = true) (hc : c.callee = .builtin .append) (hargs : c.args.toList = [s, x]) (ht : c.argTypes[0]? = some t) (hxt : c.argTypes[1]? = some xt)
    (hu : runPure E.P (underlying t) = some (.slice e)) (hux : runPure E.P (underlying xt) = some (.slice e')) (hi : runPure E.P (typeInfo e) = some i) (hs : runPure E.P (sizeOf e) = some 1) (hz : runPure E.P (zeroValue e) = some z) (hz0 : z.cells.size = 1) (hb : i.bytes ≤ 2 ^ 8)
    (hlen : n ≤ 2 ^ 30) (hr : H.next < 2 ^ 39) (hsx : av T s = .slc b 0 0 0) (hgb : H.get b = some (.cells [] e0 g)) (hn : lenA (av T x) = some n) (hf : firstA 1 n (av T x) H = some new) (h1 : new.all AV.one = true) (hnl : new.length = n)
    (hk0 : n = 0 → K (.slc b 0 0 0) (H.set b (some (.cells [] e0 g)))) (hk : 0 < n → K (.slu H.next 0 n 1) (H.add (.cells new e 1))) : WOp E ops o T H K := by
  have hlt : Nat.blt H.next (2 ^ 39) = true := Nat.ble_eq_true_of_le hr
  have e1 : Nat.ble ((0 + n) * i.bytes) (2 ^ 40) = true := Nat.ble_eq_true_of_le (by
    rw [Nat.zero_add]
    have := Nat.mul_le_mul hlen hb
    exact Nat.le_trans this (by decide))
  have e2 : Nat.ble (0 + n) (2 ^ 40) = true := Nat.ble_eq_true_of_le (by rw [Nat.zero_add]; exact Nat.le_trans hlen (by decide))
  have hf' : firstA (0 + 1) n (av T x) H = some new := hf
  have hall : (new.all AV.one && Nat.beq new.length (n * (0 + 1))) = true := by rw [h1, hnl]; simp
  rcases Nat.eq_zero_or_pos n with h0 | h0
  · subst h0
    have : new = [] := List.eq_nil_of_length_eq_zero hnl
    subst this
    refine wop_val (by rw [ho]; simp only [still, hc]) hg (r := .slc b 0 0 0) (H' := H.set b (some (.cells [] e0 g))) ?_ (Nat.le_refl _) (hk0 rfl)
    unfold opEval; rw [ho]
    simp only [oCall, hc, oBuiltin, hargs, appendA, ht, hxt, hu, hux, isIntD, hi, hs, hz, hz0, hn]
    rw [if_pos (by decide), hf']
    simp only
    rw [if_pos (by decide)]
    simp only [hsx]
    rw [if_pos (by decide)]
    simp only [storeA, hgb]
    rw [if_pos (by decide)]
    rfl
  · refine wop_val (by rw [ho]; simp only [still, hc]) hg (r := .slu H.next 0 n 1) (H' := H.add (.cells new e 1)) ?_ (Nat.le_succ _) (hk h0)
    unfold opEval; rw [ho]
    simp only [oCall, hc, oBuiltin, hargs, appendA, ht, hxt, hu, hux, isIntD, hi, hs, hz, hz0, hn]
    rw [if_pos (by decide), hf']
    simp only
    rw [if_pos hall]
    simp only [hsx]
    rw [if_neg (by intro h; have := Nat.le_of_ble_eq_true h; omega)]
    simp only [hgb]
    rw [if_pos (by rw [e1, e2]; simp)]
    simp only [newU, hlt, if_true, Option.map_some, Nat.zero_add]
    simp
section
variable {O : CallF} {T : List AV} {H : AH} {ops : Array Oper} {o : Oper} {K : AV → AH → Prop}
theorem o_appendU {c : Call} {t xt e e' : TypeId} {s x : Operand} {z0 : Value} {cs new : List AV} {b n : Nat} (ho : o.op = .call c) (hg : wantedA o ops T = true) (hc : c.callee = .builtin .append) (hargs : c.args.toList = [s, x]) (ht : c.argTypes.toList = [t, xt]) [hu : TyS t e] [hux : TyS xt e'] [hs : Cell e] [hz : Zero e z0]
    (hlen : cs.length + n ≤ 2 ^ 30) (hr : H.next < 2 ^ 39) (hsx : av T s = .slu b 0 cs.length 1) (hgb : H.get b = some (.cells cs e 1)) (hn : lenA (av T x) = some n) (hf : firstA 1 n (av T x) H = some new) (h1 : new.all AV.one = true) (hnl : new.length = n)
    (hk : K (.slu H.next 0 (cs.length + n) 1) ((H.set b none).add (.cells (cs ++ new) e 1))) : WOp (ENV O) ops o T H K :=
  wop_appendU ho hg hc hargs (arg0 ht) (arg1 ht) hu.u hux.u hz.i hs.s hz.z (by rw [hz.c]; rfl) (Nat.le_of_ble_eq_true hz.b) hlen hr hsx hgb hn hf h1 hnl hk
theorem o_appendE {c : Call} {t xt e e' e0 : TypeId} {s x : Operand} {z0 : Value} {new : List AV} {b n g : Nat} (ho : o.op = .call c) (hg : wantedA o ops T = true) (hc : c.callee = .builtin .append) (hargs : c.args.toList = [s, x]) (ht : c.argTypes.toList = [t, xt]) [hu : TyS t e] [hux : TyS xt e'] [hs : Cell e] [hz : Zero e z0]
    (hlen : n ≤ 2 ^ 30) (hr : H.next < 2 ^ 39) (hsx : av T s = .slc b 0 0 0) (hgb : H.get b = some (.cells [] e0 g)) (hn : lenA (av T x) = some n) (hf : firstA 1 n (av T x) H = some new) (h1 : new.all AV.one = true) (hnl : new.length = n)
    (hk0 : n = 0 → K (.slc b 0 0 0) (H.set b (some (.cells [] e0 g)))) (hk : 0 < n → K (.slu H.next 0 n 1) (H.add (.cells new e 1))) : WOp (ENV O) ops o T H K :=
  wop_appendE ho hg hc hargs (arg0 ht) (arg1 ht) hu.u hux.u hz.i hs.s hz.z (by rw [hz.c]; rfl) (Nat.le_of_ble_eq_true hz.b) hlen hr hsx hgb hn hf h1 hnl hk0 hk
end
end Go.Ev
namespace Go.Ev
open Go.Proofs
def WDD (E : Env) (ops : Array Oper) (H0 : AH) (π0 : List Stp) (B : Nat → Prop) : List Stp → List AV → AH → (List AV → AH → Prop) → Prop
  | [], T, H, K => K T H
  | .mob i :: π, T, H, K => i ∈ mobsOf π0 ∧ (∀ o b, ops.toList[i]? = some o → rdA T o = some b → B b) ∧ WDr E ops H0 [.mob i] T H (fun T' H' => H' = H ∧ WDD E ops H0 π0 B π T' H K)
  | .loud i :: π, T, H, K => WDr E ops H0 [.loud i] T H (fun T' H' => (statJ ops π0 i = true ∨ ∀ b, B b → sameBlk (H'.get b) (H0.get b) = true) ∧ WDD E ops H0 π0 B π T' H' K)
  | .alc i :: π, T, H, K => WDr E ops H0 [.alc i] T H (fun T' H' => WDD E ops H0 π0 B π T' H' K)
section
variable {E : Env} {g : FuncId} {rd : Bool} {T : List AV} {M : List Nat} {H H0 : AH} {Q : QX} {ops : Array Oper}
theorem wdd_ev {π0 : List Stp} {B : Nat → Prop} {K : List AV → AH → Prop} : ∀ {π : List Stp} {T : List AV} {H : AH}, WDD E ops H0 π0 B π T H K → ∃ n T' H' L Hs, evDraw E.P E.F (E.evCall n) ops H0 π T H = some (T', H', L, Hs) ∧ K T' H' ∧ (∀ q ∈ Hs, statJ ops π0 q.1 = true ∨ ∀ b, B b → sameBlk (q.2.get b) (H0.get b) = true) ∧
    (∀ p ∈ L, p.1 ∈ mobsOf π0 ∧ (∃ o, ops.toList[p.1]? = some o ∧ (looksB o = false → p.2 = none)) ∧ ∀ b, p.2 = some b → B b)
  | [], T, H, h => ⟨0, T, H, [], [], rfl, h, fun _ h => by simp at h, fun _ h => by simp at h⟩
  | .mob i :: π, T, H, ⟨hi, hb, o, r, h1, h2, _, h3⟩ => by
    obtain ⟨n, T', H', L, Hs, k1, k2, k3, k4⟩ := wdd_ev h3
    rcases h2 with ⟨h2, rfl⟩ | ⟨h2, h4⟩
    · refine ⟨n, T', H', L, Hs, ?_, k2, k3, k4⟩
      simp only [evDraw, opT h1, h2]
      exact k1
    · refine ⟨n, T', H', (i, rdA T o) :: L, Hs, ?_, k2, k3, fun p hp => ?_⟩
      · simp only [evDraw, opT h1, h2, h4, k1]
      · rcases List.mem_cons.1 hp with rfl | hp
        · exact ⟨hi, ⟨o, h1, fun h => rdA_none h⟩, fun b hb' => hb o b h1 hb'⟩
        · exact k4 p hp
  | .loud i :: π, T, H, ⟨o, h1, n, r, H1, h2, h5, h3⟩ => by
    obtain ⟨m, T', H', L, Hs, k1, k2, k3, k4⟩ := wdd_ev h3
    refine ⟨n + m, T', H', L, (i, H1) :: Hs, ?_, k2, fun q hq => ?_, k4⟩
    · simp only [evDraw, opT h1]
      rw [evOp_le (evCall_le (Nat.le_add_right n m)) h2]
      simp only
      rw [evDraw_le (evCall_le (Nat.le_add_left m n)) k1]
    · rcases List.mem_cons.1 hq with rfl | hq
      · exact h5
      · exact k3 q hq
  | .alc i :: π, T, H, ⟨o, k, cs, t, H1, h1, h2, h3, h4⟩ => by
    obtain ⟨n, T', H', L, Hs, k1, k2, k3, k4⟩ := wdd_ev h4
    refine ⟨n, T', H', L, Hs, ?_, k2, k3, k4⟩
    simp only [evDraw, opT h1, h2, h3]
    exact k1
theorem wp_drawD (B : Nat → Prop) {id : Nat} {π : List Stp} (hp : E.pl.get (planKey g id) = some π) (h : WDD E ops H π B π T H fun T' H' => Q .normal T' M H') : Wp E g rd (.region id ops true) T M H Q := by
  obtain ⟨n, T', H', L, Hs, k1, k2, k3, k4⟩ := wdd_ev h
  refine ⟨n + 1, _, T', M, H', ?_, k2⟩
  show Ev.ev E.P E.F E.O E.pl (n + 1) g rd (.region id ops true) T M H = _
  rw [ev_draw, hp]
  simp only
  unfold evRegion
  rw [show evDraw E.P E.F (Ev.evCall E.P E.F E.O E.pl n) ops H π T H = _ from k1]
  have : (Hs.all fun q => keptB ops H L q.1 q.2) = true := by
    rw [List.all_eq_true]
    intro q hq
    unfold keptB
    rw [List.all_eq_true]
    intro p hp
    obtain ⟨h0, ⟨o, h1, h2⟩, h3⟩ := k4 p hp
    cases hb : p.2 with
    | none => rfl
    | some b =>
      rcases k3 q hq with hst | hst
      · have hst := List.all_eq_true.1 hst p.1 h0
        rw [h1] at hst
        cases hl : looksB o with
        | false => rw [h2 hl] at hb; cases hb
        | true =>
          simp only [hl, Bool.not_true, Bool.false_or] at hst
          simp [hst]
      · simp [hst b (h3 b hb)]
  simp only [this, if_true]
variable {π0 π : List Stp} {B : Nat → Prop} {i : Nat} {K : List AV → AH → Prop}
theorem wl_nil (h : K T H) : WDD E ops H0 π0 B [] T H K := h
theorem wl_mob (hi : i ∈ mobsOf π0) (h : WDr E ops H0 [.mob i] T H (fun T' H' => H' = H ∧ WDD E ops H0 π0 B π T' H K)) (hb : ∀ o b, ops.toList[i]? = some o → rdA T o = some b → B b) : WDD E ops H0 π0 B (.mob i :: π) T H K := ⟨hi, hb, h⟩
theorem wl_mob0 {o : Oper} (hi : i ∈ mobsOf π0) (h1 : ops.toList[i]? = some o) (hl : looksB o = false) (h : WDr E ops H0 [.mob i] T H (fun T' H' => H' = H ∧ WDD E ops H0 π0 B π T' H K)) : WDD E ops H0 π0 B (.mob i :: π) T H K :=
  ⟨hi, fun o' b h2 hb => (by rw [h1] at h2; cases h2; rw [rdA_none hl] at hb; cases hb), h⟩
theorem wl_alc (h : WDr E ops H0 [.alc i] T H (fun T' H' => WDD E ops H0 π0 B π T' H' K)) : WDD E ops H0 π0 B (.alc i :: π) T H K := h
theorem wl_loud (h : WDr E ops H0 [.loud i] T H (fun T' H' => (statJ ops π0 i = true ∨ ∀ b, B b → sameBlk (H'.get b) (H0.get b) = true) ∧ WDD E ops H0 π0 B π T' H' K)) : WDD E ops H0 π0 B (.loud i :: π) T H K := h
end
section
variable {O : CallF} {T : List AV} {H H0 : AH} {ops : Array Oper} {o : Oper} {i : Nat} {π : List Stp} {K : List AV → AH → Prop}
theorem d_build0 {t e : TypeId} {z0 : Value} (h1 : ops.toList[i]? = some o) (ho : o.op = .buildSlice t 0 #[]) [hu : TyS t e] [hs : Cell e] [hz : Zero e z0] (hr : H.next < 2 ^ 39)
    (hk : WDr (ENV O) ops H0 π (putA T o.dst (.slc H.next 0 0 0)) (H.add (.cells [] e 0)) K) : WDr (ENV O) ops H0 (.alc i :: π) T H K := by
  have hlt : Nat.blt H.next (2 ^ 39) = true := Nat.ble_eq_true_of_le hr
  refine ⟨o, some (0, 0), [], e, H.add (.cells [] e 0), h1, ?_, ?_, hk⟩
  · unfold laysA; rw [ho]
    simp only [ENV, hu.u, hs.s, hz.z, hz.c]
    rw [if_pos (by decide)]
    simp [fillA]
  · simp only [newA, hlt, if_true]
theorem d_build1 {t e : TypeId} {x : Operand} {z0 : Value} (h1 : ops.toList[i]? = some o) (ho : o.op = .buildSlice t 1 #[(0, x)]) [hu : TyS t e] [hs : Cell e] [hz : Zero e z0] (hx : (av T x).one = true) (hr : H.next < 2 ^ 39)
    (hk : WDr (ENV O) ops H0 π (putA T o.dst (.slc H.next 0 1 1)) (H.add (.cells [av T x] e 0)) K) : WDr (ENV O) ops H0 (.alc i :: π) T H K := by
  have hlt : Nat.blt H.next (2 ^ 39) = true := Nat.ble_eq_true_of_le hr
  refine ⟨o, some (1, 1), [av T x], e, H.add (.cells [av T x] e 0), h1, ?_, ?_, hk⟩
  · unfold laysA; rw [ho]
    simp only [ENV, hu.u, hs.s, hz.z, hz.c]
    rw [if_pos (by decide)]
    simp [fillA, cells_one hx, wr]
  · simp only [newA, hlt, if_true]
end
end Go.Ev
namespace Go.Ev
open Go.Proofs
def Pt (H0 : AH) (s v : AV) (cs : List AV) : Prop := lenA v = some cs.length ∧ ∀ H, (∀ b, s.own = some b → H.get b = H0.get b) → firstA 1 cs.length v H = some cs
theorem plain_nil {P : Program} {T : List AV} {o : Oper} {t e : TypeId} {x : Operand} {lo hi : Option Operand} (ho : o.op = .slice t x lo hi none) (hu : runPure P (underlying t) = some (.slice e)) (hs : runPure P (sizeOf e) = some 1) (hx : av T x = .v (.slice none 0 0))
    (hlh : (lo = none ∧ ∃ h, hi = some h ∧ av T h = iv 0) ∨ (hi = none ∧ ∃ l, lo = some l ∧ av T l = iv 0)) : plainVal P T o = some (.v (.slice none 0 0)) := by
  rcases hlh with ⟨rfl, h, rfl, hh⟩ | ⟨rfl, l, rfl, hh⟩
  · have hh : av T h = .v (.int .i64 0) := hh
    have h1 : runPure P (execOp (fun x => ((av T x).plain).getD undef) o) = some (.value (.slice none 0 0)) := by
      simp [execOp, ho, Instr.sliceAt, Instr.slice, Instr.sliceBounds, Instr.sliceBound, asIntOf, hx, hh, AV.plain, runPure_bind, runPure_pure, hu, hs]
      show runPure P (sizeOf e >>= fun a => pure (Next.value (Value.slice none 0 0))) = _
      rw [runPure_bind, hs]
      rfl
    unfold plainVal
    rw [h1, ho]
    simp [Op.operands, hx, hh, AV.plain]
  · have hh : av T l = .v (.int .i64 0) := hh
    have h1 : runPure P (execOp (fun x => ((av T x).plain).getD undef) o) = some (.value (.slice none 0 0)) := by
      simp [execOp, ho, Instr.sliceAt, Instr.slice, Instr.sliceBounds, Instr.sliceBound, asIntOf, hx, hh, AV.plain, runPure_bind, runPure_pure, hu, hs]
      show runPure P (sizeOf e >>= fun a => pure (Next.value (Value.slice none 0 0))) = _
      rw [runPure_bind, hs]
      rfl
    unfold plainVal
    rw [h1, ho]
    simp [Op.operands, hx, hh, AV.plain]
section
variable {O : CallF} {T : List AV} {H H0 : AH} {ops : Array Oper} {o : Oper} {i : Nat} {π : List Stp} {K : List AV → AH → Prop}
theorem d_sliceTo {t e : TypeId} {x h : Operand} {cs : List AV} {p : Nat} (h1 : ops.toList[i]? = some o) (ho : o.op = .slice t x none (some h) none) (hg : wantedA o ops T = true) [hu : TyS t e] [hs : Cell e]
    (hG : Gr H0 3 (av T x) cs) (hh : av T h = iv p) (hp : p ≤ cs.length) (hk : ∀ v, Pt H0 (av T x) v (cs.take p) → WDr (ENV O) ops H0 π (putA T o.dst v) H K) : WDr (ENV O) ops H0 (.mob i :: π) T H K := by
  rcases hG with ⟨hx, rfl⟩ | ⟨b, hbn, hb39, hx, hgb⟩
  · have hp0 : p = 0 := by simpa using hp
    subst hp0
    refine wd_mob h1 hg (r := .v (.slice none 0 0)) ?_ (hk _ ⟨by simp [lenA], fun H _ => by simp [firstA]⟩)
    unfold mobEval; rw [ho]
    simp only [hx, isV, if_true]
    exact plain_nil ho hu.u hs.s hx (.inl ⟨rfl, h, rfl, hh⟩)
  · refine wd_mob h1 hg (r := .slu b 0 p 1) ?_ (hk _ ⟨by simp [lenA, Nat.min_eq_left hp], fun H hH => ?_⟩)
    · unfold mobEval rdA; rw [ho]
      simp only [hx, isV, Bool.false_eq_true, if_false]
      have hg' : (sing H0 (some b)).get b = some (.cells cs 3 1) := by
        unfold sing
        simp only [hgb]
        rw [AH.get_set _ _ _ _ hb39, if_pos rfl]
      simp only [ENV, sliceA, boundA, hh, natA, Option.map_some, hu.u, hs.s, hg', Option.getD_none, Option.getD_some]
      rw [if_pos (by simp [Nat.ble_eq_true_of_le hp])]
      simp
    · have : H.get b = some (.cells cs 3 1) := (hH b (by rw [hx]; rfl)).trans hgb
      simp [firstA, this, Nat.min_eq_left hp, Nat.ble_eq_true_of_le hp]
theorem d_sliceFrom {t e : TypeId} {x l : Operand} {cs : List AV} {p : Nat} (h1 : ops.toList[i]? = some o) (ho : o.op = .slice t x (some l) none none) (hg : wantedA o ops T = true) [hu : TyS t e] [hs : Cell e]
    (hG : Gr H0 3 (av T x) cs) (hh : av T l = iv p) (hp : p ≤ cs.length) (hk : ∀ v, Pt H0 (av T x) v (cs.drop p) → WDr (ENV O) ops H0 π (putA T o.dst v) H K) : WDr (ENV O) ops H0 (.mob i :: π) T H K := by
  rcases hG with ⟨hx, rfl⟩ | ⟨b, hbn, hb39, hx, hgb⟩
  · have hp0 : p = 0 := by simpa using hp
    subst hp0
    refine wd_mob h1 hg (r := .v (.slice none 0 0)) ?_ (hk _ ⟨by simp [lenA], fun H _ => by simp [firstA]⟩)
    unfold mobEval; rw [ho]
    simp only [hx, isV, if_true]
    exact plain_nil ho hu.u hs.s hx (.inr ⟨rfl, l, rfl, hh⟩)
  · have hg' : (sing H0 (some b)).get b = some (.cells cs 3 1) := by
      unfold sing
      simp only [hgb]
      rw [AH.get_set _ _ _ _ hb39, if_pos rfl]
    by_cases c : p = 0 ∨ p < cs.length
    · refine wd_mob h1 hg (r := .slu b p (cs.length - p) 1) ?_ (hk _ ⟨by simp [lenA], fun H hH => ?_⟩)
      · unfold mobEval rdA; rw [ho]
        simp only [hx, isV, Bool.false_eq_true, if_false]
        simp only [ENV, sliceA, boundA, hh, natA, Option.map_some, hu.u, hs.s, hg', Option.getD_none, Option.getD_some]
        rw [if_pos (by
          simp only [Nat.zero_add, Nat.mul_one, Bool.and_eq_true, Bool.or_eq_true]
          refine ⟨⟨⟨rfl, Nat.ble_eq_true_of_le (Nat.le_refl _)⟩, Nat.ble_eq_true_of_le hp⟩, ?_⟩
          rcases c with c | c
          · exact .inl (by rw [c]; rfl)
          · exact .inr (Nat.ble_eq_true_of_le c))]
        simp
      · have : H.get b = some (.cells cs 3 1) := (hH b (by rw [hx]; rfl)).trans hgb
        simp only [firstA, this, List.length_drop, Nat.mul_one]
        rw [if_pos (Nat.ble_eq_true_of_le (by omega)), List.take_of_length_le (by simp)]
    · have e : p = cs.length := by omega
      refine wd_mob h1 hg (r := .sle b 0 p 1) ?_ (hk _ ⟨by simp [lenA, e], fun H hH => ?_⟩)
      · unfold mobEval rdA; rw [ho]
        simp only [hx, isV, Bool.false_eq_true, if_false]
        simp only [ENV, sliceA, boundA, hh, natA, Option.map_some, hu.u, hs.s, hg', Option.getD_none, Option.getD_some]
        rw [if_neg (by
          simp only [Bool.and_eq_true, Bool.or_eq_true]
          rintro ⟨_, h | h⟩
          · have := Nat.eq_of_beq_eq_true h; omega
          · have := Nat.le_of_ble_eq_true h; omega)]
        rw [if_pos (by
          simp only [Nat.zero_add, Nat.mul_one, Bool.and_eq_true]
          exact ⟨⟨rfl, Nat.ble_eq_true_of_le (Nat.le_refl _)⟩, by rw [e]; simp⟩)]
      · simp [firstA, e]
end
end Go.Ev
namespace Go.Ev
open Go.Proofs
section
variable {O : CallF} {T : List AV} {H : AH} {ops : Array Oper} {o : Oper} {K : AV → AH → Prop}
theorem rdA_slice {t : TypeId} {x : Operand} {lo hi m : Option Operand} {b : Nat} (ho : o.op = .slice t x lo hi m) (h : rdA T o = some b) : (av T x).own = some b := by
  unfold rdA at h
  rw [ho] at h
  simp only at h
  split at h
  · rename_i hx; rw [hx]; exact h
  · cases h
theorem beqs_ivs : ∀ l : List Int, beqs (ivs l) (ivs l) = true
  | [] => rfl
  | x :: l => by
    show (AV.beq (iv x) (iv x) && beqs (ivs l) (ivs l)) = true
    rw [beqs_ivs l]
    simp [AV.beq, iv, vbeq]
theorem sameBlk_gr {H : AH} {s : AV} {l : List Int} {b : Nat} (h : Gr H 3 s (ivs l)) (hb : s.own = some b) : sameBlk (H.get b) (H.get b) = true := by
  rcases h with ⟨rfl, _⟩ | ⟨b', _, _, rfl, hg⟩
  · cases hb
  · cases hb
    rw [hg]
    simp [sameBlk, beqs_ivs]
def Em (H : AH) (a : AV) (b : Nat) (cs : List AV) : Prop := (a = .slc b 0 0 0 ∧ cs = [] ∧ H.get b = some (.cells [] 3 0)) ∨ (a = .slu b 0 cs.length 1 ∧ H.get b = some (.cells cs 3 1))
theorem o_appendE' {c : Call} {t xt e' : TypeId} {s x : Operand} {z0 : Value} {new : List AV} {b n : Nat} (ho : o.op = .call c) (hg : wantedA o ops T = true) (hc : c.callee = .builtin .append) (hargs : c.args.toList = [s, x]) (ht : c.argTypes.toList = [t, xt]) [hu : TyS t 3] [hux : TyS xt e'] [hs : Cell 3] [hz : Zero 3 z0]
    (hlen : n ≤ 2 ^ 30) (hr : H.next < 2 ^ 39) (hsx : av T s = .slc b 0 0 0) (hbn : b < H.next) (hgb : H.get b = some (.cells [] 3 0)) (hn : lenA (av T x) = some n) (hf : firstA 1 n (av T x) H = some new) (h1 : new.all AV.one = true) (hnl : new.length = n)
    (hk : ∀ a H4 b', Em H4 a b' new → b ≤ b' → b' < H4.next → H.next ≤ H4.next → H4.next ≤ H.next + 1 → H4.gl = H.gl → (∀ d, d < b → H4.get d = H.get d) → K a H4) : WOp (ENV O) ops o T H K := by
  have hb39 : b < 2 ^ 39 := by omega
  refine o_appendE ho hg hc hargs ht hlen hr hsx hgb hn hf h1 hnl (fun h0 => ?_) (fun h0 => ?_)
  · have e : new = [] := List.eq_nil_of_length_eq_zero (by omega)
    exact hk _ _ b (.inl ⟨rfl, e, get_set_eq hb39⟩) (Nat.le_refl _) hbn (Nat.le_refl _) (Nat.le_succ _) rfl (fun d hd => get_set_ne hb39 (by omega))
  · exact hk _ _ H.next (.inr ⟨by rw [hnl], get_add_eq hr⟩) (by omega) (Nat.lt_succ_self _) (Nat.le_succ _) (Nat.le_refl _) rfl (fun d hd => get_add_ne hr (by omega))
theorem o_appendL {c : Call} {t xt e' : TypeId} {s x : Operand} {z0 : Value} {cs : List AV} {v : AV} {b bx g : Nat} {ex : TypeId} (ho : o.op = .call c) (hg : wantedA o ops T = true) (hc : c.callee = .builtin .append) (hargs : c.args.toList = [s, x]) (ht : c.argTypes.toList = [t, xt]) [hu : TyS t 3] [hux : TyS xt e'] [hs : Cell 3] [hz : Zero 3 z0]
    (hlen : cs.length < 2 ^ 29) (hr : H.next < 2 ^ 39) (hE : Em H (av T s) b cs) (hbn : b < H.next) (hx : av T x = .slc bx 0 1 1) (hbx : H.get bx = some (.cells [v] ex g)) (h1 : v.one = true)
    (hk : ∀ H5, H5.next = H.next + 1 → H5.gl = H.gl → (∀ d, d < b → H5.get d = H.get d) → H5.get H.next = some (.cells (cs ++ [v]) 3 1) → K (.slu H.next 0 (cs ++ [v]).length 1) H5) : WOp (ENV O) ops o T H K := by
  have hb39 : b < 2 ^ 39 := by omega
  have hn : lenA (av T x) = some 1 := by rw [hx]; rfl
  have hf : firstA 1 1 (av T x) H = some [v] := by rw [hx]; simp [firstA, hbx]
  have ha : [v].all AV.one = true := by simp [h1]
  rcases hE with ⟨hs1, hs2, hs3⟩ | ⟨hs1, hs3⟩
  · subst hs2
    refine o_appendE ho hg hc hargs ht (by decide) hr hs1 hs3 hn hf ha rfl (fun h0 => by omega) (fun _ => ?_)
    exact hk _ rfl rfl (fun d hd => get_add_ne hr (by omega)) (get_add_eq hr)
  · refine o_appendU (n := 1) ho hg hc hargs ht (by omega) hr hs1 hs3 hn hf ha rfl ?_
    have := hk ((H.set b none).add (.cells (cs ++ [v]) 3 1)) rfl rfl (fun d hd => (get_add_ne (H := H.set b none) hr (show d ≠ H.next by omega)).trans (get_set_ne hb39 (by omega))) (get_add_eq (H := H.set b none) hr)
    rw [List.length_append] at this
    exact this
end
variable {O : CallF} (hq : Quiet O)
include hq
theorem c31 (H : AH) (key : Int) (n : Nat) (hkey : 1 ≤ key ∧ key ≤ 2147483646) (hn : n ≤ 256) (hr : H.next + 2000 < 2 ^ 39) (K : AV → AH → Prop)
    (hk : ∀ H' c, Keeps H H' → H'.next ≤ H.next + 1300 → Sl H' c (ivs (drawL key n)) → Old H' c → K c H') : Ca (ENV O) 31 [iv key, iv n] H K := by
  refine ca_intro (hq _ _ _ rfl) (fn := Tryz.f31) (by rfl) rfl ?_
  repeat (first | refine wops_nil ?_ | refine zq1 rfl rfl ?_ | refine zq2 rfl rfl ?_ | refine zq3 rfl rfl ?_ | refine zq4 rfl rfl rfl rfl (inc (by omega)) ?_ | refine zq5 rfl rfl rfl rfl rfl (by assumption) ?_ | refine zq6 rfl rfl (by assumption) ?_ | refine zq7 rfl rfl rfl ?_ | refine zq8 rfl rfl rfl ?_ | refine zq9 rfl rfl rfl rfl ?_ | refine mobs_move rfl rfl rfl ?_ | refine m_load rfl rfl rfl (by assumption) ?_ | refine mobs_nil ?_ | refine wd_nil ?_ | refine wd_skip rfl rfl ?_ | refine wd_loudSkip rfl rfl ?_ | refine wd_move rfl rfl rfl ?_ | refine wd_assign rfl rfl rfl ?_ | refine wd_pick rfl rfl rfl rfl ?_ | refine d_load rfl rfl rfl (by assumption) ?_ | refine d_lenI rfl rfl rfl rfl rfl rfl (by assumption) ?_ | refine wp_condT rfl ?_ | refine wp_condF rfl ?_ | refine wp_region ?_ | refine wp_seq ?_ | refine wp_skip ?_ | refine wp_exit ?_ | refine wp_block ?_)
  refine wp_loop (fun q T M H' => ∃ (i : Nat) (Y : List AV) (s : AV), q = n - i ∧ i ≤ n ∧ Keeps H H' ∧ H'.next ≤ H.next + 5 * i ∧ Gr H' 3 s (ivs (drawL key i)) ∧ (∀ b, s.own = some b → H.next ≤ b) ∧ M = [] ∧
      T = (iv (drawX key i) :: iv n :: lget Y 0 :: lget Y 1 :: lget Y 2 :: s :: iv (i : Nat) :: lget Y 3 :: lget Y 4 :: lget Y 5 :: lget Y 6 :: lget Y 7 :: lget Y 8 :: lget Y 9 :: lget Y 10 :: lget Y 11 :: lget Y 12 :: lget Y 13 :: lget Y 14 :: lget Y 15 :: lget Y 16 :: lget Y 17 :: lget Y 18 :: lget Y 19 :: lget Y 20 :: lget Y 21 :: lget Y 22 :: lget Y 23 :: lget Y 24 :: lget Y 25 :: lget Y 26 :: lget Y 27 :: lget Y 28 :: [])) n
    ⟨0, [_,_,_,_,_,_,_,_,_,_,_,_,_,_,_,_,_,_,_,_,_,_,_,_,_,_,_,_,_], .v (.slice none 0 0), rfl, Nat.zero_le _, Keeps.refl H, Nat.le_refl _, .inl ⟨rfl, rfl⟩, (fun b hb => by cases hb), rfl, rfl⟩ ?_
  rintro q T M H1 ⟨i, Y, s, hq1, hi1, k1, n1, G1, ho1, rfl, rfl⟩
  repeat (first | refine wops_nil ?_ | refine zq1 rfl rfl ?_ | refine zq2 rfl rfl ?_ | refine zq3 rfl rfl ?_ | refine zq4 rfl rfl rfl rfl (inc (by omega)) ?_ | refine zq5 rfl rfl rfl rfl rfl (by assumption) ?_ | refine zq6 rfl rfl (by assumption) ?_ | refine zq7 rfl rfl rfl ?_ | refine zq8 rfl rfl rfl ?_ | refine zq9 rfl rfl rfl rfl ?_ | refine mobs_move rfl rfl rfl ?_ | refine m_load rfl rfl rfl (by assumption) ?_ | refine mobs_nil ?_ | refine wd_nil ?_ | refine wd_skip rfl rfl ?_ | refine wd_loudSkip rfl rfl ?_ | refine wd_move rfl rfl rfl ?_ | refine wd_assign rfl rfl rfl ?_ | refine wd_pick rfl rfl rfl rfl ?_ | refine d_load rfl rfl rfl (by assumption) ?_ | refine d_lenI rfl rfl rfl rfl rfl rfl (by assumption) ?_ | refine wp_condT rfl ?_ | refine wp_condF rfl ?_ | refine wp_region ?_ | refine wp_seq ?_ | refine wp_skip ?_ | refine wp_exit ?_ | refine wp_block ?_)
  refine wops_cons (wop_cmp rfl rfl rfl rfl rfl (fun h => ?_) (fun h => ?_))
  rotate_left
  · have h : ¬ ((i : Int) < n) := of_decide_eq_false h
    have e : i = n := by omega
    subst e
    repeat (first | refine wops_nil ?_ | refine zq1 rfl rfl ?_ | refine zq2 rfl rfl ?_ | refine zq3 rfl rfl ?_ | refine zq4 rfl rfl rfl rfl (inc (by omega)) ?_ | refine zq5 rfl rfl rfl rfl rfl (by assumption) ?_ | refine zq6 rfl rfl (by assumption) ?_ | refine zq7 rfl rfl rfl ?_ | refine zq8 rfl rfl rfl ?_ | refine zq9 rfl rfl rfl rfl ?_ | refine mobs_move rfl rfl rfl ?_ | refine m_load rfl rfl rfl (by assumption) ?_ | refine mobs_nil ?_ | refine wd_nil ?_ | refine wd_skip rfl rfl ?_ | refine wd_loudSkip rfl rfl ?_ | refine wd_move rfl rfl rfl ?_ | refine wd_assign rfl rfl rfl ?_ | refine wd_pick rfl rfl rfl rfl ?_ | refine d_load rfl rfl rfl (by assumption) ?_ | refine d_lenI rfl rfl rfl rfl rfl rfl (by assumption) ?_ | refine wp_condT rfl ?_ | refine wp_condF rfl ?_ | refine wp_region ?_ | refine wp_seq ?_ | refine wp_skip ?_ | refine wp_exit ?_ | refine wp_block ?_)
    refine wp_ret ?_
    exact ⟨_, _, rfl, hk H1 s k1 (by omega) G1.sl G1.old⟩
  have h : (i : Int) < n := of_decide_eq_true h
  have hx := drawX_range hkey i
  have hx2 := drawX_range hkey (i + 1)
  obtain ⟨hK1, hK2⟩ := drawK_le hkey i
  repeat (first | refine wops_nil ?_ | refine zq1 rfl rfl ?_ | refine zq2 rfl rfl ?_ | refine zq3 rfl rfl ?_ | refine zq4 rfl rfl rfl rfl (inc (by omega)) ?_ | refine zq5 rfl rfl rfl rfl rfl (by assumption) ?_ | refine zq6 rfl rfl (by assumption) ?_ | refine zq7 rfl rfl rfl ?_ | refine zq8 rfl rfl rfl ?_ | refine zq9 rfl rfl rfl rfl ?_ | refine mobs_move rfl rfl rfl ?_ | refine m_load rfl rfl rfl (by assumption) ?_ | refine mobs_nil ?_ | refine wd_nil ?_ | refine wd_skip rfl rfl ?_ | refine wd_loudSkip rfl rfl ?_ | refine wd_move rfl rfl rfl ?_ | refine wd_assign rfl rfl rfl ?_ | refine wd_pick rfl rfl rfl rfl ?_ | refine d_load rfl rfl rfl (by assumption) ?_ | refine d_lenI rfl rfl rfl rfl rfl rfl (by assumption) ?_ | refine wp_condT rfl ?_ | refine wp_condF rfl ?_ | refine wp_region ?_ | refine wp_seq ?_ | refine wp_skip ?_ | refine wp_exit ?_ | refine wp_block ?_)
  refine wops_cons (wop_bin (op := .mul) (v := .int .i64 (drawX key i * 39373)) rfl rfl rfl rfl ?_ ?_)
  · show some (Value.int .i64 (IntKind.i64.wrap (39373 * drawX key i))) = _
    rw [Int.mul_comm, wrap_id (by omega) (by omega)]
  refine wops_cons (wop_rem rfl rfl rfl rfl (by decide) ?_)
  rw [show (drawX key i * 39373).tmod 2147483647 = drawX key (i + 1) from rfl]
  repeat (first | refine wops_nil ?_ | refine zq1 rfl rfl ?_ | refine zq2 rfl rfl ?_ | refine zq3 rfl rfl ?_ | refine zq4 rfl rfl rfl rfl (inc (by omega)) ?_ | refine zq5 rfl rfl rfl rfl rfl (by assumption) ?_ | refine zq6 rfl rfl (by assumption) ?_ | refine zq7 rfl rfl rfl ?_ | refine zq8 rfl rfl rfl ?_ | refine zq9 rfl rfl rfl rfl ?_ | refine mobs_move rfl rfl rfl ?_ | refine m_load rfl rfl rfl (by assumption) ?_ | refine mobs_nil ?_ | refine wd_nil ?_ | refine wd_skip rfl rfl ?_ | refine wd_loudSkip rfl rfl ?_ | refine wd_move rfl rfl rfl ?_ | refine wd_assign rfl rfl rfl ?_ | refine wd_pick rfl rfl rfl rfl ?_ | refine d_load rfl rfl rfl (by assumption) ?_ | refine d_lenI rfl rfl rfl rfl rfl rfl (by assumption) ?_ | refine wp_condT rfl ?_ | refine wp_condF rfl ?_ | refine wp_region ?_ | refine wp_seq ?_ | refine wp_skip ?_ | refine wp_exit ?_ | refine wp_block ?_)
  refine wops_cons (wop_rem rfl rfl rfl rfl (by omega) ?_)
  rw [show (drawX key (i + 1)).tmod ((i + 1 : Nat) : Int) = (drawK key i : Int) from hK1]
  repeat (first | refine wops_nil ?_ | refine zq1 rfl rfl ?_ | refine zq2 rfl rfl ?_ | refine zq3 rfl rfl ?_ | refine zq4 rfl rfl rfl rfl (inc (by omega)) ?_ | refine zq5 rfl rfl rfl rfl rfl (by assumption) ?_ | refine zq6 rfl rfl (by assumption) ?_ | refine zq7 rfl rfl rfl ?_ | refine zq8 rfl rfl rfl ?_ | refine zq9 rfl rfl rfl rfl ?_ | refine mobs_move rfl rfl rfl ?_ | refine m_load rfl rfl rfl (by assumption) ?_ | refine mobs_nil ?_ | refine wd_nil ?_ | refine wd_skip rfl rfl ?_ | refine wd_loudSkip rfl rfl ?_ | refine wd_move rfl rfl rfl ?_ | refine wd_assign rfl rfl rfl ?_ | refine wd_pick rfl rfl rfl rfl ?_ | refine d_load rfl rfl rfl (by assumption) ?_ | refine d_lenI rfl rfl rfl rfl rfl rfl (by assumption) ?_ | refine wp_condT rfl ?_ | refine wp_condF rfl ?_ | refine wp_region ?_ | refine wp_seq ?_ | refine wp_skip ?_ | refine wp_exit ?_ | refine wp_block ?_)
  have r1 : H1.next < 2 ^ 39 := by omega
  have hlL : (ivs (drawL key i)).length = i := by rw [ivs_length, drawL_length]
  have hone : ∀ l : List Int, (ivs l).all AV.one = true := fun l => by induction l with | nil => rfl | cons a l ih => exact ih
  have hp : drawK key i ≤ (ivs (drawL key i)).length := by rw [hlL]; exact hK2
  have hbs : ∀ b, s.own = some b → b < H1.next := fun b hb => G1.old b hb
  refine wp_drawD (fun b => s.own = some b) rfl ?_
  refine wl_mob0 (by decide) rfl rfl (wd_move rfl rfl rfl (wd_nil ⟨rfl, ?_⟩))
  refine wl_mob0 (by decide) rfl rfl (wd_move rfl rfl rfl (wd_nil ⟨rfl, ?_⟩))
  refine wl_mob (by decide) (d_sliceTo rfl rfl rfl G1 rfl hp fun v1 hv1 => wd_nil ⟨rfl, ?_⟩) (fun o b h hb => by cases h; exact rdA_slice rfl hb)
  have hv1 : Pt H1 s v1 ((ivs (drawL key i)).take (drawK key i)) := hv1
  refine wl_mob0 (by decide) rfl rfl (wd_move rfl rfl rfl (wd_nil ⟨rfl, ?_⟩))
  refine wl_mob0 (by decide) rfl rfl (wd_move rfl rfl rfl (wd_nil ⟨rfl, ?_⟩))
  refine wl_mob0 (by decide) rfl rfl (wd_move rfl rfl rfl (wd_nil ⟨rfl, ?_⟩))
  refine wl_mob (by decide) (d_sliceFrom rfl rfl rfl G1 rfl hp fun v2 hv2 => wd_nil ⟨rfl, ?_⟩) (fun o b h hb => by cases h; exact rdA_slice rfl hb)
  have hv2 : Pt H1 s v2 ((ivs (drawL key i)).drop (drawK key i)) := hv2
  refine wl_alc (d_build0 rfl rfl r1 (wd_nil ?_))
  have g2 : (H1.add (.cells [] 3 0)).get H1.next = some (.cells [] 3 0) := get_add_eq r1
  have k2 : ∀ d, d < H1.next → (H1.add (.cells [] 3 0)).get d = H1.get d := fun d hd => get_add_ne r1 (by omega)
  have r2 : (H1.add (.cells [] 3 0)).next < 2 ^ 39 := by show H1.next + 1 < _; omega
  refine wl_loud (wd_loud rfl rfl (o_appendE' (s := .tmp 20) (x := .tmp 23) (new := (ivs (drawL key i)).take (drawK key i)) rfl rfl rfl rfl rfl (by rw [List.length_take]; omega) r2 rfl (Nat.lt_succ_self _) g2 hv1.1 (hv1.2 _ fun b hb => k2 b (hbs b hb)) (by simp only [ivs, ← List.map_take]; exact hone _) rfl fun a H4 b4 hE lb4 hb4 n4 n4' gl4 g4 => wd_nil ⟨?_, ?_⟩))
  · right
    intro b hb
    rw [g4 b (hbs b hb), k2 b (hbs b hb)]
    exact sameBlk_gr G1 hb
  have n4a : H1.next + 1 ≤ H4.next := n4
  have n4b : H4.next ≤ H1.next + 1 + 1 := n4'
  have r4 : H4.next < 2 ^ 39 := by omega
  refine wl_alc (d_build1 rfl rfl rfl r4 (wd_nil ?_))
  have g5 : (H4.add (.cells [iv i] 3 0)).get H4.next = some (.cells [iv i] 3 0) := get_add_eq r4
  have k5 : ∀ d, d < H4.next → (H4.add (.cells [iv i] 3 0)).get d = H4.get d := fun d hd => get_add_ne r4 (by omega)
  have r5 : (H4.add (.cells [iv i] 3 0)).next < 2 ^ 39 := by show H4.next + 1 < _; omega
  have hE5 : Em (H4.add (.cells [iv i] 3 0)) a b4 ((ivs (drawL key i)).take (drawK key i)) := by
    rcases hE with ⟨e1, e2, e3⟩ | ⟨e1, e3⟩
    · exact .inl ⟨e1, e2, (k5 _ hb4).trans e3⟩
    · exact .inr ⟨e1, (k5 _ hb4).trans e3⟩
  refine wl_loud (wd_loud rfl rfl (o_appendL (s := .tmp 24) (x := .tmp 26) (cs := (ivs (drawL key i)).take (drawK key i)) (v := iv i) (b := b4) rfl rfl rfl rfl rfl (by rw [List.length_take]; omega) r5 hE5 (Nat.lt_succ_of_lt hb4) rfl g5 rfl fun H6 n6 gl6 g6 gn6 => wd_nil ⟨?_, ?_⟩))
  · right
    intro b hb
    have := hbs b hb
    have g6 : ∀ d, d < b4 → H6.get d = (H4.add (.cells [iv i] 3 0)).get d := g6
    rw [g6 b (by omega), k5 b (by omega), g4 b this, k2 b this]
    exact sameBlk_gr G1 hb
  have n6 : H6.next = H4.next + 1 + 1 := n6
  have g6 : ∀ d, d < b4 → H6.get d = (H4.add (.cells [iv i] 3 0)).get d := g6
  have gn6 : H6.get (H4.next + 1) = some (.cells ((ivs (drawL key i)).take (drawK key i) ++ [iv i]) 3 1) := gn6
  have r6 : H6.next < 2 ^ 39 := by omega
  have g61 : ∀ b, b < H1.next → H6.get b = H1.get b := fun b hb => by rw [g6 b (by omega), k5 b (by omega), g4 b hb, k2 b hb]
  have g71 : ∀ b, b < H1.next → ((H6.set (H4.next + 1) none).add (.cells (((ivs (drawL key i)).take (drawK key i) ++ [iv i]) ++ (ivs (drawL key i)).drop (drawK key i)) 3 1)).get b = H1.get b := fun b hb =>
    (get_add_ne (H := H6.set (H4.next + 1) none) r6 (show b ≠ H6.next by omega)).trans ((get_set_ne (by omega) (by omega)).trans (g61 b hb))
  have el : ((ivs (drawL key i)).take (drawK key i) ++ [iv i]) ++ (ivs (drawL key i)).drop (drawK key i) = ivs (drawL key (i + 1)) := by
    show _ = ivs ((drawL key i).take (drawK key i) ++ (i : Int) :: (drawL key i).drop (drawK key i))
    simp [ivs, List.map_take, List.map_drop]
  refine wl_loud (wd_loud rfl rfl (o_appendU (s := .tmp 27) (x := .tmp 30) (b := H4.next + 1) (cs := (ivs (drawL key i)).take (drawK key i) ++ [iv i]) (new := (ivs (drawL key i)).drop (drawK key i)) rfl rfl rfl rfl rfl (by simp only [List.length_append, List.length_take, List.length_drop, List.length_cons, List.length_nil]; omega) r6 rfl gn6 hv2.1 (hv2.2 _ fun b hb => g61 b (hbs b hb)) (by simp only [ivs, ← List.map_drop]; exact hone _) rfl (wd_nil ⟨?_, ?_⟩)))
  · right
    intro b hb
    rw [g71 b (hbs b hb)]
    exact sameBlk_gr G1 hb
  refine wl_mob0 (by decide) rfl rfl (wd_assign rfl rfl rfl (wd_nil ⟨rfl, wl_nil ?_⟩))
  have gn7 : ((H6.set (H4.next + 1) none).add (.cells (((ivs (drawL key i)).take (drawK key i) ++ [iv i]) ++ (ivs (drawL key i)).drop (drawK key i)) 3 1)).get H6.next = some (.cells (((ivs (drawL key i)).take (drawK key i) ++ [iv i]) ++ (ivs (drawL key i)).drop (drawK key i)) 3 1) := get_add_eq (H := H6.set (H4.next + 1) none) r6
  have hl7 : ((ivs (drawL key i)).take (drawK key i) ++ [iv i]).length + ((ivs (drawL key i)).drop (drawK key i)).length = (ivs (drawL key (i + 1))).length := by rw [← List.length_append, el]
  repeat (first | refine wops_nil ?_ | refine zq1 rfl rfl ?_ | refine zq2 rfl rfl ?_ | refine zq3 rfl rfl ?_ | refine zq4 rfl rfl rfl rfl (inc (by omega)) ?_ | refine zq5 rfl rfl rfl rfl rfl (by assumption) ?_ | refine zq6 rfl rfl (by assumption) ?_ | refine zq7 rfl rfl rfl ?_ | refine zq8 rfl rfl rfl ?_ | refine zq9 rfl rfl rfl rfl ?_ | refine mobs_move rfl rfl rfl ?_ | refine m_load rfl rfl rfl (by assumption) ?_ | refine mobs_nil ?_ | refine wd_nil ?_ | refine wd_skip rfl rfl ?_ | refine wd_loudSkip rfl rfl ?_ | refine wd_move rfl rfl rfl ?_ | refine wd_assign rfl rfl rfl ?_ | refine wd_pick rfl rfl rfl rfl ?_ | refine d_load rfl rfl rfl (by assumption) ?_ | refine d_lenI rfl rfl rfl rfl rfl rfl (by assumption) ?_ | refine wp_condT rfl ?_ | refine wp_condF rfl ?_ | refine wp_region ?_ | refine wp_seq ?_ | refine wp_skip ?_ | refine wp_exit ?_ | refine wp_block ?_)
  refine ⟨n - (i + 1), by omega, i + 1, [_,_,_,_,_,_,_,_,_,_,_,_,_,_,_,_,_,_,_,_,_,_,_,_,_,_,_,_,_], .slu H6.next 0 (((ivs (drawL key i)).take (drawK key i) ++ [iv i]).length + ((ivs (drawL key i)).drop (drawK key i)).length) 1, rfl, by omega, ⟨?_, ?_, fun b hb => ?_⟩, ?_, .inr ⟨H6.next, Nat.lt_succ_self _, r6, by rw [hl7], ?_⟩, fun b hb => ?_, rfl, rfl⟩
  · have := k1.nx
    show H.next ≤ H6.next + 1
    omega
  · exact (gl6.trans gl4).trans k1.gl
  · have := k1.nx
    exact (g71 b (by omega)).trans (k1.get b hb)
  · show H6.next + 1 ≤ _
    omega
  · rw [gn7, el]
  · cases hb
    have := k1.nx
    omega
end Go.Ev
