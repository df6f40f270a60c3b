/- Part of an evaluator of calls that is proved sound, and of what it gives about this program. No condition of its own. -/
import Derived.Test.YtjkgjemcmmgefaaGreatDoorEwI4
import Derived.Test.YtjkgjemcmmgefaaGreatDoorEvNe
set_option linter.unusedVariables false
set_option linter.unusedSimpArgs false
set_option linter.unusedSectionVars false
set_option maxRecDepth 100000
set_option maxHeartbeats 8000000
namespace Go.Ev
open Go.Proofs
def RS (rem : List Int) (u v : Int) : Bool := decide (rem.getD v.toNat 0 < rem.getD u.toNat 0 ∨ rem.getD v.toNat 0 = rem.getD u.toNat 0 ∧ u < v)
theorem RS_tot (rem : List Int) : Tot (RS rem) := ⟨fun x y z h1 h2 => by
  have h1 := of_decide_eq_true h1
  have h2 := of_decide_eq_true h2
  apply decide_eq_true
  omega, fun x y hne h => by
  have h := of_decide_eq_false h
  apply decide_eq_true
  omega⟩
theorem RS_lt {rem : List Int} {u v : Int} (h : v < u) : ltR rem u v = RS rem u v := by
  unfold ltR RS
  apply decide_eq_decide.2
  omega
variable {O : CallF} (hq : Quiet O)
include hq
theorem c62g (H : AH) (b n tb : Nat) (hn : n ≤ 1000) (h39 : b < 2 ^ 39) (hb : H.get b = some (.cells (ivs (rangeI n)) 3 0)) (lt R : Int → Int → Bool) (hR : Tot R) (hlt : ∀ u v, v < u → lt u v = R u v)
    (hcmp : ∀ (Hm : AH) (u v : Int), Hm.next = H.next → Hm.gl = H.gl → (∀ c, c ≠ b → Hm.get c = H.get c) → (0 ≤ u ∧ u < n) → (0 ≤ v ∧ v < n) → ∀ K : AV → AH → Prop, (∀ z : Int, decide (z < 0) = lt u v → K (iv z) Hm) → Ca (ENV O) 63 [iv u, iv v, .ptr tb 0] Hm K)
    (K : AV → AH → Prop) (hk : ∀ r H' g', St H b (fl g' n) H' → Sd R g' 0 n → (seg g' 0 n).Perm (seg idn 0 n) → K r H') :
    Ca (ENV O) 62 [.slc b 0 n n, .fn (.func 63) [] [.ptr tb 0]] H K := by
  refine ca_intro (hq _ _ _ rfl) (fn := Tryz.f62) (by rfl) rfl ?_
  have hS : Sl H (.slc b 0 n n) (ivs (rangeI n)) := sl_cells h39 hb (by rw [ivs_length, length_rangeI]) fun _ _ h => h
  repeat (first | refine wops_nil ?_ | refine zq1 rfl rfl ?_ | refine zq2 rfl rfl ?_ | refine zq3 rfl rfl ?_ | refine zq4 rfl rfl rfl rfl (inc (by omega)) ?_ | refine zq5 rfl rfl rfl rfl rfl (by assumption) ?_ | refine zq6 rfl rfl (by assumption) ?_ | refine zq7 rfl rfl rfl ?_ | refine zq8 rfl rfl rfl ?_ | refine zq9 rfl rfl rfl rfl ?_ | refine mobs_move rfl rfl rfl ?_ | refine m_load rfl rfl rfl (by assumption) ?_ | refine mobs_nil ?_ | refine wd_nil ?_ | refine wd_skip rfl rfl ?_ | refine wd_loudSkip rfl rfl ?_ | refine wd_move rfl rfl rfl ?_ | refine wd_assign rfl rfl rfl ?_ | refine wd_pick rfl rfl rfl rfl ?_ | refine d_load rfl rfl rfl (by assumption) ?_ | refine d_lenI rfl rfl rfl rfl rfl rfl (by assumption) ?_ | refine wp_condT rfl ?_ | refine wp_condF rfl ?_ | refine wp_region ?_ | refine wp_seq ?_ | refine wp_skip ?_ | refine wp_exit ?_ | refine wp_block ?_)
  rw [length_rangeI]
  refine wops_cons (wop_callF rfl rfl rfl (fn := Tryz.f116) (by rfl) ?_)
  refine cStab hq lt R hR hlt H b n tb hn h39 (fun u => 0 ≤ u ∧ u < n) hcmp H (St.refl hb) (fun i hi => ⟨by omega, by omega⟩) _ fun r H1 g' h1 hsd hpm => ⟨Nat.le_of_eq h1.1.symm, ?_⟩
  repeat (first | refine wops_nil ?_ | refine zq1 rfl rfl ?_ | refine zq2 rfl rfl ?_ | refine zq3 rfl rfl ?_ | refine zq4 rfl rfl rfl rfl (inc (by omega)) ?_ | refine zq5 rfl rfl rfl rfl rfl (by assumption) ?_ | refine zq6 rfl rfl (by assumption) ?_ | refine zq7 rfl rfl rfl ?_ | refine zq8 rfl rfl rfl ?_ | refine zq9 rfl rfl rfl rfl ?_ | refine mobs_move rfl rfl rfl ?_ | refine m_load rfl rfl rfl (by assumption) ?_ | refine mobs_nil ?_ | refine wd_nil ?_ | refine wd_skip rfl rfl ?_ | refine wd_loudSkip rfl rfl ?_ | refine wd_move rfl rfl rfl ?_ | refine wd_assign rfl rfl rfl ?_ | refine wd_pick rfl rfl rfl rfl ?_ | refine d_load rfl rfl rfl (by assumption) ?_ | refine d_lenI rfl rfl rfl rfl rfl rfl (by assumption) ?_ | refine wp_condT rfl ?_ | refine wp_condF rfl ?_ | refine wp_region ?_ | refine wp_seq ?_ | refine wp_skip ?_ | refine wp_exit ?_ | refine wp_block ?_)
  exact ⟨_, _, rfl, hk _ H1 g' h1 hsd hpm⟩
theorem c26g (H : AH) (x : AV) (l : List Int) (total : Int) (hx : Sl H x (ivs l)) (ho : Old H x) (ht : 0 ≤ total ∧ total ≤ 999999999) (hw : weightE l = 0) (hl0 : 0 < l.length) (hl : l.length ≤ 256) (hwz : ∀ z ∈ l, wOk z) (hs0 : 0 < sumL l) (hsm : sumL l ≤ 256 * 999999999)
    (hq0 : ∀ z ∈ quoL total (sumL l) l, 0 ≤ z ∧ z ≤ total) (hleft : ∀ i, i ≤ l.length → 0 ≤ total - sumL ((quoL total (sumL l) l).take i) ) (hleft2 : total - sumL (quoL total (sumL l) l) ≤ l.length) (hr : H.next + 100 < 2 ^ 39) (K : AV → AH → Prop)
    (hk : ∀ H' c (g' : Nat → Int), Keeps H H' → H'.next ≤ H.next + 10 → Sl H' c (ivs (bump (quoL total (sumL l) l) ((fl g' l.length).take (total - sumL (quoL total (sumL l) l)).toNat))) → Sd (RS (remL total (sumL l) l)) g' 0 l.length → (seg g' 0 l.length).Perm (seg idn 0 l.length) → Old H' c → K (.tup [c, iv 0]) H') : Ca (ENV O) 26 [iv total, x] H K := by
  refine ca_intro (hq _ _ _ rfl) (fn := Tryz.f26) (by rfl) rfl ?_
  repeat (first | refine wops_nil ?_ | refine zq1 rfl rfl ?_ | refine zq2 rfl rfl ?_ | refine zq3 rfl rfl ?_ | refine zq4 rfl rfl rfl rfl (inc (by omega)) ?_ | refine zq5 rfl rfl rfl rfl rfl (by assumption) ?_ | refine zq6 rfl rfl (by assumption) ?_ | refine zq7 rfl rfl rfl ?_ | refine zq8 rfl rfl rfl ?_ | refine zq9 rfl rfl rfl rfl ?_ | refine mobs_move rfl rfl rfl ?_ | refine m_load rfl rfl rfl (by assumption) ?_ | refine mobs_nil ?_ | refine wd_nil ?_ | refine wd_skip rfl rfl ?_ | refine wd_loudSkip rfl rfl ?_ | refine wd_move rfl rfl rfl ?_ | refine wd_assign rfl rfl rfl ?_ | refine wd_pick rfl rfl rfl rfl ?_ | refine d_load rfl rfl rfl (by assumption) ?_ | refine d_lenI rfl rfl rfl rfl rfl rfl (by assumption) ?_ | refine wp_condT rfl ?_ | refine wp_condF rfl ?_ | refine wp_region ?_ | refine wp_seq ?_ | refine wp_skip ?_ | refine wp_exit ?_ | refine wp_block ?_)
  refine wops_cons (wop_callF rfl rfl rfl (fn := Tryz.f60) (by rfl) ?_)
  refine c60 hq H total 0 999999999 _ ⟨Nat.le_refl _, ?_⟩
  rw [decide_eq_true ht]
  repeat (first | refine wops_nil ?_ | refine zq1 rfl rfl ?_ | refine zq2 rfl rfl ?_ | refine zq3 rfl rfl ?_ | refine zq4 rfl rfl rfl rfl (inc (by omega)) ?_ | refine zq5 rfl rfl rfl rfl rfl (by assumption) ?_ | refine zq6 rfl rfl (by assumption) ?_ | refine zq7 rfl rfl rfl ?_ | refine zq8 rfl rfl rfl ?_ | refine zq9 rfl rfl rfl rfl ?_ | refine mobs_move rfl rfl rfl ?_ | refine m_load rfl rfl rfl (by assumption) ?_ | refine mobs_nil ?_ | refine wd_nil ?_ | refine wd_skip rfl rfl ?_ | refine wd_loudSkip rfl rfl ?_ | refine wd_move rfl rfl rfl ?_ | refine wd_assign rfl rfl rfl ?_ | refine wd_pick rfl rfl rfl rfl ?_ | refine d_load rfl rfl rfl (by assumption) ?_ | refine d_lenI rfl rfl rfl rfl rfl rfl (by assumption) ?_ | refine wp_condT rfl ?_ | refine wp_condF rfl ?_ | refine wp_region ?_ | refine wp_seq ?_ | refine wp_skip ?_ | refine wp_exit ?_ | refine wp_block ?_)
  refine wops_cons (wop_callF rfl rfl rfl (fn := Tryz.f61) (by rfl) ?_)
  refine c61 hq H x l hx _ ⟨Nat.le_refl _, ?_⟩
  rw [hw, if_pos rfl]
  repeat (first | refine wops_nil ?_ | refine zq1 rfl rfl ?_ | refine zq2 rfl rfl ?_ | refine zq3 rfl rfl ?_ | refine zq4 rfl rfl rfl rfl (inc (by omega)) ?_ | refine zq5 rfl rfl rfl rfl rfl (by assumption) ?_ | refine zq6 rfl rfl (by assumption) ?_ | refine zq7 rfl rfl rfl ?_ | refine zq8 rfl rfl rfl ?_ | refine zq9 rfl rfl rfl rfl ?_ | refine mobs_move rfl rfl rfl ?_ | refine m_load rfl rfl rfl (by assumption) ?_ | refine mobs_nil ?_ | refine wd_nil ?_ | refine wd_skip rfl rfl ?_ | refine wd_loudSkip rfl rfl ?_ | refine wd_move rfl rfl rfl ?_ | refine wd_assign rfl rfl rfl ?_ | refine wd_pick rfl rfl rfl rfl ?_ | refine d_load rfl rfl rfl (by assumption) ?_ | refine d_lenI rfl rfl rfl rfl rfl rfl (by assumption) ?_ | refine wp_condT rfl ?_ | refine wp_condF rfl ?_ | refine wp_region ?_ | refine wp_seq ?_ | refine wp_skip ?_ | refine wp_exit ?_ | refine wp_block ?_)
  refine wops_cons (wop_cmp rfl rfl rfl rfl rfl (fun h => ?_) (fun h => ?_))
  · exact absurd h (by decide)
  repeat (first | refine wops_nil ?_ | refine zq1 rfl rfl ?_ | refine zq2 rfl rfl ?_ | refine zq3 rfl rfl ?_ | refine zq4 rfl rfl rfl rfl (inc (by omega)) ?_ | refine zq5 rfl rfl rfl rfl rfl (by assumption) ?_ | refine zq6 rfl rfl (by assumption) ?_ | refine zq7 rfl rfl rfl ?_ | refine zq8 rfl rfl rfl ?_ | refine zq9 rfl rfl rfl rfl ?_ | refine mobs_move rfl rfl rfl ?_ | refine m_load rfl rfl rfl (by assumption) ?_ | refine mobs_nil ?_ | refine wd_nil ?_ | refine wd_skip rfl rfl ?_ | refine wd_loudSkip rfl rfl ?_ | refine wd_move rfl rfl rfl ?_ | refine wd_assign rfl rfl rfl ?_ | refine wd_pick rfl rfl rfl rfl ?_ | refine d_load rfl rfl rfl (by assumption) ?_ | refine d_lenI rfl rfl rfl rfl rfl rfl (by assumption) ?_ | refine wp_condT rfl ?_ | refine wp_condF rfl ?_ | refine wp_region ?_ | refine wp_seq ?_ | refine wp_skip ?_ | refine wp_exit ?_ | refine wp_block ?_)
  refine wp_drawG rfl (by kernel_rfl) ?_
  repeat (first | refine wops_nil ?_ | refine zq1 rfl rfl ?_ | refine zq2 rfl rfl ?_ | refine zq3 rfl rfl ?_ | refine zq4 rfl rfl rfl rfl (inc (by omega)) ?_ | refine zq5 rfl rfl rfl rfl rfl (by assumption) ?_ | refine zq6 rfl rfl (by assumption) ?_ | refine zq7 rfl rfl rfl ?_ | refine zq8 rfl rfl rfl ?_ | refine zq9 rfl rfl rfl rfl ?_ | refine mobs_move rfl rfl rfl ?_ | refine m_load rfl rfl rfl (by assumption) ?_ | refine mobs_nil ?_ | refine wd_nil ?_ | refine wd_skip rfl rfl ?_ | refine wd_loudSkip rfl rfl ?_ | refine wd_move rfl rfl rfl ?_ | refine wd_assign rfl rfl rfl ?_ | refine wd_pick rfl rfl rfl rfl ?_ | refine d_load rfl rfl rfl (by assumption) ?_ | refine d_lenI rfl rfl rfl rfl rfl rfl (by assumption) ?_ | refine wp_condT rfl ?_ | refine wp_condF rfl ?_ | refine wp_region ?_ | refine wp_seq ?_ | refine wp_skip ?_ | refine wp_exit ?_ | refine wp_block ?_)
  have r1 : (H.add (.cells (List.replicate l.length (iv 0)) 3 0)).next < 2 ^ 39 := by show H.next + 1 < _; omega
  refine d_make rfl rfl rfl rfl (by omega) (by omega) ?_
  repeat (first | refine wops_nil ?_ | refine zq1 rfl rfl ?_ | refine zq2 rfl rfl ?_ | refine zq3 rfl rfl ?_ | refine zq4 rfl rfl rfl rfl (inc (by omega)) ?_ | refine zq5 rfl rfl rfl rfl rfl (by assumption) ?_ | refine zq6 rfl rfl (by assumption) ?_ | refine zq7 rfl rfl rfl ?_ | refine zq8 rfl rfl rfl ?_ | refine zq9 rfl rfl rfl rfl ?_ | refine mobs_move rfl rfl rfl ?_ | refine m_load rfl rfl rfl (by assumption) ?_ | refine mobs_nil ?_ | refine wd_nil ?_ | refine wd_skip rfl rfl ?_ | refine wd_loudSkip rfl rfl ?_ | refine wd_move rfl rfl rfl ?_ | refine wd_assign rfl rfl rfl ?_ | refine wd_pick rfl rfl rfl rfl ?_ | refine d_load rfl rfl rfl (by assumption) ?_ | refine d_lenI rfl rfl rfl rfl rfl rfl (by assumption) ?_ | refine wp_condT rfl ?_ | refine wp_condF rfl ?_ | refine wp_region ?_ | refine wp_seq ?_ | refine wp_skip ?_ | refine wp_exit ?_ | refine wp_block ?_)
  refine d_make rfl rfl rfl rfl (by omega) r1 ?_
  repeat (first | refine wops_nil ?_ | refine zq1 rfl rfl ?_ | refine zq2 rfl rfl ?_ | refine zq3 rfl rfl ?_ | refine zq4 rfl rfl rfl rfl (inc (by omega)) ?_ | refine zq5 rfl rfl rfl rfl rfl (by assumption) ?_ | refine zq6 rfl rfl (by assumption) ?_ | refine zq7 rfl rfl rfl ?_ | refine zq8 rfl rfl rfl ?_ | refine zq9 rfl rfl rfl rfl ?_ | refine mobs_move rfl rfl rfl ?_ | refine m_load rfl rfl rfl (by assumption) ?_ | refine mobs_nil ?_ | refine wd_nil ?_ | refine wd_skip rfl rfl ?_ | refine wd_loudSkip rfl rfl ?_ | refine wd_move rfl rfl rfl ?_ | refine wd_assign rfl rfl rfl ?_ | refine wd_pick rfl rfl rfl rfl ?_ | refine d_load rfl rfl rfl (by assumption) ?_ | refine d_lenI rfl rfl rfl rfl rfl rfl (by assumption) ?_ | refine wp_condT rfl ?_ | refine wp_condF rfl ?_ | refine wp_region ?_ | refine wp_seq ?_ | refine wp_skip ?_ | refine wp_exit ?_ | refine wp_block ?_)
  have k2 := ((Keeps.refl H).add (.cells (List.replicate l.length (iv 0)) 3 0) (by omega)).add (.cells (List.replicate l.length (iv 0)) 3 0) r1
  have gs2 : ((H.add (.cells (List.replicate l.length (iv 0)) 3 0)).add (.cells (List.replicate l.length (iv 0)) 3 0)).get H.next = some (.cells (List.replicate l.length (iv 0)) 3 0) := by
    rw [get_add_ne r1 (by show H.next ≠ H.next + 1; omega), get_add_eq (by omega)]
  have gp2 : ((H.add (.cells (List.replicate l.length (iv 0)) 3 0)).add (.cells (List.replicate l.length (iv 0)) 3 0)).get (H.next + 1) = some (.cells (List.replicate l.length (iv 0)) 3 0) := get_add_eq r1
  have n2 : ((H.add (.cells (List.replicate l.length (iv 0)) 3 0)).add (.cells (List.replicate l.length (iv 0)) 3 0)).next = H.next + 2 := rfl
  have hx2 := hx.keep ho k2
  refine WOps.H (H' := (H.add (.cells (List.replicate l.length (iv 0)) 3 0)).add (.cells (List.replicate l.length (iv 0)) 3 0)) rfl ?_
  generalize (H.add (.cells (List.replicate l.length (iv 0)) 3 0)).add (.cells (List.replicate l.length (iv 0)) 3 0) = H2 at k2 gs2 gp2 n2 hx2 ⊢
  repeat (first | refine wops_nil ?_ | refine zq1 rfl rfl ?_ | refine zq2 rfl rfl ?_ | refine zq3 rfl rfl ?_ | refine zq4 rfl rfl rfl rfl (inc (by omega)) ?_ | refine zq5 rfl rfl rfl rfl rfl (by assumption) ?_ | refine zq6 rfl rfl (by assumption) ?_ | refine zq7 rfl rfl rfl ?_ | refine zq8 rfl rfl rfl ?_ | refine zq9 rfl rfl rfl rfl ?_ | refine mobs_move rfl rfl rfl ?_ | refine m_load rfl rfl rfl (by assumption) ?_ | refine mobs_nil ?_ | refine wd_nil ?_ | refine wd_skip rfl rfl ?_ | refine wd_loudSkip rfl rfl ?_ | refine wd_move rfl rfl rfl ?_ | refine wd_assign rfl rfl rfl ?_ | refine wd_pick rfl rfl rfl rfl ?_ | refine d_load rfl rfl rfl (by assumption) ?_ | refine d_lenI rfl rfl rfl rfl rfl rfl (by assumption) ?_ | refine wp_condT rfl ?_ | refine wp_condF rfl ?_ | refine wp_region ?_ | refine wp_seq ?_ | refine wp_skip ?_ | refine wp_exit ?_ | refine wp_block ?_)
  refine wops_cons (o_make rfl rfl rfl rfl (by omega) (by omega) ?_)
  have r3 : (H2.add (.cells (List.replicate l.length (iv 0)) 2 0)).next < 2 ^ 39 := by show H2.next + 1 < _; omega
  refine wops_cons (o_alloc rfl rfl r3 ?_)
  refine wops_cons (o_store rfl rfl rfl (get_add_eq (x := .cells [.v (.slice none 0 0)] 102 0) r3) (Nat.succ_pos _) rfl ?_)
  refine WOps.mem (fun H5 => Keeps H H5 ∧ H5.next = H.next + 4 ∧ H5.get H.next = some (.cells (ivs (List.replicate l.length 0)) 3 0) ∧ H5.get (H.next + 1) = some (.cells (ivs (List.replicate l.length 0)) 3 0) ∧ H5.get (H.next + 2) = some (.cells (ivs (List.replicate l.length 0)) 2 0) ∧ H5.get (H.next + 3) = some (.cells [.slc (H.next + 2) 0 l.length l.length] 102 0)) ⟨?_, ?_, ?_, ?_, ?_, ?_⟩ ?_
  · exact ((k2.add _ (by omega)).add _ r3).set _ (by show H.next ≤ H2.next + 1; omega) r3
  · show H2.next + 1 + 1 = _; omega
  · rw [get_set_ne r3 (by show H.next ≠ H2.next + 1; omega), get_add_ne r3 (by show H.next ≠ H2.next + 1; omega), get_add_ne (by omega) (by omega), gs2, ivs_rep]
  · rw [get_set_ne r3 (by show H.next + 1 ≠ H2.next + 1; omega), get_add_ne r3 (by show H.next + 1 ≠ H2.next + 1; omega), get_add_ne (by omega) (by omega), gp2, ivs_rep]
  · rw [← n2]
    rw [get_set_ne r3 (by show H2.next ≠ H2.next + 1; omega), get_add_ne r3 (by show H2.next ≠ H2.next + 1; omega), get_add_eq (by omega), ivs_rep]
  · rw [show H.next + 3 = (H2.add (.cells (List.replicate l.length (iv 0)) 2 0)).next by show _ = H2.next + 1; omega, get_set_eq r3]
    show some (AB.cells [AV.slc H2.next 0 l.length l.length] 102 0) = _
    rw [n2]
  clear k2 gs2 gp2 hx2
  rintro H5 ⟨k5, n5, gs5, gp5, gr5, gt5⟩
  have hx5 := hx.keep ho k5
  refine WOps.T (T' := (iv total :: x :: .v undef :: .v undef :: .v (.slice none 0 0) :: iv 0 :: iv (sumL l) :: iv 0 :: .slc H.next 0 l.length l.length :: .slc (H.next + 1) 0 l.length l.length :: .ptr (H.next + 3) 0 :: .v undef :: .v undef :: .v undef :: .v undef :: .v undef :: .v undef :: iv total :: .v (.bool true) :: .v (.bool false) :: .tup [iv (sumL l), iv 0] :: x :: .tup [iv (sumL l), iv 0] :: iv (sumL l) :: iv 0 :: iv 0 :: .v (.bool false) :: .v undef :: x :: iv l.length :: .slc H.next 0 l.length l.length :: x :: iv l.length :: .slc (H.next + 1) 0 l.length l.length :: x :: iv l.length :: .slc (H.next + 2) 0 l.length l.length :: .v undef :: .v undef :: .v undef :: .v undef :: .v undef :: .v undef :: .v undef :: .v undef :: .v undef :: .v undef :: .v undef :: .v undef :: .v undef :: .v undef :: .v undef :: .v undef :: .v undef :: .v undef :: .v undef :: .v undef :: .v undef :: .v undef :: .v undef :: .v undef :: .v undef :: .v undef :: .v undef :: .v undef :: .v undef :: .v undef :: .v undef :: .v undef :: .v undef :: .v undef :: .v undef :: .v undef :: .v undef :: .v undef :: .v undef :: .v undef :: .v undef :: .v undef :: .v undef :: .v undef :: .v undef :: .v undef :: .v undef :: .v undef :: .v undef :: .v undef :: .v undef :: .v undef :: .v undef :: [])) (by rw [show (H2.add (.cells (List.replicate l.length (iv 0)) 2 0)).next = H.next + 3 by show H2.next + 1 = _; omega, n2]; rfl) ?_
  repeat (first | refine wops_nil ?_ | refine zq1 rfl rfl ?_ | refine zq2 rfl rfl ?_ | refine zq3 rfl rfl ?_ | refine zq4 rfl rfl rfl rfl (inc (by omega)) ?_ | refine zq5 rfl rfl rfl rfl rfl (by assumption) ?_ | refine zq6 rfl rfl (by assumption) ?_ | refine zq7 rfl rfl rfl ?_ | refine zq8 rfl rfl rfl ?_ | refine zq9 rfl rfl rfl rfl ?_ | refine mobs_move rfl rfl rfl ?_ | refine m_load rfl rfl rfl (by assumption) ?_ | refine mobs_nil ?_ | refine wd_nil ?_ | refine wd_skip rfl rfl ?_ | refine wd_loudSkip rfl rfl ?_ | refine wd_move rfl rfl rfl ?_ | refine wd_assign rfl rfl rfl ?_ | refine wd_pick rfl rfl rfl rfl ?_ | refine d_load rfl rfl rfl (by assumption) ?_ | refine d_lenI rfl rfl rfl rfl rfl rfl (by assumption) ?_ | refine wp_condT rfl ?_ | refine wp_condF rfl ?_ | refine wp_region ?_ | refine wp_seq ?_ | refine wp_skip ?_ | refine wp_exit ?_ | refine wp_block ?_)
  clear h r1 n2 r3
  have hqn : (quoL total (sumL l) l).length = l.length := by simp [quoL]
  have hrn : (remL total (sumL l) l).length = l.length := by simp [remL]
  refine wp_loop (fun q T M H' => ∃ (i : Nat) (Y : List AV) (ss ps rs : List Int), q = l.length - i ∧ i ≤ l.length ∧ Keeps H H' ∧ H'.next = H.next + 4 ∧ H'.get H.next = some (.cells (ivs ss) 3 0) ∧ H'.get (H.next + 1) = some (.cells (ivs ps) 3 0) ∧ H'.get (H.next + 2) = some (.cells (ivs rs) 2 0) ∧ H'.get (H.next + 3) = some (.cells [.slc (H.next + 2) 0 l.length l.length] 102 0) ∧
      ss.length = l.length ∧ ps.length = l.length ∧ rs.length = l.length ∧ (∀ j, j < i → ss[j]? = (quoL total (sumL l) l)[j]?) ∧ (∀ j, j < i → ps[j]? = some (j : Int)) ∧ (∀ j, j < i → rs[j]? = (remL total (sumL l) l)[j]?) ∧ M = [] ∧
      T = (iv total :: x :: lget Y 0 :: lget Y 1 :: .v (.slice none 0 0) :: iv 0 :: iv (sumL l) :: lget Y 2 :: .slc H.next 0 l.length l.length :: .slc (H.next + 1) 0 l.length l.length :: .ptr (H.next + 3) 0 :: iv (total - sumL ((quoL total (sumL l) l).take i)) :: lget Y 3 :: lget Y 4 :: lget Y 5 :: lget Y 6 :: lget Y 7 :: lget Y 8 :: lget Y 9 :: lget Y 10 :: lget Y 11 :: lget Y 12 :: lget Y 13 :: lget Y 14 :: lget Y 15 :: lget Y 16 :: lget Y 17 :: lget Y 18 :: lget Y 19 :: lget Y 20 :: lget Y 21 :: lget Y 22 :: lget Y 23 :: lget Y 24 :: lget Y 25 :: lget Y 26 :: lget Y 27 :: lget Y 28 :: x :: iv l.length :: iv (i : Nat) :: lget Y 29 :: lget Y 30 :: lget Y 31 :: lget Y 32 :: lget Y 33 :: lget Y 34 :: lget Y 35 :: lget Y 36 :: lget Y 37 :: lget Y 38 :: lget Y 39 :: lget Y 40 :: lget Y 41 :: lget Y 42 :: lget Y 43 :: lget Y 44 :: lget Y 45 :: lget Y 46 :: lget Y 47 :: lget Y 48 :: lget Y 49 :: lget Y 50 :: lget Y 51 :: lget Y 52 :: lget Y 53 :: lget Y 54 :: lget Y 55 :: lget Y 56 :: lget Y 57 :: lget Y 58 :: lget Y 59 :: lget Y 60 :: lget Y 61 :: lget Y 62 :: lget Y 63 :: lget Y 64 :: lget Y 65 :: lget Y 66 :: lget Y 67 :: lget Y 68 :: lget Y 69 :: lget Y 70 :: lget Y 71 :: lget Y 72 :: lget Y 73 :: lget Y 74 :: lget Y 75 :: lget Y 76 :: lget Y 77 :: [])) l.length
    ⟨0, [_,_,_,_,_,_,_,_,_,_,_,_,_,_,_,_,_,_,_,_,_,_,_,_,_,_,_,_,_,_,_,_,_,_,_,_,_,_,_,_,_,_,_,_,_,_,_,_,_,_,_,_,_,_,_,_,_,_,_,_,_,_,_,_,_,_,_,_,_,_,_,_,_,_,_,_,_,_], _, _, _, rfl, Nat.zero_le _, k5, n5, gs5, gp5, gr5, gt5, by simp, by simp, by simp, fun j h => absurd h (by omega), fun j h => absurd h (by omega), fun j h => absurd h (by omega), rfl, by rw [show total - sumL ((quoL total (sumL l) l).take 0) = total by simp [sumL]]; rfl⟩ ?_
  clear hx5 gt5 gr5 gp5 gs5 n5 k5
  rintro q T M H6 ⟨i, Y, ss, ps, rs, hq1, hi, k6, n6, gs6, gp6, gr6, gt6, ls, lp, lr, hss, hps, hrs, rfl, rfl⟩
  have hx6 := hx.keep ho k6
  repeat (first | refine wops_nil ?_ | refine zq1 rfl rfl ?_ | refine zq2 rfl rfl ?_ | refine zq3 rfl rfl ?_ | refine zq4 rfl rfl rfl rfl (inc (by omega)) ?_ | refine zq5 rfl rfl rfl rfl rfl (by assumption) ?_ | refine zq6 rfl rfl (by assumption) ?_ | refine zq7 rfl rfl rfl ?_ | refine zq8 rfl rfl rfl ?_ | refine zq9 rfl rfl rfl rfl ?_ | refine mobs_move rfl rfl rfl ?_ | refine m_load rfl rfl rfl (by assumption) ?_ | refine mobs_nil ?_ | refine wd_nil ?_ | refine wd_skip rfl rfl ?_ | refine wd_loudSkip rfl rfl ?_ | refine wd_move rfl rfl rfl ?_ | refine wd_assign rfl rfl rfl ?_ | refine wd_pick rfl rfl rfl rfl ?_ | refine d_load rfl rfl rfl (by assumption) ?_ | refine d_lenI rfl rfl rfl rfl rfl rfl (by assumption) ?_ | refine wp_condT rfl ?_ | refine wp_condF rfl ?_ | refine wp_region ?_ | refine wp_seq ?_ | refine wp_skip ?_ | refine wp_exit ?_ | refine wp_block ?_)
  refine wops_cons (wop_cmp rfl rfl rfl rfl rfl (fun h => ?_) (fun h => ?_))
  · have h : (i : Int) < l.length := of_decide_eq_true h
    have hi' : i < l.length := by omega
    obtain ⟨z, hz⟩ := l_some hi'
    have hzw := hwz z (List.mem_of_getElem? hz)
    unfold wOk at hzw
    have hqi : (quoL total (sumL l) l)[i]? = some ((total * z).tdiv (sumL l)) := by simp [quoL, hz]
    have hri : (remL total (sumL l) l)[i]? = some ((total * z).tmod (sumL l)) := by simp [remL, hz]
    have hqb := hq0 _ (List.mem_of_getElem? hqi)
    have hm1 : 0 ≤ total * z := Int.mul_nonneg ht.1 hzw.1
    have hm2 : total * z ≤ 999999999 * 999999999 := Int.mul_le_mul ht.2 hzw.2 hzw.1 (by decide)
    have hl1 := hleft i (by omega)
    have hl2 := hleft (i + 1) (by omega)
    have hst := sumL_take hqi
    rw [hst] at hl2
    repeat (first | refine wops_nil ?_ | refine zq1 rfl rfl ?_ | refine zq2 rfl rfl ?_ | refine zq3 rfl rfl ?_ | refine zq4 rfl rfl rfl rfl (inc (by omega)) ?_ | refine zq5 rfl rfl rfl rfl rfl (by assumption) ?_ | refine zq6 rfl rfl (by assumption) ?_ | refine zq7 rfl rfl rfl ?_ | refine zq8 rfl rfl rfl ?_ | refine zq9 rfl rfl rfl rfl ?_ | refine mobs_move rfl rfl rfl ?_ | refine m_load rfl rfl rfl (by assumption) ?_ | refine mobs_nil ?_ | refine wd_nil ?_ | refine wd_skip rfl rfl ?_ | refine wd_loudSkip rfl rfl ?_ | refine wd_move rfl rfl rfl ?_ | refine wd_assign rfl rfl rfl ?_ | refine wd_pick rfl rfl rfl rfl ?_ | refine d_load rfl rfl rfl (by assumption) ?_ | refine d_lenI rfl rfl rfl rfl rfl rfl (by assumption) ?_ | refine wp_condT rfl ?_ | refine wp_condF rfl ?_ | refine wp_region ?_ | refine wp_seq ?_ | refine wp_skip ?_ | refine wp_exit ?_ | refine wp_block ?_)
    refine wops_cons (o_indexI rfl rfl hx6 rfl hz fun p hp => ?_)
    repeat (first | refine wops_nil ?_ | refine zq1 rfl rfl ?_ | refine zq2 rfl rfl ?_ | refine zq3 rfl rfl ?_ | refine zq4 rfl rfl rfl rfl (inc (by omega)) ?_ | refine zq5 rfl rfl rfl rfl rfl (by assumption) ?_ | refine zq6 rfl rfl (by assumption) ?_ | refine zq7 rfl rfl rfl ?_ | refine zq8 rfl rfl rfl ?_ | refine zq9 rfl rfl rfl rfl ?_ | refine mobs_move rfl rfl rfl ?_ | refine m_load rfl rfl rfl (by assumption) ?_ | refine mobs_nil ?_ | refine wd_nil ?_ | refine wd_skip rfl rfl ?_ | refine wd_loudSkip rfl rfl ?_ | refine wd_move rfl rfl rfl ?_ | refine wd_assign rfl rfl rfl ?_ | refine wd_pick rfl rfl rfl rfl ?_ | refine d_load rfl rfl rfl (by assumption) ?_ | refine d_lenI rfl rfl rfl rfl rfl rfl (by assumption) ?_ | refine wp_condT rfl ?_ | refine wp_condF rfl ?_ | refine wp_region ?_ | refine wp_seq ?_ | refine wp_skip ?_ | refine wp_exit ?_ | refine wp_block ?_)
    refine wops_cons (wop_bin (op := .mul) (v := .int .i64 (total * z)) rfl rfl rfl rfl ?_ ?_)
    · show some (Value.int .i64 (IntKind.i64.wrap (total * z))) = _
      rw [wrap_id (by omega) (by omega)]
    repeat (first | refine wops_nil ?_ | refine zq1 rfl rfl ?_ | refine zq2 rfl rfl ?_ | refine zq3 rfl rfl ?_ | refine zq4 rfl rfl rfl rfl (inc (by omega)) ?_ | refine zq5 rfl rfl rfl rfl rfl (by assumption) ?_ | refine zq6 rfl rfl (by assumption) ?_ | refine zq7 rfl rfl rfl ?_ | refine zq8 rfl rfl rfl ?_ | refine zq9 rfl rfl rfl rfl ?_ | refine mobs_move rfl rfl rfl ?_ | refine m_load rfl rfl rfl (by assumption) ?_ | refine mobs_nil ?_ | refine wd_nil ?_ | refine wd_skip rfl rfl ?_ | refine wd_loudSkip rfl rfl ?_ | refine wd_move rfl rfl rfl ?_ | refine wd_assign rfl rfl rfl ?_ | refine wd_pick rfl rfl rfl rfl ?_ | refine d_load rfl rfl rfl (by assumption) ?_ | refine d_lenI rfl rfl rfl rfl rfl rfl (by assumption) ?_ | refine wp_condT rfl ?_ | refine wp_condF rfl ?_ | refine wp_region ?_ | refine wp_seq ?_ | refine wp_skip ?_ | refine wp_exit ?_ | refine wp_block ?_)
    refine Wp.T (T' := (iv total :: x :: lget Y 0 :: lget Y 1 :: .v (.slice none 0 0) :: iv 0 :: iv (sumL l) :: lget Y 2 :: .slc H.next 0 l.length l.length :: .slc (H.next + 1) 0 l.length l.length :: .ptr (H.next + 3) 0 :: iv (total - sumL ((quoL total (sumL l) l).take i)) :: iv (i : Nat) :: iv z :: iv (total * z) :: lget Y 6 :: lget Y 7 :: lget Y 8 :: lget Y 9 :: lget Y 10 :: lget Y 11 :: lget Y 12 :: lget Y 13 :: lget Y 14 :: lget Y 15 :: lget Y 16 :: lget Y 17 :: lget Y 18 :: lget Y 19 :: lget Y 20 :: lget Y 21 :: lget Y 22 :: lget Y 23 :: lget Y 24 :: lget Y 25 :: lget Y 26 :: lget Y 27 :: lget Y 28 :: x :: iv l.length :: iv (i : Nat) :: .v (.bool true) :: iv (i : Nat) :: p :: iv z :: iv total :: iv z :: iv (total * z) :: lget Y 36 :: lget Y 37 :: lget Y 38 :: lget Y 39 :: lget Y 40 :: lget Y 41 :: lget Y 42 :: lget Y 43 :: lget Y 44 :: lget Y 45 :: lget Y 46 :: lget Y 47 :: lget Y 48 :: lget Y 49 :: lget Y 50 :: lget Y 51 :: lget Y 52 :: lget Y 53 :: lget Y 54 :: lget Y 55 :: lget Y 56 :: lget Y 57 :: lget Y 58 :: lget Y 59 :: lget Y 60 :: lget Y 61 :: lget Y 62 :: lget Y 63 :: lget Y 64 :: lget Y 65 :: lget Y 66 :: lget Y 67 :: lget Y 68 :: lget Y 69 :: lget Y 70 :: lget Y 71 :: lget Y 72 :: lget Y 73 :: lget Y 74 :: lget Y 75 :: lget Y 76 :: lget Y 77 :: [])) rfl ?_
    have at6 : At H6 (.ptr (H.next + 3) 0) (.slc (H.next + 2) 0 l.length l.length) := at_ptr (by omega) gt6 rfl
    refine wp_drawB (B := fun c => c = H.next + 3) rfl ?_
    refine wb_move rfl rfl rfl ?_
    refine wb_move rfl rfl rfl ?_
    refine wb_load rfl rfl rfl (Cell.a (e := 102)) at6 (fun c o e => by cases e; rfl) ?_
    refine wb_move rfl rfl rfl ?_
    refine wb_move rfl rfl rfl ?_
    refine wb_move rfl rfl rfl ?_
    refine wb_move rfl rfl rfl ?_
    refine wb_move rfl rfl rfl ?_
    refine wb_quo rfl rfl rfl rfl rfl (by omega) ?_
    rw [wrap_id (by omega) (by omega)]
    refine wb_move rfl rfl rfl ?_
    refine wb_move rfl rfl rfl ?_
    refine wb_rem rfl rfl rfl rfl rfl (by omega) ?_
    refine wb_move rfl rfl rfl ?_
    refine wb_indexOwn rfl rfl rfl (TyS.u (t := 22)) (Cell.s (e := 3)) rfl rfl hi' ?_
    refine wb_loud rfl rfl ?_
    refine o_store rfl rfl rfl gs6 (by rw [ivs_length]; omega) rfl ⟨fun c hc => (by subst hc; rw [get_set_ne (by omega) (by omega), gt6]; exact sameBlk_slc _ _ _ _ _ _), ?_⟩
    refine wb_indexOwn rfl rfl rfl (TyS.u (t := 102)) (Cell.s (e := 2)) rfl rfl hi' ?_
    refine wb_loud rfl rfl ?_
    refine o_store rfl rfl rfl ((get_set_ne (by omega) (by omega)).trans gr6) (by rw [ivs_length]; omega) rfl ⟨fun c hc => (by subst hc; rw [get_set_ne (by omega) (by omega), get_set_ne (by omega) (by omega), gt6]; exact sameBlk_slc _ _ _ _ _ _), ?_⟩
    refine wb_indexOwn rfl rfl rfl (TyS.u (t := 22)) (Cell.s (e := 3)) rfl rfl hi' ?_
    refine wb_loud rfl rfl ?_
    refine o_store rfl rfl rfl ((get_set_ne (by omega) (by omega)).trans ((get_set_ne (by omega) (by omega)).trans gp6)) (by rw [ivs_length]; omega) rfl ⟨fun c hc => (by subst hc; rw [get_set_ne (by omega) (by omega), get_set_ne (by omega) (by omega), get_set_ne (by omega) (by omega), gt6]; exact sameBlk_slc _ _ _ _ _ _), ?_⟩
    refine wb_nil ?_
    refine Wp.T (T' := (iv total :: x :: lget Y 0 :: lget Y 1 :: .v (.slice none 0 0) :: iv 0 :: iv (sumL l) :: lget Y 2 :: .slc H.next 0 l.length l.length :: .slc (H.next + 1) 0 l.length l.length :: .ptr (H.next + 3) 0 :: iv (total - sumL ((quoL total (sumL l) l).take i)) :: iv (i : Nat) :: iv z :: iv (total * z) :: lget Y 6 :: lget Y 7 :: lget Y 8 :: lget Y 9 :: lget Y 10 :: lget Y 11 :: lget Y 12 :: lget Y 13 :: lget Y 14 :: lget Y 15 :: lget Y 16 :: lget Y 17 :: lget Y 18 :: lget Y 19 :: lget Y 20 :: lget Y 21 :: lget Y 22 :: lget Y 23 :: lget Y 24 :: lget Y 25 :: lget Y 26 :: lget Y 27 :: lget Y 28 :: x :: iv l.length :: iv (i : Nat) :: .v (.bool true) :: iv (i : Nat) :: p :: iv z :: iv total :: iv z :: iv (total * z) :: .slc H.next 0 l.length l.length :: iv (i : Nat) :: .slc (H.next + 2) 0 l.length l.length :: iv (i : Nat) :: .slc (H.next + 1) 0 l.length l.length :: iv (i : Nat) :: iv (total * z) :: iv (sumL l) :: iv ((total * z).tdiv (sumL l)) :: iv (total * z) :: iv (sumL l) :: iv ((total * z).tmod (sumL l)) :: iv (i : Nat) :: .ptr H.next i :: .ptr (H.next + 2) i :: .ptr (H.next + 1) i :: lget Y 52 :: lget Y 53 :: lget Y 54 :: lget Y 55 :: lget Y 56 :: lget Y 57 :: lget Y 58 :: lget Y 59 :: lget Y 60 :: lget Y 61 :: lget Y 62 :: lget Y 63 :: lget Y 64 :: lget Y 65 :: lget Y 66 :: lget Y 67 :: lget Y 68 :: lget Y 69 :: lget Y 70 :: lget Y 71 :: lget Y 72 :: lget Y 73 :: lget Y 74 :: lget Y 75 :: lget Y 76 :: lget Y 77 :: [])) rfl ?_
    refine Wp.mem (fun H7 => Keeps H H7 ∧ H7.next = H.next + 4 ∧ H7.get H.next = some (.cells (ivs (ss.set i ((total * z).tdiv (sumL l)))) 3 0) ∧ H7.get (H.next + 1) = some (.cells (ivs (ps.set i (i : Int))) 3 0) ∧ H7.get (H.next + 2) = some (.cells (ivs (rs.set i ((total * z).tmod (sumL l)))) 2 0) ∧ H7.get (H.next + 3) = some (.cells [.slc (H.next + 2) 0 l.length l.length] 102 0)) ⟨?_, ?_, ?_, ?_, ?_, ?_⟩ ?_
    · exact ((k6.set _ (by omega) (by omega)).set _ (by omega) (by omega)).set _ (by omega) (by omega)
    · exact n6
    · rw [get_set_ne (by omega) (by omega), get_set_ne (by omega) (by omega), get_set_eq (by omega)]
      exact congrArg (fun c => some (AB.cells c 3 0)) (ivs_set _ _ _)
    · rw [get_set_eq (by omega)]
      exact congrArg (fun c => some (AB.cells c 3 0)) (ivs_set _ _ _)
    · rw [get_set_ne (by omega) (by omega), get_set_eq (by omega)]
      exact congrArg (fun c => some (AB.cells c 2 0)) (ivs_set _ _ _)
    · rw [get_set_ne (by omega) (by omega), get_set_ne (by omega) (by omega), get_set_ne (by omega) (by omega)]
      exact gt6
    rintro H7 ⟨k7, n7, gs7, gp7, gr7, gt7⟩
    have hS7 : Sl H7 (.slc H.next 0 l.length l.length) (ivs (ss.set i ((total * z).tdiv (sumL l)))) := sl_cells (by omega) gs7 (by rw [ivs_length, List.length_set, ls]) fun _ _ h => h
    repeat (first | refine wops_nil ?_ | refine zq1 rfl rfl ?_ | refine zq2 rfl rfl ?_ | refine zq3 rfl rfl ?_ | refine zq4 rfl rfl rfl rfl (inc (by omega)) ?_ | refine zq5 rfl rfl rfl rfl rfl (by assumption) ?_ | refine zq6 rfl rfl (by assumption) ?_ | refine zq7 rfl rfl rfl ?_ | refine zq8 rfl rfl rfl ?_ | refine zq9 rfl rfl rfl rfl ?_ | refine mobs_move rfl rfl rfl ?_ | refine m_load rfl rfl rfl (by assumption) ?_ | refine mobs_nil ?_ | refine wd_nil ?_ | refine wd_skip rfl rfl ?_ | refine wd_loudSkip rfl rfl ?_ | refine wd_move rfl rfl rfl ?_ | refine wd_assign rfl rfl rfl ?_ | refine wd_pick rfl rfl rfl rfl ?_ | refine d_load rfl rfl rfl (by assumption) ?_ | refine d_lenI rfl rfl rfl rfl rfl rfl (by assumption) ?_ | refine wp_condT rfl ?_ | refine wp_condF rfl ?_ | refine wp_region ?_ | refine wp_seq ?_ | refine wp_skip ?_ | refine wp_exit ?_ | refine wp_block ?_)
    refine wops_cons (o_indexI (z := (total * z).tdiv (sumL l)) rfl rfl hS7 rfl (List.getElem?_set_self (by omega)) fun p hp => ?_)
    repeat (first | refine wops_nil ?_ | refine zq1 rfl rfl ?_ | refine zq2 rfl rfl ?_ | refine zq3 rfl rfl ?_ | refine zq4 rfl rfl rfl rfl (inc (by omega)) ?_ | refine zq5 rfl rfl rfl rfl rfl (by assumption) ?_ | refine zq6 rfl rfl (by assumption) ?_ | refine zq7 rfl rfl rfl ?_ | refine zq8 rfl rfl rfl ?_ | refine zq9 rfl rfl rfl rfl ?_ | refine mobs_move rfl rfl rfl ?_ | refine m_load rfl rfl rfl (by assumption) ?_ | refine mobs_nil ?_ | refine wd_nil ?_ | refine wd_skip rfl rfl ?_ | refine wd_loudSkip rfl rfl ?_ | refine wd_move rfl rfl rfl ?_ | refine wd_assign rfl rfl rfl ?_ | refine wd_pick rfl rfl rfl rfl ?_ | refine d_load rfl rfl rfl (by assumption) ?_ | refine d_lenI rfl rfl rfl rfl rfl rfl (by assumption) ?_ | refine wp_condT rfl ?_ | refine wp_condF rfl ?_ | refine wp_region ?_ | refine wp_seq ?_ | refine wp_skip ?_ | refine wp_exit ?_ | refine wp_block ?_)
    refine wops_cons (wop_bin (op := .sub) (v := .int .i64 (total - sumL ((quoL total (sumL l) l).take (i + 1)))) rfl rfl rfl rfl ?_ ?_)
    · show some (Value.int .i64 (IntKind.i64.wrap (total - sumL ((quoL total (sumL l) l).take i) - (total * z).tdiv (sumL l)))) = _
      have hbd := sub_bounds hl2 ht.2 (sumL_nonneg (l := (quoL total (sumL l) l).take i) fun y hy => (hq0 y (List.mem_of_mem_take hy)).1) hqb.1
      rw [hst, wrap_id hbd.1 hbd.2, Int.sub_sub]
    repeat (first | refine wops_nil ?_ | refine zq1 rfl rfl ?_ | refine zq2 rfl rfl ?_ | refine zq3 rfl rfl ?_ | refine zq4 rfl rfl rfl rfl (inc (by omega)) ?_ | refine zq5 rfl rfl rfl rfl rfl (by assumption) ?_ | refine zq6 rfl rfl (by assumption) ?_ | refine zq7 rfl rfl rfl ?_ | refine zq8 rfl rfl rfl ?_ | refine zq9 rfl rfl rfl rfl ?_ | refine mobs_move rfl rfl rfl ?_ | refine m_load rfl rfl rfl (by assumption) ?_ | refine mobs_nil ?_ | refine wd_nil ?_ | refine wd_skip rfl rfl ?_ | refine wd_loudSkip rfl rfl ?_ | refine wd_move rfl rfl rfl ?_ | refine wd_assign rfl rfl rfl ?_ | refine wd_pick rfl rfl rfl rfl ?_ | refine d_load rfl rfl rfl (by assumption) ?_ | refine d_lenI rfl rfl rfl rfl rfl rfl (by assumption) ?_ | refine wp_condT rfl ?_ | refine wp_condF rfl ?_ | refine wp_region ?_ | refine wp_seq ?_ | refine wp_skip ?_ | refine wp_exit ?_ | refine wp_block ?_)
    have hup : ∀ (s : List Int) (v : Int) (t : List Int), s.length = l.length → t[i]? = some v → (∀ j, j < i → s[j]? = t[j]?) → ∀ j, j < i + 1 → (s.set i v)[j]? = t[j]? := fun s v t h1 h2 h3 j hj => by
      by_cases e : j = i
      · subst e; rw [List.getElem?_set_self (by omega), h2]
      · rw [List.getElem?_set_ne (Ne.symm e)]; exact h3 j (by omega)
    refine ⟨l.length - (i + 1), by omega, i + 1, [_,_,_,_,_,_,_,_,_,_,_,_,_,_,_,_,_,_,_,_,_,_,_,_,_,_,_,_,_,_,_,_,_,_,_,_,_,_,_,_,_,_,_,_,_,_,_,_,_,_,_,_,_,_,_,_,_,_,_,_,_,_,_,_,_,_,_,_,_,_,_,_,_,_,_,_,_,_], _, _, _, rfl, by omega, k7, n7, gs7, gp7, gr7, gt7, by rw [List.length_set]; exact ls, by rw [List.length_set]; exact lp, by rw [List.length_set]; exact lr, hup _ _ _ ls hqi hss, fun j hj => ?_, hup _ _ _ lr hri hrs, rfl, rfl⟩
    by_cases e : j = i
    · subst e; rw [List.getElem?_set_self (by omega)]
    · rw [List.getElem?_set_ne (Ne.symm e)]; exact hps j (by omega)
  · have h : ¬ ((i : Int) < l.length) := of_decide_eq_false h
    have e : i = l.length := by omega
    subst e
    have es : ss = quoL total (sumL l) l := List.ext_getElem? fun j => by
      rcases Nat.lt_or_ge j l.length with hj | hj
      · exact hss j hj
      · rw [List.getElem?_eq_none (by omega), List.getElem?_eq_none (by omega)]
    have er : rs = remL total (sumL l) l := List.ext_getElem? fun j => by
      rcases Nat.lt_or_ge j l.length with hj | hj
      · exact hrs j hj
      · rw [List.getElem?_eq_none (by omega), List.getElem?_eq_none (by omega)]
    have ep : ps = rangeI l.length := List.ext_getElem? fun j => by
      rcases Nat.lt_or_ge j l.length with hj | hj
      · rw [hps j hj]; simp [rangeI, hj]
      · rw [List.getElem?_eq_none (by omega), List.getElem?_eq_none (by rw [length_rangeI]; omega)]
    subst es er ep
    clear hss hrs hps
    rw [List.take_of_length_le (by omega)]
    have hl0' := hleft l.length (Nat.le_refl _)
    rw [List.take_of_length_le (by omega)] at hl0'
    obtain ⟨m, hm⟩ := Int.eq_ofNat_of_zero_le hl0'
    have hmn : m ≤ l.length := by omega
    repeat (first | refine wops_nil ?_ | refine zq1 rfl rfl ?_ | refine zq2 rfl rfl ?_ | refine zq3 rfl rfl ?_ | refine zq4 rfl rfl rfl rfl (inc (by omega)) ?_ | refine zq5 rfl rfl rfl rfl rfl (by assumption) ?_ | refine zq6 rfl rfl (by assumption) ?_ | refine zq7 rfl rfl rfl ?_ | refine zq8 rfl rfl rfl ?_ | refine zq9 rfl rfl rfl rfl ?_ | refine mobs_move rfl rfl rfl ?_ | refine m_load rfl rfl rfl (by assumption) ?_ | refine mobs_nil ?_ | refine wd_nil ?_ | refine wd_skip rfl rfl ?_ | refine wd_loudSkip rfl rfl ?_ | refine wd_move rfl rfl rfl ?_ | refine wd_assign rfl rfl rfl ?_ | refine wd_pick rfl rfl rfl rfl ?_ | refine d_load rfl rfl rfl (by assumption) ?_ | refine d_lenI rfl rfl rfl rfl rfl rfl (by assumption) ?_ | refine wp_condT rfl ?_ | refine wp_condF rfl ?_ | refine wp_region ?_ | refine wp_seq ?_ | refine wp_skip ?_ | refine wp_exit ?_ | refine wp_block ?_)
    refine WOps.T (T' := (iv total :: x :: lget Y 0 :: lget Y 1 :: .v (.slice none 0 0) :: iv 0 :: iv (sumL l) :: lget Y 2 :: .slc H.next 0 l.length l.length :: .slc (H.next + 1) 0 l.length l.length :: .ptr (H.next + 3) 0 :: iv (total - sumL (quoL total (sumL l) l)) :: lget Y 3 :: lget Y 4 :: lget Y 5 :: lget Y 6 :: lget Y 7 :: lget Y 8 :: lget Y 9 :: lget Y 10 :: lget Y 11 :: lget Y 12 :: lget Y 13 :: lget Y 14 :: lget Y 15 :: lget Y 16 :: lget Y 17 :: lget Y 18 :: lget Y 19 :: lget Y 20 :: lget Y 21 :: lget Y 22 :: lget Y 23 :: lget Y 24 :: lget Y 25 :: lget Y 26 :: lget Y 27 :: lget Y 28 :: x :: iv l.length :: iv (l.length : Nat) :: .v (.bool false) :: lget Y 30 :: lget Y 31 :: lget Y 32 :: lget Y 33 :: lget Y 34 :: lget Y 35 :: lget Y 36 :: lget Y 37 :: lget Y 38 :: lget Y 39 :: lget Y 40 :: lget Y 41 :: lget Y 42 :: lget Y 43 :: lget Y 44 :: lget Y 45 :: lget Y 46 :: lget Y 47 :: lget Y 48 :: lget Y 49 :: lget Y 50 :: lget Y 51 :: lget Y 52 :: lget Y 53 :: lget Y 54 :: lget Y 55 :: lget Y 56 :: lget Y 57 :: lget Y 58 :: .slc (H.next + 1) 0 l.length l.length :: lget Y 60 :: lget Y 61 :: lget Y 62 :: lget Y 63 :: lget Y 64 :: lget Y 65 :: lget Y 66 :: lget Y 67 :: lget Y 68 :: lget Y 69 :: lget Y 70 :: lget Y 71 :: lget Y 72 :: lget Y 73 :: lget Y 74 :: lget Y 75 :: lget Y 76 :: lget Y 77 :: [])) rfl ?_
    refine wops_cons (wop_makeFunc rfl rfl ?_)
    refine wops_cons (wop_callF rfl rfl rfl (fn := Tryz.f62) (by rfl) ?_)
    refine c62g hq H6 (H.next + 1) l.length (H.next + 3) (by omega) (by omega) gp6 (ltR (remL total (sumL l) l)) (RS (remL total (sumL l) l)) (RS_tot _) (fun u v h => RS_lt h) (fun Hm u v a1 a2 a3 hu hv K' hk' => ?_) _ fun r H7 g' h7 hsd hpm => ⟨Nat.le_of_eq h7.1.symm, ?_⟩
    · have hu' := hu
      have hv' := hv
      obtain ⟨ru, hru⟩ := l_some (l := remL total (sumL l) l) (show u.toNat < _ by omega)
      obtain ⟨rv', hrv⟩ := l_some (l := remL total (sumL l) l) (show v.toNat < _ by omega)
      have eu : u = (u.toNat : Int) := by omega
      have ev' : v = (v.toNat : Int) := by omega
      rw [eu, ev']
      refine c63 hq Hm u.toNat v.toNat (H.next + 3) (H.next + 2) l.length (remL total (sumL l) l) ru rv' (by omega) (by omega) ((a3 _ (by omega)).trans gt6) ((a3 _ (by omega)).trans gr6) hrn hru hrv K' (hk' _ ?_)
      unfold ltR cmpI
      rw [List.getD_eq_getElem?_getD, List.getD_eq_getElem?_getD, hru, hrv]
      by_cases h1 : rv' < ru
      · simp [h1]
      · by_cases h2 : rv' > ru <;> simp [h1, h2]
    obtain ⟨n7, gl7, g7, gp7⟩ := h7
    have hmem : ∀ z ∈ fl g' l.length, 0 ≤ z ∧ z < l.length := fun z hz => by
      rw [fl_seg] at hz
      obtain ⟨x, _, x2, x3⟩ := seg_mem.1 (hpm.mem_iff.1 hz)
      have x3 : (x : Int) = z := x3
      omega
    have k7 : Keeps H H7 := ⟨by omega, gl7.trans k6.gl, fun c hc => (g7 c (by omega)).trans (k6.get c hc)⟩
    have gs7 := (g7 H.next (by omega)).trans gs6
    have hol : (fl g' l.length).length = l.length := fl_length _ _
    have hPS : True ∧ Sl H7 (.slc (H.next + 1) 0 m l.length) (ivs ((fl g' l.length).take m)) := ⟨trivial, sl_cells (by omega) gp7 (by rw [ivs_length, List.length_take]; omega) fun j v hv => by
      simp only [ivs, List.getElem?_map, Option.map_eq_some_iff] at hv ⊢
      obtain ⟨a, ha, rfl⟩ := hv
      rw [List.getElem?_take] at ha
      split at ha
      · exact ⟨a, ha, rfl⟩
      · cases ha⟩
    repeat (first | refine wops_nil ?_ | refine zq1 rfl rfl ?_ | refine zq2 rfl rfl ?_ | refine zq3 rfl rfl ?_ | refine zq4 rfl rfl rfl rfl (inc (by omega)) ?_ | refine zq5 rfl rfl rfl rfl rfl (by assumption) ?_ | refine zq6 rfl rfl (by assumption) ?_ | refine zq7 rfl rfl rfl ?_ | refine zq8 rfl rfl rfl ?_ | refine zq9 rfl rfl rfl rfl ?_ | refine mobs_move rfl rfl rfl ?_ | refine m_load rfl rfl rfl (by assumption) ?_ | refine mobs_nil ?_ | refine wd_nil ?_ | refine wd_skip rfl rfl ?_ | refine wd_loudSkip rfl rfl ?_ | refine wd_move rfl rfl rfl ?_ | refine wd_assign rfl rfl rfl ?_ | refine wd_pick rfl rfl rfl rfl ?_ | refine d_load rfl rfl rfl (by assumption) ?_ | refine d_lenI rfl rfl rfl rfl rfl rfl (by assumption) ?_ | refine wp_condT rfl ?_ | refine wp_condF rfl ?_ | refine wp_region ?_ | refine wp_seq ?_ | refine wp_skip ?_ | refine wp_exit ?_ | refine wp_block ?_)
    refine WOps.T (T' := (iv total :: x :: lget Y 0 :: lget Y 1 :: .v (.slice none 0 0) :: iv 0 :: iv (sumL l) :: lget Y 2 :: .slc H.next 0 l.length l.length :: .slc (H.next + 1) 0 l.length l.length :: .ptr (H.next + 3) 0 :: iv (total - sumL (quoL total (sumL l) l)) :: lget Y 3 :: lget Y 4 :: lget Y 5 :: lget Y 6 :: lget Y 7 :: lget Y 8 :: lget Y 9 :: lget Y 10 :: lget Y 11 :: lget Y 12 :: lget Y 13 :: lget Y 14 :: lget Y 15 :: lget Y 16 :: lget Y 17 :: lget Y 18 :: lget Y 19 :: lget Y 20 :: lget Y 21 :: lget Y 22 :: lget Y 23 :: lget Y 24 :: lget Y 25 :: lget Y 26 :: lget Y 27 :: lget Y 28 :: x :: iv l.length :: iv (l.length : Nat) :: .v (.bool false) :: lget Y 30 :: lget Y 31 :: lget Y 32 :: lget Y 33 :: lget Y 34 :: lget Y 35 :: lget Y 36 :: lget Y 37 :: lget Y 38 :: lget Y 39 :: lget Y 40 :: lget Y 41 :: lget Y 42 :: lget Y 43 :: lget Y 44 :: lget Y 45 :: lget Y 46 :: lget Y 47 :: lget Y 48 :: lget Y 49 :: lget Y 50 :: lget Y 51 :: lget Y 52 :: lget Y 53 :: lget Y 54 :: lget Y 55 :: lget Y 56 :: lget Y 57 :: lget Y 58 :: .slc (H.next + 1) 0 l.length l.length :: .fn (.func 63) [] [.ptr (H.next + 3) 0] :: r :: .slc (H.next + 1) 0 l.length l.length :: iv (total - sumL (quoL total (sumL l) l)) :: lget Y 64 :: lget Y 65 :: lget Y 66 :: lget Y 67 :: lget Y 68 :: lget Y 69 :: lget Y 70 :: lget Y 71 :: lget Y 72 :: lget Y 73 :: lget Y 74 :: lget Y 75 :: lget Y 76 :: lget Y 77 :: [])) rfl ?_
    refine wops_cons (o_sliceTo (m := m) rfl rfl rfl (by rw [← Int.ofNat_eq_natCast, ← hm]; rfl) hmn ?_)
    refine wops_cons (o_lenN (m := m) rfl rfl rfl rfl rfl hPS.2 (by rw [ivs_length, List.length_take]; omega) ?_)
    repeat (first | refine wops_nil ?_ | refine zq1 rfl rfl ?_ | refine zq2 rfl rfl ?_ | refine zq3 rfl rfl ?_ | refine zq4 rfl rfl rfl rfl (inc (by omega)) ?_ | refine zq5 rfl rfl rfl rfl rfl (by assumption) ?_ | refine zq6 rfl rfl (by assumption) ?_ | refine zq7 rfl rfl rfl ?_ | refine zq8 rfl rfl rfl ?_ | refine zq9 rfl rfl rfl rfl ?_ | refine mobs_move rfl rfl rfl ?_ | refine m_load rfl rfl rfl (by assumption) ?_ | refine mobs_nil ?_ | refine wd_nil ?_ | refine wd_skip rfl rfl ?_ | refine wd_loudSkip rfl rfl ?_ | refine wd_move rfl rfl rfl ?_ | refine wd_assign rfl rfl rfl ?_ | refine wd_pick rfl rfl rfl rfl ?_ | refine d_load rfl rfl rfl (by assumption) ?_ | refine d_lenI rfl rfl rfl rfl rfl rfl (by assumption) ?_ | refine wp_condT rfl ?_ | refine wp_condF rfl ?_ | refine wp_region ?_ | refine wp_seq ?_ | refine wp_skip ?_ | refine wp_exit ?_ | refine wp_block ?_)
    refine wp_loop (fun q T M H' => ∃ (j : Nat) (Y : List AV), q = m - j ∧ j ≤ m ∧ Keeps H H' ∧ H'.next = H.next + 4 ∧ (∀ c, c ≠ H.next → H'.get c = H7.get c) ∧ H'.get H.next = some (.cells (ivs (bump (quoL total (sumL l) l) ((fl g' l.length).take j))) 3 0) ∧ M = [] ∧
        T = (iv total :: x :: lget Y 0 :: lget Y 1 :: .v (.slice none 0 0) :: iv 0 :: lget Y 2 :: lget Y 3 :: .slc H.next 0 l.length l.length :: lget Y 4 :: lget Y 5 :: lget Y 6 :: lget Y 7 :: lget Y 8 :: lget Y 9 :: lget Y 10 :: lget Y 11 :: lget Y 12 :: lget Y 13 :: lget Y 14 :: lget Y 15 :: lget Y 16 :: lget Y 17 :: lget Y 18 :: lget Y 19 :: lget Y 20 :: lget Y 21 :: lget Y 22 :: lget Y 23 :: lget Y 24 :: lget Y 25 :: lget Y 26 :: lget Y 27 :: lget Y 28 :: lget Y 29 :: lget Y 30 :: lget Y 31 :: lget Y 32 :: lget Y 33 :: lget Y 34 :: lget Y 35 :: lget Y 36 :: lget Y 37 :: lget Y 38 :: lget Y 39 :: lget Y 40 :: lget Y 41 :: lget Y 42 :: lget Y 43 :: lget Y 44 :: lget Y 45 :: lget Y 46 :: lget Y 47 :: lget Y 48 :: lget Y 49 :: lget Y 50 :: lget Y 51 :: lget Y 52 :: lget Y 53 :: lget Y 54 :: lget Y 55 :: lget Y 56 :: lget Y 57 :: lget Y 58 :: lget Y 59 :: lget Y 60 :: lget Y 61 :: lget Y 62 :: lget Y 63 :: lget Y 64 :: lget Y 65 :: lget Y 66 :: lget Y 67 :: lget Y 68 :: lget Y 69 :: lget Y 70 :: .slc (H.next + 1) 0 m l.length :: iv (m : Nat) :: iv (j : Nat) :: lget Y 71 :: lget Y 72 :: lget Y 73 :: lget Y 74 :: lget Y 75 :: lget Y 76 :: lget Y 77 :: lget Y 78 :: lget Y 79 :: lget Y 80 :: lget Y 81 :: [])) m
      ⟨0, [_,_,_,_,_,_,_,_,_,_,_,_,_,_,_,_,_,_,_,_,_,_,_,_,_,_,_,_,_,_,_,_,_,_,_,_,_,_,_,_,_,_,_,_,_,_,_,_,_,_,_,_,_,_,_,_,_,_,_,_,_,_,_,_,_,_,_,_,_,_,_,_,_,_,_,_,_,_,_,_,_,_], rfl, Nat.zero_le _, k7, by omega, fun _ _ => rfl, by rw [List.take_zero]; exact gs7, rfl, rfl⟩ ?_
    rintro q T M H8 ⟨j, Y, hq1, hj, k8, n8, g8, gs8, rfl, rfl⟩
    repeat (first | refine wops_nil ?_ | refine zq1 rfl rfl ?_ | refine zq2 rfl rfl ?_ | refine zq3 rfl rfl ?_ | refine zq4 rfl rfl rfl rfl (inc (by omega)) ?_ | refine zq5 rfl rfl rfl rfl rfl (by assumption) ?_ | refine zq6 rfl rfl (by assumption) ?_ | refine zq7 rfl rfl rfl ?_ | refine zq8 rfl rfl rfl ?_ | refine zq9 rfl rfl rfl rfl ?_ | refine mobs_move rfl rfl rfl ?_ | refine m_load rfl rfl rfl (by assumption) ?_ | refine mobs_nil ?_ | refine wd_nil ?_ | refine wd_skip rfl rfl ?_ | refine wd_loudSkip rfl rfl ?_ | refine wd_move rfl rfl rfl ?_ | refine wd_assign rfl rfl rfl ?_ | refine wd_pick rfl rfl rfl rfl ?_ | refine d_load rfl rfl rfl (by assumption) ?_ | refine d_lenI rfl rfl rfl rfl rfl rfl (by assumption) ?_ | refine wp_condT rfl ?_ | refine wp_condF rfl ?_ | refine wp_region ?_ | refine wp_seq ?_ | refine wp_skip ?_ | refine wp_exit ?_ | refine wp_block ?_)
    refine wops_cons (wop_cmp rfl rfl rfl rfl rfl (fun h => ?_) (fun h => ?_))
    · have h : (j : Int) < m := of_decide_eq_true h
      obtain ⟨p, hp⟩ := l_some (l := fl g' l.length) (show j < _ by omega)
      have hpr := hmem p (List.mem_of_getElem? hp)
      have hpn : p = (p.toNat : Int) := by omega
      have hpt : ((fl g' l.length).take m)[j]? = some p := by rw [List.getElem?_take, if_pos (by omega), hp]
      have hP8 := hPS.2.frame (k8.gl.trans k7.gl.symm) fun c hc => g8 c (by cases hc; omega)
      have hbl : (bump (quoL total (sumL l) l) ((fl g' l.length).take j)).length = l.length := by rw [bump_length, hqn]
      obtain ⟨s, hs⟩ := l_some (l := bump (quoL total (sumL l) l) ((fl g' l.length).take j)) (show p.toNat < _ by omega)
      have hsb := bump_bound hq0 ht.1 s (List.mem_of_getElem? hs)
      rw [List.length_take] at hsb
      repeat (first | refine wops_nil ?_ | refine zq1 rfl rfl ?_ | refine zq2 rfl rfl ?_ | refine zq3 rfl rfl ?_ | refine zq4 rfl rfl rfl rfl (inc (by omega)) ?_ | refine zq5 rfl rfl rfl rfl rfl (by assumption) ?_ | refine zq6 rfl rfl (by assumption) ?_ | refine zq7 rfl rfl rfl ?_ | refine zq8 rfl rfl rfl ?_ | refine zq9 rfl rfl rfl rfl ?_ | refine mobs_move rfl rfl rfl ?_ | refine m_load rfl rfl rfl (by assumption) ?_ | refine mobs_nil ?_ | refine wd_nil ?_ | refine wd_skip rfl rfl ?_ | refine wd_loudSkip rfl rfl ?_ | refine wd_move rfl rfl rfl ?_ | refine wd_assign rfl rfl rfl ?_ | refine wd_pick rfl rfl rfl rfl ?_ | refine d_load rfl rfl rfl (by assumption) ?_ | refine d_lenI rfl rfl rfl rfl rfl rfl (by assumption) ?_ | refine wp_condT rfl ?_ | refine wp_condF rfl ?_ | refine wp_region ?_ | refine wp_seq ?_ | refine wp_skip ?_ | refine wp_exit ?_ | refine wp_block ?_)
      refine wops_cons (o_indexI rfl rfl hP8 rfl hpt fun pt hpt' => ?_)
      repeat (first | refine wops_nil ?_ | refine zq1 rfl rfl ?_ | refine zq2 rfl rfl ?_ | refine zq3 rfl rfl ?_ | refine zq4 rfl rfl rfl rfl (inc (by omega)) ?_ | refine zq5 rfl rfl rfl rfl rfl (by assumption) ?_ | refine zq6 rfl rfl (by assumption) ?_ | refine zq7 rfl rfl rfl ?_ | refine zq8 rfl rfl rfl ?_ | refine zq9 rfl rfl rfl rfl ?_ | refine mobs_move rfl rfl rfl ?_ | refine m_load rfl rfl rfl (by assumption) ?_ | refine mobs_nil ?_ | refine wd_nil ?_ | refine wd_skip rfl rfl ?_ | refine wd_loudSkip rfl rfl ?_ | refine wd_move rfl rfl rfl ?_ | refine wd_assign rfl rfl rfl ?_ | refine wd_pick rfl rfl rfl rfl ?_ | refine d_load rfl rfl rfl (by assumption) ?_ | refine d_lenI rfl rfl rfl rfl rfl rfl (by assumption) ?_ | refine wp_condT rfl ?_ | refine wp_condF rfl ?_ | refine wp_region ?_ | refine wp_seq ?_ | refine wp_skip ?_ | refine wp_exit ?_ | refine wp_block ?_)
      refine WOps.T (T' := (iv total :: x :: lget Y 0 :: lget Y 1 :: .v (.slice none 0 0) :: iv 0 :: lget Y 2 :: lget Y 3 :: .slc H.next 0 l.length l.length :: lget Y 4 :: lget Y 5 :: lget Y 6 :: lget Y 7 :: lget Y 8 :: lget Y 9 :: lget Y 10 :: iv p :: lget Y 12 :: lget Y 13 :: lget Y 14 :: lget Y 15 :: lget Y 16 :: lget Y 17 :: lget Y 18 :: lget Y 19 :: lget Y 20 :: lget Y 21 :: lget Y 22 :: lget Y 23 :: lget Y 24 :: lget Y 25 :: lget Y 26 :: lget Y 27 :: lget Y 28 :: lget Y 29 :: lget Y 30 :: lget Y 31 :: lget Y 32 :: lget Y 33 :: lget Y 34 :: lget Y 35 :: lget Y 36 :: lget Y 37 :: lget Y 38 :: lget Y 39 :: lget Y 40 :: lget Y 41 :: lget Y 42 :: lget Y 43 :: lget Y 44 :: lget Y 45 :: lget Y 46 :: lget Y 47 :: lget Y 48 :: lget Y 49 :: lget Y 50 :: lget Y 51 :: lget Y 52 :: lget Y 53 :: lget Y 54 :: lget Y 55 :: lget Y 56 :: lget Y 57 :: lget Y 58 :: lget Y 59 :: lget Y 60 :: lget Y 61 :: lget Y 62 :: lget Y 63 :: lget Y 64 :: lget Y 65 :: lget Y 66 :: lget Y 67 :: lget Y 68 :: lget Y 69 :: lget Y 70 :: .slc (H.next + 1) 0 m l.length :: iv (m : Nat) :: iv (j : Nat) :: .v (.bool true) :: pt :: iv p :: .slc H.next 0 l.length l.length :: iv p :: lget Y 76 :: lget Y 77 :: lget Y 78 :: lget Y 79 :: lget Y 80 :: lget Y 81 :: [])) rfl ?_
      refine wops_cons (o_indexOwn (j := p.toNat) rfl rfl rfl (by rw [← hpn]; rfl) (by omega) ?_)
      have as8 : At H8 (.ptr H.next p.toNat) (iv s) := at_ptr (by omega) gs8 (ivs_get hs)
      repeat (first | refine wops_nil ?_ | refine zq1 rfl rfl ?_ | refine zq2 rfl rfl ?_ | refine zq3 rfl rfl ?_ | refine zq4 rfl rfl rfl rfl (inc (by omega)) ?_ | refine zq5 rfl rfl rfl rfl rfl (by assumption) ?_ | refine zq6 rfl rfl (by assumption) ?_ | refine zq7 rfl rfl rfl ?_ | refine zq8 rfl rfl rfl ?_ | refine zq9 rfl rfl rfl rfl ?_ | refine mobs_move rfl rfl rfl ?_ | refine m_load rfl rfl rfl (by assumption) ?_ | refine mobs_nil ?_ | refine wd_nil ?_ | refine wd_skip rfl rfl ?_ | refine wd_loudSkip rfl rfl ?_ | refine wd_move rfl rfl rfl ?_ | refine wd_assign rfl rfl rfl ?_ | refine wd_pick rfl rfl rfl rfl ?_ | refine d_load rfl rfl rfl (by assumption) ?_ | refine d_lenI rfl rfl rfl rfl rfl rfl (by assumption) ?_ | refine wp_condT rfl ?_ | refine wp_condF rfl ?_ | refine wp_region ?_ | refine wp_seq ?_ | refine wp_skip ?_ | refine wp_exit ?_ | refine wp_block ?_)
      refine wops_cons (wop_bin (op := .add) (v := .int .i64 (s + 1)) rfl rfl rfl rfl ?_ ?_)
      · show some (Value.int .i64 (IntKind.i64.wrap (s + 1))) = _
        rw [wrap_id (by omega) (by omega)]
      refine wops_cons (o_indexOwn (j := p.toNat) rfl rfl rfl (by rw [← hpn]; rfl) (by omega) ?_)
      refine wops_cons (o_store rfl rfl rfl gs8 (by rw [ivs_length]; omega) rfl ?_)
      repeat (first | refine wops_nil ?_ | refine zq1 rfl rfl ?_ | refine zq2 rfl rfl ?_ | refine zq3 rfl rfl ?_ | refine zq4 rfl rfl rfl rfl (inc (by omega)) ?_ | refine zq5 rfl rfl rfl rfl rfl (by assumption) ?_ | refine zq6 rfl rfl (by assumption) ?_ | refine zq7 rfl rfl rfl ?_ | refine zq8 rfl rfl rfl ?_ | refine zq9 rfl rfl rfl rfl ?_ | refine mobs_move rfl rfl rfl ?_ | refine m_load rfl rfl rfl (by assumption) ?_ | refine mobs_nil ?_ | refine wd_nil ?_ | refine wd_skip rfl rfl ?_ | refine wd_loudSkip rfl rfl ?_ | refine wd_move rfl rfl rfl ?_ | refine wd_assign rfl rfl rfl ?_ | refine wd_pick rfl rfl rfl rfl ?_ | refine d_load rfl rfl rfl (by assumption) ?_ | refine d_lenI rfl rfl rfl rfl rfl rfl (by assumption) ?_ | refine wp_condT rfl ?_ | refine wp_condF rfl ?_ | refine wp_region ?_ | refine wp_seq ?_ | refine wp_skip ?_ | refine wp_exit ?_ | refine wp_block ?_)
      refine ⟨m - (j + 1), by omega, j + 1, [_,_,_,_,_,_,_,_,_,_,_,_,_,_,_,_,_,_,_,_,_,_,_,_,_,_,_,_,_,_,_,_,_,_,_,_,_,_,_,_,_,_,_,_,_,_,_,_,_,_,_,_,_,_,_,_,_,_,_,_,_,_,_,_,_,_,_,_,_,_,_,_,_,_,_,_,_,_,_,_,_,_], rfl, by omega, k8.set _ (by omega) (by omega), n8, fun c hc => (get_set_ne (by omega) hc).trans (g8 c hc), ?_, rfl, rfl⟩
      rw [get_set_eq (by omega), List.take_add_one, hp]
      show some (AB.cells ((ivs _).set p.toNat (iv (s + 1))) 3 0) = some (AB.cells (ivs (bump _ (_ ++ [p]))) 3 0)
      rw [bump_snoc, ivs_set, List.getD_eq_getElem?_getD, hs]
      rfl
    · have h : ¬ ((j : Int) < m) := of_decide_eq_false h
      have e : j = m := by omega
      subst e
      repeat (first | refine wops_nil ?_ | refine zq1 rfl rfl ?_ | refine zq2 rfl rfl ?_ | refine zq3 rfl rfl ?_ | refine zq4 rfl rfl rfl rfl (inc (by omega)) ?_ | refine zq5 rfl rfl rfl rfl rfl (by assumption) ?_ | refine zq6 rfl rfl (by assumption) ?_ | refine zq7 rfl rfl rfl ?_ | refine zq8 rfl rfl rfl ?_ | refine zq9 rfl rfl rfl rfl ?_ | refine mobs_move rfl rfl rfl ?_ | refine m_load rfl rfl rfl (by assumption) ?_ | refine mobs_nil ?_ | refine wd_nil ?_ | refine wd_skip rfl rfl ?_ | refine wd_loudSkip rfl rfl ?_ | refine wd_move rfl rfl rfl ?_ | refine wd_assign rfl rfl rfl ?_ | refine wd_pick rfl rfl rfl rfl ?_ | refine d_load rfl rfl rfl (by assumption) ?_ | refine d_lenI rfl rfl rfl rfl rfl rfl (by assumption) ?_ | refine wp_condT rfl ?_ | refine wp_condF rfl ?_ | refine wp_region ?_ | refine wp_seq ?_ | refine wp_skip ?_ | refine wp_exit ?_ | refine wp_block ?_)
      refine wp_ret ?_
      refine ⟨_, _, rfl, hk H8 _ g' k8 (by omega) ?_ hsd hpm (fun c hc => by cases hc; omega)⟩
      rw [hm, show ((j : Int)).toNat = j from rfl]
      exact sl_cells (by omega) gs8 (by rw [ivs_length, bump_length, hqn]) fun _ _ h => h
end Go.Ev
namespace Go.Ev
open Go.Proofs
noncomputable def restF (rem : List Int) (g : Nat → Int) (t i : Nat) : Int := by
  classical exact if ∃ s, s < t ∧ g s = (i : Int) then -1 else rem.getD i 0
theorem g_val {g : Nat → Int} {n : Nat} (hpm : (seg g 0 n).Perm (seg idn 0 n)) {i : Nat} (hi : i < n) : 0 ≤ g i ∧ g i < n := by
  obtain ⟨x, _, x2, x3⟩ := seg_mem.1 (hpm.mem_iff.1 (seg_mem.2 ⟨i, Nat.zero_le _, hi, rfl⟩))
  have x3 : (x : Int) = g i := x3
  omega
theorem g_inj {rem : List Int} {g : Nat → Int} {n : Nat} (hsd : Sd (RS rem) g 0 n) {i j : Nat} (hij : i < j) (hj : j < n) : g i ≠ g j := fun e => by
  have h1 := hsd i j (Nat.zero_le _) hij hj
  rw [e] at h1
  have := of_decide_eq_true h1
  omega
theorem g_onto {g : Nat → Int} {n : Nat} (hpm : (seg g 0 n).Perm (seg idn 0 n)) {x : Nat} (hx : x < n) : ∃ i, i < n ∧ g i = (x : Int) := by
  obtain ⟨i, _, i2, i3⟩ := seg_mem.1 (hpm.mem_iff.2 (seg_mem.2 ⟨x, Nat.zero_le _, hx, rfl⟩))
  exact ⟨i, i2, i3⟩
theorem next_best {rem : List Int} {g : Nat → Int} {n : Nat} (hsd : Sd (RS rem) g 0 n) (hpm : (seg g 0 n).Perm (seg idn 0 n)) (h0 : ∀ i, 0 ≤ rem.getD i 0) {t best : Nat} (ht : t < n) (hb : best < n) (hmax : ∀ j, j < n → restF rem g t j ≤ restF rem g t best ∧ (j < best → restF rem g t j < restF rem g t best)) : g t = (best : Int) := by
  classical
  obtain ⟨v1, v2⟩ := g_val hpm ht
  obtain ⟨p, hp⟩ := Int.eq_ofNat_of_zero_le v1
  have hpn : p < n := by omega
  have ep : restF rem g t p = rem.getD p 0 := by
    unfold restF
    rw [if_neg]
    rintro ⟨s, s1, s2⟩
    exact g_inj hsd s1 ht (by rw [s2, hp])
  have hother : ∀ j, j < n → j ≠ p → restF rem g t j ≤ restF rem g t p ∧ (j < p → restF rem g t j < restF rem g t p) := fun j hj hne => by
    rw [ep]
    have hp0 := h0 p
    obtain ⟨i, i1, i2⟩ := g_onto hpm hj
    rcases Nat.lt_or_ge i t with c | c
    · have : restF rem g t j = -1 := by unfold restF; rw [if_pos ⟨i, c, i2⟩]
      omega
    · have ej : restF rem g t j = rem.getD j 0 := by
        unfold restF
        rw [if_neg]
        rintro ⟨s, s1, s2⟩
        exact g_inj hsd (show s < i by omega) i1 (by rw [s2, i2])
      rw [ej]
      have hti : t < i := by
        rcases Nat.lt_or_ge t i with h | h
        · exact h
        · exfalso
          have : i = t := by omega
          subst this
          rw [hp] at i2
          omega
      have h1 := of_decide_eq_true (hsd t i (Nat.zero_le _) hti i1)
      rw [i2, hp] at h1
      simp only [Int.toNat_natCast] at h1
      omega
  rw [hp]
  have h3 := hmax p hpn
  rcases Nat.lt_trichotomy best p with h | h | h
  · have h4 := (hother best hb (by omega)).2 h
    omega
  · rw [h]
  · have h4 := (hother best hb (by omega)).1
    have h5 := h3.2 h
    omega
theorem rest_succ {rem : List Int} {g : Nat → Int} {t i : Nat} : restF rem g (t + 1) i = if g t = (i : Int) then -1 else restF rem g t i := by
  classical
  unfold restF
  by_cases c : g t = (i : Int)
  · rw [if_pos ⟨t, Nat.lt_succ_self t, c⟩, if_pos c]
  · rw [if_neg c]
    by_cases d : ∃ s, s < t ∧ g s = (i : Int)
    · obtain ⟨s, s1, s2⟩ := d
      rw [if_pos ⟨s, by omega, s2⟩, if_pos ⟨s, s1, s2⟩]
    · rw [if_neg d, if_neg]
      rintro ⟨s, s1, s2⟩
      rcases Nat.lt_or_ge s t with h | h
      · exact d ⟨s, h, s2⟩
      · rw [show s = t by omega] at s2; exact c s2
section
variable {O : CallF} {T : List AV} {H : AH} {ops : Array Oper} {o : Oper} {K : AV → AH → Prop}
theorem o_indexSlu {t e : TypeId} {x i : Operand} {j : Nat} {b n : Nat} (ho : o.op = .indexAddr t x i) (hg : wantedA o ops T = true) [hu : TyS t e] [hs : Cell e]
    (hx : av T x = .slu b 0 n 1) (hi : av T i = iv j) (hl : j < n) (hk : K (.ptr b j) H) : WOp (ENV O) ops o T H K := by
  refine wop_val (by rw [ho]; rfl) hg (H' := H) (r := .ptr b j) ?_ (Nat.le_refl _) hk
  unfold opEval; rw [ho]
  have hlt : Nat.blt j n = true := Nat.ble_eq_true_of_le hl
  have h1 := hu.u
  have h2 := hs.s
  simp only [ENV, oIndexAddr, hx, hi, isV, indexAddrA, natA, h1, hlt, if_true, h2, Nat.mul_one, Nat.zero_add, rv]
end
end Go.Ev
