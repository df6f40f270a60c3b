/- Part of an evaluator of calls that is proved sound, and of what it gives about this program. No condition of its own. -/
import Derived.Test.YthpgnccegmdcgaaGreatDoorEvI2
import Derived.Test.YthpgnccegmdcgaaGreatDoorEvI1
import Derived.Test.YthpgnccegmdcgaaGreatDoorEvI3
set_option linter.unusedVariables false
set_option linter.unusedSimpArgs false
set_option maxRecDepth 100000
set_option maxHeartbeats 4000000
namespace Go.Ev
open Go.Proofs

theorem WOps.mem {E : Env} {ops : Array Oper} {l : List Oper} {T : List AV} {H : AH} {K : List AV → AH → Prop} (P : AH → Prop) (h : P H) (hw : ∀ H', P H' → WOps E ops l T H' K) : WOps E ops l T H K := hw H h

theorem WOps.T {E : Env} {ops : Array Oper} {l : List Oper} {T T' : List AV} {H : AH} {K : List AV → AH → Prop} (h : T = T') (hw : WOps E ops l T' H K) : WOps E ops l T H K := h ▸ hw
theorem Wp.T {E : Env} {g : FuncId} {rd : Bool} {T T' : List AV} {M : List Nat} {H : AH} {Q : QX} {c : Code} (h : T = T') (hw : Wp E g rd c T' M H Q) : Wp E g rd c T M H Q := h ▸ hw

theorem WOps.H {E : Env} {ops : Array Oper} {l : List Oper} {T : List AV} {H H' : AH} {K : List AV → AH → Prop} (h : H = H') (hw : WOps E ops l T H' K) : WOps E ops l T H K := h ▸ hw

section
variable {O : CallF} {T : List AV} {H H0 : AH} {ops : Array Oper} {o : Oper} {i : Nat} {π : List Stp} {K : List AV → AH → Prop}
theorem o_sliceTo {Kr : AV → AH → Prop} {t e : TypeId} {x h : Operand} {b n cap m : Nat} (ho : o.op = .slice t x none (some h) none) (hg : wantedA o ops T = true) [hu : TyS t e] [hs : Cell e] (hx : av T x = .slc b 0 n cap) (hh : av T h = iv m) (hm : m ≤ cap) (hk : Kr (.slc b 0 m cap) H) : WOp (ENV O) ops o T H Kr :=
  wop_sliceTo ho hg hu.u hs.s hx hh hm hk
end

theorem sub_bounds {t s q : Int} (h1 : 0 ≤ t - (s + q)) (ht : t ≤ 999999999) (hs : 0 ≤ s) (hq : 0 ≤ q) : -9223372036854775808 ≤ t - s - q ∧ t - s - q < 9223372036854775808 := by omega

variable {O : CallF} (hq : Quiet O)
include hq

theorem c26a (H : AH) (x : AV) (l : List Int) (total : Int) (hx : Sl H x (ivs l)) (ho : Old H x) (ht : 0 ≤ total ∧ total ≤ 999999999) (hw : weightE l = 0) (hl0 : 0 < l.length) (hl : l.length < 20) (hwz : ∀ z ∈ l, wOk z) (hs0 : 0 < sumL l) (hsm : sumL l ≤ 256 * 999999999)
    (hq0 : ∀ z ∈ quoL total (sumL l) l, 0 ≤ z ∧ z ≤ total) (hleft : ∀ i, i ≤ l.length → 0 ≤ total - sumL ((quoL total (sumL l) l).take i) ) (hleft2 : total - sumL (quoL total (sumL l) l) ≤ l.length) (hr : H.next + 100 < 2 ^ 39) (K : AV → AH → Prop)
    (hk : ∀ H' c, Keeps H H' → H'.next ≤ H.next + 10 → Sl H' c (ivs (sharesL total (sumL l) l)) → Old H' c → K (.tup [c, iv 0]) H') : Ca (ENV O) 26 [iv total, x] H K := by
  refine ca_intro (hq _ _ _ rfl) (fn := Tryz.f26) (by rfl) rfl ?_
  repeat (first | refine wops_nil ?_ | refine wops_cons (wop_skip' rfl rfl ?_) | refine wops_cons (wop_move rfl rfl ?_) | refine wops_cons (wop_assign rfl rfl ?_) | refine wops_cons (wop_bin (op := .add) rfl rfl rfl rfl (inc (by omega)) ?_) | refine wops_cons (o_lenI rfl rfl rfl rfl rfl (by assumption) ?_) | refine wops_cons (o_load rfl rfl (by assumption) ?_) | refine wops_cons (wop_pick rfl rfl rfl ?_) | refine wops_cons (wop_not rfl rfl rfl ?_) | refine wops_cons (wop_extract rfl rfl rfl rfl ?_) | refine mobs_move rfl rfl rfl ?_ | refine m_load rfl rfl rfl (by assumption) ?_ | refine mobs_nil ?_ | refine wd_nil ?_ | refine wd_skip rfl rfl ?_ | refine wd_loudSkip rfl rfl ?_ | refine wd_move rfl rfl rfl ?_ | refine wd_assign rfl rfl rfl ?_ | refine wd_pick rfl rfl rfl rfl ?_ | refine d_load rfl rfl rfl (by assumption) ?_ | refine d_lenI rfl rfl rfl rfl rfl rfl (by assumption) ?_ | refine wp_condT rfl ?_ | refine wp_condF rfl ?_ | refine wp_region ?_ | refine wp_seq ?_ | refine wp_skip ?_ | refine wp_exit ?_ | refine wp_block ?_)
  refine wops_cons (wop_callF rfl rfl rfl (fn := Tryz.f60) (by rfl) ?_)
  refine c60 hq H total 0 999999999 _ ⟨Nat.le_refl _, ?_⟩
  rw [decide_eq_true ht]
  repeat (first | refine wops_nil ?_ | refine wops_cons (wop_skip' rfl rfl ?_) | refine wops_cons (wop_move rfl rfl ?_) | refine wops_cons (wop_assign rfl rfl ?_) | refine wops_cons (wop_bin (op := .add) rfl rfl rfl rfl (inc (by omega)) ?_) | refine wops_cons (o_lenI rfl rfl rfl rfl rfl (by assumption) ?_) | refine wops_cons (o_load rfl rfl (by assumption) ?_) | refine wops_cons (wop_pick rfl rfl rfl ?_) | refine wops_cons (wop_not rfl rfl rfl ?_) | refine wops_cons (wop_extract rfl rfl rfl rfl ?_) | refine mobs_move rfl rfl rfl ?_ | refine m_load rfl rfl rfl (by assumption) ?_ | refine mobs_nil ?_ | refine wd_nil ?_ | refine wd_skip rfl rfl ?_ | refine wd_loudSkip rfl rfl ?_ | refine wd_move rfl rfl rfl ?_ | refine wd_assign rfl rfl rfl ?_ | refine wd_pick rfl rfl rfl rfl ?_ | refine d_load rfl rfl rfl (by assumption) ?_ | refine d_lenI rfl rfl rfl rfl rfl rfl (by assumption) ?_ | refine wp_condT rfl ?_ | refine wp_condF rfl ?_ | refine wp_region ?_ | refine wp_seq ?_ | refine wp_skip ?_ | refine wp_exit ?_ | refine wp_block ?_)
  refine wops_cons (wop_callF rfl rfl rfl (fn := Tryz.f61) (by rfl) ?_)
  refine c61 hq H x l hx _ ⟨Nat.le_refl _, ?_⟩
  rw [hw, if_pos rfl]
  repeat (first | refine wops_nil ?_ | refine wops_cons (wop_skip' rfl rfl ?_) | refine wops_cons (wop_move rfl rfl ?_) | refine wops_cons (wop_assign rfl rfl ?_) | refine wops_cons (wop_bin (op := .add) rfl rfl rfl rfl (inc (by omega)) ?_) | refine wops_cons (o_lenI rfl rfl rfl rfl rfl (by assumption) ?_) | refine wops_cons (o_load rfl rfl (by assumption) ?_) | refine wops_cons (wop_pick rfl rfl rfl ?_) | refine wops_cons (wop_not rfl rfl rfl ?_) | refine wops_cons (wop_extract rfl rfl rfl rfl ?_) | refine mobs_move rfl rfl rfl ?_ | refine m_load rfl rfl rfl (by assumption) ?_ | refine mobs_nil ?_ | refine wd_nil ?_ | refine wd_skip rfl rfl ?_ | refine wd_loudSkip rfl rfl ?_ | refine wd_move rfl rfl rfl ?_ | refine wd_assign rfl rfl rfl ?_ | refine wd_pick rfl rfl rfl rfl ?_ | refine d_load rfl rfl rfl (by assumption) ?_ | refine d_lenI rfl rfl rfl rfl rfl rfl (by assumption) ?_ | refine wp_condT rfl ?_ | refine wp_condF rfl ?_ | refine wp_region ?_ | refine wp_seq ?_ | refine wp_skip ?_ | refine wp_exit ?_ | refine wp_block ?_)
  refine wops_cons (wop_cmp rfl rfl rfl rfl rfl (fun h => ?_) (fun h => ?_))
  · exact absurd h (by decide)
  repeat (first | refine wops_nil ?_ | refine wops_cons (wop_skip' rfl rfl ?_) | refine wops_cons (wop_move rfl rfl ?_) | refine wops_cons (wop_assign rfl rfl ?_) | refine wops_cons (wop_bin (op := .add) rfl rfl rfl rfl (inc (by omega)) ?_) | refine wops_cons (o_lenI rfl rfl rfl rfl rfl (by assumption) ?_) | refine wops_cons (o_load rfl rfl (by assumption) ?_) | refine wops_cons (wop_pick rfl rfl rfl ?_) | refine wops_cons (wop_not rfl rfl rfl ?_) | refine wops_cons (wop_extract rfl rfl rfl rfl ?_) | refine mobs_move rfl rfl rfl ?_ | refine m_load rfl rfl rfl (by assumption) ?_ | refine mobs_nil ?_ | refine wd_nil ?_ | refine wd_skip rfl rfl ?_ | refine wd_loudSkip rfl rfl ?_ | refine wd_move rfl rfl rfl ?_ | refine wd_assign rfl rfl rfl ?_ | refine wd_pick rfl rfl rfl rfl ?_ | refine d_load rfl rfl rfl (by assumption) ?_ | refine d_lenI rfl rfl rfl rfl rfl rfl (by assumption) ?_ | refine wp_condT rfl ?_ | refine wp_condF rfl ?_ | refine wp_region ?_ | refine wp_seq ?_ | refine wp_skip ?_ | refine wp_exit ?_ | refine wp_block ?_)
  refine wp_drawG rfl (by kernel_rfl) ?_
  repeat (first | refine wops_nil ?_ | refine wops_cons (wop_skip' rfl rfl ?_) | refine wops_cons (wop_move rfl rfl ?_) | refine wops_cons (wop_assign rfl rfl ?_) | refine wops_cons (wop_bin (op := .add) rfl rfl rfl rfl (inc (by omega)) ?_) | refine wops_cons (o_lenI rfl rfl rfl rfl rfl (by assumption) ?_) | refine wops_cons (o_load rfl rfl (by assumption) ?_) | refine wops_cons (wop_pick rfl rfl rfl ?_) | refine wops_cons (wop_not rfl rfl rfl ?_) | refine wops_cons (wop_extract rfl rfl rfl rfl ?_) | refine mobs_move rfl rfl rfl ?_ | refine m_load rfl rfl rfl (by assumption) ?_ | refine mobs_nil ?_ | refine wd_nil ?_ | refine wd_skip rfl rfl ?_ | refine wd_loudSkip rfl rfl ?_ | refine wd_move rfl rfl rfl ?_ | refine wd_assign rfl rfl rfl ?_ | refine wd_pick rfl rfl rfl rfl ?_ | refine d_load rfl rfl rfl (by assumption) ?_ | refine d_lenI rfl rfl rfl rfl rfl rfl (by assumption) ?_ | refine wp_condT rfl ?_ | refine wp_condF rfl ?_ | refine wp_region ?_ | refine wp_seq ?_ | refine wp_skip ?_ | refine wp_exit ?_ | refine wp_block ?_)
  have r1 : (H.add (.cells (List.replicate l.length (iv 0)) 3 0)).next < 2 ^ 39 := by show H.next + 1 < _; omega
  refine d_make rfl rfl rfl rfl (by omega) (by omega) ?_
  repeat (first | refine wops_nil ?_ | refine wops_cons (wop_skip' rfl rfl ?_) | refine wops_cons (wop_move rfl rfl ?_) | refine wops_cons (wop_assign rfl rfl ?_) | refine wops_cons (wop_bin (op := .add) rfl rfl rfl rfl (inc (by omega)) ?_) | refine wops_cons (o_lenI rfl rfl rfl rfl rfl (by assumption) ?_) | refine wops_cons (o_load rfl rfl (by assumption) ?_) | refine wops_cons (wop_pick rfl rfl rfl ?_) | refine wops_cons (wop_not rfl rfl rfl ?_) | refine wops_cons (wop_extract rfl rfl rfl rfl ?_) | refine mobs_move rfl rfl rfl ?_ | refine m_load rfl rfl rfl (by assumption) ?_ | refine mobs_nil ?_ | refine wd_nil ?_ | refine wd_skip rfl rfl ?_ | refine wd_loudSkip rfl rfl ?_ | refine wd_move rfl rfl rfl ?_ | refine wd_assign rfl rfl rfl ?_ | refine wd_pick rfl rfl rfl rfl ?_ | refine d_load rfl rfl rfl (by assumption) ?_ | refine d_lenI rfl rfl rfl rfl rfl rfl (by assumption) ?_ | refine wp_condT rfl ?_ | refine wp_condF rfl ?_ | refine wp_region ?_ | refine wp_seq ?_ | refine wp_skip ?_ | refine wp_exit ?_ | refine wp_block ?_)
  refine d_make rfl rfl rfl rfl (by omega) r1 ?_
  repeat (first | refine wops_nil ?_ | refine wops_cons (wop_skip' rfl rfl ?_) | refine wops_cons (wop_move rfl rfl ?_) | refine wops_cons (wop_assign rfl rfl ?_) | refine wops_cons (wop_bin (op := .add) rfl rfl rfl rfl (inc (by omega)) ?_) | refine wops_cons (o_lenI rfl rfl rfl rfl rfl (by assumption) ?_) | refine wops_cons (o_load rfl rfl (by assumption) ?_) | refine wops_cons (wop_pick rfl rfl rfl ?_) | refine wops_cons (wop_not rfl rfl rfl ?_) | refine wops_cons (wop_extract rfl rfl rfl rfl ?_) | refine mobs_move rfl rfl rfl ?_ | refine m_load rfl rfl rfl (by assumption) ?_ | refine mobs_nil ?_ | refine wd_nil ?_ | refine wd_skip rfl rfl ?_ | refine wd_loudSkip rfl rfl ?_ | refine wd_move rfl rfl rfl ?_ | refine wd_assign rfl rfl rfl ?_ | refine wd_pick rfl rfl rfl rfl ?_ | refine d_load rfl rfl rfl (by assumption) ?_ | refine d_lenI rfl rfl rfl rfl rfl rfl (by assumption) ?_ | refine wp_condT rfl ?_ | refine wp_condF rfl ?_ | refine wp_region ?_ | refine wp_seq ?_ | refine wp_skip ?_ | refine wp_exit ?_ | refine wp_block ?_)
  have k2 := ((Keeps.refl H).add (.cells (List.replicate l.length (iv 0)) 3 0) (by omega)).add (.cells (List.replicate l.length (iv 0)) 3 0) r1
  have gs2 : ((H.add (.cells (List.replicate l.length (iv 0)) 3 0)).add (.cells (List.replicate l.length (iv 0)) 3 0)).get H.next = some (.cells (List.replicate l.length (iv 0)) 3 0) := by
    rw [get_add_ne r1 (by show H.next ≠ H.next + 1; omega), get_add_eq (by omega)]
  have gp2 : ((H.add (.cells (List.replicate l.length (iv 0)) 3 0)).add (.cells (List.replicate l.length (iv 0)) 3 0)).get (H.next + 1) = some (.cells (List.replicate l.length (iv 0)) 3 0) := get_add_eq r1
  have n2 : ((H.add (.cells (List.replicate l.length (iv 0)) 3 0)).add (.cells (List.replicate l.length (iv 0)) 3 0)).next = H.next + 2 := rfl
  have hx2 := hx.keep ho k2
  refine WOps.H (H' := (H.add (.cells (List.replicate l.length (iv 0)) 3 0)).add (.cells (List.replicate l.length (iv 0)) 3 0)) rfl ?_
  generalize (H.add (.cells (List.replicate l.length (iv 0)) 3 0)).add (.cells (List.replicate l.length (iv 0)) 3 0) = H2 at k2 gs2 gp2 n2 hx2 ⊢
  repeat (first | refine wops_nil ?_ | refine wops_cons (wop_skip' rfl rfl ?_) | refine wops_cons (wop_move rfl rfl ?_) | refine wops_cons (wop_assign rfl rfl ?_) | refine wops_cons (wop_bin (op := .add) rfl rfl rfl rfl (inc (by omega)) ?_) | refine wops_cons (o_lenI rfl rfl rfl rfl rfl (by assumption) ?_) | refine wops_cons (o_load rfl rfl (by assumption) ?_) | refine wops_cons (wop_pick rfl rfl rfl ?_) | refine wops_cons (wop_not rfl rfl rfl ?_) | refine wops_cons (wop_extract rfl rfl rfl rfl ?_) | refine mobs_move rfl rfl rfl ?_ | refine m_load rfl rfl rfl (by assumption) ?_ | refine mobs_nil ?_ | refine wd_nil ?_ | refine wd_skip rfl rfl ?_ | refine wd_loudSkip rfl rfl ?_ | refine wd_move rfl rfl rfl ?_ | refine wd_assign rfl rfl rfl ?_ | refine wd_pick rfl rfl rfl rfl ?_ | refine d_load rfl rfl rfl (by assumption) ?_ | refine d_lenI rfl rfl rfl rfl rfl rfl (by assumption) ?_ | refine wp_condT rfl ?_ | refine wp_condF rfl ?_ | refine wp_region ?_ | refine wp_seq ?_ | refine wp_skip ?_ | refine wp_exit ?_ | refine wp_block ?_)
  refine wops_cons (o_make rfl rfl rfl rfl (by omega) (by omega) ?_)
  have r3 : (H2.add (.cells (List.replicate l.length (iv 0)) 2 0)).next < 2 ^ 39 := by show H2.next + 1 < _; omega
  refine wops_cons (o_alloc rfl rfl r3 ?_)
  refine wops_cons (o_store rfl rfl rfl (get_add_eq (x := .cells [.v (.slice none 0 0)] 102 0) r3) (Nat.succ_pos _) rfl ?_)
  refine WOps.mem (fun H5 => Keeps H H5 ∧ H5.next = H.next + 4 ∧ H5.get H.next = some (.cells (ivs (List.replicate l.length 0)) 3 0) ∧ H5.get (H.next + 1) = some (.cells (ivs (List.replicate l.length 0)) 3 0) ∧ H5.get (H.next + 2) = some (.cells (ivs (List.replicate l.length 0)) 2 0) ∧ H5.get (H.next + 3) = some (.cells [.slc (H.next + 2) 0 l.length l.length] 102 0)) ⟨?_, ?_, ?_, ?_, ?_, ?_⟩ ?_
  · exact ((k2.add _ (by omega)).add _ r3).set _ (by show H.next ≤ H2.next + 1; omega) r3
  · show H2.next + 1 + 1 = _; omega
  · rw [get_set_ne r3 (by show H.next ≠ H2.next + 1; omega), get_add_ne r3 (by show H.next ≠ H2.next + 1; omega), get_add_ne (by omega) (by omega), gs2, ivs_rep]
  · rw [get_set_ne r3 (by show H.next + 1 ≠ H2.next + 1; omega), get_add_ne r3 (by show H.next + 1 ≠ H2.next + 1; omega), get_add_ne (by omega) (by omega), gp2, ivs_rep]
  · rw [← n2]
    rw [get_set_ne r3 (by show H2.next ≠ H2.next + 1; omega), get_add_ne r3 (by show H2.next ≠ H2.next + 1; omega), get_add_eq (by omega), ivs_rep]
  · rw [show H.next + 3 = (H2.add (.cells (List.replicate l.length (iv 0)) 2 0)).next by show _ = H2.next + 1; omega, get_set_eq r3]
    show some (AB.cells [AV.slc H2.next 0 l.length l.length] 102 0) = _
    rw [n2]
  clear k2 gs2 gp2 hx2
  rintro H5 ⟨k5, n5, gs5, gp5, gr5, gt5⟩
  have hx5 := hx.keep ho k5
  refine WOps.T (T' := (iv total :: x :: .v undef :: .v undef :: .v (.slice none 0 0) :: iv 0 :: iv (sumL l) :: iv 0 :: .slc H.next 0 l.length l.length :: .slc (H.next + 1) 0 l.length l.length :: .ptr (H.next + 3) 0 :: .v undef :: .v undef :: .v undef :: .v undef :: .v undef :: .v undef :: iv total :: .v (.bool true) :: .v (.bool false) :: .tup [iv (sumL l), iv 0] :: x :: .tup [iv (sumL l), iv 0] :: iv (sumL l) :: iv 0 :: iv 0 :: .v (.bool false) :: .v undef :: x :: iv l.length :: .slc H.next 0 l.length l.length :: x :: iv l.length :: .slc (H.next + 1) 0 l.length l.length :: x :: iv l.length :: .slc (H.next + 2) 0 l.length l.length :: .v undef :: .v undef :: .v undef :: .v undef :: .v undef :: .v undef :: .v undef :: .v undef :: .v undef :: .v undef :: .v undef :: .v undef :: .v undef :: .v undef :: .v undef :: .v undef :: .v undef :: .v undef :: .v undef :: .v undef :: .v undef :: .v undef :: .v undef :: .v undef :: .v undef :: .v undef :: .v undef :: .v undef :: .v undef :: .v undef :: .v undef :: .v undef :: .v undef :: .v undef :: .v undef :: .v undef :: .v undef :: .v undef :: .v undef :: .v undef :: .v undef :: .v undef :: .v undef :: .v undef :: .v undef :: .v undef :: .v undef :: .v undef :: .v undef :: .v undef :: .v undef :: .v undef :: .v undef :: [])) (by rw [show (H2.add (.cells (List.replicate l.length (iv 0)) 2 0)).next = H.next + 3 by show H2.next + 1 = _; omega, n2]; rfl) ?_
  repeat (first | refine wops_nil ?_ | refine wops_cons (wop_skip' rfl rfl ?_) | refine wops_cons (wop_move rfl rfl ?_) | refine wops_cons (wop_assign rfl rfl ?_) | refine wops_cons (wop_bin (op := .add) rfl rfl rfl rfl (inc (by omega)) ?_) | refine wops_cons (o_lenI rfl rfl rfl rfl rfl (by assumption) ?_) | refine wops_cons (o_load rfl rfl (by assumption) ?_) | refine wops_cons (wop_pick rfl rfl rfl ?_) | refine wops_cons (wop_not rfl rfl rfl ?_) | refine wops_cons (wop_extract rfl rfl rfl rfl ?_) | refine mobs_move rfl rfl rfl ?_ | refine m_load rfl rfl rfl (by assumption) ?_ | refine mobs_nil ?_ | refine wd_nil ?_ | refine wd_skip rfl rfl ?_ | refine wd_loudSkip rfl rfl ?_ | refine wd_move rfl rfl rfl ?_ | refine wd_assign rfl rfl rfl ?_ | refine wd_pick rfl rfl rfl rfl ?_ | refine d_load rfl rfl rfl (by assumption) ?_ | refine d_lenI rfl rfl rfl rfl rfl rfl (by assumption) ?_ | refine wp_condT rfl ?_ | refine wp_condF rfl ?_ | refine wp_region ?_ | refine wp_seq ?_ | refine wp_skip ?_ | refine wp_exit ?_ | refine wp_block ?_)
  clear h r1 n2 r3
  have hqn : (quoL total (sumL l) l).length = l.length := by simp [quoL]
  have hrn : (remL total (sumL l) l).length = l.length := by simp [remL]
  refine wp_loop (fun q T M H' => ∃ (i : Nat) (Y : List AV) (ss ps rs : List Int), q = l.length - i ∧ i ≤ l.length ∧ Keeps H H' ∧ H'.next = H.next + 4 ∧ H'.get H.next = some (.cells (ivs ss) 3 0) ∧ H'.get (H.next + 1) = some (.cells (ivs ps) 3 0) ∧ H'.get (H.next + 2) = some (.cells (ivs rs) 2 0) ∧ H'.get (H.next + 3) = some (.cells [.slc (H.next + 2) 0 l.length l.length] 102 0) ∧
      ss.length = l.length ∧ ps.length = l.length ∧ rs.length = l.length ∧ (∀ j, j < i → ss[j]? = (quoL total (sumL l) l)[j]?) ∧ (∀ j, j < i → ps[j]? = some (j : Int)) ∧ (∀ j, j < i → rs[j]? = (remL total (sumL l) l)[j]?) ∧ M = [] ∧
      T = (iv total :: x :: lget Y 0 :: lget Y 1 :: .v (.slice none 0 0) :: iv 0 :: iv (sumL l) :: lget Y 2 :: .slc H.next 0 l.length l.length :: .slc (H.next + 1) 0 l.length l.length :: .ptr (H.next + 3) 0 :: iv (total - sumL ((quoL total (sumL l) l).take i)) :: lget Y 3 :: lget Y 4 :: lget Y 5 :: lget Y 6 :: lget Y 7 :: lget Y 8 :: lget Y 9 :: lget Y 10 :: lget Y 11 :: lget Y 12 :: lget Y 13 :: lget Y 14 :: lget Y 15 :: lget Y 16 :: lget Y 17 :: lget Y 18 :: lget Y 19 :: lget Y 20 :: lget Y 21 :: lget Y 22 :: lget Y 23 :: lget Y 24 :: lget Y 25 :: lget Y 26 :: lget Y 27 :: lget Y 28 :: x :: iv l.length :: iv (i : Nat) :: lget Y 29 :: lget Y 30 :: lget Y 31 :: lget Y 32 :: lget Y 33 :: lget Y 34 :: lget Y 35 :: lget Y 36 :: lget Y 37 :: lget Y 38 :: lget Y 39 :: lget Y 40 :: lget Y 41 :: lget Y 42 :: lget Y 43 :: lget Y 44 :: lget Y 45 :: lget Y 46 :: lget Y 47 :: lget Y 48 :: lget Y 49 :: lget Y 50 :: lget Y 51 :: lget Y 52 :: lget Y 53 :: lget Y 54 :: lget Y 55 :: lget Y 56 :: lget Y 57 :: lget Y 58 :: lget Y 59 :: lget Y 60 :: lget Y 61 :: lget Y 62 :: lget Y 63 :: lget Y 64 :: lget Y 65 :: lget Y 66 :: lget Y 67 :: lget Y 68 :: lget Y 69 :: lget Y 70 :: lget Y 71 :: lget Y 72 :: lget Y 73 :: lget Y 74 :: lget Y 75 :: lget Y 76 :: lget Y 77 :: [])) l.length
    ⟨0, (_ :: _ :: _ :: _ :: _ :: _ :: _ :: _ :: _ :: _ :: _ :: _ :: _ :: _ :: _ :: _ :: _ :: _ :: _ :: _ :: _ :: _ :: _ :: _ :: _ :: _ :: _ :: _ :: _ :: _ :: _ :: _ :: _ :: _ :: _ :: _ :: _ :: _ :: _ :: _ :: _ :: _ :: _ :: _ :: _ :: _ :: _ :: _ :: _ :: _ :: _ :: _ :: _ :: _ :: _ :: _ :: _ :: _ :: _ :: _ :: _ :: _ :: _ :: _ :: _ :: _ :: _ :: _ :: _ :: _ :: _ :: _ :: _ :: _ :: _ :: _ :: _ :: _ :: []), _, _, _, rfl, Nat.zero_le _, k5, n5, gs5, gp5, gr5, gt5, by simp, by simp, by simp, fun j h => absurd h (by omega), fun j h => absurd h (by omega), fun j h => absurd h (by omega), rfl, by rw [show total - sumL ((quoL total (sumL l) l).take 0) = total by simp [sumL]]; rfl⟩ ?_
  clear hx5 gt5 gr5 gp5 gs5 n5 k5
  rintro q T M H6 ⟨i, Y, ss, ps, rs, hq1, hi, k6, n6, gs6, gp6, gr6, gt6, ls, lp, lr, hss, hps, hrs, rfl, rfl⟩
  have hx6 := hx.keep ho k6
  repeat (first | refine wops_nil ?_ | refine wops_cons (wop_skip' rfl rfl ?_) | refine wops_cons (wop_move rfl rfl ?_) | refine wops_cons (wop_assign rfl rfl ?_) | refine wops_cons (wop_bin (op := .add) rfl rfl rfl rfl (inc (by omega)) ?_) | refine wops_cons (o_lenI rfl rfl rfl rfl rfl (by assumption) ?_) | refine wops_cons (o_load rfl rfl (by assumption) ?_) | refine wops_cons (wop_pick rfl rfl rfl ?_) | refine wops_cons (wop_not rfl rfl rfl ?_) | refine wops_cons (wop_extract rfl rfl rfl rfl ?_) | refine mobs_move rfl rfl rfl ?_ | refine m_load rfl rfl rfl (by assumption) ?_ | refine mobs_nil ?_ | refine wd_nil ?_ | refine wd_skip rfl rfl ?_ | refine wd_loudSkip rfl rfl ?_ | refine wd_move rfl rfl rfl ?_ | refine wd_assign rfl rfl rfl ?_ | refine wd_pick rfl rfl rfl rfl ?_ | refine d_load rfl rfl rfl (by assumption) ?_ | refine d_lenI rfl rfl rfl rfl rfl rfl (by assumption) ?_ | refine wp_condT rfl ?_ | refine wp_condF rfl ?_ | refine wp_region ?_ | refine wp_seq ?_ | refine wp_skip ?_ | refine wp_exit ?_ | refine wp_block ?_)
  refine wops_cons (wop_cmp rfl rfl rfl rfl rfl (fun h => ?_) (fun h => ?_))
  · have h : (i : Int) < l.length := of_decide_eq_true h
    have hi' : i < l.length := by omega
    obtain ⟨z, hz⟩ := l_some hi'
    have hzw := hwz z (List.mem_of_getElem? hz)
    unfold wOk at hzw
    have hqi : (quoL total (sumL l) l)[i]? = some ((total * z).tdiv (sumL l)) := by simp [quoL, hz]
    have hri : (remL total (sumL l) l)[i]? = some ((total * z).tmod (sumL l)) := by simp [remL, hz]
    have hqb := hq0 _ (List.mem_of_getElem? hqi)
    have hm1 : 0 ≤ total * z := Int.mul_nonneg ht.1 hzw.1
    have hm2 : total * z ≤ 999999999 * 999999999 := Int.mul_le_mul ht.2 hzw.2 hzw.1 (by decide)
    have hl1 := hleft i (by omega)
    have hl2 := hleft (i + 1) (by omega)
    have hst := sumL_take hqi
    rw [hst] at hl2
    repeat (first | refine wops_nil ?_ | refine wops_cons (wop_skip' rfl rfl ?_) | refine wops_cons (wop_move rfl rfl ?_) | refine wops_cons (wop_assign rfl rfl ?_) | refine wops_cons (wop_bin (op := .add) rfl rfl rfl rfl (inc (by omega)) ?_) | refine wops_cons (o_lenI rfl rfl rfl rfl rfl (by assumption) ?_) | refine wops_cons (o_load rfl rfl (by assumption) ?_) | refine wops_cons (wop_pick rfl rfl rfl ?_) | refine wops_cons (wop_not rfl rfl rfl ?_) | refine wops_cons (wop_extract rfl rfl rfl rfl ?_) | refine mobs_move rfl rfl rfl ?_ | refine m_load rfl rfl rfl (by assumption) ?_ | refine mobs_nil ?_ | refine wd_nil ?_ | refine wd_skip rfl rfl ?_ | refine wd_loudSkip rfl rfl ?_ | refine wd_move rfl rfl rfl ?_ | refine wd_assign rfl rfl rfl ?_ | refine wd_pick rfl rfl rfl rfl ?_ | refine d_load rfl rfl rfl (by assumption) ?_ | refine d_lenI rfl rfl rfl rfl rfl rfl (by assumption) ?_ | refine wp_condT rfl ?_ | refine wp_condF rfl ?_ | refine wp_region ?_ | refine wp_seq ?_ | refine wp_skip ?_ | refine wp_exit ?_ | refine wp_block ?_)
    refine wops_cons (o_indexI rfl rfl hx6 rfl hz fun p hp => ?_)
    repeat (first | refine wops_nil ?_ | refine wops_cons (wop_skip' rfl rfl ?_) | refine wops_cons (wop_move rfl rfl ?_) | refine wops_cons (wop_assign rfl rfl ?_) | refine wops_cons (wop_bin (op := .add) rfl rfl rfl rfl (inc (by omega)) ?_) | refine wops_cons (o_lenI rfl rfl rfl rfl rfl (by assumption) ?_) | refine wops_cons (o_load rfl rfl (by assumption) ?_) | refine wops_cons (wop_pick rfl rfl rfl ?_) | refine wops_cons (wop_not rfl rfl rfl ?_) | refine wops_cons (wop_extract rfl rfl rfl rfl ?_) | refine mobs_move rfl rfl rfl ?_ | refine m_load rfl rfl rfl (by assumption) ?_ | refine mobs_nil ?_ | refine wd_nil ?_ | refine wd_skip rfl rfl ?_ | refine wd_loudSkip rfl rfl ?_ | refine wd_move rfl rfl rfl ?_ | refine wd_assign rfl rfl rfl ?_ | refine wd_pick rfl rfl rfl rfl ?_ | refine d_load rfl rfl rfl (by assumption) ?_ | refine d_lenI rfl rfl rfl rfl rfl rfl (by assumption) ?_ | refine wp_condT rfl ?_ | refine wp_condF rfl ?_ | refine wp_region ?_ | refine wp_seq ?_ | refine wp_skip ?_ | refine wp_exit ?_ | refine wp_block ?_)
    refine wops_cons (wop_bin (op := .mul) (v := .int .i64 (total * z)) rfl rfl rfl rfl ?_ ?_)
    · show some (Value.int .i64 (IntKind.i64.wrap (total * z))) = _
      rw [wrap_id (by omega) (by omega)]
    repeat (first | refine wops_nil ?_ | refine wops_cons (wop_skip' rfl rfl ?_) | refine wops_cons (wop_move rfl rfl ?_) | refine wops_cons (wop_assign rfl rfl ?_) | refine wops_cons (wop_bin (op := .add) rfl rfl rfl rfl (inc (by omega)) ?_) | refine wops_cons (o_lenI rfl rfl rfl rfl rfl (by assumption) ?_) | refine wops_cons (o_load rfl rfl (by assumption) ?_) | refine wops_cons (wop_pick rfl rfl rfl ?_) | refine wops_cons (wop_not rfl rfl rfl ?_) | refine wops_cons (wop_extract rfl rfl rfl rfl ?_) | refine mobs_move rfl rfl rfl ?_ | refine m_load rfl rfl rfl (by assumption) ?_ | refine mobs_nil ?_ | refine wd_nil ?_ | refine wd_skip rfl rfl ?_ | refine wd_loudSkip rfl rfl ?_ | refine wd_move rfl rfl rfl ?_ | refine wd_assign rfl rfl rfl ?_ | refine wd_pick rfl rfl rfl rfl ?_ | refine d_load rfl rfl rfl (by assumption) ?_ | refine d_lenI rfl rfl rfl rfl rfl rfl (by assumption) ?_ | refine wp_condT rfl ?_ | refine wp_condF rfl ?_ | refine wp_region ?_ | refine wp_seq ?_ | refine wp_skip ?_ | refine wp_exit ?_ | refine wp_block ?_)
    refine Wp.T (T' := (iv total :: x :: lget Y 0 :: lget Y 1 :: .v (.slice none 0 0) :: iv 0 :: iv (sumL l) :: lget Y 2 :: .slc H.next 0 l.length l.length :: .slc (H.next + 1) 0 l.length l.length :: .ptr (H.next + 3) 0 :: iv (total - sumL ((quoL total (sumL l) l).take i)) :: iv (i : Nat) :: iv z :: iv (total * z) :: lget Y 6 :: lget Y 7 :: lget Y 8 :: lget Y 9 :: lget Y 10 :: lget Y 11 :: lget Y 12 :: lget Y 13 :: lget Y 14 :: lget Y 15 :: lget Y 16 :: lget Y 17 :: lget Y 18 :: lget Y 19 :: lget Y 20 :: lget Y 21 :: lget Y 22 :: lget Y 23 :: lget Y 24 :: lget Y 25 :: lget Y 26 :: lget Y 27 :: lget Y 28 :: x :: iv l.length :: iv (i : Nat) :: .v (.bool true) :: iv (i : Nat) :: p :: iv z :: iv total :: iv z :: iv (total * z) :: lget Y 36 :: lget Y 37 :: lget Y 38 :: lget Y 39 :: lget Y 40 :: lget Y 41 :: lget Y 42 :: lget Y 43 :: lget Y 44 :: lget Y 45 :: lget Y 46 :: lget Y 47 :: lget Y 48 :: lget Y 49 :: lget Y 50 :: lget Y 51 :: lget Y 52 :: lget Y 53 :: lget Y 54 :: lget Y 55 :: lget Y 56 :: lget Y 57 :: lget Y 58 :: lget Y 59 :: lget Y 60 :: lget Y 61 :: lget Y 62 :: lget Y 63 :: lget Y 64 :: lget Y 65 :: lget Y 66 :: lget Y 67 :: lget Y 68 :: lget Y 69 :: lget Y 70 :: lget Y 71 :: lget Y 72 :: lget Y 73 :: lget Y 74 :: lget Y 75 :: lget Y 76 :: lget Y 77 :: [])) rfl ?_
    have at6 : At H6 (.ptr (H.next + 3) 0) (.slc (H.next + 2) 0 l.length l.length) := at_ptr (by omega) gt6 rfl
    refine wp_drawB (B := fun c => c = H.next + 3) rfl ?_
    refine wb_move rfl rfl rfl ?_
    refine wb_move rfl rfl rfl ?_
    refine wb_load rfl rfl rfl (Cell.a (e := 102)) at6 (fun c o e => by cases e; rfl) ?_
    refine wb_move rfl rfl rfl ?_
    refine wb_move rfl rfl rfl ?_
    refine wb_move rfl rfl rfl ?_
    refine wb_move rfl rfl rfl ?_
    refine wb_move rfl rfl rfl ?_
    refine wb_quo rfl rfl rfl rfl rfl (by omega) ?_
    rw [wrap_id (by omega) (by omega)]
    refine wb_move rfl rfl rfl ?_
    refine wb_move rfl rfl rfl ?_
    refine wb_rem rfl rfl rfl rfl rfl (by omega) ?_
    refine wb_move rfl rfl rfl ?_
    refine wb_indexOwn rfl rfl rfl (TyS.u (t := 22)) (Cell.s (e := 3)) rfl rfl hi' ?_
    refine wb_loud rfl rfl ?_
    refine o_store rfl rfl rfl gs6 (by rw [ivs_length]; omega) rfl ⟨fun c hc => (by subst hc; rw [get_set_ne (by omega) (by omega), gt6]; exact sameBlk_slc _ _ _ _ _ _), ?_⟩
    refine wb_indexOwn rfl rfl rfl (TyS.u (t := 102)) (Cell.s (e := 2)) rfl rfl hi' ?_
    refine wb_loud rfl rfl ?_
    refine o_store rfl rfl rfl ((get_set_ne (by omega) (by omega)).trans gr6) (by rw [ivs_length]; omega) rfl ⟨fun c hc => (by subst hc; rw [get_set_ne (by omega) (by omega), get_set_ne (by omega) (by omega), gt6]; exact sameBlk_slc _ _ _ _ _ _), ?_⟩
    refine wb_indexOwn rfl rfl rfl (TyS.u (t := 22)) (Cell.s (e := 3)) rfl rfl hi' ?_
    refine wb_loud rfl rfl ?_
    refine o_store rfl rfl rfl ((get_set_ne (by omega) (by omega)).trans ((get_set_ne (by omega) (by omega)).trans gp6)) (by rw [ivs_length]; omega) rfl ⟨fun c hc => (by subst hc; rw [get_set_ne (by omega) (by omega), get_set_ne (by omega) (by omega), get_set_ne (by omega) (by omega), gt6]; exact sameBlk_slc _ _ _ _ _ _), ?_⟩
    refine wb_nil ?_
    refine Wp.T (T' := (iv total :: x :: lget Y 0 :: lget Y 1 :: .v (.slice none 0 0) :: iv 0 :: iv (sumL l) :: lget Y 2 :: .slc H.next 0 l.length l.length :: .slc (H.next + 1) 0 l.length l.length :: .ptr (H.next + 3) 0 :: iv (total - sumL ((quoL total (sumL l) l).take i)) :: iv (i : Nat) :: iv z :: iv (total * z) :: lget Y 6 :: lget Y 7 :: lget Y 8 :: lget Y 9 :: lget Y 10 :: lget Y 11 :: lget Y 12 :: lget Y 13 :: lget Y 14 :: lget Y 15 :: lget Y 16 :: lget Y 17 :: lget Y 18 :: lget Y 19 :: lget Y 20 :: lget Y 21 :: lget Y 22 :: lget Y 23 :: lget Y 24 :: lget Y 25 :: lget Y 26 :: lget Y 27 :: lget Y 28 :: x :: iv l.length :: iv (i : Nat) :: .v (.bool true) :: iv (i : Nat) :: p :: iv z :: iv total :: iv z :: iv (total * z) :: .slc H.next 0 l.length l.length :: iv (i : Nat) :: .slc (H.next + 2) 0 l.length l.length :: iv (i : Nat) :: .slc (H.next + 1) 0 l.length l.length :: iv (i : Nat) :: iv (total * z) :: iv (sumL l) :: iv ((total * z).tdiv (sumL l)) :: iv (total * z) :: iv (sumL l) :: iv ((total * z).tmod (sumL l)) :: iv (i : Nat) :: .ptr H.next i :: .ptr (H.next + 2) i :: .ptr (H.next + 1) i :: lget Y 52 :: lget Y 53 :: lget Y 54 :: lget Y 55 :: lget Y 56 :: lget Y 57 :: lget Y 58 :: lget Y 59 :: lget Y 60 :: lget Y 61 :: lget Y 62 :: lget Y 63 :: lget Y 64 :: lget Y 65 :: lget Y 66 :: lget Y 67 :: lget Y 68 :: lget Y 69 :: lget Y 70 :: lget Y 71 :: lget Y 72 :: lget Y 73 :: lget Y 74 :: lget Y 75 :: lget Y 76 :: lget Y 77 :: [])) rfl ?_
    refine Wp.mem (fun H7 => Keeps H H7 ∧ H7.next = H.next + 4 ∧ H7.get H.next = some (.cells (ivs (ss.set i ((total * z).tdiv (sumL l)))) 3 0) ∧ H7.get (H.next + 1) = some (.cells (ivs (ps.set i (i : Int))) 3 0) ∧ H7.get (H.next + 2) = some (.cells (ivs (rs.set i ((total * z).tmod (sumL l)))) 2 0) ∧ H7.get (H.next + 3) = some (.cells [.slc (H.next + 2) 0 l.length l.length] 102 0)) ⟨?_, ?_, ?_, ?_, ?_, ?_⟩ ?_
    · exact ((k6.set _ (by omega) (by omega)).set _ (by omega) (by omega)).set _ (by omega) (by omega)
    · exact n6
    · rw [get_set_ne (by omega) (by omega), get_set_ne (by omega) (by omega), get_set_eq (by omega)]
      exact congrArg (fun c => some (AB.cells c 3 0)) (ivs_set _ _ _)
    · rw [get_set_eq (by omega)]
      exact congrArg (fun c => some (AB.cells c 3 0)) (ivs_set _ _ _)
    · rw [get_set_ne (by omega) (by omega), get_set_eq (by omega)]
      exact congrArg (fun c => some (AB.cells c 2 0)) (ivs_set _ _ _)
    · rw [get_set_ne (by omega) (by omega), get_set_ne (by omega) (by omega), get_set_ne (by omega) (by omega)]
      exact gt6
    rintro H7 ⟨k7, n7, gs7, gp7, gr7, gt7⟩
    have hS7 : Sl H7 (.slc H.next 0 l.length l.length) (ivs (ss.set i ((total * z).tdiv (sumL l)))) := sl_cells (by omega) gs7 (by rw [ivs_length, List.length_set, ls]) fun _ _ h => h
    repeat (first | refine wops_nil ?_ | refine wops_cons (wop_skip' rfl rfl ?_) | refine wops_cons (wop_move rfl rfl ?_) | refine wops_cons (wop_assign rfl rfl ?_) | refine wops_cons (wop_bin (op := .add) rfl rfl rfl rfl (inc (by omega)) ?_) | refine wops_cons (o_lenI rfl rfl rfl rfl rfl (by assumption) ?_) | refine wops_cons (o_load rfl rfl (by assumption) ?_) | refine wops_cons (wop_pick rfl rfl rfl ?_) | refine wops_cons (wop_not rfl rfl rfl ?_) | refine wops_cons (wop_extract rfl rfl rfl rfl ?_) | refine mobs_move rfl rfl rfl ?_ | refine m_load rfl rfl rfl (by assumption) ?_ | refine mobs_nil ?_ | refine wd_nil ?_ | refine wd_skip rfl rfl ?_ | refine wd_loudSkip rfl rfl ?_ | refine wd_move rfl rfl rfl ?_ | refine wd_assign rfl rfl rfl ?_ | refine wd_pick rfl rfl rfl rfl ?_ | refine d_load rfl rfl rfl (by assumption) ?_ | refine d_lenI rfl rfl rfl rfl rfl rfl (by assumption) ?_ | refine wp_condT rfl ?_ | refine wp_condF rfl ?_ | refine wp_region ?_ | refine wp_seq ?_ | refine wp_skip ?_ | refine wp_exit ?_ | refine wp_block ?_)
    refine wops_cons (o_indexI (z := (total * z).tdiv (sumL l)) rfl rfl hS7 rfl (List.getElem?_set_self (by omega)) fun p hp => ?_)
    repeat (first | refine wops_nil ?_ | refine wops_cons (wop_skip' rfl rfl ?_) | refine wops_cons (wop_move rfl rfl ?_) | refine wops_cons (wop_assign rfl rfl ?_) | refine wops_cons (wop_bin (op := .add) rfl rfl rfl rfl (inc (by omega)) ?_) | refine wops_cons (o_lenI rfl rfl rfl rfl rfl (by assumption) ?_) | refine wops_cons (o_load rfl rfl (by assumption) ?_) | refine wops_cons (wop_pick rfl rfl rfl ?_) | refine wops_cons (wop_not rfl rfl rfl ?_) | refine wops_cons (wop_extract rfl rfl rfl rfl ?_) | refine mobs_move rfl rfl rfl ?_ | refine m_load rfl rfl rfl (by assumption) ?_ | refine mobs_nil ?_ | refine wd_nil ?_ | refine wd_skip rfl rfl ?_ | refine wd_loudSkip rfl rfl ?_ | refine wd_move rfl rfl rfl ?_ | refine wd_assign rfl rfl rfl ?_ | refine wd_pick rfl rfl rfl rfl ?_ | refine d_load rfl rfl rfl (by assumption) ?_ | refine d_lenI rfl rfl rfl rfl rfl rfl (by assumption) ?_ | refine wp_condT rfl ?_ | refine wp_condF rfl ?_ | refine wp_region ?_ | refine wp_seq ?_ | refine wp_skip ?_ | refine wp_exit ?_ | refine wp_block ?_)
    refine wops_cons (wop_bin (op := .sub) (v := .int .i64 (total - sumL ((quoL total (sumL l) l).take (i + 1)))) rfl rfl rfl rfl ?_ ?_)
    · show some (Value.int .i64 (IntKind.i64.wrap (total - sumL ((quoL total (sumL l) l).take i) - (total * z).tdiv (sumL l)))) = _
      have hbd := sub_bounds hl2 ht.2 (sumL_nonneg (l := (quoL total (sumL l) l).take i) fun y hy => (hq0 y (List.mem_of_mem_take hy)).1) hqb.1
      rw [hst, wrap_id hbd.1 hbd.2, Int.sub_sub]
    repeat (first | refine wops_nil ?_ | refine wops_cons (wop_skip' rfl rfl ?_) | refine wops_cons (wop_move rfl rfl ?_) | refine wops_cons (wop_assign rfl rfl ?_) | refine wops_cons (wop_bin (op := .add) rfl rfl rfl rfl (inc (by omega)) ?_) | refine wops_cons (o_lenI rfl rfl rfl rfl rfl (by assumption) ?_) | refine wops_cons (o_load rfl rfl (by assumption) ?_) | refine wops_cons (wop_pick rfl rfl rfl ?_) | refine wops_cons (wop_not rfl rfl rfl ?_) | refine wops_cons (wop_extract rfl rfl rfl rfl ?_) | refine mobs_move rfl rfl rfl ?_ | refine m_load rfl rfl rfl (by assumption) ?_ | refine mobs_nil ?_ | refine wd_nil ?_ | refine wd_skip rfl rfl ?_ | refine wd_loudSkip rfl rfl ?_ | refine wd_move rfl rfl rfl ?_ | refine wd_assign rfl rfl rfl ?_ | refine wd_pick rfl rfl rfl rfl ?_ | refine d_load rfl rfl rfl (by assumption) ?_ | refine d_lenI rfl rfl rfl rfl rfl rfl (by assumption) ?_ | refine wp_condT rfl ?_ | refine wp_condF rfl ?_ | refine wp_region ?_ | refine wp_seq ?_ | refine wp_skip ?_ | refine wp_exit ?_ | refine wp_block ?_)
    have hup : ∀ (s : List Int) (v : Int) (t : List Int), s.length = l.length → t[i]? = some v → (∀ j, j < i → s[j]? = t[j]?) → ∀ j, j < i + 1 → (s.set i v)[j]? = t[j]? := fun s v t h1 h2 h3 j hj => by
      by_cases e : j = i
      · subst e; rw [List.getElem?_set_self (by omega), h2]
      · rw [List.getElem?_set_ne (Ne.symm e)]; exact h3 j (by omega)
    refine ⟨l.length - (i + 1), by omega, i + 1, (_ :: _ :: _ :: _ :: _ :: _ :: _ :: _ :: _ :: _ :: _ :: _ :: _ :: _ :: _ :: _ :: _ :: _ :: _ :: _ :: _ :: _ :: _ :: _ :: _ :: _ :: _ :: _ :: _ :: _ :: _ :: _ :: _ :: _ :: _ :: _ :: _ :: _ :: _ :: _ :: _ :: _ :: _ :: _ :: _ :: _ :: _ :: _ :: _ :: _ :: _ :: _ :: _ :: _ :: _ :: _ :: _ :: _ :: _ :: _ :: _ :: _ :: _ :: _ :: _ :: _ :: _ :: _ :: _ :: _ :: _ :: _ :: _ :: _ :: _ :: _ :: _ :: _ :: []), _, _, _, rfl, by omega, k7, n7, gs7, gp7, gr7, gt7, by rw [List.length_set]; exact ls, by rw [List.length_set]; exact lp, by rw [List.length_set]; exact lr, hup _ _ _ ls hqi hss, fun j hj => ?_, hup _ _ _ lr hri hrs, rfl, rfl⟩
    by_cases e : j = i
    · subst e; rw [List.getElem?_set_self (by omega)]
    · rw [List.getElem?_set_ne (Ne.symm e)]; exact hps j (by omega)
  · have h : ¬ ((i : Int) < l.length) := of_decide_eq_false h
    have e : i = l.length := by omega
    subst e
    have es : ss = quoL total (sumL l) l := List.ext_getElem? fun j => by
      rcases Nat.lt_or_ge j l.length with hj | hj
      · exact hss j hj
      · rw [List.getElem?_eq_none (by omega), List.getElem?_eq_none (by omega)]
    have er : rs = remL total (sumL l) l := List.ext_getElem? fun j => by
      rcases Nat.lt_or_ge j l.length with hj | hj
      · exact hrs j hj
      · rw [List.getElem?_eq_none (by omega), List.getElem?_eq_none (by omega)]
    have ep : ps = rangeI l.length := List.ext_getElem? fun j => by
      rcases Nat.lt_or_ge j l.length with hj | hj
      · rw [hps j hj]; simp [rangeI, hj]
      · rw [List.getElem?_eq_none (by omega), List.getElem?_eq_none (by rw [length_rangeI]; omega)]
    subst es er ep
    clear hss hrs hps
    rw [List.take_of_length_le (by omega)]
    have hl0' := hleft l.length (Nat.le_refl _)
    rw [List.take_of_length_le (by omega)] at hl0'
    obtain ⟨m, hm⟩ := Int.eq_ofNat_of_zero_le hl0'
    have hmn : m ≤ l.length := by omega
    repeat (first | refine wops_nil ?_ | refine wops_cons (wop_skip' rfl rfl ?_) | refine wops_cons (wop_move rfl rfl ?_) | refine wops_cons (wop_assign rfl rfl ?_) | refine wops_cons (wop_bin (op := .add) rfl rfl rfl rfl (inc (by omega)) ?_) | refine wops_cons (o_lenI rfl rfl rfl rfl rfl (by assumption) ?_) | refine wops_cons (o_load rfl rfl (by assumption) ?_) | refine wops_cons (wop_pick rfl rfl rfl ?_) | refine wops_cons (wop_not rfl rfl rfl ?_) | refine wops_cons (wop_extract rfl rfl rfl rfl ?_) | refine mobs_move rfl rfl rfl ?_ | refine m_load rfl rfl rfl (by assumption) ?_ | refine mobs_nil ?_ | refine wd_nil ?_ | refine wd_skip rfl rfl ?_ | refine wd_loudSkip rfl rfl ?_ | refine wd_move rfl rfl rfl ?_ | refine wd_assign rfl rfl rfl ?_ | refine wd_pick rfl rfl rfl rfl ?_ | refine d_load rfl rfl rfl (by assumption) ?_ | refine d_lenI rfl rfl rfl rfl rfl rfl (by assumption) ?_ | refine wp_condT rfl ?_ | refine wp_condF rfl ?_ | refine wp_region ?_ | refine wp_seq ?_ | refine wp_skip ?_ | refine wp_exit ?_ | refine wp_block ?_)
    refine WOps.T (T' := (iv total :: x :: lget Y 0 :: lget Y 1 :: .v (.slice none 0 0) :: iv 0 :: iv (sumL l) :: lget Y 2 :: .slc H.next 0 l.length l.length :: .slc (H.next + 1) 0 l.length l.length :: .ptr (H.next + 3) 0 :: iv (total - sumL (quoL total (sumL l) l)) :: lget Y 3 :: lget Y 4 :: lget Y 5 :: lget Y 6 :: lget Y 7 :: lget Y 8 :: lget Y 9 :: lget Y 10 :: lget Y 11 :: lget Y 12 :: lget Y 13 :: lget Y 14 :: lget Y 15 :: lget Y 16 :: lget Y 17 :: lget Y 18 :: lget Y 19 :: lget Y 20 :: lget Y 21 :: lget Y 22 :: lget Y 23 :: lget Y 24 :: lget Y 25 :: lget Y 26 :: lget Y 27 :: lget Y 28 :: x :: iv l.length :: iv (l.length : Nat) :: .v (.bool false) :: lget Y 30 :: lget Y 31 :: lget Y 32 :: lget Y 33 :: lget Y 34 :: lget Y 35 :: lget Y 36 :: lget Y 37 :: lget Y 38 :: lget Y 39 :: lget Y 40 :: lget Y 41 :: lget Y 42 :: lget Y 43 :: lget Y 44 :: lget Y 45 :: lget Y 46 :: lget Y 47 :: lget Y 48 :: lget Y 49 :: lget Y 50 :: lget Y 51 :: lget Y 52 :: lget Y 53 :: lget Y 54 :: lget Y 55 :: lget Y 56 :: lget Y 57 :: lget Y 58 :: .slc (H.next + 1) 0 l.length l.length :: lget Y 60 :: lget Y 61 :: lget Y 62 :: lget Y 63 :: lget Y 64 :: lget Y 65 :: lget Y 66 :: lget Y 67 :: lget Y 68 :: lget Y 69 :: lget Y 70 :: lget Y 71 :: lget Y 72 :: lget Y 73 :: lget Y 74 :: lget Y 75 :: lget Y 76 :: lget Y 77 :: [])) rfl ?_
    refine wops_cons (wop_makeFunc rfl rfl ?_)
    refine wops_cons (wop_callF rfl rfl rfl (fn := Tryz.f62) (by rfl) ?_)
    refine c62 hq H6 (H.next + 1) l.length (H.next + 3) (rangeI l.length) (length_rangeI _) hl (by omega) gp6 (ltR (remL total (sumL l) l)) (fun Hm u v a1 a2 a3 hu hv K' hk' => ?_) _ fun r H7 n7 gl7 g7 gp7 => ⟨Nat.le_of_eq n7.symm, ?_⟩
    · have hu' := mem_rangeI.1 hu
      have hv' := mem_rangeI.1 hv
      obtain ⟨ru, hru⟩ := l_some (l := remL total (sumL l) l) (show u.toNat < _ by omega)
      obtain ⟨rv', hrv⟩ := l_some (l := remL total (sumL l) l) (show v.toNat < _ by omega)
      have eu : u = (u.toNat : Int) := by omega
      have ev' : v = (v.toNat : Int) := by omega
      rw [eu, ev']
      refine c63 hq Hm u.toNat v.toNat (H.next + 3) (H.next + 2) l.length (remL total (sumL l) l) ru rv' (by omega) (by omega) ((a3 _ (by omega)).trans gt6) ((a3 _ (by omega)).trans gr6) hrn hru hrv K' (hk' _ ?_)
      unfold ltR cmpI
      rw [List.getD_eq_getElem?_getD, List.getD_eq_getElem?_getD, hru, hrv]
      by_cases h1 : rv' < ru
      · simp [h1]
      · by_cases h2 : rv' > ru <;> simp [h1, h2]
    have hord : (sortR (ltR (remL total (sumL l) l)) (rangeI l.length)).reverse = orderR (remL total (sumL l) l) := by unfold orderR; rw [hrn]
    rw [hord] at gp7
    have k7 : Keeps H H7 := ⟨by omega, gl7.trans k6.gl, fun c hc => (g7 c (by omega)).trans (k6.get c hc)⟩
    have gs7 := (g7 H.next (by omega)).trans gs6
    have hol : (orderR (remL total (sumL l) l)).length = l.length := by rw [orderR_length, hrn]
    have hPS : True ∧ Sl H7 (.slc (H.next + 1) 0 m l.length) (ivs ((orderR (remL total (sumL l) l)).take m)) := ⟨trivial, sl_cells (by omega) gp7 (by rw [ivs_length, List.length_take]; omega) fun j v hv => by
      simp only [ivs, List.getElem?_map, Option.map_eq_some_iff] at hv ⊢
      obtain ⟨a, ha, rfl⟩ := hv
      rw [List.getElem?_take] at ha
      split at ha
      · exact ⟨a, ha, rfl⟩
      · cases ha⟩
    repeat (first | refine wops_nil ?_ | refine wops_cons (wop_skip' rfl rfl ?_) | refine wops_cons (wop_move rfl rfl ?_) | refine wops_cons (wop_assign rfl rfl ?_) | refine wops_cons (wop_bin (op := .add) rfl rfl rfl rfl (inc (by omega)) ?_) | refine wops_cons (o_lenI rfl rfl rfl rfl rfl (by assumption) ?_) | refine wops_cons (o_load rfl rfl (by assumption) ?_) | refine wops_cons (wop_pick rfl rfl rfl ?_) | refine wops_cons (wop_not rfl rfl rfl ?_) | refine wops_cons (wop_extract rfl rfl rfl rfl ?_) | refine mobs_move rfl rfl rfl ?_ | refine m_load rfl rfl rfl (by assumption) ?_ | refine mobs_nil ?_ | refine wd_nil ?_ | refine wd_skip rfl rfl ?_ | refine wd_loudSkip rfl rfl ?_ | refine wd_move rfl rfl rfl ?_ | refine wd_assign rfl rfl rfl ?_ | refine wd_pick rfl rfl rfl rfl ?_ | refine d_load rfl rfl rfl (by assumption) ?_ | refine d_lenI rfl rfl rfl rfl rfl rfl (by assumption) ?_ | refine wp_condT rfl ?_ | refine wp_condF rfl ?_ | refine wp_region ?_ | refine wp_seq ?_ | refine wp_skip ?_ | refine wp_exit ?_ | refine wp_block ?_)
    refine WOps.T (T' := (iv total :: x :: lget Y 0 :: lget Y 1 :: .v (.slice none 0 0) :: iv 0 :: iv (sumL l) :: lget Y 2 :: .slc H.next 0 l.length l.length :: .slc (H.next + 1) 0 l.length l.length :: .ptr (H.next + 3) 0 :: iv (total - sumL (quoL total (sumL l) l)) :: lget Y 3 :: lget Y 4 :: lget Y 5 :: lget Y 6 :: lget Y 7 :: lget Y 8 :: lget Y 9 :: lget Y 10 :: lget Y 11 :: lget Y 12 :: lget Y 13 :: lget Y 14 :: lget Y 15 :: lget Y 16 :: lget Y 17 :: lget Y 18 :: lget Y 19 :: lget Y 20 :: lget Y 21 :: lget Y 22 :: lget Y 23 :: lget Y 24 :: lget Y 25 :: lget Y 26 :: lget Y 27 :: lget Y 28 :: x :: iv l.length :: iv (l.length : Nat) :: .v (.bool false) :: lget Y 30 :: lget Y 31 :: lget Y 32 :: lget Y 33 :: lget Y 34 :: lget Y 35 :: lget Y 36 :: lget Y 37 :: lget Y 38 :: lget Y 39 :: lget Y 40 :: lget Y 41 :: lget Y 42 :: lget Y 43 :: lget Y 44 :: lget Y 45 :: lget Y 46 :: lget Y 47 :: lget Y 48 :: lget Y 49 :: lget Y 50 :: lget Y 51 :: lget Y 52 :: lget Y 53 :: lget Y 54 :: lget Y 55 :: lget Y 56 :: lget Y 57 :: lget Y 58 :: .slc (H.next + 1) 0 l.length l.length :: .fn (.func 63) [] [.ptr (H.next + 3) 0] :: r :: .slc (H.next + 1) 0 l.length l.length :: iv (total - sumL (quoL total (sumL l) l)) :: lget Y 64 :: lget Y 65 :: lget Y 66 :: lget Y 67 :: lget Y 68 :: lget Y 69 :: lget Y 70 :: lget Y 71 :: lget Y 72 :: lget Y 73 :: lget Y 74 :: lget Y 75 :: lget Y 76 :: lget Y 77 :: [])) rfl ?_
    refine wops_cons (o_sliceTo (m := m) rfl rfl rfl (by rw [← Int.ofNat_eq_natCast, ← hm]; rfl) hmn ?_)
    refine wops_cons (o_lenN (m := m) rfl rfl rfl rfl rfl hPS.2 (by rw [ivs_length, List.length_take]; omega) ?_)
    repeat (first | refine wops_nil ?_ | refine wops_cons (wop_skip' rfl rfl ?_) | refine wops_cons (wop_move rfl rfl ?_) | refine wops_cons (wop_assign rfl rfl ?_) | refine wops_cons (wop_bin (op := .add) rfl rfl rfl rfl (inc (by omega)) ?_) | refine wops_cons (o_lenI rfl rfl rfl rfl rfl (by assumption) ?_) | refine wops_cons (o_load rfl rfl (by assumption) ?_) | refine wops_cons (wop_pick rfl rfl rfl ?_) | refine wops_cons (wop_not rfl rfl rfl ?_) | refine wops_cons (wop_extract rfl rfl rfl rfl ?_) | refine mobs_move rfl rfl rfl ?_ | refine m_load rfl rfl rfl (by assumption) ?_ | refine mobs_nil ?_ | refine wd_nil ?_ | refine wd_skip rfl rfl ?_ | refine wd_loudSkip rfl rfl ?_ | refine wd_move rfl rfl rfl ?_ | refine wd_assign rfl rfl rfl ?_ | refine wd_pick rfl rfl rfl rfl ?_ | refine d_load rfl rfl rfl (by assumption) ?_ | refine d_lenI rfl rfl rfl rfl rfl rfl (by assumption) ?_ | refine wp_condT rfl ?_ | refine wp_condF rfl ?_ | refine wp_region ?_ | refine wp_seq ?_ | refine wp_skip ?_ | refine wp_exit ?_ | refine wp_block ?_)
    refine wp_loop (fun q T M H' => ∃ (j : Nat) (Y : List AV), q = m - j ∧ j ≤ m ∧ Keeps H H' ∧ H'.next = H.next + 4 ∧ (∀ c, c ≠ H.next → H'.get c = H7.get c) ∧ H'.get H.next = some (.cells (ivs (bump (quoL total (sumL l) l) ((orderR (remL total (sumL l) l)).take j))) 3 0) ∧ M = [] ∧
        T = (iv total :: x :: lget Y 0 :: lget Y 1 :: .v (.slice none 0 0) :: iv 0 :: lget Y 2 :: lget Y 3 :: .slc H.next 0 l.length l.length :: lget Y 4 :: lget Y 5 :: lget Y 6 :: lget Y 7 :: lget Y 8 :: lget Y 9 :: lget Y 10 :: lget Y 11 :: lget Y 12 :: lget Y 13 :: lget Y 14 :: lget Y 15 :: lget Y 16 :: lget Y 17 :: lget Y 18 :: lget Y 19 :: lget Y 20 :: lget Y 21 :: lget Y 22 :: lget Y 23 :: lget Y 24 :: lget Y 25 :: lget Y 26 :: lget Y 27 :: lget Y 28 :: lget Y 29 :: lget Y 30 :: lget Y 31 :: lget Y 32 :: lget Y 33 :: lget Y 34 :: lget Y 35 :: lget Y 36 :: lget Y 37 :: lget Y 38 :: lget Y 39 :: lget Y 40 :: lget Y 41 :: lget Y 42 :: lget Y 43 :: lget Y 44 :: lget Y 45 :: lget Y 46 :: lget Y 47 :: lget Y 48 :: lget Y 49 :: lget Y 50 :: lget Y 51 :: lget Y 52 :: lget Y 53 :: lget Y 54 :: lget Y 55 :: lget Y 56 :: lget Y 57 :: lget Y 58 :: lget Y 59 :: lget Y 60 :: lget Y 61 :: lget Y 62 :: lget Y 63 :: lget Y 64 :: lget Y 65 :: lget Y 66 :: lget Y 67 :: lget Y 68 :: lget Y 69 :: lget Y 70 :: .slc (H.next + 1) 0 m l.length :: iv (m : Nat) :: iv (j : Nat) :: lget Y 71 :: lget Y 72 :: lget Y 73 :: lget Y 74 :: lget Y 75 :: lget Y 76 :: lget Y 77 :: lget Y 78 :: lget Y 79 :: lget Y 80 :: lget Y 81 :: [])) m
      ⟨0, (_ :: _ :: _ :: _ :: _ :: _ :: _ :: _ :: _ :: _ :: _ :: _ :: _ :: _ :: _ :: _ :: _ :: _ :: _ :: _ :: _ :: _ :: _ :: _ :: _ :: _ :: _ :: _ :: _ :: _ :: _ :: _ :: _ :: _ :: _ :: _ :: _ :: _ :: _ :: _ :: _ :: _ :: _ :: _ :: _ :: _ :: _ :: _ :: _ :: _ :: _ :: _ :: _ :: _ :: _ :: _ :: _ :: _ :: _ :: _ :: _ :: _ :: _ :: _ :: _ :: _ :: _ :: _ :: _ :: _ :: _ :: _ :: _ :: _ :: _ :: _ :: _ :: _ :: _ :: _ :: _ :: _ :: []), rfl, Nat.zero_le _, k7, by omega, fun _ _ => rfl, by rw [List.take_zero]; exact gs7, rfl, rfl⟩ ?_
    rintro q T M H8 ⟨j, Y, hq1, hj, k8, n8, g8, gs8, rfl, rfl⟩
    repeat (first | refine wops_nil ?_ | refine wops_cons (wop_skip' rfl rfl ?_) | refine wops_cons (wop_move rfl rfl ?_) | refine wops_cons (wop_assign rfl rfl ?_) | refine wops_cons (wop_bin (op := .add) rfl rfl rfl rfl (inc (by omega)) ?_) | refine wops_cons (o_lenI rfl rfl rfl rfl rfl (by assumption) ?_) | refine wops_cons (o_load rfl rfl (by assumption) ?_) | refine wops_cons (wop_pick rfl rfl rfl ?_) | refine wops_cons (wop_not rfl rfl rfl ?_) | refine wops_cons (wop_extract rfl rfl rfl rfl ?_) | refine mobs_move rfl rfl rfl ?_ | refine m_load rfl rfl rfl (by assumption) ?_ | refine mobs_nil ?_ | refine wd_nil ?_ | refine wd_skip rfl rfl ?_ | refine wd_loudSkip rfl rfl ?_ | refine wd_move rfl rfl rfl ?_ | refine wd_assign rfl rfl rfl ?_ | refine wd_pick rfl rfl rfl rfl ?_ | refine d_load rfl rfl rfl (by assumption) ?_ | refine d_lenI rfl rfl rfl rfl rfl rfl (by assumption) ?_ | refine wp_condT rfl ?_ | refine wp_condF rfl ?_ | refine wp_region ?_ | refine wp_seq ?_ | refine wp_skip ?_ | refine wp_exit ?_ | refine wp_block ?_)
    refine wops_cons (wop_cmp rfl rfl rfl rfl rfl (fun h => ?_) (fun h => ?_))
    · have h : (j : Int) < m := of_decide_eq_true h
      obtain ⟨p, hp⟩ := l_some (l := orderR (remL total (sumL l) l)) (show j < _ by omega)
      have hpr := orderR_mem.1 (List.mem_of_getElem? hp)
      rw [hrn] at hpr
      have hpn : p = (p.toNat : Int) := by omega
      have hpt : ((orderR (remL total (sumL l) l)).take m)[j]? = some p := by rw [List.getElem?_take, if_pos (by omega), hp]
      have hP8 := hPS.2.frame (k8.gl.trans k7.gl.symm) fun c hc => g8 c (by cases hc; omega)
      have hbl : (bump (quoL total (sumL l) l) ((orderR (remL total (sumL l) l)).take j)).length = l.length := by rw [bump_length, hqn]
      obtain ⟨s, hs⟩ := l_some (l := bump (quoL total (sumL l) l) ((orderR (remL total (sumL l) l)).take j)) (show p.toNat < _ by omega)
      have hsb := bump_bound hq0 ht.1 s (List.mem_of_getElem? hs)
      rw [List.length_take] at hsb
      repeat (first | refine wops_nil ?_ | refine wops_cons (wop_skip' rfl rfl ?_) | refine wops_cons (wop_move rfl rfl ?_) | refine wops_cons (wop_assign rfl rfl ?_) | refine wops_cons (wop_bin (op := .add) rfl rfl rfl rfl (inc (by omega)) ?_) | refine wops_cons (o_lenI rfl rfl rfl rfl rfl (by assumption) ?_) | refine wops_cons (o_load rfl rfl (by assumption) ?_) | refine wops_cons (wop_pick rfl rfl rfl ?_) | refine wops_cons (wop_not rfl rfl rfl ?_) | refine wops_cons (wop_extract rfl rfl rfl rfl ?_) | refine mobs_move rfl rfl rfl ?_ | refine m_load rfl rfl rfl (by assumption) ?_ | refine mobs_nil ?_ | refine wd_nil ?_ | refine wd_skip rfl rfl ?_ | refine wd_loudSkip rfl rfl ?_ | refine wd_move rfl rfl rfl ?_ | refine wd_assign rfl rfl rfl ?_ | refine wd_pick rfl rfl rfl rfl ?_ | refine d_load rfl rfl rfl (by assumption) ?_ | refine d_lenI rfl rfl rfl rfl rfl rfl (by assumption) ?_ | refine wp_condT rfl ?_ | refine wp_condF rfl ?_ | refine wp_region ?_ | refine wp_seq ?_ | refine wp_skip ?_ | refine wp_exit ?_ | refine wp_block ?_)
      refine wops_cons (o_indexI rfl rfl hP8 rfl hpt fun pt hpt' => ?_)
      repeat (first | refine wops_nil ?_ | refine wops_cons (wop_skip' rfl rfl ?_) | refine wops_cons (wop_move rfl rfl ?_) | refine wops_cons (wop_assign rfl rfl ?_) | refine wops_cons (wop_bin (op := .add) rfl rfl rfl rfl (inc (by omega)) ?_) | refine wops_cons (o_lenI rfl rfl rfl rfl rfl (by assumption) ?_) | refine wops_cons (o_load rfl rfl (by assumption) ?_) | refine wops_cons (wop_pick rfl rfl rfl ?_) | refine wops_cons (wop_not rfl rfl rfl ?_) | refine wops_cons (wop_extract rfl rfl rfl rfl ?_) | refine mobs_move rfl rfl rfl ?_ | refine m_load rfl rfl rfl (by assumption) ?_ | refine mobs_nil ?_ | refine wd_nil ?_ | refine wd_skip rfl rfl ?_ | refine wd_loudSkip rfl rfl ?_ | refine wd_move rfl rfl rfl ?_ | refine wd_assign rfl rfl rfl ?_ | refine wd_pick rfl rfl rfl rfl ?_ | refine d_load rfl rfl rfl (by assumption) ?_ | refine d_lenI rfl rfl rfl rfl rfl rfl (by assumption) ?_ | refine wp_condT rfl ?_ | refine wp_condF rfl ?_ | refine wp_region ?_ | refine wp_seq ?_ | refine wp_skip ?_ | refine wp_exit ?_ | refine wp_block ?_)
      refine WOps.T (T' := (iv total :: x :: lget Y 0 :: lget Y 1 :: .v (.slice none 0 0) :: iv 0 :: lget Y 2 :: lget Y 3 :: .slc H.next 0 l.length l.length :: lget Y 4 :: lget Y 5 :: lget Y 6 :: lget Y 7 :: lget Y 8 :: lget Y 9 :: lget Y 10 :: iv p :: lget Y 12 :: lget Y 13 :: lget Y 14 :: lget Y 15 :: lget Y 16 :: lget Y 17 :: lget Y 18 :: lget Y 19 :: lget Y 20 :: lget Y 21 :: lget Y 22 :: lget Y 23 :: lget Y 24 :: lget Y 25 :: lget Y 26 :: lget Y 27 :: lget Y 28 :: lget Y 29 :: lget Y 30 :: lget Y 31 :: lget Y 32 :: lget Y 33 :: lget Y 34 :: lget Y 35 :: lget Y 36 :: lget Y 37 :: lget Y 38 :: lget Y 39 :: lget Y 40 :: lget Y 41 :: lget Y 42 :: lget Y 43 :: lget Y 44 :: lget Y 45 :: lget Y 46 :: lget Y 47 :: lget Y 48 :: lget Y 49 :: lget Y 50 :: lget Y 51 :: lget Y 52 :: lget Y 53 :: lget Y 54 :: lget Y 55 :: lget Y 56 :: lget Y 57 :: lget Y 58 :: lget Y 59 :: lget Y 60 :: lget Y 61 :: lget Y 62 :: lget Y 63 :: lget Y 64 :: lget Y 65 :: lget Y 66 :: lget Y 67 :: lget Y 68 :: lget Y 69 :: lget Y 70 :: .slc (H.next + 1) 0 m l.length :: iv (m : Nat) :: iv (j : Nat) :: .v (.bool true) :: pt :: iv p :: .slc H.next 0 l.length l.length :: iv p :: lget Y 76 :: lget Y 77 :: lget Y 78 :: lget Y 79 :: lget Y 80 :: lget Y 81 :: [])) rfl ?_
      refine wops_cons (o_indexOwn (j := p.toNat) rfl rfl rfl (by rw [← hpn]; rfl) (by omega) ?_)
      have as8 : At H8 (.ptr H.next p.toNat) (iv s) := at_ptr (by omega) gs8 (ivs_get hs)
      repeat (first | refine wops_nil ?_ | refine wops_cons (wop_skip' rfl rfl ?_) | refine wops_cons (wop_move rfl rfl ?_) | refine wops_cons (wop_assign rfl rfl ?_) | refine wops_cons (wop_bin (op := .add) rfl rfl rfl rfl (inc (by omega)) ?_) | refine wops_cons (o_lenI rfl rfl rfl rfl rfl (by assumption) ?_) | refine wops_cons (o_load rfl rfl (by assumption) ?_) | refine wops_cons (wop_pick rfl rfl rfl ?_) | refine wops_cons (wop_not rfl rfl rfl ?_) | refine wops_cons (wop_extract rfl rfl rfl rfl ?_) | refine mobs_move rfl rfl rfl ?_ | refine m_load rfl rfl rfl (by assumption) ?_ | refine mobs_nil ?_ | refine wd_nil ?_ | refine wd_skip rfl rfl ?_ | refine wd_loudSkip rfl rfl ?_ | refine wd_move rfl rfl rfl ?_ | refine wd_assign rfl rfl rfl ?_ | refine wd_pick rfl rfl rfl rfl ?_ | refine d_load rfl rfl rfl (by assumption) ?_ | refine d_lenI rfl rfl rfl rfl rfl rfl (by assumption) ?_ | refine wp_condT rfl ?_ | refine wp_condF rfl ?_ | refine wp_region ?_ | refine wp_seq ?_ | refine wp_skip ?_ | refine wp_exit ?_ | refine wp_block ?_)
      refine wops_cons (wop_bin (op := .add) (v := .int .i64 (s + 1)) rfl rfl rfl rfl ?_ ?_)
      · show some (Value.int .i64 (IntKind.i64.wrap (s + 1))) = _
        rw [wrap_id (by omega) (by omega)]
      refine wops_cons (o_indexOwn (j := p.toNat) rfl rfl rfl (by rw [← hpn]; rfl) (by omega) ?_)
      refine wops_cons (o_store rfl rfl rfl gs8 (by rw [ivs_length]; omega) rfl ?_)
      repeat (first | refine wops_nil ?_ | refine wops_cons (wop_skip' rfl rfl ?_) | refine wops_cons (wop_move rfl rfl ?_) | refine wops_cons (wop_assign rfl rfl ?_) | refine wops_cons (wop_bin (op := .add) rfl rfl rfl rfl (inc (by omega)) ?_) | refine wops_cons (o_lenI rfl rfl rfl rfl rfl (by assumption) ?_) | refine wops_cons (o_load rfl rfl (by assumption) ?_) | refine wops_cons (wop_pick rfl rfl rfl ?_) | refine wops_cons (wop_not rfl rfl rfl ?_) | refine wops_cons (wop_extract rfl rfl rfl rfl ?_) | refine mobs_move rfl rfl rfl ?_ | refine m_load rfl rfl rfl (by assumption) ?_ | refine mobs_nil ?_ | refine wd_nil ?_ | refine wd_skip rfl rfl ?_ | refine wd_loudSkip rfl rfl ?_ | refine wd_move rfl rfl rfl ?_ | refine wd_assign rfl rfl rfl ?_ | refine wd_pick rfl rfl rfl rfl ?_ | refine d_load rfl rfl rfl (by assumption) ?_ | refine d_lenI rfl rfl rfl rfl rfl rfl (by assumption) ?_ | refine wp_condT rfl ?_ | refine wp_condF rfl ?_ | refine wp_region ?_ | refine wp_seq ?_ | refine wp_skip ?_ | refine wp_exit ?_ | refine wp_block ?_)
      refine ⟨m - (j + 1), by omega, j + 1, (_ :: _ :: _ :: _ :: _ :: _ :: _ :: _ :: _ :: _ :: _ :: _ :: _ :: _ :: _ :: _ :: _ :: _ :: _ :: _ :: _ :: _ :: _ :: _ :: _ :: _ :: _ :: _ :: _ :: _ :: _ :: _ :: _ :: _ :: _ :: _ :: _ :: _ :: _ :: _ :: _ :: _ :: _ :: _ :: _ :: _ :: _ :: _ :: _ :: _ :: _ :: _ :: _ :: _ :: _ :: _ :: _ :: _ :: _ :: _ :: _ :: _ :: _ :: _ :: _ :: _ :: _ :: _ :: _ :: _ :: _ :: _ :: _ :: _ :: _ :: _ :: _ :: _ :: _ :: _ :: _ :: _ :: []), rfl, by omega, k8.set _ (by omega) (by omega), n8, fun c hc => (get_set_ne (by omega) hc).trans (g8 c hc), ?_, rfl, rfl⟩
      rw [get_set_eq (by omega), List.take_add_one, hp]
      show some (AB.cells ((ivs _).set p.toNat (iv (s + 1))) 3 0) = some (AB.cells (ivs (bump _ (_ ++ [p]))) 3 0)
      rw [bump_snoc, ivs_set, List.getD_eq_getElem?_getD, hs]
      rfl
    · have h : ¬ ((j : Int) < m) := of_decide_eq_false h
      have e : j = m := by omega
      subst e
      repeat (first | refine wops_nil ?_ | refine wops_cons (wop_skip' rfl rfl ?_) | refine wops_cons (wop_move rfl rfl ?_) | refine wops_cons (wop_assign rfl rfl ?_) | refine wops_cons (wop_bin (op := .add) rfl rfl rfl rfl (inc (by omega)) ?_) | refine wops_cons (o_lenI rfl rfl rfl rfl rfl (by assumption) ?_) | refine wops_cons (o_load rfl rfl (by assumption) ?_) | refine wops_cons (wop_pick rfl rfl rfl ?_) | refine wops_cons (wop_not rfl rfl rfl ?_) | refine wops_cons (wop_extract rfl rfl rfl rfl ?_) | refine mobs_move rfl rfl rfl ?_ | refine m_load rfl rfl rfl (by assumption) ?_ | refine mobs_nil ?_ | refine wd_nil ?_ | refine wd_skip rfl rfl ?_ | refine wd_loudSkip rfl rfl ?_ | refine wd_move rfl rfl rfl ?_ | refine wd_assign rfl rfl rfl ?_ | refine wd_pick rfl rfl rfl rfl ?_ | refine d_load rfl rfl rfl (by assumption) ?_ | refine d_lenI rfl rfl rfl rfl rfl rfl (by assumption) ?_ | refine wp_condT rfl ?_ | refine wp_condF rfl ?_ | refine wp_region ?_ | refine wp_seq ?_ | refine wp_skip ?_ | refine wp_exit ?_ | refine wp_block ?_)
      refine wp_ret ?_
      have esh : sharesL total (sumL l) l = bump (quoL total (sumL l) l) ((orderR (remL total (sumL l) l)).take j) := by unfold sharesL; rw [hm]; rfl
      refine ⟨_, _, rfl, hk H8 _ k8 (by omega) ?_ (fun c hc => by cases hc; omega)⟩
      rw [esh]
      exact sl_cells (by omega) gs8 (by rw [ivs_length, bump_length, hqn]) fun _ _ h => h
end Go.Ev
namespace Go.Ev
open Go.Proofs

theorem intsB_ivs (l : List Int) : intsB (ivs l) = true := by
  induction l with
  | nil => rfl
  | cons x l ih => exact ih

theorem ca_insert {O : CallF} (hi : ∀ args H, O 65 args H = insO 65 3 65 args H) (H : AH) (s : AV) (l : List Int) (k : Nat) (x : Int) (vb cap : Nat) (e : TypeId) (hG : Gr H 3 s (ivs l)) (hv : H.get vb = some (.cells [iv x] e 0)) (hk : k ≤ l.length) (hl : l.length ≤ 4096) (hne : s.own ≠ some vb) (hr : H.next + 1 ≤ 2 ^ 39) (K : AV → AH → Prop)
    (hK : ∀ r H', H'.next = H.next + 1 → H'.gl = H.gl → (∀ b, b ≠ H.next → s.own ≠ some b → H'.get b = H.get b) → (∀ b, r.own = some b → b = H.next) → Gr H' 3 r (ivs (l.take k ++ x :: l.drop k)) → K r H') : Ca (ENV O) 65 [s, iv k, .slc vb 0 1 cap] H K := by
  have h39 : H.next < 2 ^ 39 := by omega
  rcases hG with ⟨rfl, hl0⟩ | ⟨b, hbn, hb39, rfl, hg⟩
  · have hl0 : l = [] := by cases l with | nil => rfl | cons a l => cases hl0
    subst hl0
    have hk0 : k = 0 := by simpa using hk
    subst hk0
    refine ca_oracle (r := .slu H.next 0 1 1) (H' := H.add (.cells [iv x] 3 1)) ?_ (hK _ _ rfl rfl (fun b hb _ => get_add_ne h39 hb) (fun b hb => by cases hb; rfl) (.inr ⟨H.next, Nat.lt_succ_self _, h39, rfl, get_add_eq h39⟩))
    show O 65 _ H = _
    rw [hi]
    show (match H.get vb with
      | some (.cells [.v (.int kv zv)] _ 0) => if Nat.ble (H.next + 1) (2 ^ 39) then insTo 3 (.v (.slice none 0 0)) 0 (.v (.int kv zv)) vb H else none
      | _ => none) = _
    rw [hv]
    simp only
    rw [if_pos (Nat.ble_eq_true_of_le hr)]
    rfl
  · have hbv : b ≠ vb := fun e => hne (by rw [← e]; rfl)
    refine ca_oracle (r := .slu H.next 0 ((ivs l).length + 1) 1) (H' := (H.set b none).add (.cells ((ivs l).take k ++ iv x :: (ivs l).drop k) 3 1)) ?_ (hK _ _ rfl rfl (fun c hc1 hc2 => ?_) (fun b hb => by cases hb; rfl) (.inr ⟨H.next, Nat.lt_succ_self _, h39, ?_, ?_⟩))
    · show O 65 _ H = _
      rw [hi]
      show (match H.get vb with
        | some (.cells [.v (.int kv zv)] _ 0) => if Nat.ble (H.next + 1) (2 ^ 39) then insTo 3 (.slu b 0 (ivs l).length 1) k (.v (.int kv zv)) vb H else none
        | _ => none) = _
      rw [hv]
      simp only
      rw [if_pos (Nat.ble_eq_true_of_le hr)]
      unfold insTo
      simp only [hg]
      have h1 : Nat.ble k (ivs l).length = true := Nat.ble_eq_true_of_le (by rw [ivs_length]; exact hk)
      have h2 : Nat.ble (ivs l).length 4096 = true := Nat.ble_eq_true_of_le (by rw [ivs_length]; exact hl)
      have h3 : Nat.beq b vb = false := by
        cases hh : Nat.beq b vb with
        | false => rfl
        | true => exact absurd (Nat.eq_of_beq_eq_true hh) hbv
      rw [if_pos (by simp [h1, h2, intsB_ivs, h3])]
    · exact (get_add_ne (H := H.set b none) h39 hc1).trans (get_set_ne hb39 (fun e => hc2 (by rw [e]; rfl)))
    · congr 1
      simp only [ivs_length, List.length_append, List.length_take, List.length_cons, List.length_drop]
      omega
    · refine (get_add_eq (H := H.set b none) h39).trans ?_
      simp [ivs, List.map_take, List.map_drop]

variable {O : CallF} (hq : Quiet O)
include hq

theorem c29 (hi : ∀ args H, O 65 args H = insO 65 3 65 args H) (H : AH) (key : Int) (n : Nat) (hkey : 1 ≤ key ∧ key ≤ 2147483646) (hn : n ≤ 256) (hr : H.next + 600 < 2 ^ 39) (K : AV → AH → Prop)
    (hk : ∀ H' c, Keeps H H' → H'.next ≤ H.next + 520 → Sl H' c (ivs (drawL key n)) → Old H' c → K (.tup [c, iv 0]) H') : Ca (ENV O) 29 [iv key, iv n] H K := by
  refine ca_intro (hq _ _ _ rfl) (fn := Tryz.f29) (by rfl) rfl ?_
  repeat (first | refine wops_nil ?_ | refine wops_cons (wop_skip' rfl rfl ?_) | refine wops_cons (wop_move rfl rfl ?_) | refine wops_cons (wop_assign rfl rfl ?_) | refine wops_cons (wop_bin (op := .add) rfl rfl rfl rfl (inc (by omega)) ?_) | refine wops_cons (o_lenI rfl rfl rfl rfl rfl (by assumption) ?_) | refine wops_cons (o_load rfl rfl (by assumption) ?_) | refine wops_cons (wop_pick rfl rfl rfl ?_) | refine wops_cons (wop_not rfl rfl rfl ?_) | refine wops_cons (wop_extract rfl rfl rfl rfl ?_) | refine mobs_move rfl rfl rfl ?_ | refine m_load rfl rfl rfl (by assumption) ?_ | refine mobs_nil ?_ | refine wd_nil ?_ | refine wd_skip rfl rfl ?_ | refine wd_loudSkip rfl rfl ?_ | refine wd_move rfl rfl rfl ?_ | refine wd_assign rfl rfl rfl ?_ | refine wd_pick rfl rfl rfl rfl ?_ | refine d_load rfl rfl rfl (by assumption) ?_ | refine d_lenI rfl rfl rfl rfl rfl rfl (by assumption) ?_ | refine wp_condT rfl ?_ | refine wp_condF rfl ?_ | refine wp_region ?_ | refine wp_seq ?_ | refine wp_skip ?_ | refine wp_exit ?_ | refine wp_block ?_)
  refine wops_cons (wop_callF rfl rfl rfl (fn := Tryz.f60) (by rfl) ?_)
  refine c60 hq H key 1 2147483646 _ ⟨Nat.le_refl _, ?_⟩
  rw [decide_eq_true hkey]
  repeat (first | refine wops_nil ?_ | refine wops_cons (wop_skip' rfl rfl ?_) | refine wops_cons (wop_move rfl rfl ?_) | refine wops_cons (wop_assign rfl rfl ?_) | refine wops_cons (wop_bin (op := .add) rfl rfl rfl rfl (inc (by omega)) ?_) | refine wops_cons (o_lenI rfl rfl rfl rfl rfl (by assumption) ?_) | refine wops_cons (o_load rfl rfl (by assumption) ?_) | refine wops_cons (wop_pick rfl rfl rfl ?_) | refine wops_cons (wop_not rfl rfl rfl ?_) | refine wops_cons (wop_extract rfl rfl rfl rfl ?_) | refine mobs_move rfl rfl rfl ?_ | refine m_load rfl rfl rfl (by assumption) ?_ | refine mobs_nil ?_ | refine wd_nil ?_ | refine wd_skip rfl rfl ?_ | refine wd_loudSkip rfl rfl ?_ | refine wd_move rfl rfl rfl ?_ | refine wd_assign rfl rfl rfl ?_ | refine wd_pick rfl rfl rfl rfl ?_ | refine d_load rfl rfl rfl (by assumption) ?_ | refine d_lenI rfl rfl rfl rfl rfl rfl (by assumption) ?_ | refine wp_condT rfl ?_ | refine wp_condF rfl ?_ | refine wp_region ?_ | refine wp_seq ?_ | refine wp_skip ?_ | refine wp_exit ?_ | refine wp_block ?_)
  refine wops_cons (wop_callF rfl rfl rfl (fn := Tryz.f60) (by rfl) ?_)
  refine c60 hq H n 0 256 _ ⟨Nat.le_refl _, ?_⟩
  rw [decide_eq_true (show (0 : Int) ≤ n ∧ (n : Int) ≤ 256 by omega)]
  repeat (first | refine wops_nil ?_ | refine wops_cons (wop_skip' rfl rfl ?_) | refine wops_cons (wop_move rfl rfl ?_) | refine wops_cons (wop_assign rfl rfl ?_) | refine wops_cons (wop_bin (op := .add) rfl rfl rfl rfl (inc (by omega)) ?_) | refine wops_cons (o_lenI rfl rfl rfl rfl rfl (by assumption) ?_) | refine wops_cons (o_load rfl rfl (by assumption) ?_) | refine wops_cons (wop_pick rfl rfl rfl ?_) | refine wops_cons (wop_not rfl rfl rfl ?_) | refine wops_cons (wop_extract rfl rfl rfl rfl ?_) | refine mobs_move rfl rfl rfl ?_ | refine m_load rfl rfl rfl (by assumption) ?_ | refine mobs_nil ?_ | refine wd_nil ?_ | refine wd_skip rfl rfl ?_ | refine wd_loudSkip rfl rfl ?_ | refine wd_move rfl rfl rfl ?_ | refine wd_assign rfl rfl rfl ?_ | refine wd_pick rfl rfl rfl rfl ?_ | refine d_load rfl rfl rfl (by assumption) ?_ | refine d_lenI rfl rfl rfl rfl rfl rfl (by assumption) ?_ | refine wp_condT rfl ?_ | refine wp_condF rfl ?_ | refine wp_region ?_ | refine wp_seq ?_ | refine wp_skip ?_ | refine wp_exit ?_ | refine wp_block ?_)
  refine wp_loop (fun q T M H' => ∃ (i : Nat) (Y : List AV) (s : AV), q = n - i ∧ i ≤ n ∧ Keeps H H' ∧ H'.next ≤ H.next + 2 * i ∧ Gr H' 3 s (ivs (drawL key i)) ∧ (∀ b, s.own = some b → H.next ≤ b) ∧ M = [] ∧
      T = (iv key :: iv n :: lget Y 0 :: lget Y 1 :: .v (.slice none 0 0) :: iv 0 :: s :: iv (drawX key i) :: lget Y 2 :: lget Y 3 :: lget Y 4 :: lget Y 5 :: lget Y 6 :: lget Y 7 :: lget Y 8 :: lget Y 9 :: lget Y 10 :: lget Y 11 :: iv n :: iv (i : Nat) :: lget Y 12 :: lget Y 13 :: lget Y 14 :: lget Y 15 :: lget Y 16 :: lget Y 17 :: lget Y 18 :: lget Y 19 :: lget Y 20 :: lget Y 21 :: lget Y 22 :: lget Y 23 :: lget Y 24 :: lget Y 25 :: lget Y 26 :: [])) n
    ⟨0, (_ :: _ :: _ :: _ :: _ :: _ :: _ :: _ :: _ :: _ :: _ :: _ :: _ :: _ :: _ :: _ :: _ :: _ :: _ :: _ :: _ :: _ :: _ :: _ :: _ :: _ :: _ :: []), .v (.slice none 0 0), rfl, Nat.zero_le _, Keeps.refl H, Nat.le_refl _, .inl ⟨rfl, rfl⟩, (fun b hb => by cases hb), rfl, rfl⟩ ?_
  rintro q T M H1 ⟨i, Y, s, hq1, hi1, k1, n1, G1, ho1, rfl, rfl⟩
  repeat (first | refine wops_nil ?_ | refine wops_cons (wop_skip' rfl rfl ?_) | refine wops_cons (wop_move rfl rfl ?_) | refine wops_cons (wop_assign rfl rfl ?_) | refine wops_cons (wop_bin (op := .add) rfl rfl rfl rfl (inc (by omega)) ?_) | refine wops_cons (o_lenI rfl rfl rfl rfl rfl (by assumption) ?_) | refine wops_cons (o_load rfl rfl (by assumption) ?_) | refine wops_cons (wop_pick rfl rfl rfl ?_) | refine wops_cons (wop_not rfl rfl rfl ?_) | refine wops_cons (wop_extract rfl rfl rfl rfl ?_) | refine mobs_move rfl rfl rfl ?_ | refine m_load rfl rfl rfl (by assumption) ?_ | refine mobs_nil ?_ | refine wd_nil ?_ | refine wd_skip rfl rfl ?_ | refine wd_loudSkip rfl rfl ?_ | refine wd_move rfl rfl rfl ?_ | refine wd_assign rfl rfl rfl ?_ | refine wd_pick rfl rfl rfl rfl ?_ | refine d_load rfl rfl rfl (by assumption) ?_ | refine d_lenI rfl rfl rfl rfl rfl rfl (by assumption) ?_ | refine wp_condT rfl ?_ | refine wp_condF rfl ?_ | refine wp_region ?_ | refine wp_seq ?_ | refine wp_skip ?_ | refine wp_exit ?_ | refine wp_block ?_)
  refine wops_cons (wop_cmp rfl rfl rfl rfl rfl (fun h => ?_) (fun h => ?_))
  rotate_left
  · have h : ¬ ((i : Int) < n) := of_decide_eq_false h
    have e : i = n := by omega
    subst e
    repeat (first | refine wops_nil ?_ | refine wops_cons (wop_skip' rfl rfl ?_) | refine wops_cons (wop_move rfl rfl ?_) | refine wops_cons (wop_assign rfl rfl ?_) | refine wops_cons (wop_bin (op := .add) rfl rfl rfl rfl (inc (by omega)) ?_) | refine wops_cons (o_lenI rfl rfl rfl rfl rfl (by assumption) ?_) | refine wops_cons (o_load rfl rfl (by assumption) ?_) | refine wops_cons (wop_pick rfl rfl rfl ?_) | refine wops_cons (wop_not rfl rfl rfl ?_) | refine wops_cons (wop_extract rfl rfl rfl rfl ?_) | refine mobs_move rfl rfl rfl ?_ | refine m_load rfl rfl rfl (by assumption) ?_ | refine mobs_nil ?_ | refine wd_nil ?_ | refine wd_skip rfl rfl ?_ | refine wd_loudSkip rfl rfl ?_ | refine wd_move rfl rfl rfl ?_ | refine wd_assign rfl rfl rfl ?_ | refine wd_pick rfl rfl rfl rfl ?_ | refine d_load rfl rfl rfl (by assumption) ?_ | refine d_lenI rfl rfl rfl rfl rfl rfl (by assumption) ?_ | refine wp_condT rfl ?_ | refine wp_condF rfl ?_ | refine wp_region ?_ | refine wp_seq ?_ | refine wp_skip ?_ | refine wp_exit ?_ | refine wp_block ?_)
    refine wp_ret ?_
    exact ⟨_, _, rfl, hk H1 s k1 (by omega) G1.sl G1.old⟩
  have h : (i : Int) < n := of_decide_eq_true h
  have hx := drawX_range hkey i
  have hx2 := drawX_range hkey (i + 1)
  obtain ⟨hK1, hK2⟩ := drawK_le hkey i
  repeat (first | refine wops_nil ?_ | refine wops_cons (wop_skip' rfl rfl ?_) | refine wops_cons (wop_move rfl rfl ?_) | refine wops_cons (wop_assign rfl rfl ?_) | refine wops_cons (wop_bin (op := .add) rfl rfl rfl rfl (inc (by omega)) ?_) | refine wops_cons (o_lenI rfl rfl rfl rfl rfl (by assumption) ?_) | refine wops_cons (o_load rfl rfl (by assumption) ?_) | refine wops_cons (wop_pick rfl rfl rfl ?_) | refine wops_cons (wop_not rfl rfl rfl ?_) | refine wops_cons (wop_extract rfl rfl rfl rfl ?_) | refine mobs_move rfl rfl rfl ?_ | refine m_load rfl rfl rfl (by assumption) ?_ | refine mobs_nil ?_ | refine wd_nil ?_ | refine wd_skip rfl rfl ?_ | refine wd_loudSkip rfl rfl ?_ | refine wd_move rfl rfl rfl ?_ | refine wd_assign rfl rfl rfl ?_ | refine wd_pick rfl rfl rfl rfl ?_ | refine d_load rfl rfl rfl (by assumption) ?_ | refine d_lenI rfl rfl rfl rfl rfl rfl (by assumption) ?_ | refine wp_condT rfl ?_ | refine wp_condF rfl ?_ | refine wp_region ?_ | refine wp_seq ?_ | refine wp_skip ?_ | refine wp_exit ?_ | refine wp_block ?_)
  refine wops_cons (wop_bin (op := .mul) (v := .int .i64 (drawX key i * 39373)) rfl rfl rfl rfl ?_ ?_)
  · show some (Value.int .i64 (IntKind.i64.wrap (drawX key i * 39373))) = _
    rw [wrap_id (by omega) (by omega)]
  refine wops_cons (wop_rem rfl rfl rfl rfl (by decide) ?_)
  rw [show (drawX key i * 39373).tmod 2147483647 = drawX key (i + 1) from rfl]
  repeat (first | refine wops_nil ?_ | refine wops_cons (wop_skip' rfl rfl ?_) | refine wops_cons (wop_move rfl rfl ?_) | refine wops_cons (wop_assign rfl rfl ?_) | refine wops_cons (wop_bin (op := .add) rfl rfl rfl rfl (inc (by omega)) ?_) | refine wops_cons (o_lenI rfl rfl rfl rfl rfl (by assumption) ?_) | refine wops_cons (o_load rfl rfl (by assumption) ?_) | refine wops_cons (wop_pick rfl rfl rfl ?_) | refine wops_cons (wop_not rfl rfl rfl ?_) | refine wops_cons (wop_extract rfl rfl rfl rfl ?_) | refine mobs_move rfl rfl rfl ?_ | refine m_load rfl rfl rfl (by assumption) ?_ | refine mobs_nil ?_ | refine wd_nil ?_ | refine wd_skip rfl rfl ?_ | refine wd_loudSkip rfl rfl ?_ | refine wd_move rfl rfl rfl ?_ | refine wd_assign rfl rfl rfl ?_ | refine wd_pick rfl rfl rfl rfl ?_ | refine d_load rfl rfl rfl (by assumption) ?_ | refine d_lenI rfl rfl rfl rfl rfl rfl (by assumption) ?_ | refine wp_condT rfl ?_ | refine wp_condF rfl ?_ | refine wp_region ?_ | refine wp_seq ?_ | refine wp_skip ?_ | refine wp_exit ?_ | refine wp_block ?_)
  refine wops_cons (wop_rem rfl rfl rfl rfl (by omega) ?_)
  rw [show (drawX key (i + 1)).tmod ((i + 1 : Nat) : Int) = (drawK key i : Int) from hK1]
  repeat (first | refine wops_nil ?_ | refine wops_cons (wop_skip' rfl rfl ?_) | refine wops_cons (wop_move rfl rfl ?_) | refine wops_cons (wop_assign rfl rfl ?_) | refine wops_cons (wop_bin (op := .add) rfl rfl rfl rfl (inc (by omega)) ?_) | refine wops_cons (o_lenI rfl rfl rfl rfl rfl (by assumption) ?_) | refine wops_cons (o_load rfl rfl (by assumption) ?_) | refine wops_cons (wop_pick rfl rfl rfl ?_) | refine wops_cons (wop_not rfl rfl rfl ?_) | refine wops_cons (wop_extract rfl rfl rfl rfl ?_) | refine mobs_move rfl rfl rfl ?_ | refine m_load rfl rfl rfl (by assumption) ?_ | refine mobs_nil ?_ | refine wd_nil ?_ | refine wd_skip rfl rfl ?_ | refine wd_loudSkip rfl rfl ?_ | refine wd_move rfl rfl rfl ?_ | refine wd_assign rfl rfl rfl ?_ | refine wd_pick rfl rfl rfl rfl ?_ | refine d_load rfl rfl rfl (by assumption) ?_ | refine d_lenI rfl rfl rfl rfl rfl rfl (by assumption) ?_ | refine wp_condT rfl ?_ | refine wp_condF rfl ?_ | refine wp_region ?_ | refine wp_seq ?_ | refine wp_skip ?_ | refine wp_exit ?_ | refine wp_block ?_)
  have r1 : H1.next < 2 ^ 39 := by omega
  refine wops_cons (o_build1 rfl rfl rfl r1 ?_)
  have G2 : Gr (H1.add (.cells [iv i] 3 0)) 3 s (ivs (drawL key i)) := G1.frame (Nat.le_succ _) fun b hb => get_add_ne r1 (by have := G1.old b hb; omega)
  have k2 := k1.add (.cells [iv i] 3 0) r1
  refine wops_cons (wop_callF rfl rfl rfl (fn := Tryz.f65) (by rfl) ?_)
  refine ca_insert hi (H1.add (.cells [iv i] 3 0)) s (drawL key i) (drawK key i) i H1.next 1 3 G2 (get_add_eq r1) (by rw [drawL_length]; exact hK2) (by rw [drawL_length]; omega) (fun e => by have := G1.old _ e; omega) (by show H1.next + 1 + 1 ≤ _; omega) _ fun r H3 n3 gl3 g3 ho3 G3 => ⟨by rw [n3]; exact Nat.le_succ _, ?_⟩
  have n3 : H3.next = H1.next + 1 + 1 := n3
  repeat (first | refine wops_nil ?_ | refine wops_cons (wop_skip' rfl rfl ?_) | refine wops_cons (wop_move rfl rfl ?_) | refine wops_cons (wop_assign rfl rfl ?_) | refine wops_cons (wop_bin (op := .add) rfl rfl rfl rfl (inc (by omega)) ?_) | refine wops_cons (o_lenI rfl rfl rfl rfl rfl (by assumption) ?_) | refine wops_cons (o_load rfl rfl (by assumption) ?_) | refine wops_cons (wop_pick rfl rfl rfl ?_) | refine wops_cons (wop_not rfl rfl rfl ?_) | refine wops_cons (wop_extract rfl rfl rfl rfl ?_) | refine mobs_move rfl rfl rfl ?_ | refine m_load rfl rfl rfl (by assumption) ?_ | refine mobs_nil ?_ | refine wd_nil ?_ | refine wd_skip rfl rfl ?_ | refine wd_loudSkip rfl rfl ?_ | refine wd_move rfl rfl rfl ?_ | refine wd_assign rfl rfl rfl ?_ | refine wd_pick rfl rfl rfl rfl ?_ | refine d_load rfl rfl rfl (by assumption) ?_ | refine d_lenI rfl rfl rfl rfl rfl rfl (by assumption) ?_ | refine wp_condT rfl ?_ | refine wp_condF rfl ?_ | refine wp_region ?_ | refine wp_seq ?_ | refine wp_skip ?_ | refine wp_exit ?_ | refine wp_block ?_)
  refine ⟨n - (i + 1), by omega, i + 1, (_ :: _ :: _ :: _ :: _ :: _ :: _ :: _ :: _ :: _ :: _ :: _ :: _ :: _ :: _ :: _ :: _ :: _ :: _ :: _ :: _ :: _ :: _ :: _ :: _ :: _ :: _ :: []), r, rfl, by omega, ⟨by have := k1.nx; omega, gl3.trans k2.gl, fun b hb => ?_⟩, by omega, G3, fun b hb => ?_, rfl, rfl⟩
  · rw [g3 b (by show b ≠ H1.next + 1; have := k1.nx; omega) (fun e => by have := ho1 b e; omega)]
    exact k2.get b hb
  · have : b = H1.next + 1 := ho3 b hb
    have := k1.nx
    omega
end Go.Ev
