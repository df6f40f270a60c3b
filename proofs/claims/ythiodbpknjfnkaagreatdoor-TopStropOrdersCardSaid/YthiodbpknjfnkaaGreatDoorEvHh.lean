/- Part of an evaluator of calls that is proved sound, and of what it gives about this program. No condition of its own. -/
import Derived.Test.YthiodbpknjfnkaaGreatDoorEvHf
set_option linter.unusedVariables false
set_option linter.unusedSimpArgs false
set_option maxRecDepth 100000
set_option maxHeartbeats 4000000
namespace Go.Ev
open Go.Proofs

/-- The slices of a list of cycles. -/
def CycR (H : AH) (lo : Nat) (s : AV) (cyc : List AV) (os : List (List Nat)) : Prop :=
  cyc.length = os.length ∧ ∀ (j : Nat) (c : AV) (o : List Nat), cyc[j]? = some c → os[j]? = some o → Sl H c (nvs o) ∧ ∀ b, c.own = some b → lo ≤ b ∧ b < H.next ∧ s.own ≠ some b

theorem Gr.own_cells {H : AH} {e : TypeId} {s : AV} {cs : List AV} (h : Gr H e s cs) {b : Nat} (hb : s.own = some b) : ∃ cs' g, H.get b = some (.cells cs' e g) := by
  rcases h with ⟨rfl, _⟩ | ⟨b', _, _, rfl, hg⟩
  · cases hb
  · cases hb; exact ⟨_, _, hg⟩

variable {O : CallF} (hq : Quiet O)
include hq

theorem c106' (H : AH) (x : AV) (s : Int) (h1 : x.one = true) (hr : H.next + 2 < 2 ^ 39) (K : AV → AH → Prop) (hk : ∀ H' sb pb, pb = H.next → sb = H.next + 1 → H'.next = H.next + 2 → Keeps H H' → H'.get sb = some (.cells [iv s] 3 0) → H'.get pb = some (.cells [x] 22 0) → K (.fn (.func 80) [] [.ptr sb 0, .ptr pb 0]) H') : Ca (ENV O) 49 [x, iv s] H K := by
  refine c106 hq H x s h1 hr K ?_
  have h2 : (H.add (.cells [x] 22 0)).next < 2 ^ 39 := by show H.next + 1 < _; omega
  refine hk _ (H.next + 1) H.next rfl rfl rfl (((Keeps.refl H).add _ (by omega)).add _ h2) (get_add_eq h2) ?_
  rw [get_add_ne h2 (by show H.next ≠ H.next + 1; omega), get_add_eq (by omega)]

theorem c51 (H : AH) (x : AV) (l : List Int) (hx : Sl H x (ivs l)) (ho : Old H x) (hl : l.length ≤ 256) (hok : OkP l) (hr : H.next + 200000 < 2 ^ 39) (K : AV → AH → Prop)
    (hk : ∀ H' s cyc, Keeps H H' → H'.next ≤ H.next + 140000 → Gr H' 22 s cyc → CycR H' H.next s cyc (cycs (fOf l) l.length l.length) → K s H') : Ca (ENV O) 20 [x] H K := by
  refine ca_intro (hq _ _ _ rfl) (fn := Tryz.f20) (by rfl) rfl ?_
  have hpm := hok.pm
  have hlf : ∀ y, y < l.length → l[y]? = some ((fOf l y : Nat) : Int) := fun y hy => hok.f_get hy
  generalize fOf l = f at hpm hlf hk ⊢
  repeat (first | refine wops_nil ?_ | refine wops_cons (wop_skip' rfl rfl ?_) | refine wops_cons (wop_move rfl rfl ?_) | refine wops_cons (wop_assign rfl rfl ?_) | refine wops_cons (wop_bin (op := .add) rfl rfl rfl rfl (inc (by omega)) ?_) | refine wops_cons (o_lenI rfl rfl rfl rfl rfl (by assumption) ?_) | refine wops_cons (o_load rfl rfl (by assumption) ?_) | refine wops_cons (wop_pick rfl rfl rfl ?_) | refine wops_cons (wop_not rfl rfl rfl ?_) | refine wops_cons (wop_extract rfl rfl rfl rfl ?_) | refine mobs_move rfl rfl rfl ?_ | refine m_load rfl rfl rfl (by assumption) ?_ | refine mobs_nil ?_ | refine wd_nil ?_ | refine wd_skip rfl rfl ?_ | refine wd_loudSkip rfl rfl ?_ | refine wd_move rfl rfl rfl ?_ | refine wd_assign rfl rfl rfl ?_ | refine wd_pick rfl rfl rfl rfl ?_ | refine d_load rfl rfl rfl (by assumption) ?_ | refine d_lenI rfl rfl rfl rfl rfl rfl (by assumption) ?_ | refine wp_condT rfl ?_ | refine wp_condF rfl ?_ | refine wp_region ?_ | refine wp_seq ?_ | refine wp_skip ?_ | refine wp_exit ?_ | refine wp_block ?_)
  have hr1 : H.next < 2 ^ 39 := by omega
  have hr2 : (H.add (.cells (List.replicate l.length (.v (.bool false))) 4 0)).next < 2 ^ 39 := by show H.next + 1 < _; omega
  refine wops_cons (o_make rfl rfl rfl rfl (by omega) hr1 ?_)
  refine wops_cons (o_alloc rfl rfl hr2 ?_)
  refine wops_cons (o_store rfl rfl rfl (get_add_eq (x := .cells [.v (.slice none 0 0)] 92 0) hr2) (Nat.succ_pos _) rfl ?_)
  have hx3 := hx.keep ho ((((Keeps.refl H).add (.cells (List.replicate l.length (.v (.bool false))) 4 0) hr1).add (.cells [.v (.slice none 0 0)] 92 0) hr2).set (some (.cells [.slc H.next 0 l.length l.length] 92 0)) (b := H.next + 1) (by omega) hr2)
  repeat (first | refine wops_nil ?_ | refine wops_cons (wop_skip' rfl rfl ?_) | refine wops_cons (wop_move rfl rfl ?_) | refine wops_cons (wop_assign rfl rfl ?_) | refine wops_cons (wop_bin (op := .add) rfl rfl rfl rfl (inc (by omega)) ?_) | refine wops_cons (o_lenI rfl rfl rfl rfl rfl (by assumption) ?_) | refine wops_cons (o_load rfl rfl (by assumption) ?_) | refine wops_cons (wop_pick rfl rfl rfl ?_) | refine wops_cons (wop_not rfl rfl rfl ?_) | refine wops_cons (wop_extract rfl rfl rfl rfl ?_) | refine mobs_move rfl rfl rfl ?_ | refine m_load rfl rfl rfl (by assumption) ?_ | refine mobs_nil ?_ | refine wd_nil ?_ | refine wd_skip rfl rfl ?_ | refine wd_loudSkip rfl rfl ?_ | refine wd_move rfl rfl rfl ?_ | refine wd_assign rfl rfl rfl ?_ | refine wd_pick rfl rfl rfl rfl ?_ | refine d_load rfl rfl rfl (by assumption) ?_ | refine d_lenI rfl rfl rfl rfl rfl rfl (by assumption) ?_ | refine wp_condT rfl ?_ | refine wp_condF rfl ?_ | refine wp_region ?_ | refine wp_seq ?_ | refine wp_skip ?_ | refine wp_exit ?_ | refine wp_block ?_)
  refine wp_loop (fun k T M H' => ∃ (i : Nat) (Y : List AV) (s : AV) (cyc vs : List AV), k = l.length - i ∧ i ≤ l.length ∧ Keeps H H' ∧ H'.next ≤ H.next + 2 + i * 519 ∧ H.next + 2 ≤ H'.next ∧ H'.get (H.next + 1) = some (.cells [.slc H.next 0 l.length l.length] 92 0) ∧
      H'.get H.next = some (.cells vs 4 0) ∧ vs.length = l.length ∧ (∀ y, y < l.length → vs[y]? = some (.v (.bool (vis f l.length i y)))) ∧ Gr H' 22 s cyc ∧ (∀ b, s.own = some b → H.next + 2 ≤ b) ∧ CycR H' (H.next + 2) s cyc (cycs f l.length i) ∧
      M.Nodup ∧ (∀ b ∈ M, H.next + 2 ≤ b ∧ b < H'.next ∧ H'.get b = some .dfd) ∧ T = (x :: lget Y 0 :: .v (.slice none 0 0) :: s :: .ptr (H.next + 1) 0 :: lget Y 1 :: lget Y 2 :: lget Y 3 :: lget Y 4 :: lget Y 5 :: lget Y 6 :: x :: iv l.length :: iv (i : Nat) :: lget Y 7 :: lget Y 8 :: lget Y 9 :: lget Y 10 :: lget Y 11 :: lget Y 12 :: lget Y 13 :: lget Y 14 :: lget Y 15 :: lget Y 16 :: lget Y 17 :: lget Y 18 :: lget Y 19 :: lget Y 20 :: lget Y 21 :: lget Y 22 :: lget Y 23 :: lget Y 24 :: lget Y 25 :: lget Y 26 :: lget Y 27 :: lget Y 28 :: lget Y 29 :: [])) l.length
    ⟨0, (_ :: _ :: _ :: _ :: _ :: _ :: _ :: _ :: _ :: _ :: _ :: _ :: _ :: _ :: _ :: _ :: _ :: _ :: _ :: _ :: _ :: _ :: _ :: _ :: _ :: _ :: _ :: _ :: _ :: _ :: []), .v (.slice none 0 0), [], List.replicate l.length (.v (.bool false)), rfl, Nat.zero_le _, (((Keeps.refl H).add _ hr1).add _ hr2).set _ (by show H.next ≤ H.next + 1; omega) hr2, by show H.next + 1 + 1 ≤ _; omega, by show H.next + 2 ≤ H.next + 1 + 1; omega, get_set_eq hr2,
      (get_set_ne hr2 (by show H.next ≠ H.next + 1; omega)).trans ((get_add_ne hr2 (by show H.next ≠ H.next + 1; omega)).trans (get_add_eq hr1)), by simp, fun y hy => by simp [hy, vis], .inl ⟨rfl, rfl⟩, (fun b hb => by cases hb), ⟨rfl, (fun j c o hj => by simp at hj)⟩, List.nodup_nil, (fun b hb => by simp at hb), rfl⟩ ?_
  rintro k T M H' ⟨i, Y, s, cyc, vs, hk1, hi, hK, hn1, hn2, hgt, hgv, hvl, hvs, hG, hso, hcy, hMn, hM, rfl⟩
  have hxx := hx.keep ho hK
  repeat (first | refine wops_nil ?_ | refine wops_cons (wop_skip' rfl rfl ?_) | refine wops_cons (wop_move rfl rfl ?_) | refine wops_cons (wop_assign rfl rfl ?_) | refine wops_cons (wop_bin (op := .add) rfl rfl rfl rfl (inc (by omega)) ?_) | refine wops_cons (o_lenI rfl rfl rfl rfl rfl (by assumption) ?_) | refine wops_cons (o_load rfl rfl (by assumption) ?_) | refine wops_cons (wop_pick rfl rfl rfl ?_) | refine wops_cons (wop_not rfl rfl rfl ?_) | refine wops_cons (wop_extract rfl rfl rfl rfl ?_) | refine mobs_move rfl rfl rfl ?_ | refine m_load rfl rfl rfl (by assumption) ?_ | refine mobs_nil ?_ | refine wd_nil ?_ | refine wd_skip rfl rfl ?_ | refine wd_loudSkip rfl rfl ?_ | refine wd_move rfl rfl rfl ?_ | refine wd_assign rfl rfl rfl ?_ | refine wd_pick rfl rfl rfl rfl ?_ | refine d_load rfl rfl rfl (by assumption) ?_ | refine d_lenI rfl rfl rfl rfl rfl rfl (by assumption) ?_ | refine wp_condT rfl ?_ | refine wp_condF rfl ?_ | refine wp_region ?_ | refine wp_seq ?_ | refine wp_skip ?_ | refine wp_exit ?_ | refine wp_block ?_)
  refine wops_cons (wop_cmp rfl rfl rfl rfl rfl (fun h => ?_) (fun h => ?_))
  rotate_left
  · have h : ¬ ((i : Int) < l.length) := of_decide_eq_false h
    have e : i = l.length := by omega
    subst e
    have hb : l.length * 519 ≤ 256 * 519 := Nat.mul_le_mul_right _ hl
    obtain ⟨H2, t1, t2, t3, t4⟩ := takeMarks_ok hMn fun b hb => ⟨(hM b hb).2.2, by have := (hM b hb).2.1; omega⟩
    repeat (first | refine wops_nil ?_ | refine wops_cons (wop_skip' rfl rfl ?_) | refine wops_cons (wop_move rfl rfl ?_) | refine wops_cons (wop_assign rfl rfl ?_) | refine wops_cons (wop_bin (op := .add) rfl rfl rfl rfl (inc (by omega)) ?_) | refine wops_cons (o_lenI rfl rfl rfl rfl rfl (by assumption) ?_) | refine wops_cons (o_load rfl rfl (by assumption) ?_) | refine wops_cons (wop_pick rfl rfl rfl ?_) | refine wops_cons (wop_not rfl rfl rfl ?_) | refine wops_cons (wop_extract rfl rfl rfl rfl ?_) | refine mobs_move rfl rfl rfl ?_ | refine m_load rfl rfl rfl (by assumption) ?_ | refine mobs_nil ?_ | refine wd_nil ?_ | refine wd_skip rfl rfl ?_ | refine wd_loudSkip rfl rfl ?_ | refine wd_move rfl rfl rfl ?_ | refine wd_assign rfl rfl rfl ?_ | refine wd_pick rfl rfl rfl rfl ?_ | refine d_load rfl rfl rfl (by assumption) ?_ | refine d_lenI rfl rfl rfl rfl rfl rfl (by assumption) ?_ | refine wp_condT rfl ?_ | refine wp_condF rfl ?_ | refine wp_region ?_ | refine wp_seq ?_ | refine wp_skip ?_ | refine wp_exit ?_ | refine wp_block ?_)
    refine wp_ret ?_
    refine ⟨s, H2, by unfold leaveM; rw [t1]; rfl, ?_⟩
    have hcm : ∀ b cs e g, H'.get b = some (.cells cs e g) → b ∉ M := fun b cs e g hb hbM => by rw [(hM b hbM).2.2] at hb; cases hb
    have hK2 : Keeps H H2 := ⟨by rw [t2]; exact hK.nx, t3.trans hK.gl, fun b hb => (t4 b (fun hbM => by have := (hM b hbM).1; omega)).trans (hK.get b hb)⟩
    have hslk : ∀ c lst, Sl H' c lst → Sl H2 c lst := fun c lst hc => hc.frame t3 fun b hb => by
      unfold Sl at hc
      split at hc
      · cases hb
      · obtain ⟨_, _, cs, e, g, h1, _⟩ := hc; cases hb; exact t4 _ (hcm _ _ _ _ h1)
      · obtain ⟨_, _, _, cs, e, g, h1, _⟩ := hc; cases hb; exact t4 _ (hcm _ _ _ _ h1)
      · exact hc.elim
    refine hk H2 s cyc hK2 (by omega) (hG.frame (by omega) fun b hb => ?_) ⟨hcy.1, fun j c o hj hoj => ?_⟩
    · obtain ⟨cs', g, h1⟩ := hG.own_cells hb
      exact t4 b (hcm _ _ _ _ h1)
    · obtain ⟨h1, h2⟩ := hcy.2 j c o hj hoj
      exact ⟨hslk _ _ h1, fun b hb => by have := h2 b hb; exact ⟨by omega, by omega, this.2.2⟩⟩
  have h : (i : Int) < l.length := of_decide_eq_true h
  have hi' : i < l.length := by omega
  have hmul : i * 519 ≤ 256 * 519 := Nat.mul_le_mul_right _ (by omega)
  have hH39 : H'.next + 1000 < 2 ^ 39 := by omega
  have a4 : At H' (.ptr (H.next + 1) 0) (.slc H.next 0 l.length l.length) := at_ptr hr2 hgt rfl
  have hvi := hvs i hi'
  have a5 : At H' (.ptr H.next i) (.v (.bool (vis f l.length i i))) := at_ptr hr1 hgv hvi
  repeat (first | refine wops_nil ?_ | refine wops_cons (wop_skip' rfl rfl ?_) | refine wops_cons (wop_move rfl rfl ?_) | refine wops_cons (wop_assign rfl rfl ?_) | refine wops_cons (wop_bin (op := .add) rfl rfl rfl rfl (inc (by omega)) ?_) | refine wops_cons (o_lenI rfl rfl rfl rfl rfl (by assumption) ?_) | refine wops_cons (o_load rfl rfl (by assumption) ?_) | refine wops_cons (wop_pick rfl rfl rfl ?_) | refine wops_cons (wop_not rfl rfl rfl ?_) | refine wops_cons (wop_extract rfl rfl rfl rfl ?_) | refine mobs_move rfl rfl rfl ?_ | refine m_load rfl rfl rfl (by assumption) ?_ | refine mobs_nil ?_ | refine wd_nil ?_ | refine wd_skip rfl rfl ?_ | refine wd_loudSkip rfl rfl ?_ | refine wd_move rfl rfl rfl ?_ | refine wd_assign rfl rfl rfl ?_ | refine wd_pick rfl rfl rfl rfl ?_ | refine d_load rfl rfl rfl (by assumption) ?_ | refine d_lenI rfl rfl rfl rfl rfl rfl (by assumption) ?_ | refine wp_condT rfl ?_ | refine wp_condF rfl ?_ | refine wp_region ?_ | refine wp_seq ?_ | refine wp_skip ?_ | refine wp_exit ?_ | refine wp_block ?_)
  refine wops_cons (o_indexOwn rfl rfl rfl rfl hi' ?_)
  cases hv : vis f l.length i i with
  | true =>
    rw [hv] at a5
    repeat (first | refine wops_nil ?_ | refine wops_cons (wop_skip' rfl rfl ?_) | refine wops_cons (wop_move rfl rfl ?_) | refine wops_cons (wop_assign rfl rfl ?_) | refine wops_cons (wop_bin (op := .add) rfl rfl rfl rfl (inc (by omega)) ?_) | refine wops_cons (o_lenI rfl rfl rfl rfl rfl (by assumption) ?_) | refine wops_cons (o_load rfl rfl (by assumption) ?_) | refine wops_cons (wop_pick rfl rfl rfl ?_) | refine wops_cons (wop_not rfl rfl rfl ?_) | refine wops_cons (wop_extract rfl rfl rfl rfl ?_) | refine mobs_move rfl rfl rfl ?_ | refine m_load rfl rfl rfl (by assumption) ?_ | refine mobs_nil ?_ | refine wd_nil ?_ | refine wd_skip rfl rfl ?_ | refine wd_loudSkip rfl rfl ?_ | refine wd_move rfl rfl rfl ?_ | refine wd_assign rfl rfl rfl ?_ | refine wd_pick rfl rfl rfl rfl ?_ | refine d_load rfl rfl rfl (by assumption) ?_ | refine d_lenI rfl rfl rfl rfl rfl rfl (by assumption) ?_ | refine wp_condT rfl ?_ | refine wp_condF rfl ?_ | refine wp_region ?_ | refine wp_seq ?_ | refine wp_skip ?_ | refine wp_exit ?_ | refine wp_block ?_)
    refine ⟨l.length - (i + 1), by omega, i + 1, (_ :: _ :: _ :: _ :: _ :: _ :: _ :: _ :: _ :: _ :: _ :: _ :: _ :: _ :: _ :: _ :: _ :: _ :: _ :: _ :: _ :: _ :: _ :: _ :: _ :: _ :: _ :: _ :: _ :: _ :: []), s, cyc, vs, rfl, by omega, hK, by omega, hn2, hgt, hgv, hvl, fun y hy => ?_, hG, hso, ?_, hMn, hM, rfl⟩
    · rw [hpm.vis_skip hi' hv]; exact hvs y hy
    · rw [cycs_succ, if_pos hv, List.append_nil]; exact hcy
  | false =>
  rw [hv] at a5
  repeat (first | refine wops_nil ?_ | refine wops_cons (wop_skip' rfl rfl ?_) | refine wops_cons (wop_move rfl rfl ?_) | refine wops_cons (wop_assign rfl rfl ?_) | refine wops_cons (wop_bin (op := .add) rfl rfl rfl rfl (inc (by omega)) ?_) | refine wops_cons (o_lenI rfl rfl rfl rfl rfl (by assumption) ?_) | refine wops_cons (o_load rfl rfl (by assumption) ?_) | refine wops_cons (wop_pick rfl rfl rfl ?_) | refine wops_cons (wop_not rfl rfl rfl ?_) | refine wops_cons (wop_extract rfl rfl rfl rfl ?_) | refine mobs_move rfl rfl rfl ?_ | refine m_load rfl rfl rfl (by assumption) ?_ | refine mobs_nil ?_ | refine wd_nil ?_ | refine wd_skip rfl rfl ?_ | refine wd_loudSkip rfl rfl ?_ | refine wd_move rfl rfl rfl ?_ | refine wd_assign rfl rfl rfl ?_ | refine wd_pick rfl rfl rfl rfl ?_ | refine d_load rfl rfl rfl (by assumption) ?_ | refine d_lenI rfl rfl rfl rfl rfl rfl (by assumption) ?_ | refine wp_condT rfl ?_ | refine wp_condF rfl ?_ | refine wp_region ?_ | refine wp_seq ?_ | refine wp_skip ?_ | refine wp_exit ?_ | refine wp_block ?_)
  refine wops_cons (o_alloc rfl rfl (by omega) ?_)
  have k1 := (Keeps.refl H').add (.cells [.v (.slice none 0 0)] 22 0) (by omega)
  have n1 : (H'.add (.cells [.v (.slice none 0 0)] 22 0)).next = H'.next + 1 := rfl
  have g1 : (H'.add (.cells [.v (.slice none 0 0)] 22 0)).get H'.next = some (.cells [.v (.slice none 0 0)] 22 0) := get_add_eq (by omega)
  generalize H'.add (.cells [.v (.slice none 0 0)] 22 0) = H1 at k1 n1 g1 ⊢
  repeat (first | refine wops_nil ?_ | refine wops_cons (wop_skip' rfl rfl ?_) | refine wops_cons (wop_move rfl rfl ?_) | refine wops_cons (wop_assign rfl rfl ?_) | refine wops_cons (wop_bin (op := .add) rfl rfl rfl rfl (inc (by omega)) ?_) | refine wops_cons (o_lenI rfl rfl rfl rfl rfl (by assumption) ?_) | refine wops_cons (o_load rfl rfl (by assumption) ?_) | refine wops_cons (wop_pick rfl rfl rfl ?_) | refine wops_cons (wop_not rfl rfl rfl ?_) | refine wops_cons (wop_extract rfl rfl rfl rfl ?_) | refine mobs_move rfl rfl rfl ?_ | refine m_load rfl rfl rfl (by assumption) ?_ | refine mobs_nil ?_ | refine wd_nil ?_ | refine wd_skip rfl rfl ?_ | refine wd_loudSkip rfl rfl ?_ | refine wd_move rfl rfl rfl ?_ | refine wd_assign rfl rfl rfl ?_ | refine wd_pick rfl rfl rfl rfl ?_ | refine d_load rfl rfl rfl (by assumption) ?_ | refine d_lenI rfl rfl rfl rfl rfl rfl (by assumption) ?_ | refine wp_condT rfl ?_ | refine wp_condF rfl ?_ | refine wp_region ?_ | refine wp_seq ?_ | refine wp_skip ?_ | refine wp_exit ?_ | refine wp_block ?_)
  refine wops_cons (wop_callF rfl rfl rfl (fn := Tryz.f49) (by rfl) ?_)
  refine c106' hq H1 x i hx.one (by omega) _ fun H0 sb pb epb esb n0 k0 gs gp => ⟨k0.nx, ?_⟩
  have k0' := k1.trans k0
  have hgc0 := (k0.get H'.next (by omega)).trans g1
  have hgv0 := (k0'.get H.next (by omega)).trans hgv
  have hpn := (hpm.per_spec hi').2.1
  repeat (first | refine wops_nil ?_ | refine wops_cons (wop_skip' rfl rfl ?_) | refine wops_cons (wop_move rfl rfl ?_) | refine wops_cons (wop_assign rfl rfl ?_) | refine wops_cons (wop_bin (op := .add) rfl rfl rfl rfl (inc (by omega)) ?_) | refine wops_cons (o_lenI rfl rfl rfl rfl rfl (by assumption) ?_) | refine wops_cons (o_load rfl rfl (by assumption) ?_) | refine wops_cons (wop_pick rfl rfl rfl ?_) | refine wops_cons (wop_not rfl rfl rfl ?_) | refine wops_cons (wop_extract rfl rfl rfl rfl ?_) | refine mobs_move rfl rfl rfl ?_ | refine m_load rfl rfl rfl (by assumption) ?_ | refine mobs_nil ?_ | refine wd_nil ?_ | refine wd_skip rfl rfl ?_ | refine wd_loudSkip rfl rfl ?_ | refine wd_move rfl rfl rfl ?_ | refine wd_assign rfl rfl rfl ?_ | refine wd_pick rfl rfl rfl rfl ?_ | refine d_load rfl rfl rfl (by assumption) ?_ | refine d_lenI rfl rfl rfl rfl rfl rfl (by assumption) ?_ | refine wp_condT rfl ?_ | refine wp_condF rfl ?_ | refine wp_region ?_ | refine wp_seq ?_ | refine wp_skip ?_ | refine wp_exit ?_ | refine wp_block ?_)
  refine wp_range rfl (by omega) (fn := Tryz.f80) (by rfl) ?_
  refine rng51 hq (vb := H.next) (cb := H'.next) (n := l.length) (s := i) (V := vis f l.length i) hpm hi' hlf (by omega) (by omega) (by omega) (by omega) (hxx.keep (ho.keep hK) k0') (fun b hb => by have := ho b hb; omega)
    gs gp (by omega) (by omega) ⟨vs, hgv0, hvl, hvs⟩ hgc0 ?_ ?_
  · intro dn Hm y hdn hy hR K' hk'
    apply yl51 hR (by omega) (by omega) (by omega) (by omega) hdn rfl rfl rfl hk'
    · intro H
      repeat (first | refine wops_nil ?_ | refine wops_cons (wop_skip' rfl rfl ?_) | refine wops_cons (wop_move rfl rfl ?_) | refine wops_cons (wop_assign rfl rfl ?_) | refine wops_cons (wop_bin (op := .add) rfl rfl rfl rfl (inc (by omega)) ?_) | refine wops_cons (o_lenI rfl rfl rfl rfl rfl (by assumption) ?_) | refine wops_cons (o_load rfl rfl (by assumption) ?_) | refine wops_cons (wop_pick rfl rfl rfl ?_) | refine wops_cons (wop_not rfl rfl rfl ?_) | refine wops_cons (wop_extract rfl rfl rfl rfl ?_) | refine mobs_move rfl rfl rfl ?_ | refine m_load rfl rfl rfl (by assumption) ?_ | refine mobs_nil ?_ | refine wd_nil ?_ | refine wd_skip rfl rfl ?_ | refine wd_loudSkip rfl rfl ?_ | refine wd_move rfl rfl rfl ?_ | refine wd_assign rfl rfl rfl ?_ | refine wd_pick rfl rfl rfl rfl ?_ | refine d_load rfl rfl rfl (by assumption) ?_ | refine d_lenI rfl rfl rfl rfl rfl rfl (by assumption) ?_ | refine wp_condT rfl ?_ | refine wp_condF rfl ?_ | refine wp_region ?_ | refine wp_seq ?_ | refine wp_skip ?_ | refine wp_exit ?_ | refine wp_block ?_)
      exact ⟨rfl, rfl, rfl, rfl⟩
    · intro Ha vs' c hA
      have gt : Ha.get (H.next + 1) = some (.cells [.slc H.next 0 l.length l.length] 92 0) := (hA.get _ (by omega) (by omega) (by omega)).trans ((k0'.get _ (by omega)).trans hgt)
      have b1 : At Ha (.ptr (H.next + 1) 0) (.slc H.next 0 l.length l.length) := at_ptr hr2 gt rfl
      have m1 := hA.nx1
      have m2 := hA.nx2
      have hlvs := hA.lv
      repeat (first | refine wops_nil ?_ | refine wops_cons (wop_skip' rfl rfl ?_) | refine wops_cons (wop_move rfl rfl ?_) | refine wops_cons (wop_assign rfl rfl ?_) | refine wops_cons (wop_bin (op := .add) rfl rfl rfl rfl (inc (by omega)) ?_) | refine wops_cons (o_lenI rfl rfl rfl rfl rfl (by assumption) ?_) | refine wops_cons (o_load rfl rfl (by assumption) ?_) | refine wops_cons (wop_pick rfl rfl rfl ?_) | refine wops_cons (wop_not rfl rfl rfl ?_) | refine wops_cons (wop_extract rfl rfl rfl rfl ?_) | refine mobs_move rfl rfl rfl ?_ | refine m_load rfl rfl rfl (by assumption) ?_ | refine mobs_nil ?_ | refine wd_nil ?_ | refine wd_skip rfl rfl ?_ | refine wd_loudSkip rfl rfl ?_ | refine wd_move rfl rfl rfl ?_ | refine wd_assign rfl rfl rfl ?_ | refine wd_pick rfl rfl rfl rfl ?_ | refine d_load rfl rfl rfl (by assumption) ?_ | refine d_lenI rfl rfl rfl rfl rfl rfl (by assumption) ?_ | refine wp_condT rfl ?_ | refine wp_condF rfl ?_ | refine wp_region ?_ | refine wp_seq ?_ | refine wp_skip ?_ | refine wp_exit ?_ | refine wp_block ?_)
      refine wops_cons (o_indexOwn rfl rfl rfl rfl hy ?_)
      refine wops_cons (o_store rfl rfl rfl hA.gv (by omega) rfl ?_)
      have gcb : (Ha.set H.next (some (.cells (vs'.set y (.v (.bool true))) 4 0))).get H'.next = some (.cells [c] 22 0) := by rw [get_set_ne hr1 (by omega)]; exact hA.gc
      have Gc' : Gr (Ha.set H.next (some (.cells (vs'.set y (.v (.bool true))) 4 0))) 3 c (nvs dn) := hA.Gc.frame (Nat.le_refl _) fun b hb => get_set_ne hr1 (by have := hA.oc b hb; omega)
      have b2 : At (Ha.set H.next (some (.cells (vs'.set y (.v (.bool true))) 4 0))) (.ptr H'.next 0) c := at_ptr (by omega) gcb rfl
      have hgs : ∀ b, b ≠ H.next → (Ha.set H.next (some (.cells (vs'.set y (.v (.bool true))) 4 0))).get b = Ha.get b := fun b hb => get_set_ne hr1 hb
      have gvb : (Ha.set H.next (some (.cells (vs'.set y (.v (.bool true))) 4 0))).get H.next = some (.cells (vs'.set y (.v (.bool true))) 4 0) := get_set_eq hr1
      have ns : (Ha.set H.next (some (.cells (vs'.set y (.v (.bool true))) 4 0))).next = Ha.next := rfl
      have gls : (Ha.set H.next (some (.cells (vs'.set y (.v (.bool true))) 4 0))).gl = Ha.gl := rfl
      repeat (first | refine wops_nil ?_ | refine wops_cons (wop_skip' rfl rfl ?_) | refine wops_cons (wop_move rfl rfl ?_) | refine wops_cons (wop_assign rfl rfl ?_) | refine wops_cons (wop_bin (op := .add) rfl rfl rfl rfl (inc (by omega)) ?_) | refine wops_cons (o_lenI rfl rfl rfl rfl rfl (by assumption) ?_) | refine wops_cons (o_load rfl rfl (by assumption) ?_) | refine wops_cons (wop_pick rfl rfl rfl ?_) | refine wops_cons (wop_not rfl rfl rfl ?_) | refine wops_cons (wop_extract rfl rfl rfl rfl ?_) | refine mobs_move rfl rfl rfl ?_ | refine m_load rfl rfl rfl (by assumption) ?_ | refine mobs_nil ?_ | refine wd_nil ?_ | refine wd_skip rfl rfl ?_ | refine wd_loudSkip rfl rfl ?_ | refine wd_move rfl rfl rfl ?_ | refine wd_assign rfl rfl rfl ?_ | refine wd_pick rfl rfl rfl rfl ?_ | refine d_load rfl rfl rfl (by assumption) ?_ | refine d_lenI rfl rfl rfl rfl rfl rfl (by assumption) ?_ | refine wp_condT rfl ?_ | refine wp_condF rfl ?_ | refine wp_region ?_ | refine wp_seq ?_ | refine wp_skip ?_ | refine wp_exit ?_ | refine wp_block ?_)
      have hnn : dn.length < 257 := by omega
      refine wops_cons (o_build1 rfl rfl rfl (by show Ha.next < _; omega) ?_)
      have G5 := Gc'.frame (H' := (Ha.set H.next (some (.cells (vs'.set y (.v (.bool true))) 4 0))).add (.cells [iv y] 3 0)) (Nat.le_succ _) fun b hb => get_add_ne (by show Ha.next < _; omega) (by have := Gc'.old b hb; omega)
      refine wops_cons (o_append rfl rfl rfl rfl rfl (by rw [nvs_length]; omega) (by show Ha.next + 1 < _; omega) rfl (get_add_eq (by show Ha.next < _; omega)) rfl G5 fun r H6 er n6 gl6 b6 g6 G6 => ?_)
      have n6 : H6.next = Ha.next + 1 + 1 := n6
      have b6' : ∀ b, b < Ha.next → b ≠ H.next → c.own ≠ some b → H6.get b = Ha.get b := fun b hb1 hb2 hb3 => (b6 b (by show b ≠ Ha.next + 1; omega) hb3).trans ((get_add_ne (by show Ha.next < _; omega) (by show b ≠ Ha.next; omega)).trans (hgs b hb2))
      have hco : ∀ b, c.own = some b → H0.next + 2 ≤ b := hA.oc
      have gc6 : H6.get H'.next = some (.cells [c] 22 0) := (b6' _ (by omega) (by omega) (fun e => by have := hco _ e; omega)).trans hA.gc
      have gv6 : H6.get H.next = some (.cells (vs'.set y (.v (.bool true))) 4 0) := (b6 _ (by show H.next ≠ Ha.next + 1; omega) (fun e => by have := hco _ e; omega)).trans ((get_add_ne (by show Ha.next < _; omega) (by show H.next ≠ Ha.next; omega)).trans gvb)
      refine wops_cons (o_store rfl rfl rfl gc6 (Nat.succ_pos _) (by subst er; rfl) ?_)
      repeat (first | refine wops_nil ?_ | refine wops_cons (wop_skip' rfl rfl ?_) | refine wops_cons (wop_move rfl rfl ?_) | refine wops_cons (wop_assign rfl rfl ?_) | refine wops_cons (wop_bin (op := .add) rfl rfl rfl rfl (inc (by omega)) ?_) | refine wops_cons (o_lenI rfl rfl rfl rfl rfl (by assumption) ?_) | refine wops_cons (o_load rfl rfl (by assumption) ?_) | refine wops_cons (wop_pick rfl rfl rfl ?_) | refine wops_cons (wop_not rfl rfl rfl ?_) | refine wops_cons (wop_extract rfl rfl rfl rfl ?_) | refine mobs_move rfl rfl rfl ?_ | refine m_load rfl rfl rfl (by assumption) ?_ | refine mobs_nil ?_ | refine wd_nil ?_ | refine wd_skip rfl rfl ?_ | refine wd_loudSkip rfl rfl ?_ | refine wd_move rfl rfl rfl ?_ | refine wd_assign rfl rfl rfl ?_ | refine wd_pick rfl rfl rfl rfl ?_ | refine d_load rfl rfl rfl (by assumption) ?_ | refine d_lenI rfl rfl rfl rfl rfl rfl (by assumption) ?_ | refine wp_condT rfl ?_ | refine wp_condF rfl ?_ | refine wp_region ?_ | refine wp_seq ?_ | refine wp_skip ?_ | refine wp_exit ?_ | refine wp_block ?_)
      have hcb39 : H'.next < 2 ^ 39 := by omega
      have hro : ∀ b, r.own = some b → b = Ha.next + 1 := fun b hb => by subst er; cases hb; rfl
      refine ⟨rfl, ⟨by show Ha.next ≤ H6.next; omega, by show H6.next ≤ _; omega, gl6.trans gls, fun b hb1 hb2 hb3 hb4 => ?_, ?_, r, ?_, ?_, fun b hb => by have := hro b hb; omega⟩⟩
      · rw [get_set_ne hcb39 hb3]; exact b6' b hb1 hb2 hb4
      · rw [get_set_ne hcb39 (by omega)]; exact gv6
      · rw [get_set_eq hcb39]; rfl
      · rw [nvs_snoc]
        exact G6.frame (Nat.le_refl _) fun b hb => get_set_ne hcb39 (by have := hro b hb; omega)
  · intro r H2 hR
    refine ⟨hR.nx1, _, _, _, _, _, _, _, .normal, hR.lp, (fun e => by cases e), rfl, ?_⟩
    obtain ⟨vs2, gv2, lv2, pv2⟩ := hR.vs
    obtain ⟨c, gc2, Gc2, oc2⟩ := hR.c
    have m1 := hR.nx1
    have m2 := hR.nx2
    rw [orb_length] at m2
    have hL39 : H0.next + 1 < 2 ^ 39 := by omega
    have hcl : ∀ b, c.own = some b → b ≠ H0.next + 1 := fun b hb e => by have := oc2 b hb; omega
    refine Wp.mem (fun H3 => H3.next = H2.next ∧ H3.gl = H2.gl ∧ ∀ b, b ≠ H0.next + 1 → H3.get b = H2.get b) ⟨rfl, rfl, fun b hb => get_set_ne hL39 hb⟩ ?_
    rintro H3 ⟨n3, gl3, g3⟩
    have gc3 : H3.get H'.next = some (.cells [c] 22 0) := (g3 _ (by omega)).trans gc2
    have Gc3 : Gr H3 3 c (nvs (orb f l.length i)) := Gc2.frame (by omega) fun b hb => g3 b (hcl b hb)
    have b3 : At H3 (.ptr H'.next 0) c := at_ptr (by omega) gc3 rfl
    have hg3 : ∀ b, b < H'.next → b ≠ H.next → H3.get b = H'.get b := fun b hb1 hb2 => (g3 b (by omega)).trans ((hR.get b (by omega) hb2 (by omega)).trans (k0'.get b hb1))
    have G3 : Gr H3 22 s cyc := hG.frame (by omega) fun b hb => hg3 b (hG.old b hb) (by have := hso b hb; omega)
    repeat (first | refine wops_nil ?_ | refine wops_cons (wop_skip' rfl rfl ?_) | refine wops_cons (wop_move rfl rfl ?_) | refine wops_cons (wop_assign rfl rfl ?_) | refine wops_cons (wop_bin (op := .add) rfl rfl rfl rfl (inc (by omega)) ?_) | refine wops_cons (o_lenI rfl rfl rfl rfl rfl (by assumption) ?_) | refine wops_cons (o_load rfl rfl (by assumption) ?_) | refine wops_cons (wop_pick rfl rfl rfl ?_) | refine wops_cons (wop_not rfl rfl rfl ?_) | refine wops_cons (wop_extract rfl rfl rfl rfl ?_) | refine mobs_move rfl rfl rfl ?_ | refine m_load rfl rfl rfl (by assumption) ?_ | refine mobs_nil ?_ | refine wd_nil ?_ | refine wd_skip rfl rfl ?_ | refine wd_loudSkip rfl rfl ?_ | refine wd_move rfl rfl rfl ?_ | refine wd_assign rfl rfl rfl ?_ | refine wd_pick rfl rfl rfl rfl ?_ | refine d_load rfl rfl rfl (by assumption) ?_ | refine d_lenI rfl rfl rfl rfl rfl rfl (by assumption) ?_ | refine wp_condT rfl ?_ | refine wp_condF rfl ?_ | refine wp_region ?_ | refine wp_seq ?_ | refine wp_skip ?_ | refine wp_exit ?_ | refine wp_block ?_)
    refine wops_cons (o_build1 rfl rfl Gc3.sl.one (by omega) ?_)
    have G4 := G3.frame (H' := H3.add (.cells [c] 22 0)) (Nat.le_succ _) fun b hb => get_add_ne (by omega) (by have := G3.old b hb; omega)
    have hcyl : cyc.length ≤ i := by
      rw [hcy.1]; unfold cycs; rw [List.length_map]; exact Nat.le_trans (List.length_filter_le _ _) (by simp)
    refine wops_cons (o_append rfl rfl rfl rfl rfl (by omega) (by show H3.next + 1 < _; omega) rfl (get_add_eq (by omega)) Gc3.sl.one G4 fun r5 H5 er n5 gl5 b5 g5 G5 => ?_)
    have n5 : H5.next = H3.next + 1 + 1 := n5
    have hg5' : ∀ b, b < H3.next → s.own ≠ some b → H5.get b = H3.get b := fun b hb1 hb2 => (b5 b (by show b ≠ H3.next + 1; omega) hb2).trans (get_add_ne (by omega) (by omega))
    have hg5 : ∀ b, b < H'.next → b ≠ H.next → s.own ≠ some b → H5.get b = H'.get b := fun b hb1 hb2 hb3 => (hg5' b (by omega) hb3).trans (hg3 b hb1 hb2)
    have hsold : ∀ b, s.own = some b → b < H'.next := fun b hb => hG.old b hb
    have hgl5 : H5.gl = H.gl := gl5.trans (gl3.trans (hR.gl.trans (k0'.gl.trans hK.gl)))
    have hro : ∀ b, r5.own = some b → b = H3.next + 1 := fun b hb => by subst er; cases hb; rfl
    repeat (first | refine wops_nil ?_ | refine wops_cons (wop_skip' rfl rfl ?_) | refine wops_cons (wop_move rfl rfl ?_) | refine wops_cons (wop_assign rfl rfl ?_) | refine wops_cons (wop_bin (op := .add) rfl rfl rfl rfl (inc (by omega)) ?_) | refine wops_cons (o_lenI rfl rfl rfl rfl rfl (by assumption) ?_) | refine wops_cons (o_load rfl rfl (by assumption) ?_) | refine wops_cons (wop_pick rfl rfl rfl ?_) | refine wops_cons (wop_not rfl rfl rfl ?_) | refine wops_cons (wop_extract rfl rfl rfl rfl ?_) | refine mobs_move rfl rfl rfl ?_ | refine m_load rfl rfl rfl (by assumption) ?_ | refine mobs_nil ?_ | refine wd_nil ?_ | refine wd_skip rfl rfl ?_ | refine wd_loudSkip rfl rfl ?_ | refine wd_move rfl rfl rfl ?_ | refine wd_assign rfl rfl rfl ?_ | refine wd_pick rfl rfl rfl rfl ?_ | refine d_load rfl rfl rfl (by assumption) ?_ | refine d_lenI rfl rfl rfl rfl rfl rfl (by assumption) ?_ | refine wp_condT rfl ?_ | refine wp_condF rfl ?_ | refine wp_region ?_ | refine wp_seq ?_ | refine wp_skip ?_ | refine wp_exit ?_ | refine wp_block ?_)
    refine ⟨l.length - (i + 1), by omega, i + 1, (_ :: _ :: _ :: _ :: _ :: _ :: _ :: _ :: _ :: _ :: _ :: _ :: _ :: _ :: _ :: _ :: _ :: _ :: _ :: _ :: _ :: _ :: _ :: _ :: _ :: _ :: _ :: _ :: _ :: _ :: []), r5, cyc ++ [c], vs2, rfl, by omega, ⟨by omega, hgl5, fun b hb => ?_⟩, by omega, by omega, ?_, ?_, lv2, fun y hy => ?_, G5, fun b hb => ?_, ⟨?_, fun j c' o hj hoj => ?_⟩, ?_, fun b hb => ?_, rfl⟩
    · rw [hg5 b (by omega) (by omega) (fun e => by have := hso b e; omega)]
      exact hK.get b hb
    · rw [hg5 _ (by omega) (by omega) (fun e => by have := hso _ e; omega)]; exact hgt
    · rw [hg5' _ (by omega) (fun e => by have := hso _ e; omega), g3 _ (by omega)]; exact gv2
    · rw [vis_succ]; exact pv2 y hy
    · have := hro b hb; omega
    · rw [cycs_succ, if_neg (by simp [hv]), List.length_append, List.length_append, hcy.1]; rfl
    · rw [cycs_succ, if_neg (by simp [hv])] at hoj
      rcases Nat.lt_trichotomy j cyc.length with hlt | heq | hgt'
      · rw [List.getElem?_append_left hlt] at hj
        rw [List.getElem?_append_left (by rw [← hcy.1]; exact hlt)] at hoj
        obtain ⟨h1, h2⟩ := hcy.2 j c' o hj hoj
        refine ⟨h1.frame (hgl5.trans hK.gl.symm) fun b hb => ?_, fun b hb => ?_⟩
        · have := h2 b hb; exact hg5 b (by omega) (by omega) this.2.2
        · have := h2 b hb; exact ⟨this.1, by omega, fun e => by have := hro b e; omega⟩
      · subst heq
        rw [List.getElem?_append_right (Nat.le_refl _), Nat.sub_self] at hj
        rw [hcy.1, List.getElem?_append_right (Nat.le_refl _), Nat.sub_self] at hoj
        simp at hj hoj
        subst hj hoj
        have hco : ∀ b, c.own = some b → H0.next + 2 ≤ b ∧ b < H3.next := fun b hb => ⟨oc2 b hb, Gc3.old b hb⟩
        refine ⟨Gc3.sl.frame gl5 fun b hb => ?_, fun b hb => ?_⟩
        · have := hco b hb; exact hg5' b this.2 (fun e => by have := hsold b e; omega)
        · have := hco b hb; exact ⟨by omega, by omega, fun e => by have := hro b e; omega⟩
      · rw [List.getElem?_eq_none (by rw [List.length_append, List.length_singleton]; omega)] at hj
        cases hj
    · refine List.nodup_cons.2 ⟨fun hb => ?_, hMn⟩
      have := hM _ hb
      omega
    · rcases List.mem_cons.1 hb with rfl | hb
      · exact ⟨by omega, by omega, by rw [hg5' _ (by omega) (fun e => by have := hsold _ e; omega), g3 _ (by omega)]; exact hR.dfd⟩
      · have h3 := hM b hb
        refine ⟨h3.1, by omega, ?_⟩
        rw [hg5 b h3.2.1 (by omega) (fun e => ?_)]
        · exact h3.2.2
        · obtain ⟨cs', g, h1⟩ := hG.own_cells e
          rw [h3.2.2] at h1; cases h1
end Go.Ev
