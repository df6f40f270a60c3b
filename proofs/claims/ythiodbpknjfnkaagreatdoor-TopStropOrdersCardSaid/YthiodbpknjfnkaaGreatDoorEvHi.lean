/- Part of an evaluator of calls that is proved sound, and of what it gives about this program. No condition of its own. -/
import Derived.Test.YthiodbpknjfnkaaGreatDoorEvHh
set_option linter.unusedVariables false
set_option linter.unusedSimpArgs false
set_option maxRecDepth 100000
set_option maxHeartbeats 4000000
namespace Go.Ev
open Go.Proofs

theorem o_lenN {O : CallF} {T : List AV} {H : AH} {ops : Array Oper} {o : Oper} {K : AV → AH → Prop} {c : Call} {t e : TypeId} {x : Operand} {l : List AV} {m : Nat} (ho : o.op = .call c) (hg : wantedA o ops T = true) (hc : c.callee = .builtin .len) (hargs : c.args.toList = [x]) (ht : c.argTypes.toList = [t]) [hu : TyS t e] (hx : Sl H (av T x) l) (hm : l.length = m)
    (hk : K (iv m) H) : WOp (ENV O) ops o T H K := o_len ho hg hc hargs ht hx (by rw [hm]; exact hk)

/-- What Power returns. -/
noncomputable def powS (l : List Int) (k : Int) : List Int × Int := if permE l ≠ 0 then ([], permE l) else (powL' l k, 0)

theorem tmod_range (k : Int) {p : Nat} (hp : 0 < p) : -(p : Int) < k.tmod p ∧ k.tmod p < p := by
  have h1 := Int.lt_tmod_of_pos k (show (0 : Int) < p by omega)
  have h2 := Int.tmod_lt_of_pos k (show (0 : Int) < p by omega)
  omega

theorem stp_cast (k : Int) {p : Nat} (hp : 0 < p) : (k.tmod p + p).tmod p = ((stp k p : Nat) : Int) ∧ stp k p < p := by
  have h := tmod_range k hp
  have h0 : 0 ≤ (k.tmod p + p).tmod p := Int.tmod_nonneg _ (by omega)
  have h1 := tmod_range (k.tmod p + p) hp
  unfold stp
  omega

theorem nvs_get {l : List Nat} {j y : Nat} (h : l[j]? = some y) : (nvs l)[j]? = some (iv (y : Int)) := by simp [nvs, ivs, h]

variable {O : CallF} (hq : Quiet O)
include hq

theorem c20 (H : AH) (x : AV) (l : List Int) (k : Int) (hx : Sl H x (ivs l)) (ho : Old H x) (hr : H.next + 300000 < 2 ^ 39) (K : AV → AH → Prop)
    (hk : ∀ H' c, Keeps H H' → H'.next ≤ H.next + 150000 → Sl H' c (ivs (powS l k).1) → Old H' c → K (.tup [c, iv (powS l k).2]) H') : Ca (ENV O) 12 [x, iv k] H K := by
  refine ca_intro (hq _ _ _ rfl) (fn := Tryz.f12) (by rfl) rfl ?_
  repeat (first | refine wops_nil ?_ | refine wops_cons (wop_skip' rfl rfl ?_) | refine wops_cons (wop_move rfl rfl ?_) | refine wops_cons (wop_assign rfl rfl ?_) | refine wops_cons (wop_bin (op := .add) rfl rfl rfl rfl (inc (by omega)) ?_) | refine wops_cons (o_lenI rfl rfl rfl rfl rfl (by assumption) ?_) | refine wops_cons (o_load rfl rfl (by assumption) ?_) | refine wops_cons (wop_pick rfl rfl rfl ?_) | refine wops_cons (wop_not rfl rfl rfl ?_) | refine wops_cons (wop_extract rfl rfl rfl rfl ?_) | refine mobs_move rfl rfl rfl ?_ | refine m_load rfl rfl rfl (by assumption) ?_ | refine mobs_nil ?_ | refine wd_nil ?_ | refine wd_skip rfl rfl ?_ | refine wd_loudSkip rfl rfl ?_ | refine wd_move rfl rfl rfl ?_ | refine wd_assign rfl rfl rfl ?_ | refine wd_pick rfl rfl rfl rfl ?_ | refine d_load rfl rfl rfl (by assumption) ?_ | refine d_lenI rfl rfl rfl rfl rfl rfl (by assumption) ?_ | refine wp_condT rfl ?_ | refine wp_condF rfl ?_ | refine wp_region ?_ | refine wp_seq ?_ | refine wp_skip ?_ | refine wp_exit ?_ | refine wp_block ?_)
  refine wops_cons (wop_callF rfl rfl rfl (fn := Tryz.f18) (by rfl) ?_)
  refine c12 hq H x l hx ho (by omega) _ fun H1 k1 n1 => ⟨k1.nx, ?_⟩
  repeat (first | refine wops_nil ?_ | refine wops_cons (wop_skip' rfl rfl ?_) | refine wops_cons (wop_move rfl rfl ?_) | refine wops_cons (wop_assign rfl rfl ?_) | refine wops_cons (wop_bin (op := .add) rfl rfl rfl rfl (inc (by omega)) ?_) | refine wops_cons (o_lenI rfl rfl rfl rfl rfl (by assumption) ?_) | refine wops_cons (o_load rfl rfl (by assumption) ?_) | refine wops_cons (wop_pick rfl rfl rfl ?_) | refine wops_cons (wop_not rfl rfl rfl ?_) | refine wops_cons (wop_extract rfl rfl rfl rfl ?_) | refine mobs_move rfl rfl rfl ?_ | refine m_load rfl rfl rfl (by assumption) ?_ | refine mobs_nil ?_ | refine wd_nil ?_ | refine wd_skip rfl rfl ?_ | refine wd_loudSkip rfl rfl ?_ | refine wd_move rfl rfl rfl ?_ | refine wd_assign rfl rfl rfl ?_ | refine wd_pick rfl rfl rfl rfl ?_ | refine d_load rfl rfl rfl (by assumption) ?_ | refine d_lenI rfl rfl rfl rfl rfl rfl (by assumption) ?_ | refine wp_condT rfl ?_ | refine wp_condF rfl ?_ | refine wp_region ?_ | refine wp_seq ?_ | refine wp_skip ?_ | refine wp_exit ?_ | refine wp_block ?_)
  refine wops_cons (wop_cmp rfl rfl rfl rfl rfl (fun h => ?_) (fun h => ?_))
  · have he : permE l ≠ 0 := by simpa using h
    repeat (first | refine wops_nil ?_ | refine wops_cons (wop_skip' rfl rfl ?_) | refine wops_cons (wop_move rfl rfl ?_) | refine wops_cons (wop_assign rfl rfl ?_) | refine wops_cons (wop_bin (op := .add) rfl rfl rfl rfl (inc (by omega)) ?_) | refine wops_cons (o_lenI rfl rfl rfl rfl rfl (by assumption) ?_) | refine wops_cons (o_load rfl rfl (by assumption) ?_) | refine wops_cons (wop_pick rfl rfl rfl ?_) | refine wops_cons (wop_not rfl rfl rfl ?_) | refine wops_cons (wop_extract rfl rfl rfl rfl ?_) | refine mobs_move rfl rfl rfl ?_ | refine m_load rfl rfl rfl (by assumption) ?_ | refine mobs_nil ?_ | refine wd_nil ?_ | refine wd_skip rfl rfl ?_ | refine wd_loudSkip rfl rfl ?_ | refine wd_move rfl rfl rfl ?_ | refine wd_assign rfl rfl rfl ?_ | refine wd_pick rfl rfl rfl rfl ?_ | refine d_load rfl rfl rfl (by assumption) ?_ | refine d_lenI rfl rfl rfl rfl rfl rfl (by assumption) ?_ | refine wp_condT rfl ?_ | refine wp_condF rfl ?_ | refine wp_region ?_ | refine wp_seq ?_ | refine wp_skip ?_ | refine wp_exit ?_ | refine wp_block ?_)
    refine wp_ret ?_
    refine ⟨_, _, rfl, ?_⟩
    have := hk H1 (.v (.slice none 0 0)) k1 (by omega) (by rw [powS, if_pos he]; exact ⟨rfl, .inl rfl⟩) (Old.v _)
    rw [powS, if_pos he] at this
    exact this
  have he : permE l = 0 := by simpa using h
  obtain ⟨hl, hok⟩ := permE_zero he
  rw [show powS l k = (powL' l k, 0) by rw [powS, if_neg (by simp [he])]] at hk
  have hx1 := hx.keep ho k1
  repeat (first | refine wops_nil ?_ | refine wops_cons (wop_skip' rfl rfl ?_) | refine wops_cons (wop_move rfl rfl ?_) | refine wops_cons (wop_assign rfl rfl ?_) | refine wops_cons (wop_bin (op := .add) rfl rfl rfl rfl (inc (by omega)) ?_) | refine wops_cons (o_lenI rfl rfl rfl rfl rfl (by assumption) ?_) | refine wops_cons (o_load rfl rfl (by assumption) ?_) | refine wops_cons (wop_pick rfl rfl rfl ?_) | refine wops_cons (wop_not rfl rfl rfl ?_) | refine wops_cons (wop_extract rfl rfl rfl rfl ?_) | refine mobs_move rfl rfl rfl ?_ | refine m_load rfl rfl rfl (by assumption) ?_ | refine mobs_nil ?_ | refine wd_nil ?_ | refine wd_skip rfl rfl ?_ | refine wd_loudSkip rfl rfl ?_ | refine wd_move rfl rfl rfl ?_ | refine wd_assign rfl rfl rfl ?_ | refine wd_pick rfl rfl rfl rfl ?_ | refine d_load rfl rfl rfl (by assumption) ?_ | refine d_lenI rfl rfl rfl rfl rfl rfl (by assumption) ?_ | refine wp_condT rfl ?_ | refine wp_condF rfl ?_ | refine wp_region ?_ | refine wp_seq ?_ | refine wp_skip ?_ | refine wp_exit ?_ | refine wp_block ?_)
  refine wops_cons (o_make rfl rfl rfl rfl (by omega) (by omega) ?_)
  have k2 := k1.add (.cells (List.replicate l.length (iv 0)) 3 0) (by omega)
  have g2 : (H1.add (.cells (List.replicate l.length (iv 0)) 3 0)).get H1.next = some (.cells (List.replicate l.length (iv 0)) 3 0) := get_add_eq (by omega)
  have n2 : (H1.add (.cells (List.replicate l.length (iv 0)) 3 0)).next = H1.next + 1 := rfl
  have hb39 : H1.next < 2 ^ 39 := by omega
  have hb0 : H.next ≤ H1.next := k1.nx
  have hb1 : H1.next ≤ H.next + 1 := n1
  have hx2 := hx.keep ho k2
  generalize H1.add (.cells (List.replicate l.length (iv 0)) 3 0) = H2 at k2 g2 n2 hx2 ⊢
  generalize H1.next = b at g2 n2 hb39 hb0 hb1 ⊢
  repeat (first | refine wops_nil ?_ | refine wops_cons (wop_skip' rfl rfl ?_) | refine wops_cons (wop_move rfl rfl ?_) | refine wops_cons (wop_assign rfl rfl ?_) | refine wops_cons (wop_bin (op := .add) rfl rfl rfl rfl (inc (by omega)) ?_) | refine wops_cons (o_lenI rfl rfl rfl rfl rfl (by assumption) ?_) | refine wops_cons (o_load rfl rfl (by assumption) ?_) | refine wops_cons (wop_pick rfl rfl rfl ?_) | refine wops_cons (wop_not rfl rfl rfl ?_) | refine wops_cons (wop_extract rfl rfl rfl rfl ?_) | refine mobs_move rfl rfl rfl ?_ | refine m_load rfl rfl rfl (by assumption) ?_ | refine mobs_nil ?_ | refine wd_nil ?_ | refine wd_skip rfl rfl ?_ | refine wd_loudSkip rfl rfl ?_ | refine wd_move rfl rfl rfl ?_ | refine wd_assign rfl rfl rfl ?_ | refine wd_pick rfl rfl rfl rfl ?_ | refine d_load rfl rfl rfl (by assumption) ?_ | refine d_lenI rfl rfl rfl rfl rfl rfl (by assumption) ?_ | refine wp_condT rfl ?_ | refine wp_condF rfl ?_ | refine wp_region ?_ | refine wp_seq ?_ | refine wp_skip ?_ | refine wp_exit ?_ | refine wp_block ?_)
  refine wops_cons (wop_callF rfl rfl rfl (fn := Tryz.f20) (by rfl) ?_)
  refine c51 hq H2 x l hx2 (ho.keep k2) hl hok (by omega) _ fun H3 s cyc k3 n3 hG hcy => ⟨k3.nx, ?_⟩
  have hpm := hok.pm
  have hpw : powL' l k = (List.range l.length).map fun x => ((it (fOf l) (stp k (per (fOf l) l.length x)) x : Nat) : Int) := rfl
  generalize fOf l = f at hpm hcy hpw
  generalize hn : l.length = n at hl hpm hcy hpw g2 ⊢
  have g3 : H3.get b = some (.cells (List.replicate n (iv 0)) 3 0) := (k3.get b (by omega)).trans g2
  have hbn : b < H2.next := by omega
  have m3 := k3.nx
  have k3' := k2.trans k3
  have hsown : ∀ c, s.own = some c → c ≠ b := fun c hc e => by
    subst e
    obtain ⟨cs', g, h1⟩ := hG.own_cells hc
    rw [g3] at h1; cases h1
  refine wops_cons (o_lenN rfl rfl rfl rfl rfl hG.sl hcy.1 ?_)
  repeat (first | refine wops_nil ?_ | refine wops_cons (wop_skip' rfl rfl ?_) | refine wops_cons (wop_move rfl rfl ?_) | refine wops_cons (wop_assign rfl rfl ?_) | refine wops_cons (wop_bin (op := .add) rfl rfl rfl rfl (inc (by omega)) ?_) | refine wops_cons (o_lenI rfl rfl rfl rfl rfl (by assumption) ?_) | refine wops_cons (o_load rfl rfl (by assumption) ?_) | refine wops_cons (wop_pick rfl rfl rfl ?_) | refine wops_cons (wop_not rfl rfl rfl ?_) | refine wops_cons (wop_extract rfl rfl rfl rfl ?_) | refine mobs_move rfl rfl rfl ?_ | refine m_load rfl rfl rfl (by assumption) ?_ | refine mobs_nil ?_ | refine wd_nil ?_ | refine wd_skip rfl rfl ?_ | refine wd_loudSkip rfl rfl ?_ | refine wd_move rfl rfl rfl ?_ | refine wd_assign rfl rfl rfl ?_ | refine wd_pick rfl rfl rfl rfl ?_ | refine d_load rfl rfl rfl (by assumption) ?_ | refine d_lenI rfl rfl rfl rfl rfl rfl (by assumption) ?_ | refine wp_condT rfl ?_ | refine wp_condF rfl ?_ | refine wp_region ?_ | refine wp_seq ?_ | refine wp_skip ?_ | refine wp_exit ?_ | refine wp_block ?_)
  refine wp_loop (fun q T M H' => ∃ (i : Nat) (Y : List AV) (cs : List AV), q = (cycs f n n).length - i ∧ i ≤ (cycs f n n).length ∧ H'.next = H3.next ∧ H'.gl = H3.gl ∧ (∀ c, c ≠ b → H'.get c = H3.get c) ∧ H'.get b = some (.cells cs 3 0) ∧ cs.length = n ∧ (∀ (j y : Nat) (o : List Nat), j < i → (cycs f n n)[j]? = some o → y ∈ o → cs[y]? = some (iv (it f (stp k (per f n y)) y : Nat))) ∧ M = [] ∧
      T = (x :: iv k :: lget Y 0 :: lget Y 1 :: .v (.slice none 0 0) :: iv 0 :: lget Y 2 :: .slc b 0 n n :: lget Y 3 :: lget Y 4 :: lget Y 5 :: lget Y 6 :: lget Y 7 :: lget Y 8 :: lget Y 9 :: lget Y 10 :: lget Y 11 :: lget Y 12 :: lget Y 13 :: lget Y 14 :: lget Y 15 :: lget Y 16 :: lget Y 17 :: s :: iv (cycs f n n).length :: iv (i : Nat) :: lget Y 18 :: lget Y 19 :: lget Y 20 :: lget Y 21 :: lget Y 22 :: lget Y 23 :: lget Y 24 :: lget Y 25 :: lget Y 26 :: lget Y 27 :: lget Y 28 :: lget Y 29 :: lget Y 30 :: lget Y 31 :: lget Y 32 :: lget Y 33 :: lget Y 34 :: lget Y 35 :: lget Y 36 :: lget Y 37 :: lget Y 38 :: lget Y 39 :: lget Y 40 :: lget Y 41 :: lget Y 42 :: lget Y 43 :: lget Y 44 :: lget Y 45 :: lget Y 46 :: lget Y 47 :: lget Y 48 :: lget Y 49 :: lget Y 50 :: [])) (cycs f n n).length
    ⟨0, (_ :: _ :: _ :: _ :: _ :: _ :: _ :: _ :: _ :: _ :: _ :: _ :: _ :: _ :: _ :: _ :: _ :: _ :: _ :: _ :: _ :: _ :: _ :: _ :: _ :: _ :: _ :: _ :: _ :: _ :: _ :: _ :: _ :: _ :: _ :: _ :: _ :: _ :: _ :: _ :: _ :: _ :: _ :: _ :: _ :: _ :: _ :: _ :: _ :: _ :: _ :: []), _, rfl, Nat.zero_le _, rfl, rfl, fun _ _ => rfl, g3, by simp, fun j y o h => absurd h (by omega), rfl, rfl⟩ ?_
  rintro q T M H' ⟨i, Y, cs, hq1, hi, hn', hgl', hg', hgb, hcs, hdone, rfl, rfl⟩
  have hKH : Keeps H H' := ⟨by have := k3'.nx; omega, hgl'.trans k3'.gl, fun c hc => (hg' c (by omega)).trans (k3'.get c hc)⟩
  have hcl : (cycs f n n).length ≤ n := by unfold cycs; rw [List.length_map]; exact Nat.le_trans (List.length_filter_le _ _) (by simp)
  repeat (first | refine wops_nil ?_ | refine wops_cons (wop_skip' rfl rfl ?_) | refine wops_cons (wop_move rfl rfl ?_) | refine wops_cons (wop_assign rfl rfl ?_) | refine wops_cons (wop_bin (op := .add) rfl rfl rfl rfl (inc (by omega)) ?_) | refine wops_cons (o_lenI rfl rfl rfl rfl rfl (by assumption) ?_) | refine wops_cons (o_load rfl rfl (by assumption) ?_) | refine wops_cons (wop_pick rfl rfl rfl ?_) | refine wops_cons (wop_not rfl rfl rfl ?_) | refine wops_cons (wop_extract rfl rfl rfl rfl ?_) | refine mobs_move rfl rfl rfl ?_ | refine m_load rfl rfl rfl (by assumption) ?_ | refine mobs_nil ?_ | refine wd_nil ?_ | refine wd_skip rfl rfl ?_ | refine wd_loudSkip rfl rfl ?_ | refine wd_move rfl rfl rfl ?_ | refine wd_assign rfl rfl rfl ?_ | refine wd_pick rfl rfl rfl rfl ?_ | refine d_load rfl rfl rfl (by assumption) ?_ | refine d_lenI rfl rfl rfl rfl rfl rfl (by assumption) ?_ | refine wp_condT rfl ?_ | refine wp_condF rfl ?_ | refine wp_region ?_ | refine wp_seq ?_ | refine wp_skip ?_ | refine wp_exit ?_ | refine wp_block ?_)
  refine wops_cons (wop_cmp rfl rfl rfl rfl rfl (fun h => ?_) (fun h => ?_))
  rotate_left
  · have h : ¬ ((i : Int) < (cycs f n n).length) := of_decide_eq_false h
    have e : i = (cycs f n n).length := by omega
    repeat (first | refine wops_nil ?_ | refine wops_cons (wop_skip' rfl rfl ?_) | refine wops_cons (wop_move rfl rfl ?_) | refine wops_cons (wop_assign rfl rfl ?_) | refine wops_cons (wop_bin (op := .add) rfl rfl rfl rfl (inc (by omega)) ?_) | refine wops_cons (o_lenI rfl rfl rfl rfl rfl (by assumption) ?_) | refine wops_cons (o_load rfl rfl (by assumption) ?_) | refine wops_cons (wop_pick rfl rfl rfl ?_) | refine wops_cons (wop_not rfl rfl rfl ?_) | refine wops_cons (wop_extract rfl rfl rfl rfl ?_) | refine mobs_move rfl rfl rfl ?_ | refine m_load rfl rfl rfl (by assumption) ?_ | refine mobs_nil ?_ | refine wd_nil ?_ | refine wd_skip rfl rfl ?_ | refine wd_loudSkip rfl rfl ?_ | refine wd_move rfl rfl rfl ?_ | refine wd_assign rfl rfl rfl ?_ | refine wd_pick rfl rfl rfl rfl ?_ | refine d_load rfl rfl rfl (by assumption) ?_ | refine d_lenI rfl rfl rfl rfl rfl rfl (by assumption) ?_ | refine wp_condT rfl ?_ | refine wp_condF rfl ?_ | refine wp_region ?_ | refine wp_seq ?_ | refine wp_skip ?_ | refine wp_exit ?_ | refine wp_block ?_)
    refine wp_ret ?_
    refine ⟨_, _, rfl, ?_⟩
    have hpl : (powL' l k).length = n := by rw [hpw]; simp
    refine hk H' _ hKH (by omega) (sl_cells hb39 hgb (by rw [ivs_length, hpl]) fun j v hv => ?_) (fun c hc => by cases hc; omega)
    have hj : j < n := by
      have := (List.getElem?_eq_some_iff.1 hv).1
      rw [ivs_length, hpl] at this
      exact this
    obtain ⟨o, ho, hjo⟩ := hpm.cycs_all hj
    obtain ⟨p, hp⟩ := List.mem_iff_getElem?.1 ho
    rw [hdone p j o (by have := (List.getElem?_eq_some_iff.1 hp).1; omega) hp hjo]
    rw [← hv, hpw]
    simp [ivs, hj]
  have h : (i : Int) < (cycs f n n).length := of_decide_eq_true h
  obtain ⟨o, hoi⟩ : ∃ o, (cycs f n n)[i]? = some o := ⟨_, List.getElem?_eq_getElem (by omega)⟩
  obtain ⟨c, hci⟩ : ∃ c, cyc[i]? = some c := ⟨_, List.getElem?_eq_getElem (by rw [hcy.1]; omega)⟩
  obtain ⟨hc1, hc2⟩ := hcy.2 i c o hci hoi
  obtain ⟨t, ht, rfl⟩ := cycs_mem (List.mem_of_getElem? hoi)
  have hSl : Sl H' s cyc := hG.sl.frame hgl' fun c hc => hg' c (hsown c hc)
  have hcb : ∀ d, c.own = some d → d ≠ b := fun d hd => by have := hc2 d hd; omega
  have hcS : True ∧ Sl H' c (nvs (orb f n t)) := ⟨trivial, hc1.frame hgl' fun d hd => hg' d (hcb d hd)⟩
  have hpp := per_pos f n t
  have hpn := (hpm.per_spec ht).2.1
  have hlo : (nvs (orb f n t)).length = per f n t := by rw [nvs_length, orb_length]
  repeat (first | refine wops_nil ?_ | refine wops_cons (wop_skip' rfl rfl ?_) | refine wops_cons (wop_move rfl rfl ?_) | refine wops_cons (wop_assign rfl rfl ?_) | refine wops_cons (wop_bin (op := .add) rfl rfl rfl rfl (inc (by omega)) ?_) | refine wops_cons (o_lenI rfl rfl rfl rfl rfl (by assumption) ?_) | refine wops_cons (o_load rfl rfl (by assumption) ?_) | refine wops_cons (wop_pick rfl rfl rfl ?_) | refine wops_cons (wop_not rfl rfl rfl ?_) | refine wops_cons (wop_extract rfl rfl rfl rfl ?_) | refine mobs_move rfl rfl rfl ?_ | refine m_load rfl rfl rfl (by assumption) ?_ | refine mobs_nil ?_ | refine wd_nil ?_ | refine wd_skip rfl rfl ?_ | refine wd_loudSkip rfl rfl ?_ | refine wd_move rfl rfl rfl ?_ | refine wd_assign rfl rfl rfl ?_ | refine wd_pick rfl rfl rfl rfl ?_ | refine d_load rfl rfl rfl (by assumption) ?_ | refine d_lenI rfl rfl rfl rfl rfl rfl (by assumption) ?_ | refine wp_condT rfl ?_ | refine wp_condF rfl ?_ | refine wp_region ?_ | refine wp_seq ?_ | refine wp_skip ?_ | refine wp_exit ?_ | refine wp_block ?_)
  refine wops_cons (o_index rfl rfl hSl rfl hci fun pt hpt => ?_)
  repeat (first | refine wops_nil ?_ | refine wops_cons (wop_skip' rfl rfl ?_) | refine wops_cons (wop_move rfl rfl ?_) | refine wops_cons (wop_assign rfl rfl ?_) | refine wops_cons (wop_bin (op := .add) rfl rfl rfl rfl (inc (by omega)) ?_) | refine wops_cons (o_lenI rfl rfl rfl rfl rfl (by assumption) ?_) | refine wops_cons (o_load rfl rfl (by assumption) ?_) | refine wops_cons (wop_pick rfl rfl rfl ?_) | refine wops_cons (wop_not rfl rfl rfl ?_) | refine wops_cons (wop_extract rfl rfl rfl rfl ?_) | refine mobs_move rfl rfl rfl ?_ | refine m_load rfl rfl rfl (by assumption) ?_ | refine mobs_nil ?_ | refine wd_nil ?_ | refine wd_skip rfl rfl ?_ | refine wd_loudSkip rfl rfl ?_ | refine wd_move rfl rfl rfl ?_ | refine wd_assign rfl rfl rfl ?_ | refine wd_pick rfl rfl rfl rfl ?_ | refine d_load rfl rfl rfl (by assumption) ?_ | refine d_lenI rfl rfl rfl rfl rfl rfl (by assumption) ?_ | refine wp_condT rfl ?_ | refine wp_condF rfl ?_ | refine wp_region ?_ | refine wp_seq ?_ | refine wp_skip ?_ | refine wp_exit ?_ | refine wp_block ?_)
  refine wops_cons (o_lenN rfl rfl rfl rfl rfl hcS.2 hlo ?_)
  repeat (first | refine wops_nil ?_ | refine wops_cons (wop_skip' rfl rfl ?_) | refine wops_cons (wop_move rfl rfl ?_) | refine wops_cons (wop_assign rfl rfl ?_) | refine wops_cons (wop_bin (op := .add) rfl rfl rfl rfl (inc (by omega)) ?_) | refine wops_cons (o_lenI rfl rfl rfl rfl rfl (by assumption) ?_) | refine wops_cons (o_load rfl rfl (by assumption) ?_) | refine wops_cons (wop_pick rfl rfl rfl ?_) | refine wops_cons (wop_not rfl rfl rfl ?_) | refine wops_cons (wop_extract rfl rfl rfl rfl ?_) | refine mobs_move rfl rfl rfl ?_ | refine m_load rfl rfl rfl (by assumption) ?_ | refine mobs_nil ?_ | refine wd_nil ?_ | refine wd_skip rfl rfl ?_ | refine wd_loudSkip rfl rfl ?_ | refine wd_move rfl rfl rfl ?_ | refine wd_assign rfl rfl rfl ?_ | refine wd_pick rfl rfl rfl rfl ?_ | refine d_load rfl rfl rfl (by assumption) ?_ | refine d_lenI rfl rfl rfl rfl rfl rfl (by assumption) ?_ | refine wp_condT rfl ?_ | refine wp_condF rfl ?_ | refine wp_region ?_ | refine wp_seq ?_ | refine wp_skip ?_ | refine wp_exit ?_ | refine wp_block ?_)
  refine wops_cons (wop_rem rfl rfl rfl rfl (by omega) ?_)
  repeat (first | refine wops_nil ?_ | refine wops_cons (wop_skip' rfl rfl ?_) | refine wops_cons (wop_move rfl rfl ?_) | refine wops_cons (wop_assign rfl rfl ?_) | refine wops_cons (wop_bin (op := .add) rfl rfl rfl rfl (inc (by omega)) ?_) | refine wops_cons (o_lenI rfl rfl rfl rfl rfl (by assumption) ?_) | refine wops_cons (o_load rfl rfl (by assumption) ?_) | refine wops_cons (wop_pick rfl rfl rfl ?_) | refine wops_cons (wop_not rfl rfl rfl ?_) | refine wops_cons (wop_extract rfl rfl rfl rfl ?_) | refine mobs_move rfl rfl rfl ?_ | refine m_load rfl rfl rfl (by assumption) ?_ | refine mobs_nil ?_ | refine wd_nil ?_ | refine wd_skip rfl rfl ?_ | refine wd_loudSkip rfl rfl ?_ | refine wd_move rfl rfl rfl ?_ | refine wd_assign rfl rfl rfl ?_ | refine wd_pick rfl rfl rfl rfl ?_ | refine d_load rfl rfl rfl (by assumption) ?_ | refine d_lenI rfl rfl rfl rfl rfl rfl (by assumption) ?_ | refine wp_condT rfl ?_ | refine wp_condF rfl ?_ | refine wp_region ?_ | refine wp_seq ?_ | refine wp_skip ?_ | refine wp_exit ?_ | refine wp_block ?_)
  have hrg := tmod_range k hpp
  obtain ⟨hst, hstl⟩ := stp_cast k hpp
  refine wops_cons (wop_bin (op := .add) (v := .int .i64 (k.tmod (per f n t) + per f n t)) rfl rfl rfl rfl ?_ ?_)
  · show some (Value.int .i64 (IntKind.i64.wrap (k.tmod (per f n t) + per f n t))) = _
    rw [wrap_id (by omega) (by omega)]
  repeat (first | refine wops_nil ?_ | refine wops_cons (wop_skip' rfl rfl ?_) | refine wops_cons (wop_move rfl rfl ?_) | refine wops_cons (wop_assign rfl rfl ?_) | refine wops_cons (wop_bin (op := .add) rfl rfl rfl rfl (inc (by omega)) ?_) | refine wops_cons (o_lenI rfl rfl rfl rfl rfl (by assumption) ?_) | refine wops_cons (o_load rfl rfl (by assumption) ?_) | refine wops_cons (wop_pick rfl rfl rfl ?_) | refine wops_cons (wop_not rfl rfl rfl ?_) | refine wops_cons (wop_extract rfl rfl rfl rfl ?_) | refine mobs_move rfl rfl rfl ?_ | refine m_load rfl rfl rfl (by assumption) ?_ | refine mobs_nil ?_ | refine wd_nil ?_ | refine wd_skip rfl rfl ?_ | refine wd_loudSkip rfl rfl ?_ | refine wd_move rfl rfl rfl ?_ | refine wd_assign rfl rfl rfl ?_ | refine wd_pick rfl rfl rfl rfl ?_ | refine d_load rfl rfl rfl (by assumption) ?_ | refine d_lenI rfl rfl rfl rfl rfl rfl (by assumption) ?_ | refine wp_condT rfl ?_ | refine wp_condF rfl ?_ | refine wp_region ?_ | refine wp_seq ?_ | refine wp_skip ?_ | refine wp_exit ?_ | refine wp_block ?_)
  refine wops_cons (wop_rem rfl rfl rfl rfl (by omega) ?_)
  rw [hst]
  repeat (first | refine wops_nil ?_ | refine wops_cons (wop_skip' rfl rfl ?_) | refine wops_cons (wop_move rfl rfl ?_) | refine wops_cons (wop_assign rfl rfl ?_) | refine wops_cons (wop_bin (op := .add) rfl rfl rfl rfl (inc (by omega)) ?_) | refine wops_cons (o_lenI rfl rfl rfl rfl rfl (by assumption) ?_) | refine wops_cons (o_load rfl rfl (by assumption) ?_) | refine wops_cons (wop_pick rfl rfl rfl ?_) | refine wops_cons (wop_not rfl rfl rfl ?_) | refine wops_cons (wop_extract rfl rfl rfl rfl ?_) | refine mobs_move rfl rfl rfl ?_ | refine m_load rfl rfl rfl (by assumption) ?_ | refine mobs_nil ?_ | refine wd_nil ?_ | refine wd_skip rfl rfl ?_ | refine wd_loudSkip rfl rfl ?_ | refine wd_move rfl rfl rfl ?_ | refine wd_assign rfl rfl rfl ?_ | refine wd_pick rfl rfl rfl rfl ?_ | refine d_load rfl rfl rfl (by assumption) ?_ | refine d_lenI rfl rfl rfl rfl rfl rfl (by assumption) ?_ | refine wp_condT rfl ?_ | refine wp_condF rfl ?_ | refine wp_region ?_ | refine wp_seq ?_ | refine wp_skip ?_ | refine wp_exit ?_ | refine wp_block ?_)
  refine wops_cons (o_lenN rfl rfl rfl rfl rfl hcS.2 hlo ?_)
  repeat (first | refine wops_nil ?_ | refine wops_cons (wop_skip' rfl rfl ?_) | refine wops_cons (wop_move rfl rfl ?_) | refine wops_cons (wop_assign rfl rfl ?_) | refine wops_cons (wop_bin (op := .add) rfl rfl rfl rfl (inc (by omega)) ?_) | refine wops_cons (o_lenI rfl rfl rfl rfl rfl (by assumption) ?_) | refine wops_cons (o_load rfl rfl (by assumption) ?_) | refine wops_cons (wop_pick rfl rfl rfl ?_) | refine wops_cons (wop_not rfl rfl rfl ?_) | refine wops_cons (wop_extract rfl rfl rfl rfl ?_) | refine mobs_move rfl rfl rfl ?_ | refine m_load rfl rfl rfl (by assumption) ?_ | refine mobs_nil ?_ | refine wd_nil ?_ | refine wd_skip rfl rfl ?_ | refine wd_loudSkip rfl rfl ?_ | refine wd_move rfl rfl rfl ?_ | refine wd_assign rfl rfl rfl ?_ | refine wd_pick rfl rfl rfl rfl ?_ | refine d_load rfl rfl rfl (by assumption) ?_ | refine d_lenI rfl rfl rfl rfl rfl rfl (by assumption) ?_ | refine wp_condT rfl ?_ | refine wp_condF rfl ?_ | refine wp_region ?_ | refine wp_seq ?_ | refine wp_skip ?_ | refine wp_exit ?_ | refine wp_block ?_)
  refine wp_loop (fun q2 T M H2' => ∃ (j : Nat) (Y : List AV) (cs : List AV), q2 = per f n t - j ∧ j ≤ per f n t ∧ H2'.next = H3.next ∧ H2'.gl = H3.gl ∧ (∀ c, c ≠ b → H2'.get c = H3.get c) ∧ H2'.get b = some (.cells cs 3 0) ∧ cs.length = n ∧ (∀ (j y : Nat) (o : List Nat), j < i → (cycs f n n)[j]? = some o → y ∈ o → cs[y]? = some (iv (it f (stp k (per f n y)) y : Nat))) ∧
      (∀ j' y : Nat, j' < j → y = it f j' t → cs[y]? = some (iv (it f (stp k (per f n y)) y : Nat))) ∧ M = [] ∧
      T = (x :: iv k :: lget Y 0 :: lget Y 1 :: .v (.slice none 0 0) :: iv 0 :: lget Y 2 :: .slc b 0 n n :: lget Y 3 :: c :: iv (per f n t : Nat) :: iv (stp k (per f n t) : Nat) :: lget Y 4 :: lget Y 5 :: lget Y 6 :: lget Y 7 :: lget Y 8 :: lget Y 9 :: lget Y 10 :: lget Y 11 :: lget Y 12 :: lget Y 13 :: lget Y 14 :: s :: iv (cycs f n n).length :: iv (i : Nat) :: lget Y 15 :: lget Y 16 :: lget Y 17 :: lget Y 18 :: lget Y 19 :: lget Y 20 :: lget Y 21 :: lget Y 22 :: lget Y 23 :: lget Y 24 :: lget Y 25 :: lget Y 26 :: c :: iv (per f n t : Nat) :: iv (j : Nat) :: lget Y 27 :: lget Y 28 :: lget Y 29 :: lget Y 30 :: lget Y 31 :: lget Y 32 :: lget Y 33 :: lget Y 34 :: lget Y 35 :: lget Y 36 :: lget Y 37 :: lget Y 38 :: lget Y 39 :: lget Y 40 :: lget Y 41 :: lget Y 42 :: lget Y 43 :: lget Y 44 :: [])) (per f n t)
    ⟨0, (_ :: _ :: _ :: _ :: _ :: _ :: _ :: _ :: _ :: _ :: _ :: _ :: _ :: _ :: _ :: _ :: _ :: _ :: _ :: _ :: _ :: _ :: _ :: _ :: _ :: _ :: _ :: _ :: _ :: _ :: _ :: _ :: _ :: _ :: _ :: _ :: _ :: _ :: _ :: _ :: _ :: _ :: _ :: _ :: _ :: []), cs, rfl, Nat.zero_le _, hn', hgl', hg', hgb, hcs, hdone, fun j' y h => absurd h (by omega), rfl, rfl⟩ ?_
  clear hgb hcs hdone hg' hgl' hn' hKH hSl hcS
  rintro q2 T M H' ⟨j, Y, cs, hq2, hj, hn', hgl', hg', hgb, hcs, hdone, hdone2, rfl, rfl⟩
  have hcS : True ∧ Sl H' c (nvs (orb f n t)) := ⟨trivial, hc1.frame hgl' fun d hd => hg' d (hcb d hd)⟩
  repeat (first | refine wops_nil ?_ | refine wops_cons (wop_skip' rfl rfl ?_) | refine wops_cons (wop_move rfl rfl ?_) | refine wops_cons (wop_assign rfl rfl ?_) | refine wops_cons (wop_bin (op := .add) rfl rfl rfl rfl (inc (by omega)) ?_) | refine wops_cons (o_lenI rfl rfl rfl rfl rfl (by assumption) ?_) | refine wops_cons (o_load rfl rfl (by assumption) ?_) | refine wops_cons (wop_pick rfl rfl rfl ?_) | refine wops_cons (wop_not rfl rfl rfl ?_) | refine wops_cons (wop_extract rfl rfl rfl rfl ?_) | refine mobs_move rfl rfl rfl ?_ | refine m_load rfl rfl rfl (by assumption) ?_ | refine mobs_nil ?_ | refine wd_nil ?_ | refine wd_skip rfl rfl ?_ | refine wd_loudSkip rfl rfl ?_ | refine wd_move rfl rfl rfl ?_ | refine wd_assign rfl rfl rfl ?_ | refine wd_pick rfl rfl rfl rfl ?_ | refine d_load rfl rfl rfl (by assumption) ?_ | refine d_lenI rfl rfl rfl rfl rfl rfl (by assumption) ?_ | refine wp_condT rfl ?_ | refine wp_condF rfl ?_ | refine wp_region ?_ | refine wp_seq ?_ | refine wp_skip ?_ | refine wp_exit ?_ | refine wp_block ?_)
  refine wops_cons (wop_cmp rfl rfl rfl rfl rfl (fun h => ?_) (fun h => ?_))
  rotate_left
  · have h : ¬ ((j : Int) < per f n t) := of_decide_eq_false h
    have e : j = per f n t := by omega
    repeat (first | refine wops_nil ?_ | refine wops_cons (wop_skip' rfl rfl ?_) | refine wops_cons (wop_move rfl rfl ?_) | refine wops_cons (wop_assign rfl rfl ?_) | refine wops_cons (wop_bin (op := .add) rfl rfl rfl rfl (inc (by omega)) ?_) | refine wops_cons (o_lenI rfl rfl rfl rfl rfl (by assumption) ?_) | refine wops_cons (o_load rfl rfl (by assumption) ?_) | refine wops_cons (wop_pick rfl rfl rfl ?_) | refine wops_cons (wop_not rfl rfl rfl ?_) | refine wops_cons (wop_extract rfl rfl rfl rfl ?_) | refine mobs_move rfl rfl rfl ?_ | refine m_load rfl rfl rfl (by assumption) ?_ | refine mobs_nil ?_ | refine wd_nil ?_ | refine wd_skip rfl rfl ?_ | refine wd_loudSkip rfl rfl ?_ | refine wd_move rfl rfl rfl ?_ | refine wd_assign rfl rfl rfl ?_ | refine wd_pick rfl rfl rfl rfl ?_ | refine d_load rfl rfl rfl (by assumption) ?_ | refine d_lenI rfl rfl rfl rfl rfl rfl (by assumption) ?_ | refine wp_condT rfl ?_ | refine wp_condF rfl ?_ | refine wp_region ?_ | refine wp_seq ?_ | refine wp_skip ?_ | refine wp_exit ?_ | refine wp_block ?_)
    refine ⟨(cycs f n n).length - (i + 1), by omega, i + 1, (_ :: _ :: _ :: _ :: _ :: _ :: _ :: _ :: _ :: _ :: _ :: _ :: _ :: _ :: _ :: _ :: _ :: _ :: _ :: _ :: _ :: _ :: _ :: _ :: _ :: _ :: _ :: _ :: _ :: _ :: _ :: _ :: _ :: _ :: _ :: _ :: _ :: _ :: _ :: _ :: _ :: _ :: _ :: _ :: _ :: _ :: _ :: _ :: _ :: _ :: _ :: []), cs, rfl, by omega, hn', hgl', hg', hgb, hcs, fun j' y o hj' hoj hy => ?_, rfl, rfl⟩
    by_cases ej : j' = i
    · subst ej
      rw [hoi] at hoj
      cases hoj
      obtain ⟨m, hm, hmy⟩ := List.mem_map.1 hy
      exact hdone2 m y (by have := List.mem_range.1 hm; omega) hmy.symm
    · exact hdone j' y o (by omega) hoj hy
  have h : (j : Int) < per f n t := of_decide_eq_true h
  have hjp : j < per f n t := by omega
  have hitn := hpm.it_lt ht j
  repeat (first | refine wops_nil ?_ | refine wops_cons (wop_skip' rfl rfl ?_) | refine wops_cons (wop_move rfl rfl ?_) | refine wops_cons (wop_assign rfl rfl ?_) | refine wops_cons (wop_bin (op := .add) rfl rfl rfl rfl (inc (by omega)) ?_) | refine wops_cons (o_lenI rfl rfl rfl rfl rfl (by assumption) ?_) | refine wops_cons (o_load rfl rfl (by assumption) ?_) | refine wops_cons (wop_pick rfl rfl rfl ?_) | refine wops_cons (wop_not rfl rfl rfl ?_) | refine wops_cons (wop_extract rfl rfl rfl rfl ?_) | refine mobs_move rfl rfl rfl ?_ | refine m_load rfl rfl rfl (by assumption) ?_ | refine mobs_nil ?_ | refine wd_nil ?_ | refine wd_skip rfl rfl ?_ | refine wd_loudSkip rfl rfl ?_ | refine wd_move rfl rfl rfl ?_ | refine wd_assign rfl rfl rfl ?_ | refine wd_pick rfl rfl rfl rfl ?_ | refine d_load rfl rfl rfl (by assumption) ?_ | refine d_lenI rfl rfl rfl rfl rfl rfl (by assumption) ?_ | refine wp_condT rfl ?_ | refine wp_condF rfl ?_ | refine wp_region ?_ | refine wp_seq ?_ | refine wp_skip ?_ | refine wp_exit ?_ | refine wp_block ?_)
  refine wops_cons (o_index rfl rfl hcS.2 rfl (nvs_get (orb_get hjp)) fun pt2 hpt2 => ?_)
  repeat (first | refine wops_nil ?_ | refine wops_cons (wop_skip' rfl rfl ?_) | refine wops_cons (wop_move rfl rfl ?_) | refine wops_cons (wop_assign rfl rfl ?_) | refine wops_cons (wop_bin (op := .add) rfl rfl rfl rfl (inc (by omega)) ?_) | refine wops_cons (o_lenI rfl rfl rfl rfl rfl (by assumption) ?_) | refine wops_cons (o_load rfl rfl (by assumption) ?_) | refine wops_cons (wop_pick rfl rfl rfl ?_) | refine wops_cons (wop_not rfl rfl rfl ?_) | refine wops_cons (wop_extract rfl rfl rfl rfl ?_) | refine mobs_move rfl rfl rfl ?_ | refine m_load rfl rfl rfl (by assumption) ?_ | refine mobs_nil ?_ | refine wd_nil ?_ | refine wd_skip rfl rfl ?_ | refine wd_loudSkip rfl rfl ?_ | refine wd_move rfl rfl rfl ?_ | refine wd_assign rfl rfl rfl ?_ | refine wd_pick rfl rfl rfl rfl ?_ | refine d_load rfl rfl rfl (by assumption) ?_ | refine d_lenI rfl rfl rfl rfl rfl rfl (by assumption) ?_ | refine wp_condT rfl ?_ | refine wp_condF rfl ?_ | refine wp_region ?_ | refine wp_seq ?_ | refine wp_skip ?_ | refine wp_exit ?_ | refine wp_block ?_)
  refine wops_cons (wop_bin (op := .add) (v := .int .i64 ((j + stp k (per f n t) : Nat) : Int)) rfl rfl rfl rfl ?_ ?_)
  · show some (Value.int .i64 (IntKind.i64.wrap ((j : Int) + (stp k (per f n t) : Nat)))) = _
    rw [wrap_id (by omega) (by omega)]; rfl
  repeat (first | refine wops_nil ?_ | refine wops_cons (wop_skip' rfl rfl ?_) | refine wops_cons (wop_move rfl rfl ?_) | refine wops_cons (wop_assign rfl rfl ?_) | refine wops_cons (wop_bin (op := .add) rfl rfl rfl rfl (inc (by omega)) ?_) | refine wops_cons (o_lenI rfl rfl rfl rfl rfl (by assumption) ?_) | refine wops_cons (o_load rfl rfl (by assumption) ?_) | refine wops_cons (wop_pick rfl rfl rfl ?_) | refine wops_cons (wop_not rfl rfl rfl ?_) | refine wops_cons (wop_extract rfl rfl rfl rfl ?_) | refine mobs_move rfl rfl rfl ?_ | refine m_load rfl rfl rfl (by assumption) ?_ | refine mobs_nil ?_ | refine wd_nil ?_ | refine wd_skip rfl rfl ?_ | refine wd_loudSkip rfl rfl ?_ | refine wd_move rfl rfl rfl ?_ | refine wd_assign rfl rfl rfl ?_ | refine wd_pick rfl rfl rfl rfl ?_ | refine d_load rfl rfl rfl (by assumption) ?_ | refine d_lenI rfl rfl rfl rfl rfl rfl (by assumption) ?_ | refine wp_condT rfl ?_ | refine wp_condF rfl ?_ | refine wp_region ?_ | refine wp_seq ?_ | refine wp_skip ?_ | refine wp_exit ?_ | refine wp_block ?_)
  refine wops_cons (wop_rem rfl rfl rfl rfl (by omega) ?_)
  rw [show (((j + stp k (per f n t) : Nat) : Int)).tmod (per f n t : Nat) = (((j + stp k (per f n t)) % per f n t : Nat) : Int) from rfl]
  have hmod : (j + stp k (per f n t)) % per f n t < per f n t := Nat.mod_lt _ hpp
  refine wops_cons (o_index rfl rfl hcS.2 rfl (nvs_get (orb_get hmod)) fun pt3 hpt3 => ?_)
  repeat (first | refine wops_nil ?_ | refine wops_cons (wop_skip' rfl rfl ?_) | refine wops_cons (wop_move rfl rfl ?_) | refine wops_cons (wop_assign rfl rfl ?_) | refine wops_cons (wop_bin (op := .add) rfl rfl rfl rfl (inc (by omega)) ?_) | refine wops_cons (o_lenI rfl rfl rfl rfl rfl (by assumption) ?_) | refine wops_cons (o_load rfl rfl (by assumption) ?_) | refine wops_cons (wop_pick rfl rfl rfl ?_) | refine wops_cons (wop_not rfl rfl rfl ?_) | refine wops_cons (wop_extract rfl rfl rfl rfl ?_) | refine mobs_move rfl rfl rfl ?_ | refine m_load rfl rfl rfl (by assumption) ?_ | refine mobs_nil ?_ | refine wd_nil ?_ | refine wd_skip rfl rfl ?_ | refine wd_loudSkip rfl rfl ?_ | refine wd_move rfl rfl rfl ?_ | refine wd_assign rfl rfl rfl ?_ | refine wd_pick rfl rfl rfl rfl ?_ | refine d_load rfl rfl rfl (by assumption) ?_ | refine d_lenI rfl rfl rfl rfl rfl rfl (by assumption) ?_ | refine wp_condT rfl ?_ | refine wp_condF rfl ?_ | refine wp_region ?_ | refine wp_seq ?_ | refine wp_skip ?_ | refine wp_exit ?_ | refine wp_block ?_)
  refine wops_cons (o_indexOwn rfl rfl rfl rfl hitn ?_)
  refine wops_cons (o_store rfl rfl rfl hgb (by omega) rfl ?_)
  repeat (first | refine wops_nil ?_ | refine wops_cons (wop_skip' rfl rfl ?_) | refine wops_cons (wop_move rfl rfl ?_) | refine wops_cons (wop_assign rfl rfl ?_) | refine wops_cons (wop_bin (op := .add) rfl rfl rfl rfl (inc (by omega)) ?_) | refine wops_cons (o_lenI rfl rfl rfl rfl rfl (by assumption) ?_) | refine wops_cons (o_load rfl rfl (by assumption) ?_) | refine wops_cons (wop_pick rfl rfl rfl ?_) | refine wops_cons (wop_not rfl rfl rfl ?_) | refine wops_cons (wop_extract rfl rfl rfl rfl ?_) | refine mobs_move rfl rfl rfl ?_ | refine m_load rfl rfl rfl (by assumption) ?_ | refine mobs_nil ?_ | refine wd_nil ?_ | refine wd_skip rfl rfl ?_ | refine wd_loudSkip rfl rfl ?_ | refine wd_move rfl rfl rfl ?_ | refine wd_assign rfl rfl rfl ?_ | refine wd_pick rfl rfl rfl rfl ?_ | refine d_load rfl rfl rfl (by assumption) ?_ | refine d_lenI rfl rfl rfl rfl rfl rfl (by assumption) ?_ | refine wp_condT rfl ?_ | refine wp_condF rfl ?_ | refine wp_region ?_ | refine wp_seq ?_ | refine wp_skip ?_ | refine wp_exit ?_ | refine wp_block ?_)
  have hval : ∀ y, y = it f j t → it f ((j + stp k (per f n t)) % per f n t) t = it f (stp k (per f n y)) y := fun y hy => by
    subst hy
    rw [hpm.it_mod ht, hpm.per_it ht, ← it_add, Nat.add_comm]
  have hset : ∀ y v, cs[y]? = some (iv (it f (stp k (per f n y)) y : Nat)) → v = it f j t → (cs.set v (iv (it f ((j + stp k (per f n t)) % per f n t) t : Nat)))[y]? = some (iv (it f (stp k (per f n y)) y : Nat)) := fun y v hy hv => by
    by_cases e : y = v
    · subst e
      rw [List.getElem?_set_self (by have := (List.getElem?_eq_some_iff.1 hy).1; omega), hval y hv]
    · rw [List.getElem?_set_ne (Ne.symm e)]; exact hy
  refine ⟨per f n t - (j + 1), by omega, j + 1, (_ :: _ :: _ :: _ :: _ :: _ :: _ :: _ :: _ :: _ :: _ :: _ :: _ :: _ :: _ :: _ :: _ :: _ :: _ :: _ :: _ :: _ :: _ :: _ :: _ :: _ :: _ :: _ :: _ :: _ :: _ :: _ :: _ :: _ :: _ :: _ :: _ :: _ :: _ :: _ :: _ :: _ :: _ :: _ :: _ :: []), cs.set (it f j t) (iv (it f ((j + stp k (per f n t)) % per f n t) t : Nat)), rfl, by omega, hn', hgl', fun d hd => (get_set_ne hb39 hd).trans (hg' d hd), get_set_eq hb39, by simpa using hcs, fun j' y o hj' hoj hy => hset y _ (hdone j' y o hj' hoj hy) rfl, fun j' y hj' hy => ?_, rfl, rfl⟩
  by_cases e : j' = j
  · subst e
    subst hy
    rw [List.getElem?_set_self (by omega), hval _ rfl]
  · exact hset y _ (hdone2 j' y (by omega) hy) rfl

theorem c14 (H : AH) (x : AV) (l : List Int) (hx : Sl H x (ivs l)) (ho : Old H x) (hr : H.next + 300000 < 2 ^ 39) (K : AV → AH → Prop)
    (hk : ∀ H' c, Keeps H H' → H'.next ≤ H.next + 150000 → Sl H' c (ivs (powS l (-1)).1) → Old H' c → K (.tup [c, iv (powS l (-1)).2]) H') : Ca (ENV O) 7 [x] H K := by
  refine ca_intro (hq _ _ _ rfl) (fn := Tryz.f7) (by rfl) rfl ?_
  repeat (first | refine wops_nil ?_ | refine wops_cons (wop_skip' rfl rfl ?_) | refine wops_cons (wop_move rfl rfl ?_) | refine wops_cons (wop_assign rfl rfl ?_) | refine wops_cons (wop_bin (op := .add) rfl rfl rfl rfl (inc (by omega)) ?_) | refine wops_cons (o_lenI rfl rfl rfl rfl rfl (by assumption) ?_) | refine wops_cons (o_load rfl rfl (by assumption) ?_) | refine wops_cons (wop_pick rfl rfl rfl ?_) | refine wops_cons (wop_not rfl rfl rfl ?_) | refine wops_cons (wop_extract rfl rfl rfl rfl ?_) | refine mobs_move rfl rfl rfl ?_ | refine m_load rfl rfl rfl (by assumption) ?_ | refine mobs_nil ?_ | refine wd_nil ?_ | refine wd_skip rfl rfl ?_ | refine wd_loudSkip rfl rfl ?_ | refine wd_move rfl rfl rfl ?_ | refine wd_assign rfl rfl rfl ?_ | refine wd_pick rfl rfl rfl rfl ?_ | refine d_load rfl rfl rfl (by assumption) ?_ | refine d_lenI rfl rfl rfl rfl rfl rfl (by assumption) ?_ | refine wp_condT rfl ?_ | refine wp_condF rfl ?_ | refine wp_region ?_ | refine wp_seq ?_ | refine wp_skip ?_ | refine wp_exit ?_ | refine wp_block ?_)
  refine wops_cons (wop_callF rfl rfl rfl (fn := Tryz.f12) (by rfl) ?_)
  refine c20 hq H x l (-1) hx ho hr _ fun H1 c k1 n1 hc hco => ⟨k1.nx, ?_⟩
  repeat (first | refine wops_nil ?_ | refine wops_cons (wop_skip' rfl rfl ?_) | refine wops_cons (wop_move rfl rfl ?_) | refine wops_cons (wop_assign rfl rfl ?_) | refine wops_cons (wop_bin (op := .add) rfl rfl rfl rfl (inc (by omega)) ?_) | refine wops_cons (o_lenI rfl rfl rfl rfl rfl (by assumption) ?_) | refine wops_cons (o_load rfl rfl (by assumption) ?_) | refine wops_cons (wop_pick rfl rfl rfl ?_) | refine wops_cons (wop_not rfl rfl rfl ?_) | refine wops_cons (wop_extract rfl rfl rfl rfl ?_) | refine mobs_move rfl rfl rfl ?_ | refine m_load rfl rfl rfl (by assumption) ?_ | refine mobs_nil ?_ | refine wd_nil ?_ | refine wd_skip rfl rfl ?_ | refine wd_loudSkip rfl rfl ?_ | refine wd_move rfl rfl rfl ?_ | refine wd_assign rfl rfl rfl ?_ | refine wd_pick rfl rfl rfl rfl ?_ | refine d_load rfl rfl rfl (by assumption) ?_ | refine d_lenI rfl rfl rfl rfl rfl rfl (by assumption) ?_ | refine wp_condT rfl ?_ | refine wp_condF rfl ?_ | refine wp_region ?_ | refine wp_seq ?_ | refine wp_skip ?_ | refine wp_exit ?_ | refine wp_block ?_)
  refine wp_ret ?_
  exact ⟨_, _, rfl, hk H1 c k1 n1 hc hco⟩
end Go.Ev
