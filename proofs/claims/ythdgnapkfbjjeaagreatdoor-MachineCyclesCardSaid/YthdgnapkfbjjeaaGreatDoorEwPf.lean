/- Part of an evaluator of calls that is proved sound, and of what it gives about this program. No condition of its own. -/
import Derived.Test.YthdgnapkfbjjeaaGreatDoorExPc
set_option linter.unusedVariables false
set_option linter.unusedSimpArgs false
set_option linter.unusedSectionVars false
set_option maxRecDepth 100000
set_option maxHeartbeats 4000000
namespace Go.Ev
open Go.Proofs
theorem lens_at {f : Nat → Nat} {n i : Nat} {o : List Nat} (h : (cycs f n n)[i]? = some o) : (lens f n)[i]? = some o.length := by
 unfold lens; rw [List.getElem?_map, h]; rfl
theorem sameBlk_igr (b c : Nat) : sameBlk (some (.cells [.v (.bool false), .slc b 0 1 c] 164 0)) (some (.cells [.v (.bool false), .slc b 0 1 c] 164 0)) = true := by
 simp [sameBlk, beqs, AV.beq, vbeq]
def Pers (O : CallF) : Prop := ∀ g args H, (Nat.beq g 131 || (Nat.ble 133 g && Nat.ble g 135) || Nat.beq g 63) = true → O g args H = perO g args H
def PersR (O : CallF) : Prop := ∀ g args H, (Nat.beq g 65 || Nat.beq g 66 || Nat.beq g 83 || Nat.beq g 84) = true → O g args H = perO g args H
variable {O : CallF} (hq : Quiet O) (hP : Pers O)
include hq hP
theorem cPer (H : AH) (x : AV) (l : List Int) (hx : Sl H x (ivs l)) (ho : Old H x) (nn : Nat) (hl4 : l.length = 4 * nn) (hF : Fr (fOf l) nn) (hok : OkPq l) (hgt : gtest H.gl = true) (hr : H.next + 300000 < 2 ^ 39) (K : AV → AH → Prop)
   (hk : ∀ H', Keeps H H' → H'.next ≤ H.next + 200000 → K (.tup [txt (perd (fOf l) l.length), iv 0]) H') : Ca (ENV O) 80 [x] H K := by
 refine ca_intro (hq _ _ _ rfl) (fn := Tryz.f80) (by rfl) rfl ?_
 repeat (first | apply qN | refine qM rfl rfl ?_ | refine zq4 rfl rfl rfl rfl (inc (by omega)) ?_ | refine zq5 rfl rfl rfl rfl rfl ‹_› ?_ | refine zq6 rfl rfl ‹_› ?_ | refine zq9 rfl rfl rfl rfl ?_ | refine qT rfl ?_ | refine qF rfl ?_ | apply qR | apply qS | apply qK | apply qE | apply qB)
 refine wops_cons (wop_callF rfl rfl rfl (fn := Tryz.f130) (by rfl) ?_)
 refine c12 hq H x l hx ho (by omega) _ fun H1 k1 n1 => ⟨k1.nx, ?_⟩
 have hn8 := hF.hn
 have hn1 := hF.hn1
 rw [permE_ok (by omega) hok]
 repeat (first | apply qN | refine qM rfl rfl ?_ | refine zq4 rfl rfl rfl rfl (inc (by omega)) ?_ | refine zq5 rfl rfl rfl rfl rfl ‹_› ?_ | refine zq6 rfl rfl ‹_› ?_ | refine zq9 rfl rfl rfl rfl ?_ | refine qT rfl ?_ | refine qF rfl ?_ | apply qR | apply qS | apply qK | apply qE | apply qB)
 refine wops_cons (wop_cmp rfl rfl rfl rfl rfl (fun h => ?_) (fun h => ?_))
 · exact absurd h (by decide)
 clear h
 repeat (first | apply qN | refine qM rfl rfl ?_ | refine zq4 rfl rfl rfl rfl (inc (by omega)) ?_ | refine zq5 rfl rfl rfl rfl rfl ‹_› ?_ | refine zq6 rfl rfl ‹_› ?_ | refine zq9 rfl rfl rfl rfl ?_ | refine qT rfl ?_ | refine qF rfl ?_ | apply qR | apply qS | apply qK | apply qE | apply qB)
 refine wops_cons (wop_callF rfl rfl rfl (fn := Tryz.f131) (by rfl) ?_)
 have p39 : H1.next + 1 < 2 ^ 39 := by omega
 refine ca_oracle ((hP 131 _ H1 rfl).trans (perO_io (m := 1) (by decide) (by omega))) ⟨Nat.le_add_right _ _, ?_⟩
 have k2 : Keeps H1 ⟨H1.next + 2, putL H1.tr [(H1.next + 1, blkV 0 1)], H1.gl⟩ := keeps_put (Nat.le_succ _) p39
 have g2 : (AH.mk (H1.next + 2) (putL H1.tr [(H1.next + 1, blkV 0 1)]) H1.gl).get (H1.next + 1) = some (blkV 0 1) := get_put p39
 have n2 : (AH.mk (H1.next + 2) (putL H1.tr [(H1.next + 1, blkV 0 1)]) H1.gl).next = H1.next + 2 := rfl
 have k2 := k1.trans k2
 generalize hpb : H1.next + 1 = pb0 at g2 k2 n2 p39 ⊢
 generalize AH.mk (H1.next + 2) (putL H1.tr [(pb0, blkV 0 1)]) H1.gl = H2 at k2 g2 n2 ⊢
 repeat (first | apply qN | refine qM rfl rfl ?_ | refine zq4 rfl rfl rfl rfl (inc (by omega)) ?_ | refine zq5 rfl rfl rfl rfl rfl ‹_› ?_ | refine zq6 rfl rfl ‹_› ?_ | refine zq9 rfl rfl rfl rfl ?_ | refine qT rfl ?_ | refine qF rfl ?_ | apply qR | apply qS | apply qK | apply qE | apply qB)
 refine wops_cons (o_alloc2 rfl rfl (by omega) ?_)
 have k3 := k2.add (.cells [.v (.bool false), .v (.slice none 0 0)] 164 0) (by omega)
 have g3 : (H2.add (.cells [.v (.bool false), .v (.slice none 0 0)] 164 0)).get H2.next = some (.cells [.v (.bool false), .v (.slice none 0 0)] 164 0) := get_add_eq (by omega)
 have g3' : (H2.add (.cells [.v (.bool false), .v (.slice none 0 0)] 164 0)).get pb0 = some (blkV 0 1) := by rw [AH.get_add _ _ _ (by omega), if_neg (by omega)]; exact g2
 have n3 : (H2.add (.cells [.v (.bool false), .v (.slice none 0 0)] 164 0)).next = H2.next + 1 := rfl
 have hb39 : H2.next < 2 ^ 39 := by omega
 have hpbb : pb0 < H2.next := by omega
 have hbH : H.next ≤ H2.next := k2.nx
 have hbm : H2.next ≤ H.next + 3 := by omega
 generalize H2.add (.cells [.v (.bool false), .v (.slice none 0 0)] 164 0) = H3 at k3 g3 g3' n3 ⊢
 generalize H2.next = b5 at g3 n3 hb39 hpbb hbH hbm ⊢
 repeat (first | apply qN | refine qM rfl rfl ?_ | refine zq4 rfl rfl rfl rfl (inc (by omega)) ?_ | refine zq5 rfl rfl rfl rfl rfl ‹_› ?_ | refine zq6 rfl rfl ‹_› ?_ | refine zq9 rfl rfl rfl rfl ?_ | refine qT rfl ?_ | refine qF rfl ?_ | apply qR | apply qS | apply qK | apply qE | apply qB)
 refine wops_cons (o_store2 rfl rfl rfl rfl g3 rfl rfl ?_)
 have k4 := k3.set (some (.cells [.v (.bool false), .slc pb0 0 1 1] 164 0)) hbH hb39
 have g4 : (H3.set b5 (some (.cells [.v (.bool false), .slc pb0 0 1 1] 164 0))).get b5 = some (.cells [.v (.bool false), .slc pb0 0 1 1] 164 0) := by rw [AH.get_set _ _ _ _ hb39, if_pos rfl]
 have g4' : (H3.set b5 (some (.cells [.v (.bool false), .slc pb0 0 1 1] 164 0))).get pb0 = some (blkV 0 1) := by rw [AH.get_set _ _ _ _ hb39, if_neg (by omega)]; exact g3'
 have n4 : (H3.set b5 (some (.cells [.v (.bool false), .slc pb0 0 1 1] 164 0))).next = H3.next := rfl
 generalize H3.set b5 (some (.cells [.v (.bool false), .slc pb0 0 1 1] 164 0)) = H4 at k4 g4 g4' n4 ⊢
 repeat (first | apply qN | refine qM rfl rfl ?_ | refine zq4 rfl rfl rfl rfl (inc (by omega)) ?_ | refine zq5 rfl rfl rfl rfl rfl ‹_› ?_ | refine zq6 rfl rfl ‹_› ?_ | refine zq9 rfl rfl rfl rfl ?_ | refine qT rfl ?_ | refine qF rfl ?_ | apply qR | apply qS | apply qK | apply qE | apply qB)
 refine wops_cons (wop_callF rfl rfl rfl (fn := Tryz.f132) (by rfl) ?_)
 refine c51 hq H4 x l (hx.keep ho k4) (ho.keep k4) (by omega) hok (by omega) _ fun H5 s cyc k5 n5 hG hcy => ⟨k5.nx, ?_⟩
 generalize fOf l = f at hF hcy hk
 rw [hl4] at hcy hk
 have hpm := hF.pm
 generalize hn : 4 * nn = n at hpm hcy hk hl4
 have g5 := (k5.get b5 (by omega)).trans g4
 have g5' := (k5.get pb0 (by omega)).trans g4'
 have k5' := k4.trans k5
 have m5 := k5.nx
 refine wops_cons (o_lenN rfl rfl rfl rfl rfl hG.sl hcy.1 ?_)
 have hn32 : n ≤ 64 := by omega
 have hcl : (cycs f n n).length ≤ n := by unfold cycs; rw [List.length_map]; exact Nat.le_trans (List.length_filter_le _ _) (by simp)
 have hll : (lens f n).length = (cycs f n n).length := by simp [lens]
 repeat (first | apply qN | refine qM rfl rfl ?_ | refine zq4 rfl rfl rfl rfl (inc (by omega)) ?_ | refine zq5 rfl rfl rfl rfl rfl ‹_› ?_ | refine zq6 rfl rfl ‹_› ?_ | refine zq9 rfl rfl rfl rfl ?_ | refine qT rfl ?_ | refine qF rfl ?_ | apply qR | apply qS | apply qK | apply qE | apply qB)
 refine wp_loop (fun q T M H' => ∃ (i : Nat) (Y : List AV) (pb : Nat), q = (cycs f n n).length - i ∧ i ≤ (cycs f n n).length ∧ H5.next ≤ H'.next ∧ H'.next ≤ H5.next + 32 * i ∧ H'.gl = H5.gl ∧ (∀ c, c ≠ b5 → c < H5.next → H'.get c = H5.get c) ∧ H'.get b5 = some (.cells [.v (.bool false), .slc pb 0 1 (cOf i + 1)] 164 0) ∧ H'.get pb = some (blkV (cOf i) (lcmL ((lens f n).take i))) ∧ pb < H'.next ∧ pb ≠ b5 ∧ M = [] ∧
     T = (lget Y 0 :: lget Y 1 :: lget Y 2 :: lget Y 3 :: lget Y 4 :: .ptr b5 0 :: lget Y 5 :: lget Y 6 :: lget Y 7 :: lget Y 8 :: lget Y 9 :: lget Y 10 :: lget Y 11 :: lget Y 12 :: lget Y 13 :: s :: iv (cycs f n n).length :: iv (i : Nat) :: lget Y 14 :: lget Y 15 :: lget Y 16 :: lget Y 17 :: lget Y 18 :: lget Y 19 :: lget Y 20 :: lget Y 21 :: lget Y 22 :: lget Y 23 :: lget Y 24 :: lget Y 25 :: lget Y 26 :: lget Y 27 :: [])) (cycs f n n).length
   ⟨0, [_,_,_,_,_,_,_,_,_,_,_,_,_,_,_,_,_,_,_,_,_,_,_,_,_,_,_,_], pb0, rfl, Nat.zero_le _, Nat.le_refl _, Nat.le_refl _, rfl, fun _ _ _ => rfl, g5, g5', by omega, by omega, rfl, rfl⟩ ?_
 rintro q T M H' ⟨i, Y, pb, hq1, hi, hlo', hn', hgl', hg', hgb, hgp, hpb', hpne, rfl, rfl⟩
 have hKH : Keeps H H' := ⟨by have := k5'.nx; omega, hgl'.trans k5'.gl, fun c hc => (hg' c (by omega) (by have := k5'.nx; omega)).trans (k5'.get c hc)⟩
 repeat (first | apply qN | refine qM rfl rfl ?_ | refine zq4 rfl rfl rfl rfl (inc (by omega)) ?_ | refine zq5 rfl rfl rfl rfl rfl ‹_› ?_ | refine zq6 rfl rfl ‹_› ?_ | refine zq9 rfl rfl rfl rfl ?_ | refine qT rfl ?_ | refine qF rfl ?_ | apply qR | apply qS | apply qK | apply qE | apply qB)
 refine wops_cons (wop_cmp rfl rfl rfl rfl rfl (fun h => ?_) (fun h => ?_))
 rotate_left
 · have h : ¬ ((i : Int) < (cycs f n n).length) := of_decide_eq_false h
   have e : i = (cycs f n n).length := by omega
   have hi0 : i ≠ 0 := fun h0 => by
     have h1 := hF.prt_ne
     have h2 : (prt f nn).length = 0 := by unfold prt; rw [List.length_map, hn, hll, ← e, h0]
     exact h1 (List.length_eq_zero_iff.1 h2)
   have he : lcmL ((lens f n).take i) = perd f n := by rw [List.take_of_length_le (by omega)]; rfl
   have hv : perd f n ∈ valsL := by rw [← hn]; exact hF.perd_mem
   have hco : cOf i = 1 := by cases i with | zero => exact absurd rfl hi0 | succ i => rfl
   rw [hco, he] at hgp
   rw [hco] at hgb
   repeat (first | apply qN | refine qM rfl rfl ?_ | refine zq4 rfl rfl rfl rfl (inc (by omega)) ?_ | refine zq5 rfl rfl rfl rfl rfl ‹_› ?_ | refine zq6 rfl rfl ‹_› ?_ | refine zq9 rfl rfl rfl rfl ?_ | refine qT rfl ?_ | refine qF rfl ?_ | apply qR | apply qS | apply qK | apply qE | apply qB)
   refine wops_cons (o_load2 rfl rfl rfl hgb ?_)
   repeat (first | apply qN | refine qM rfl rfl ?_ | refine zq4 rfl rfl rfl rfl (inc (by omega)) ?_ | refine zq5 rfl rfl rfl rfl rfl ‹_› ?_ | refine zq6 rfl rfl ‹_› ?_ | refine zq9 rfl rfl rfl rfl ?_ | refine qT rfl ?_ | refine qF rfl ?_ | apply qR | apply qS | apply qK | apply qE | apply qB)
   refine wops_cons (wop_callF rfl rfl rfl (fn := Tryz.f135) (by rfl) ?_)
   refine ca_oracle ((hP 135 _ H' rfl).trans (perO_wh hv hgp (by omega))) ⟨Nat.le_add_right _ _, ?_⟩
   have kw : Keeps H' ⟨H'.next + 2, H'.tr, H'.gl⟩ := keeps_on
   have gw : (AH.mk (H'.next + 2) H'.tr H'.gl).get pb = some (blkV 1 (perd f n)) := hgp
   have nw : (AH.mk (H'.next + 2) H'.tr H'.gl).next = H'.next + 2 := rfl
   generalize AH.mk (H'.next + 2) H'.tr H'.gl = Hw at kw gw nw ⊢
   repeat (first | apply qN | refine qM rfl rfl ?_ | refine zq4 rfl rfl rfl rfl (inc (by omega)) ?_ | refine zq5 rfl rfl rfl rfl rfl ‹_› ?_ | refine zq6 rfl rfl ‹_› ?_ | refine zq9 rfl rfl rfl rfl ?_ | refine qT rfl ?_ | refine qF rfl ?_ | apply qR | apply qS | apply qK | apply qE | apply qB)
   refine wops_cons (wop_callF rfl rfl rfl (fn := Tryz.f134) (by rfl) ?_)
   have hgw : gtest Hw.gl = true := by rw [(hKH.trans kw).gl]; exact hgt
   refine ca_oracle ((hP 134 _ Hw rfl).trans (perO_wr hv gw hgw (by omega))) ⟨Nat.le_add_right _ _, ?_⟩
   have kx : Keeps Hw ⟨Hw.next + (mWR 1 (perd f n)).d, Hw.tr, Hw.gl⟩ := keeps_on
   have nx : (AH.mk (Hw.next + (mWR 1 (perd f n)).d) Hw.tr Hw.gl).next ≤ Hw.next + 6 := Nat.add_le_add_left (mWR_d _) _
   generalize AH.mk (Hw.next + (mWR 1 (perd f n)).d) Hw.tr Hw.gl = Hx at kx nx ⊢
   repeat (first | apply qN | refine qM rfl rfl ?_ | refine zq4 rfl rfl rfl rfl (inc (by omega)) ?_ | refine zq5 rfl rfl rfl rfl rfl ‹_› ?_ | refine zq6 rfl rfl ‹_› ?_ | refine zq9 rfl rfl rfl rfl ?_ | refine qT rfl ?_ | refine qF rfl ?_ | apply qR | apply qS | apply qK | apply qE | apply qB)
   refine wp_ret ?_
   refine ⟨_, _, rfl, ?_⟩
   exact hk Hx ((hKH.trans kw).trans kx) (by omega)
 have h : (i : Int) < (cycs f n n).length := of_decide_eq_true h
 obtain ⟨o, hoi⟩ : ∃ o, (cycs f n n)[i]? = some o := ⟨_, List.getElem?_eq_getElem (by omega)⟩
 obtain ⟨c, hci⟩ : ∃ c, cyc[i]? = some c := ⟨_, List.getElem?_eq_getElem (by rw [hcy.1]; omega)⟩
 obtain ⟨hc1, hc2⟩ := hcy.2 i c o hci hoi
 have hsown : ∀ c, s.own = some c → c ≠ b5 := fun c hc e => by
   subst e
   obtain ⟨cs', g, h1⟩ := hG.own_cells hc
   rw [g5] at h1; cases h1
 have hSl : Sl H' s cyc := hG.sl.frame hgl' fun c hc => hg' c (hsown c hc) (hG.old c hc)
 have hcb : ∀ d, c.own = some d → d ≠ b5 := fun d hd => by have := hc2 d hd; omega
 have hcS : True ∧ Sl H' c (nvs o) := ⟨trivial, hc1.frame hgl' fun d hd => hg' d (hcb d hd) (hc2 d hd).2.1⟩
 obtain ⟨hpr, hms⟩ := hF.pairs_mem (i := i) (m := o.length) (by rw [hn]; exact lens_at hoi)
 rw [hn] at hpr
 have hcm : lcmL ((lens f n).take (i + 1)) = Nat.lcm (lcmL ((lens f n).take i)) o.length := lcmL_succ (lens_at hoi)
 have hlo : (nvs o).length = o.length := nvs_length o
 repeat (first | apply qN | refine qM rfl rfl ?_ | refine zq4 rfl rfl rfl rfl (inc (by omega)) ?_ | refine zq5 rfl rfl rfl rfl rfl ‹_› ?_ | refine zq6 rfl rfl ‹_› ?_ | refine zq9 rfl rfl rfl rfl ?_ | refine qT rfl ?_ | refine qF rfl ?_ | apply qR | apply qS | apply qK | apply qE | apply qB)
 refine wops_cons (o_index rfl rfl hSl rfl hci fun pt hpt => ?_)
 repeat (first | apply qN | refine qM rfl rfl ?_ | refine zq4 rfl rfl rfl rfl (inc (by omega)) ?_ | refine zq5 rfl rfl rfl rfl rfl ‹_› ?_ | refine zq6 rfl rfl ‹_› ?_ | refine zq9 rfl rfl rfl rfl ?_ | refine qT rfl ?_ | refine qF rfl ?_ | apply qR | apply qS | apply qK | apply qE | apply qB)
 refine wp_drawC (fun b => b = b5) rfl ?_
 refine wc_mob (by decide) (d_load2 rfl rfl rfl rfl hb39 hgb ⟨rfl, ?_⟩) (fun o b h1 h2 => by cases h1; cases h2; rfl)
 refine wc_mob0 (by decide) rfl rfl (wd_move rfl rfl rfl ⟨rfl, ?_⟩)
 refine wc_mob0 (by decide) rfl rfl (wd_lenA rfl rfl rfl rfl rfl rfl (TyS.u (t := 22)) hcS.2 ⟨rfl, ?_⟩)
 rw [hlo]
 refine wc_loud (wd_loudCall rfl rfl rfl (fun b h => by cases h) ?_)
 refine wop_callF rfl rfl rfl (fn := Tryz.f131) (by rfl) ?_
 have q39 : H'.next + 1 < 2 ^ 39 := by omega
 refine ca_oracle ((hP 131 _ H' rfl).trans (perO_io (m := o.length) hms (by omega))) ⟨Nat.le_add_right _ _, .inr (fun b hb => ?_), ?_⟩
 · subst hb
   rw [get_put' q39 (by have := k5'.nx; omega), hgb]
   exact sameBlk_igr _ _
 have k6 : Keeps H' ⟨H'.next + 2, putL H'.tr [(H'.next + 1, blkV 0 o.length)], H'.gl⟩ := keeps_put (Nat.le_succ _) q39
 have g6 : (AH.mk (H'.next + 2) (putL H'.tr [(H'.next + 1, blkV 0 o.length)]) H'.gl).get (H'.next + 1) = some (blkV 0 o.length) := get_put q39
 have n6 : (AH.mk (H'.next + 2) (putL H'.tr [(H'.next + 1, blkV 0 o.length)]) H'.gl).next = H'.next + 2 := rfl
 generalize hpb2 : H'.next + 1 = pb2 at g6 k6 n6 q39 ⊢
 generalize AH.mk (H'.next + 2) (putL H'.tr [(pb2, blkV 0 o.length)]) H'.gl = H6 at k6 g6 n6 ⊢
 have g6' := (k6.get pb hpb').trans hgp
 refine wc_loud (wd_loudCall rfl rfl rfl (fun b h => by cases h) ?_)
 refine wop_callF rfl rfl rfl (fn := Tryz.f133) (by rfl) ?_
 have r39 : H6.next + 26 < 2 ^ 39 := by omega
 refine ca_oracle ((hP 133 _ H6 rfl).trans (perO_cm hpr (cOf_or i) g6' g6 (by omega) (by omega))) ⟨Nat.le_add_right _ _, .inl (by kernel_rfl), ?_⟩
 rw [← hcm]
 have k7 : Keeps H6 ⟨H6.next + 30, putL H6.tr [(H6.next + 26, blkV 1 (lcmL ((lens f n).take (i + 1))))], H6.gl⟩ := keeps_put (by omega) r39
 have g7 : (AH.mk (H6.next + 30) (putL H6.tr [(H6.next + 26, blkV 1 (lcmL ((lens f n).take (i + 1))))]) H6.gl).get (H6.next + 26) = some (blkV 1 (lcmL ((lens f n).take (i + 1)))) := get_put r39
 have n7 : (AH.mk (H6.next + 30) (putL H6.tr [(H6.next + 26, blkV 1 (lcmL ((lens f n).take (i + 1))))]) H6.gl).next = H6.next + 30 := rfl
 generalize hpb3 : H6.next + 26 = pb3 at g7 k7 n7 r39 ⊢
 generalize AH.mk (H6.next + 30) (putL H6.tr [(pb3, blkV 1 (lcmL ((lens f n).take (i + 1))))]) H6.gl = H7 at k7 g7 n7 ⊢
 have k7 := k6.trans k7
 have g7b := (k7.get b5 (by have := k5'.nx; omega)).trans hgb
 refine wc_loud (wd_loud rfl rfl (o_store2 rfl rfl rfl rfl g7b rfl rfl ⟨.inl (by kernel_rfl), ?_⟩))
 refine wc_nil ?_
 repeat (first | apply qN | refine qM rfl rfl ?_ | refine zq4 rfl rfl rfl rfl (inc (by omega)) ?_ | refine zq5 rfl rfl rfl rfl rfl ‹_› ?_ | refine zq6 rfl rfl ‹_› ?_ | refine zq9 rfl rfl rfl rfl ?_ | refine qT rfl ?_ | refine qF rfl ?_ | apply qR | apply qS | apply qK | apply qE | apply qB)
 refine ⟨(cycs f n n).length - (i + 1), by omega, i + 1, [_,_,_,_,_,_,_,_,_,_,_,_,_,_,_,_,_,_,_,_,_,_,_,_,_,_,_,_], pb3, rfl, by omega, by show H5.next ≤ H7.next; omega, by show H7.next ≤ _; omega, by show H7.gl = _; exact k7.gl.trans hgl', fun c hc1 hc2 => ?_, ?_, ?_, by show pb3 < H7.next; omega, by omega, rfl, rfl⟩
 · rw [AH.get_set _ _ _ _ hb39, if_neg hc1]
   exact (k7.get c (by omega)).trans (hg' c hc1 hc2)
 · rw [AH.get_set _ _ _ _ hb39, if_pos rfl]
   rfl
 · rw [AH.get_set _ _ _ _ hb39, if_neg (by omega)]
   exact g7
end Go.Ev
