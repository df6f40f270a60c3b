/- Part of an evaluator of calls that is proved sound, and of what it gives about this program. No condition of its own. -/
import Derived.Test.YtcbmpnddhnkfnaaGreatDoorEwXa
set_option linter.unusedVariables false
set_option linter.unusedSimpArgs false
set_option linter.unusedSectionVars false
set_option maxRecDepth 100000
set_option maxHeartbeats 4000000
namespace Go.Ev
open Go.Proofs
theorem WX.mem {E : Env} {ops : Array Oper} {H0 H : AH} {B : Nat → Prop} {π : List Stp} {T : List AV} {K : List AV → AH → Prop} (P : AH → Prop) (h : P H) (hw : ∀ H, P H → WX E ops H0 B π T H K) : WX E ops H0 B π T H K := hw H h
variable {O : CallF} (hq : Quiet O)
include hq
theorem c91core {m : Mc} {n k : Nat} {e : List Int → List Int → List Int → List Int} (hk20 : k ≤ 20) (hrec : FillC O m n k e) : FillC O m n (k + 1) (fun best load slots => rnd e (wmL m n) load (upB best load) slots) := by
 intro H bp fp mb x vb y0 y1 best load slots hlk hF hgb hvb hvo hy0 hy0o hy1 hy1o hnd hVl hll hbl hr K hk
 refine ca_intro (hq _ _ _ rfl) (fn := Tryz.f91) (by rfl) rfl ?_
 have hb39 : bp < 2 ^ 39 := by have := hF.lb; omega
 have hat : At H (.ptr bp 0) vb := ⟨hb39, _, _, _, hgb, rfl⟩
 have hs0 : Sl H y0 (ivs load) := hy0.sl
 have hsb : Sl H vb (ivs best) := hvb.sl
 repeat (first | refine qM rfl rfl ?_ | refine zq5 rfl rfl rfl rfl rfl ‹_› ?_ | refine zq6 rfl rfl ‹_› ?_ | apply qR | apply qS)
 refine wops_cons (wop_bin (op := .gtr) (v := .bool (decide (best.length < load.length))) rfl rfl rfl rfl ?_ ?_)
 · show some (Value.bool (decide ((best.length : Int) < (load.length : Int)))) = _
   congr 2
   simp only [decide_eq_decide]
   omega
 repeat (first | apply qN)
 refine Wp.mono (Q := fun x' T' M' H' => x' = .normal ∧ M' = [] ∧ KX bp H H' ∧ H'.next = H.next ∧ ∃ (vb1 : AV) (Y : List AV), H'.get bp = some (.cells [vb1] 22 0) ∧ Gr H' 3 vb1 (ivs (upB best load)) ∧ vb1.own ≠ some bp ∧ T' = (y0 :: y1 :: .ptr bp 0 :: .ptr fp 0 :: .ptr mb 0 :: lget Y 0 :: lget Y 1 :: lget Y 2 :: lget Y 3 :: lget Y 4 :: lget Y 5 :: lget Y 6 :: lget Y 7 :: lget Y 8 :: lget Y 9 :: lget Y 10 :: lget Y 11 :: lget Y 12 :: lget Y 13 :: lget Y 14 :: lget Y 15 :: lget Y 16 :: lget Y 17 :: lget Y 18 :: lget Y 19 :: lget Y 20 :: lget Y 21 :: lget Y 22 :: lget Y 23 :: lget Y 24 :: lget Y 25 :: lget Y 26 :: lget Y 27 :: lget Y 28 :: lget Y 29 :: lget Y 30 :: lget Y 31 :: [])) ?_ ?_
 · refine wp_cond rfl (fun h => ?_) (fun h => ?_)
   · have h : best.length < load.length := of_decide_eq_true h
     repeat (first | refine qM rfl rfl ?_ | apply qR)
     refine wops_cons (o_store rfl rfl rfl hgb (by show 0 < 1; decide) hs0.one ?_)
     have k1 : KX bp H (H.set bp (some (.cells [y0] 22 0))) := ⟨Nat.le_refl _, rfl, fun b _ hne => get_set_ne hb39 hne⟩
     refine WOps.mem (fun H1 => KX bp H H1 ∧ H1.next = H.next ∧ H1.get bp = some (.cells [y0] 22 0)) ⟨k1, rfl, get_set_eq hb39⟩ ?_
     clear k1
     rintro H1 ⟨k1, n1, g1⟩
     repeat (first | apply qN)
     exact ⟨rfl, rfl, k1, n1, y0, [_,_,_,_,_,_,_,_,_,_,_,_,_,_,_,_,_,_,_,_,_,_,_,_,_,_,_,_,_,_,_,_], g1, by rw [upB, if_pos h]; exact hy0.kx hy0o k1, hy0o, rfl⟩
   · have h : ¬ best.length < load.length := of_decide_eq_false h
     repeat (first | apply qK)
     exact ⟨rfl, rfl, KX.refl bp H, rfl, vb, [_,_,_,_,_,_,_,_,_,_,_,_,_,_,_,_,_,_,_,_,_,_,_,_,_,_,_,_,_,_,_,_], hgb, by rw [upB, if_neg h]; exact hvb, hvo, rfl⟩
 clear hs0 hsb hat hgb hvb hvo
 rintro x' T' M' H1 ⟨rfl, rfl, k1, n1, vb1, Y, g1, hvb1, hvo1, rfl⟩
 show Wp _ _ _ _ _ _ _ _
 have hub : (upB best load).length ≤ 64 := by unfold upB; split <;> omega
 have hs1 : Sl H1 y1 (ivs slots) := (hy1.kx hy1o k1).sl
 repeat (first | apply qN | refine qM rfl rfl ?_ | refine zq5 rfl rfl rfl rfl rfl ‹_› ?_ | apply qR | apply qS | apply qB)
 refine wp_loop (fun q T M H' => ∃ (i : Nat) (vb2 : AV) (best2 : List Int) (Y : List AV), q = slots.length - i ∧ i ≤ slots.length ∧ KX bp H H' ∧ H'.next + cstF (slots.length - i) ≤ H.next + cstF slots.length ∧ H'.get bp = some (.cells [vb2] 22 0) ∧ Gr H' 3 vb2 (ivs best2) ∧ vb2.own ≠ some bp ∧ best2.length ≤ 64 ∧ rnd e (wmL m n) load best2 (slots.drop i) = rnd e (wmL m n) load (upB best load) slots ∧ M = [] ∧ T = (y0 :: y1 :: .ptr bp 0 :: .ptr fp 0 :: .ptr mb 0 :: lget Y 0 :: lget Y 1 :: lget Y 2 :: lget Y 3 :: lget Y 4 :: lget Y 5 :: lget Y 6 :: lget Y 7 :: lget Y 8 :: lget Y 9 :: y1 :: iv (slots.length : Nat) :: iv (i : Nat) :: lget Y 10 :: lget Y 11 :: lget Y 12 :: lget Y 13 :: lget Y 14 :: lget Y 15 :: lget Y 16 :: lget Y 17 :: lget Y 18 :: lget Y 19 :: lget Y 20 :: lget Y 21 :: lget Y 22 :: lget Y 23 :: lget Y 24 :: lget Y 25 :: lget Y 26 :: lget Y 27 :: lget Y 28 :: [])) slots.length
   ⟨0, vb1, upB best load, [_,_,_,_,_,_,_,_,_,_,_,_,_,_,_,_,_,_,_,_,_,_,_,_,_,_,_,_,_], rfl, Nat.zero_le _, k1, by rw [Nat.sub_zero]; omega, g1, hvb1, hvo1, hub, rfl, rfl, rfl⟩ ?_
 clear k1 n1 g1 hvb1 hvo1 hs1
 rintro q T M H2 ⟨i, vb2, best2, Y, hq1, hi, k2, n2, g2, hvb2, hvo2, hb2, hrn, rfl, rfl⟩
 have hF2 := hF.kx k2
 have hy02 := hy0.kx hy0o k2
 have hy12 := hy1.kx hy1o k2
 have hs2 : Sl H2 y1 (ivs slots) := hy12.sl
 repeat (first | apply qR | apply qS)
 refine wops_cons (wop_cmp rfl rfl rfl rfl rfl (fun h => ?_) (fun h => ?_))
 rotate_left
 · have h : ¬ ((i : Int) < (slots.length : Nat)) := of_decide_eq_false h
   have ei : i = slots.length := by omega
   subst ei
   rw [List.drop_length] at hrn
   have hrn : best2 = rnd e (wmL m n) load (upB best load) slots := hrn
   rw [hrn] at hvb2 hb2
   repeat (first | apply qN | refine qF rfl ?_ | apply qS | apply qE)
   show ∃ (r : AV) (H'' : AH), _ ∧ K r H''
   exact ⟨_, _, rfl, hk H2 vb2 k2 (by omega) g2 hvb2 hvo2 hb2⟩
 have h' : (i : Int) < (slots.length : Nat) := of_decide_eq_true h
 have hi' : i < slots.length := by omega
 clear h
 obtain ⟨z, hz⟩ := l_some hi'
 have hzm : z ∈ slots := List.mem_of_getElem? hz
 have hdr : slots.drop i = z :: slots.drop (i + 1) := by
   rw [List.drop_eq_getElem_cons hi']
   congr 1
   rw [List.getElem?_eq_getElem hi'] at hz
   exact Option.some.inj hz
 rw [hdr] at hrn
 have hrn : rnd e (wmL m n) load (e best2 (load ++ [z]) (wmL m n z (slots.drop (i + 1)))) (slots.drop (i + 1)) = rnd e (wmL m n) load (upB best load) slots := hrn
 have hdl : (slots.drop (i + 1)).length = slots.length - (i + 1) := List.length_drop
 have hwl := wmL_len m n z (slots.drop (i + 1))
 have hnd2 : (slots.drop i).Nodup := hnd.sublist (List.drop_sublist _ _)
 rw [hdr] at hnd2
 have hzn : ∀ y ∈ slots.drop (i + 1), z ≠ y := fun y hy e => (List.nodup_cons.1 hnd2).1 (e ▸ hy)
 have hsub : ∀ y ∈ slots.drop (i + 1), y ∈ slots := fun y hy => List.mem_of_mem_drop hy
 have hV2 : ∀ y ∈ slots.drop (i + 1), Vld m [z, y] n := fun y hy => (hVl z hzm).two (hVl y (hsub y hy)) (hzn y hy)
 have hwn : (wmL m n z (slots.drop (i + 1))).Nodup := (List.nodup_cons.1 hnd2).2.sublist (by unfold wmL; exact List.filter_sublist)
 have hwm : ∀ y ∈ wmL m n z (slots.drop (i + 1)), y ∈ slots := fun y hy => hsub y (by unfold wmL at hy; exact (List.mem_filter.1 hy).1)
 obtain ⟨c, hc1, hc2, rfl, hcg⟩ : ∃ c, c < H2.next ∧ c < 2 ^ 39 ∧ y1 = .slu c 0 slots.length 1 ∧ H2.get c = some (.cells (ivs slots) 3 1) := by
   rcases hy12 with ⟨_, e0⟩ | ⟨c, q1, q2, q3, q4⟩
   · have : slots = [] := by cases slots with | nil => rfl | cons a l => simp [ivs] at e0
     rw [this] at hi'; exact absurd hi' (Nat.not_lt_zero _)
   · exact ⟨c, q1, q2, by rw [q3, ivs_length], q4⟩
 have hcb : c ≠ bp := fun e => hy1o (by rw [e]; rfl)
 have hcs : cstF (slots.length - i) = cstF (slots.length - (i + 1)) + (cstF (slots.length - (i + 1)) + ((slots.length - (i + 1)) * 1000000 + 100)) := by
   rw [show slots.length - i = (slots.length - (i + 1)) + 1 by omega]; rfl
 have hcm : cstF (wmL m n z (slots.drop (i + 1))).length ≤ cstF (slots.length - (i + 1)) := cstF_mono (by omega)
 generalize hC : cstF (slots.length - (i + 1)) = C at hcs hcm
 generalize hD : cstF (slots.length - i) = D at hcs n2
 generalize hW : cstF (wmL m n z (slots.drop (i + 1))).length = W at hcm
 have hatf : At H2 (.ptr fp 0) (.fn (.func 91) [] [.ptr bp 0, .ptr fp 0, .ptr mb 0]) := ⟨by have := hF2.lf; omega, _, _, _, hF2.gf, rfl⟩
 have hbm := hF2.bm
 have hkk : (slots.length - (i + 1)) * 1000000 ≤ 20 * 1000000 := Nat.mul_le_mul_right _ (by omega)
 repeat (first | apply qN | refine qM rfl rfl ?_ | refine qT rfl ?_ | apply qR | apply qS | apply qK | apply qB)
 refine wops_cons (o_indexI rfl rfl hs2 rfl hz fun pp hpp => ?_)
 repeat (first | apply qN | refine qM rfl rfl ?_ | refine zq6 rfl rfl ‹_› ?_)
 rcases Nat.lt_or_ge (i + 1) slots.length with hlt | hge
 · refine wp_drawX (fun b => b = fp ∨ b = mb ∨ b = c) (fun b hb => ?_) rfl ?_
   · rcases hb with rfl | rfl | rfl
     · rw [hF2.gf]; simp [sameBlk, beqs, AV.beq]
     · have := hF2.bm.lk hF2.lm hF2.hx _ rfl; exact this.2
     · rw [hcg]; exact sameBlk_ivs slots 3 1
   have hBk : ∀ {H' : AH}, Keeps H2 H' → ∀ b, (b = fp ∨ b = mb ∨ b = c) → H'.get b = H2.get b := fun k b hb => k.get b (by rcases hb with rfl | rfl | rfl; exact hF2.lf; exact hF2.lm; exact hc1)
   refine x_load rfl rfl rfl hatf (fun b hb => by cases hb; exact .inl rfl) ?_
   refine x_move rfl rfl rfl ?_
   refine x_move rfl rfl rfl ?_
   refine x_load4 rfl rfl rfl rfl hbm (fun b hb => by cases hb; exact .inr (.inl rfl)) ?_
   refine x_move rfl rfl rfl ?_
   refine x_move rfl rfl rfl ?_
   refine x_move rfl rfl rfl ?_
   refine x_bin (op := .add) rfl rfl rfl rfl rfl (inc (by omega)) ?_
   refine x_slFromU rfl rfl rfl rfl rfl hlt hc2 hcg (by rw [ivs_length]; exact Nat.le_refl _) (.inr (.inr rfl)) ?_
   refine x_call rfl rfl rfl (fun b h => by cases h) (wop_callF rfl rfl rfl (fn := Tryz.f92) (by rfl) ?_)
   refine cCloneG hq H2 y0 load hy02 (by omega) (by omega) _ fun H5 r5 k5 n5 hA5 hn5 => ⟨k5.nx, hBk k5, ?_⟩
   have r39 : H5.next < 2 ^ 39 := by omega
   refine x_build1 rfl rfl rfl rfl r39 ?_
   refine WX.mem (fun H6 => Keeps H2 H6 ∧ H6.next = H5.next + 1 ∧ Ap H6 r5 load ∧ H6.get H5.next = some (.cells [iv z] 3 0)) ⟨k5.add _ r39, rfl, hA5.keep ((Keeps.refl H5).add _ r39), get_add_eq r39⟩ ?_
   rintro H6 ⟨k6, n6, hA6, g6⟩
   refine x_loud rfl rfl (o_append1A (H0 := H2) (l := load) (z := z) rfl rfl rfl rfl rfl (by omega) (by omega) rfl g6 hA6 hn5 k6 fun r7 H7 hA7 hn7 k7 n7 _ => ⟨hBk k7, ?_⟩)
   have hg7 : Gr H7 3 r7 (ivs (load ++ [z])) := hA7.gr (by simp)
   have hF7 := hF2.kx (k7.kx bp)
   refine x_call rfl rfl rfl (fun b h => by cases h) (wop_callF rfl rfl rfl (fn := Tryz.f93) (by rfl) ?_)
   have hsl7 : Sl H7 (.slu c (i + 1) (slots.length - (i + 1)) 1) (ivs (slots.drop (i + 1))) := ⟨by rw [ivs_length, hdl], hc2, rfl, _, _, _, (k7.get c hc1).trans hcg, fun j v hj => by
     have e1 : ivs (slots.drop (i + 1)) = (ivs slots).drop (i + 1) := by simp [ivs, List.map_drop]
     rw [e1, List.getElem?_drop] at hj
     exact hj⟩
   refine c93 hq H7 _ x _ m z (slots.drop (i + 1)) n rfl hF7.hx hF7.ho hsl7 (fun b hb => by cases hb; exact Nat.lt_of_lt_of_le hc1 k7.nx) hV2 (by omega) (by omega) _ fun H8 r8 k8 n8 hG8 hn8 => ⟨k8.nx, ?_⟩
   have ho8 : r8.own ≠ some bp := fun e => by have := hn8 bp e; have := hF7.lb; omega
   rw [hdl] at n8
   have k28 := k7.trans k8
   have hg8 : Gr H8 3 r7 (ivs (load ++ [z])) := hg7.frame k8.nx fun b hb => k8.get b (hg7.old b hb)
   have hF8 := hF2.kx (k28.kx bp)
   have hv8 : Gr H8 3 vb2 (ivs best2) := hvb2.kx hvo2 (k28.kx bp)
   have hgb8 : H8.get bp = some (.cells [vb2] 22 0) := (k28.get bp hF2.lb).trans g2
   refine ⟨hBk k28, ?_⟩
   refine x_call rfl rfl rfl (fun b h => by cases h) (wop_callFn rfl rfl rfl rfl (by rfl) ?_)
   refine hrec H8 bp fp mb x vb2 r7 r8 best2 (load ++ [z]) _ (by omega) hF8 hgb8 hv8 hvo2 hg8 (fun e => by have := hn7 bp e; have := hF2.lb; have := k6.nx; omega) hG8 ho8 hwn (fun y hy => hVl y (hwm y hy)) (by rw [List.length_append]; show load.length + 1 + _ ≤ 64; omega) hb2 (by rw [hW]; omega) _ fun H9 vb3 k9 n9 g9 hv9 ho9 hl9 => ⟨k9.nx, fun b hb => (k9.get b (by rcases hb with rfl | rfl | rfl; exact hF8.lf; exact hF8.lm; exact Nat.lt_of_lt_of_le hc1 k28.nx) (by rcases hb with rfl | rfl | rfl; exact hF.nf; exact hF.nm; exact hcb)).trans (hBk k28 b hb), ?_⟩
   rw [hW] at n9
   refine x_nil ?_
   repeat (first | apply qN | refine qM rfl rfl ?_ | refine zq4 rfl rfl rfl rfl (inc (by omega)) ?_ | apply qR)
   refine ⟨slots.length - (i + 1), by omega, i + 1, vb3, _, [_,_,_,_,_,_,_,_,_,_,_,_,_,_,_,_,_,_,_,_,_,_,_,_,_,_,_,_,_], rfl, by omega, (k2.trans (k28.kx bp)).trans k9, by rw [hC]; omega, g9, hv9, ho9, hl9, hrn, rfl, rfl⟩
 · refine wp_drawX (fun b => b = fp ∨ b = mb ∨ b = c) (fun b hb => ?_) rfl ?_
   · rcases hb with rfl | rfl | rfl
     · rw [hF2.gf]; simp [sameBlk, beqs, AV.beq]
     · have := hF2.bm.lk hF2.lm hF2.hx _ rfl; exact this.2
     · rw [hcg]; exact sameBlk_ivs slots 3 1
   have hBk : ∀ {H' : AH}, Keeps H2 H' → ∀ b, (b = fp ∨ b = mb ∨ b = c) → H'.get b = H2.get b := fun k b hb => k.get b (by rcases hb with rfl | rfl | rfl; exact hF2.lf; exact hF2.lm; exact hc1)
   refine x_load rfl rfl rfl hatf (fun b hb => by cases hb; exact .inl rfl) ?_
   refine x_move rfl rfl rfl ?_
   refine x_move rfl rfl rfl ?_
   refine x_load4 rfl rfl rfl rfl hbm (fun b hb => by cases hb; exact .inr (.inl rfl)) ?_
   refine x_move rfl rfl rfl ?_
   refine x_move rfl rfl rfl ?_
   refine x_move rfl rfl rfl ?_
   refine x_bin (op := .add) rfl rfl rfl rfl rfl (inc (by omega)) ?_
   obtain ⟨l', hl'⟩ : ∃ l', slots.length = l' + 1 := ⟨slots.length - 1, by omega⟩
   refine x_slFromE (n := l') rfl rfl rfl (by rw [← hl']; rfl) (by rw [← hl', ← show i + 1 = slots.length by omega]; rfl) hc2 hcg (by rw [ivs_length]; omega) (.inr (.inr rfl)) ?_
   refine x_call rfl rfl rfl (fun b h => by cases h) (wop_callF rfl rfl rfl (fn := Tryz.f92) (by rfl) ?_)
   refine cCloneG hq H2 y0 load hy02 (by omega) (by omega) _ fun H5 r5 k5 n5 hA5 hn5 => ⟨k5.nx, hBk k5, ?_⟩
   have r39 : H5.next < 2 ^ 39 := by omega
   refine x_build1 rfl rfl rfl rfl r39 ?_
   refine WX.mem (fun H6 => Keeps H2 H6 ∧ H6.next = H5.next + 1 ∧ Ap H6 r5 load ∧ H6.get H5.next = some (.cells [iv z] 3 0)) ⟨k5.add _ r39, rfl, hA5.keep ((Keeps.refl H5).add _ r39), get_add_eq r39⟩ ?_
   rintro H6 ⟨k6, n6, hA6, g6⟩
   refine x_loud rfl rfl (o_append1A (H0 := H2) (l := load) (z := z) rfl rfl rfl rfl rfl (by omega) (by omega) rfl g6 hA6 hn5 k6 fun r7 H7 hA7 hn7 k7 n7 _ => ⟨hBk k7, ?_⟩)
   have hg7 : Gr H7 3 r7 (ivs (load ++ [z])) := hA7.gr (by simp)
   have hF7 := hF2.kx (k7.kx bp)
   refine x_call rfl rfl rfl (fun b h => by cases h) (wop_callF rfl rfl rfl (fn := Tryz.f93) (by rfl) ?_)
   refine c93e hq H7 _ x m z c 0 (l' + 1) rfl (by omega) _ fun H8 k8 n8 => ⟨k8.nx, ?_⟩
   have hd0 : slots.drop (i + 1) = [] := List.eq_nil_of_length_eq_zero (by omega)
   obtain ⟨r8, hr8⟩ : ∃ r8 : AV, r8 = .v (.slice none 0 0) := ⟨_, rfl⟩
   rw [← hr8]
   have hG8 : Gr H8 3 r8 (ivs (wmL m n z (slots.drop (i + 1)))) := by rw [hd0, hr8]; exact .inl ⟨rfl, rfl⟩
   have ho8 : r8.own ≠ some bp := by rw [hr8]; exact fun e => by cases e
   have n8 : H8.next ≤ H7.next + 1 + (slots.length - (i + 1)) * 1000000 := by omega
   have k28 := k7.trans k8
   have hg8 : Gr H8 3 r7 (ivs (load ++ [z])) := hg7.frame k8.nx fun b hb => k8.get b (hg7.old b hb)
   have hF8 := hF2.kx (k28.kx bp)
   have hv8 : Gr H8 3 vb2 (ivs best2) := hvb2.kx hvo2 (k28.kx bp)
   have hgb8 : H8.get bp = some (.cells [vb2] 22 0) := (k28.get bp hF2.lb).trans g2
   refine ⟨hBk k28, ?_⟩
   refine x_call rfl rfl rfl (fun b h => by cases h) (wop_callFn rfl rfl rfl rfl (by rfl) ?_)
   refine hrec H8 bp fp mb x vb2 r7 r8 best2 (load ++ [z]) _ (by omega) hF8 hgb8 hv8 hvo2 hg8 (fun e => by have := hn7 bp e; have := hF2.lb; have := k6.nx; omega) hG8 ho8 hwn (fun y hy => hVl y (hwm y hy)) (by rw [List.length_append]; show load.length + 1 + _ ≤ 64; omega) hb2 (by rw [hW]; omega) _ fun H9 vb3 k9 n9 g9 hv9 ho9 hl9 => ⟨k9.nx, fun b hb => (k9.get b (by rcases hb with rfl | rfl | rfl; exact hF8.lf; exact hF8.lm; exact Nat.lt_of_lt_of_le hc1 k28.nx) (by rcases hb with rfl | rfl | rfl; exact hF.nf; exact hF.nm; exact hcb)).trans (hBk k28 b hb), ?_⟩
   rw [hW] at n9
   refine x_nil ?_
   repeat (first | apply qN | refine qM rfl rfl ?_ | refine zq4 rfl rfl rfl rfl (inc (by omega)) ?_ | apply qR)
   refine ⟨slots.length - (i + 1), by omega, i + 1, vb3, _, [_,_,_,_,_,_,_,_,_,_,_,_,_,_,_,_,_,_,_,_,_,_,_,_,_,_,_,_,_], rfl, by omega, (k2.trans (k28.kx bp)).trans k9, by rw [hC]; omega, g9, hv9, ho9, hl9, hrn, rfl, rfl⟩
end Go.Ev
namespace Go.Ev
open Go.Proofs
def ext (w : Int → List Int → List Int) : Nat → List Int → List Int → List Int → List Int
 | 0 => fun best load slots => rnd (fun b _ _ => b) w load (upB best load) slots
 | k + 1 => fun best load slots => rnd (ext w k) w load (upB best load) slots
noncomputable def fillL (m : Mc) (n : Nat) : List Int := ext (wmL m n) (4 * n) [] [] (freeL m n [] (4 * n))
instance : Zero 120 .nilFunc := ⟨by kernel_rfl, rfl, by kernel_rfl, by kernel_rfl⟩
theorem freeL_nodup (m : Mc) (n : Nat) (l : List Int) (i : Nat) : (freeL m n l i).Nodup := by
 unfold freeL
 rw [List.nodup_iff_pairwise_ne, List.pairwise_map]
 exact (List.nodup_iff_pairwise_ne.1 (List.nodup_range.sublist List.filter_sublist)).imp fun h e => h (Int.ofNat.inj e)
theorem freeL_mem {m : Mc} {n : Nat} {l : List Int} {i : Nat} {z : Int} (h : z ∈ freeL m n l i) : 0 ≤ z ∧ z < (i : Nat) := by
 unfold freeL at h
 obtain ⟨k, hk, rfl⟩ := List.mem_map.1 h
 have := List.mem_range.1 (List.mem_filter.1 hk).1
 omega
theorem never_nil (m : Mc) (n : Nat) : never m [] n := fun j p h1 h2 => by
 have e : ∀ j, nowL (permL m n) [] j = [] := fun j => by
   have := now_length (permL m n) [] j
   exact List.eq_nil_of_length_eq_zero this
 rw [e]
 simp [mtB, psL]
variable {O : CallF} (hq : Quiet O)
include hq
theorem c91x (m : Mc) (n : Nat) : ∀ k, k ≤ 19 → FillC O m n (k + 1) (ext (wmL m n) k)
 | 0, _ => c91core hq (by omega) (fun H bp fp mb x vb y0 y1 best load slots h => absurd h (Nat.not_lt_zero _))
 | k + 1, h => c91core hq (by omega) (c91x m n k (by omega))
theorem c37 (H : AH) (a : AV) (xv : Value) (m : Mc) (n : Nat) (ha : a.cells = mc m (.v xv)) (hx : Sl H (.v xv) (ivs m.sw)) (hV : Vld m [] n) (hn3 : n ≤ 3) (hr : H.next + 10000000000 < 2 ^ 39)
   (K : AV → AH → Prop) (hk : ∀ H' r, Keeps H H' → H'.next ≤ H.next + 9000000000 → Gr H' 3 r (ivs (fillL m n)) → K (.tup [r, iv 0]) H') : Ca (ENV O) 37 [a] H K := by
 refine ca_intro (hq _ _ _ rfl) (fn := Tryz.f37) (by rfl) rfl ?_
 have hg := hV.hg
 have hsw := hV.hsw
 have hm0 := hV.hm0
 have ho : Old H (.v xv) := Old.v _
 repeat (first | apply qR | apply qS)
 refine wops_cons (o_boxM rfl rfl ha (by omega) fun H1 n1 k1 b1 => ?_)
 have hp1 := b1.p1
 rw [hg] at hp1
 have hL1 : ∀ b, (AV.ptr H.next 0).own = some b → Lk H1 b := b1.lk (by omega) (hx.keep ho k1)
 repeat (first | apply qN | refine qM rfl rfl ?_ | apply qS)
 refine Wp.mono (Q := fun x' T' M' H' => x' = .normal ∧ M' = [] ∧ Keeps H1 H' ∧ H'.next ≤ H1.next + 2000 ∧ ∃ (Y : List AV), T' = (lget Y 0 :: .ptr H.next 0 :: lget Y 1 :: lget Y 2 :: iv 0 :: lget Y 3 :: lget Y 4 :: lget Y 5 :: lget Y 6 :: lget Y 7 :: lget Y 8 :: lget Y 9 :: lget Y 10 :: lget Y 11 :: lget Y 12 :: lget Y 13 :: lget Y 14 :: lget Y 15 :: lget Y 16 :: lget Y 17 :: lget Y 18 :: lget Y 19 :: lget Y 20 :: lget Y 21 :: lget Y 22 :: lget Y 23 :: lget Y 24 :: lget Y 25 :: lget Y 26 :: lget Y 27 :: [])) (wp_drawK rfl ?_) ?_
 · repeat (first | refine k_field rfl rfl rfl rfl ?_ | refine k_load rfl rfl rfl ‹_› ‹_› ?_ | refine k_load4 rfl rfl rfl rfl ‹_› ‹_› ?_)
   refine k_bin (op := .leq) (v := .bool true) rfl rfl rfl rfl rfl (by
     show some (Value.bool (decide ((n : Int) ≤ 4))) = _
     rw [decide_eq_true (by omega)]) ?_
   skip
   refine k_call rfl rfl rfl (fun b h => by cases h) (wop_callF rfl rfl rfl (fn := Tryz.f17) (by rfl) ?_)
   refine c17 hq H1 _ (.v xv) m rfl (hx.keep ho k1) (ho.keep k1) (by omega) (by omega) _ fun H2 k2 n2 => ⟨k2.nx, k2, ?_⟩
   rw [hm0]
   skip
   refine k_call rfl rfl rfl (fun b h => by cases h) (wop_callF rfl rfl rfl (fn := Tryz.f74) (by rfl) ?_)
   refine c74 hq H2 true 22 _ ⟨Nat.le_refl _, k2, ?_⟩
   have r2 : H2.next < 2 ^ 39 := by omega
   refine k_loud rfl rfl (o_build2 rfl rfl rfl rfl r2 ⟨k2.add _ r2, ?_⟩)
   refine k_call rfl rfl rfl (fun b h => by cases h) (wop_callF rfl rfl rfl (fn := Tryz.f72) (by rfl) ?_)
   refine c72 hq _ _ [0, 0] (sl_new (cs := ivs [0, 0]) r2 2) (by decide) _ ⟨Nat.le_refl _, k2.add _ r2, ?_⟩
   repeat (first | refine k_nil ?_ | refine k_assign rfl rfl rfl ?_)
   exact ⟨rfl, rfl, k2.add _ r2, by show H2.next + 1 ≤ _; omega, [_,_,_,_,_,_,_,_,_,_,_,_,_,_,_,_,_,_,_,_,_,_,_,_,_,_,_,_], rfl⟩
 clear hp1 hL1
 rintro x' T' M' H2 ⟨rfl, rfl, k2, n2, Y, rfl⟩
 show Wp _ _ _ _ _ _ _ _
 have k02 := k1.trans k2
 have l2 := k2.nx
 have b2 := b1.keep (by omega) k2
 repeat (first | refine qM rfl rfl ?_ | apply qR | apply qS)
 refine wops_cons (wop_bin (op := .neq) (v := .bool false) rfl rfl rfl rfl rfl ?_)
 repeat (first | apply qN | refine qF rfl ?_ | apply qR | apply qS | apply qK)
 have r2 : H2.next < 2 ^ 39 := by omega
 refine wops_cons (o_alloc rfl rfl r2 ?_)
 refine WOps.mem (fun H3 => Keeps H2 H3 ∧ H3.next = H2.next + 1 ∧ H3.get H2.next = some (.cells [.v (.slice none 0 0)] 22 0)) ⟨(Keeps.refl H2).add _ r2, rfl, get_add_eq r2⟩ ?_
 rintro H3 ⟨k3, n3, g3⟩
 repeat (first | apply qN | apply qR | apply qS)
 have r3 : H3.next < 2 ^ 39 := by omega
 refine wops_cons (o_alloc rfl rfl r3 ?_)
 refine WOps.mem (fun H4 => Keeps H3 H4 ∧ H4.next = H3.next + 1 ∧ H4.get H3.next = some (.cells [.v .nilFunc] 120 0)) ⟨(Keeps.refl H3).add _ r3, rfl, get_add_eq r3⟩ ?_
 rintro H4 ⟨k4, n4, g4⟩
 repeat (first | apply qN | apply qR | apply qS)
 refine wops_cons (wop_makeFunc rfl rfl ?_)
 skip
 refine wops_cons (o_store rfl rfl rfl g4 (by show 0 < 1; decide) rfl ?_)
 refine WOps.mem (fun H5 => Keeps H3 H5 ∧ H5.next = H4.next ∧ H5.get H3.next = some (.cells [.fn (.func 91) [] [.ptr H2.next 0, .ptr H3.next 0, .ptr H.next 0]] 120 0)) ⟨k4.set _ (Nat.le_refl _) r3, rfl, get_set_eq r3⟩ ?_
 rintro H5 ⟨k5, n5, g5⟩
 have k35 := k3.trans k5
 have k05 := k02.trans k35
 have b5 := b2.keep (by omega) k35
 repeat (first | apply qN | refine zqb rfl rfl rfl ‹_› ?_ | apply qR | apply qS)
 refine wops_cons (wop_callF rfl rfl rfl (fn := Tryz.f39) (by rfl) ?_)
 refine cFreeV hq H5 _ (.v xv) (.slice none 0 0) m [] n rfl (hx.keep ho k05) (ho.keep k05) ⟨rfl, .inl rfl⟩ (Nat.le_refl _) hV (by decide) (never_nil m n) (by omega) _ fun H6 y1 fr k6 n6 hy1 hfr => ⟨k6.nx, ?_⟩
 have l6 := k6.nx
 have hfl : fr.length ≤ 4 * n := by rw [hfr]; exact freeL_len _ _ _ _
 have k06 := k05.trans k6
 have g6 : H6.get H3.next = some (.cells [.fn (.func 91) [] [.ptr H2.next 0, .ptr H3.next 0, .ptr H.next 0]] 120 0) := (k6.get _ (by omega)).trans g5
 have hat6 : At H6 (.ptr H3.next 0) (.fn (.func 91) [] [.ptr H2.next 0, .ptr H3.next 0, .ptr H.next 0]) := ⟨r3, _, _, _, g6, rfl⟩
 have gb6 : H6.get H2.next = some (.cells [.v (.slice none 0 0)] 22 0) := (k6.get _ (by omega)).trans ((k5.get _ (by omega)).trans g3)
 have hcst : cstF fr.length ≤ 8000000000 := Nat.le_trans (cstF_mono (show fr.length ≤ 12 by omega)) (by decide)
 repeat (first | apply qN | refine qM rfl rfl ?_ | refine zq6 rfl rfl ‹_› ?_ | refine zq9 rfl rfl rfl rfl ?_ | apply qR | apply qS)
 refine wops_cons (wop_callFn rfl rfl rfl rfl (by rfl) ?_)
 refine c91x hq m n (4 * n) (by omega) H6 H2.next H3.next H.next (.v xv) (.v (.slice none 0 0)) (.v (.slice none 0 0)) y1 [] [] fr (by omega)
   ⟨g6, b5.keep (by omega) k6, by omega, by omega, by omega, by omega, by omega, hx.keep ho k06, Old.v _, fun e => by cases e⟩ gb6 (.inl ⟨rfl, rfl⟩) (fun e => by cases e) (.inl ⟨rfl, rfl⟩) (fun e => by cases e) hy1 (fun e => ?_) (by rw [hfr]; exact freeL_nodup _ _ _ _) (fun z hz => ?_) (by show 0 + fr.length ≤ 64; omega) (by decide) (by omega) _ fun H7 vb k7 n7 g7 hv7 ho7 hl7 => ⟨k7.nx, ?_⟩
 · rcases hy1 with ⟨rfl, _⟩ | ⟨c, _, _, rfl, hc⟩
   · cases e
   · have e : c = H2.next := Option.some.inj e
     rw [e, gb6] at hc
     simp at hc
 · rw [hfr] at hz
   have := freeL_mem hz
   exact hV.sub (fun y hy => by rw [List.mem_singleton.1 hy]; exact this) (by simp)
 have hat7 : At H7 (.ptr H2.next 0) vb := ⟨r2, _, _, _, g7, rfl⟩
 repeat (first | apply qN | refine qM rfl rfl ?_ | refine zq6 rfl rfl ‹_› ?_ | apply qR | apply qS)
 refine wp_ret ?_
 exact ⟨_, _, rfl, hk H7 vb ⟨by have := k06.nx; have := k7.nx; omega, k7.gl.trans k06.gl, fun b hb => (k7.get b (by have := k06.nx; omega) (by omega)).trans (k06.get b hb)⟩ (by omega) (by rw [hfr] at hv7; exact hv7)⟩
end Go.Ev
