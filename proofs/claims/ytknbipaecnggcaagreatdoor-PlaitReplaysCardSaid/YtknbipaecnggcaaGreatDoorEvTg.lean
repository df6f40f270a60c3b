/- Part of an evaluator of calls that is proved sound, and of what it gives about this program. No condition of its own. -/
import Derived.Test.YtknbipaecnggcaaGreatDoorEvTe
set_option linter.unusedVariables false
set_option linter.unusedSimpArgs false
set_option linter.unusedSectionVars false
set_option maxRecDepth 1000000
set_option maxHeartbeats 4000000
namespace Go.Ev
open Go.Proofs
theorem Gr.keep {H H' : AH} {r : AV} {l : List AV} (h : Gr H 3 r l) (k : Keeps H H') : Gr H' 3 r l := h.frame k.nx fun b hb => k.get b (h.old b hb)
def rpA (l : List Int) (ms : List (Int × Int)) : List Int := if rpE l ms = 0 then (rpL l 0 ms).1 else []
def rpR (l : List Int) (ms : List (Int × Int)) : List (Int × Int) := if rpE l ms = 0 then (rpL l 0 ms).2 else []
def unA (ms : List (Int × Int)) : List (Int × Int) := if mvE ms = 0 then unL ms else []
theorem unA_len (ms : List (Int × Int)) : (unA ms).length ≤ ms.length := by
 unfold unA
 by_cases h : mvE ms = 0
 · rw [if_pos h]; simp [unL]
 · rw [if_neg h]; simp
theorem rpL_len : ∀ (ms : List (Int × Int)) (l : List Int) (i : Nat), (rpL l i ms).1.length = l.length ∧ (rpL l i ms).2.length ≤ ms.length
 | [], l, i => ⟨rfl, Nat.zero_le _⟩
 | p :: ms, l, i => by
   unfold rpL
   by_cases h : refE l p.1 p.2 = 0
   · rw [if_pos h]
     have := rpL_len ms (nxL l p.1 p.2) (i + 1)
     rw [nxL_len] at this
     exact ⟨this.1, by rw [List.length_cons]; omega⟩
   · rw [if_neg h]
     have := rpL_len ms l (i + 1)
     exact ⟨this.1, by simp only [List.length_cons]; omega⟩
variable {O : CallF} (hq : Quiet O)
include hq
theorem c4l (H : AH) (hA : ∀ H', H'.gl = H.gl → O 12 [] H' = some (.v (.bool true), H')) (yv xv : Value) (l : List Int) (ms : List (Int × Int)) (hy : Sl H (.v yv) (ivs l)) (hx : W2 H xv ms) (hr : H.next ≤ 1000) (K : AV → AH → Prop) (hk : ∀ H', K (.v (.bool true)) H') : Ca (ENV O) 4 [.v yv, .v xv] H K := by
 refine ca_intro (hq _ _ _ rfl) (fn := Tryz.f4) (by rfl) rfl ?_
 have hoy : ∀ H', Old H' (.v yv) := fun H' => Old.v _
 repeat (first | apply qN | refine qM rfl rfl ?_ | apply qR | apply qS)
 refine wops_cons (wop_callF rfl rfl rfl (fn := Tryz.f11) (by rfl) ?_)
 refine cShort hq H _ l hy _ ⟨Nat.le_refl _, ?_⟩
 by_cases hs : (l.length : Int) ≤ 66
 rotate_left
 · rw [decide_eq_false hs]
   repeat (first | apply qN | refine zq1 rfl rfl ?_ | refine qM rfl rfl ?_ | refine zq7 rfl rfl rfl ?_ | refine zq8 rfl rfl rfl ?_ | refine qT rfl ?_ | apply qR | apply qS)
   refine wops_cons (wop_callF rfl rfl rfl (fn := Tryz.f12) (by rfl) ?_)
   refine ca_oracle (hA _ rfl) ⟨Nat.le_refl _, ?_⟩
   repeat (first | apply qN | refine qM rfl rfl ?_)
   refine wp_ret ?_
   exact ⟨_, _, rfl, hk _⟩
 have hl : l.length ≤ 66 := by omega
 rw [decide_eq_true hs]
 repeat (first | refine qM rfl rfl ?_ | refine zq8 rfl rfl rfl ?_)
 refine wops_cons (wop_callF rfl rfl rfl (fn := Tryz.f21) (by rfl) ?_)
 refine cShortM hq H xv ms hx _ ⟨Nat.le_refl _, ?_⟩
 have hsm : (decide ((ms.length : Int) ≤ 40) || (decide ((ms.length : Int) > 1000) && decide ((ms.length : Int) ≤ 1002))) = true → ms.length ≤ 1002 := fun h => by
   rcases Bool.or_eq_true_iff.1 h with h | h
   · have := of_decide_eq_true h; omega
   · have := of_decide_eq_true (Bool.and_eq_true_iff.1 h).2; omega
 generalize (decide ((ms.length : Int) ≤ 40) || (decide ((ms.length : Int) > 1000) && decide ((ms.length : Int) ≤ 1002))) = sm at hsm ⊢
 cases sm with
 | false =>
   repeat (first | apply qN | refine zq7 rfl rfl rfl ?_ | refine zq8 rfl rfl rfl ?_ | refine qT rfl ?_ | apply qR | apply qS)
   refine wops_cons (wop_callF rfl rfl rfl (fn := Tryz.f12) (by rfl) ?_)
   refine ca_oracle (hA _ rfl) ⟨Nat.le_refl _, ?_⟩
   repeat (first | apply qN | refine qM rfl rfl ?_)
   refine wp_ret ?_
   exact ⟨_, _, rfl, hk _⟩
 | true =>
   have hml := hsm rfl
   clear hsm
   repeat (first | apply qN | refine qM rfl rfl ?_ | refine zq7 rfl rfl rfl ?_ | refine zq8 rfl rfl rfl ?_ | refine qF rfl ?_ | apply qR | apply qS | apply qK)
   refine WOps.mono (K := fun T' H' => Keeps H H' ∧ H'.next ≤ H.next + 15000 ∧ ∃ r rr, Gr H' 3 r (ivs (rpA l ms)) ∧ G2 H' 105 rr (rpR l ms) ∧ ∃ (Y : List AV), T' = (.v yv :: .v xv :: lget Y 0 :: lget Y 1 :: lget Y 2 :: r :: rr :: iv (rpE l ms) :: lget Y 3 :: lget Y 4 :: lget Y 5 :: lget Y 6 :: lget Y 7 :: lget Y 8 :: lget Y 9 :: lget Y 10 :: lget Y 11 :: lget Y 12 :: lget Y 13 :: lget Y 14 :: lget Y 15 :: lget Y 16 :: lget Y 17 :: lget Y 18 :: lget Y 19 :: lget Y 20 :: lget Y 21 :: lget Y 22 :: lget Y 23 :: lget Y 24 :: lget Y 25 :: lget Y 26 :: lget Y 27 :: lget Y 28 :: lget Y 29 :: lget Y 30 :: lget Y 31 :: lget Y 32 :: lget Y 33 :: lget Y 34 :: lget Y 35 :: lget Y 36 :: lget Y 37 :: lget Y 38 :: lget Y 39 :: lget Y 40 :: lget Y 41 :: lget Y 42 :: lget Y 43 :: lget Y 44 :: lget Y 45 :: lget Y 46 :: lget Y 47 :: lget Y 48 :: lget Y 49 :: lget Y 50 :: lget Y 51 :: lget Y 52 :: lget Y 53 :: lget Y 54 :: lget Y 55 :: lget Y 56 :: lget Y 57 :: lget Y 58 :: lget Y 59 :: lget Y 60 :: lget Y 61 :: lget Y 62 :: lget Y 63 :: lget Y 64 :: lget Y 65 :: lget Y 66 :: lget Y 67 :: lget Y 68 :: lget Y 69 :: lget Y 70 :: lget Y 71 :: lget Y 72 :: lget Y 73 :: lget Y 74 :: lget Y 75 :: lget Y 76 :: lget Y 77 :: lget Y 78 :: lget Y 79 :: lget Y 80 :: lget Y 81 :: lget Y 82 :: lget Y 83 :: lget Y 84 :: lget Y 85 :: lget Y 86 :: lget Y 87 :: lget Y 88 :: lget Y 89 :: lget Y 90 :: lget Y 91 :: lget Y 92 :: lget Y 93 :: lget Y 94 :: [])) ?_ ?_
   · refine wops_cons (wop_callF rfl rfl rfl (fn := Tryz.f14) (by rfl) ?_)
     refine cNums hq H yv l hy (by omega) (by omega) _ fun H2 r2 k2 n2 hA2 hn2 => ⟨k2.nx, ?_⟩
     repeat (first | refine qM rfl rfl ?_)
     refine wops_cons (wop_callF rfl rfl rfl (fn := Tryz.f23) (by rfl) ?_)
     refine cMoves hq H2 xv ms (hx.keep k2) (by omega) (by omega) _ fun H3 r3 k3 n3 hG3 hn3 => ⟨k3.nx, ?_⟩
     have hK2 := hA2.ky
     refine wops_cons (wop_callF rfl rfl rfl (fn := Tryz.f22) (by rfl) ?_)
     refine cReplay hq H3 r2 l r3 ms (hK2.sl.keep hK2.old k3) (hK2.old.keep k3) (fun h => (hA2.gr h).keep k3) hG3.s2 (by omega) (by omega) _ (fun h0 H4 k4 n4 => ⟨k4.nx, ?_⟩) (fun h0 H4 r rr k4 n4 hGr hown hG4 => ⟨k4.nx, ?_⟩)
     · repeat (first | apply qN | refine qM rfl rfl ?_ | refine zq9 rfl rfl rfl rfl ?_)
       exact ⟨(k2.trans k3).trans k4, by omega, .v (.slice none 0 0), .v (.slice none 0 0), .inl ⟨rfl, by unfold rpA; rw [if_neg h0]; rfl⟩, .inl ⟨rfl, by unfold rpR; rw [if_neg h0]⟩, [_,_,_,_,_,_,_,_,_,_,_,_,_,_,_,_,_,_,_,_,_,_,_,_,_,_,_,_,_,_,_,_,_,_,_,_,_,_,_,_,_,_,_,_,_,_,_,_,_,_,_,_,_,_,_,_,_,_,_,_,_,_,_,_,_,_,_,_,_,_,_,_,_,_,_,_,_,_,_,_,_,_,_,_,_,_,_,_,_,_,_,_,_,_,_], rfl⟩
     · have hml2 := mvE_len (first2 h0).2
       rw [show rpA l ms = (rpL l 0 ms).1 by unfold rpA; rw [if_pos h0], show rpR l ms = (rpL l 0 ms).2 by unfold rpR; rw [if_pos h0], h0]
       repeat (first | apply qN | refine qM rfl rfl ?_ | refine zq9 rfl rfl rfl rfl ?_)
       exact ⟨(k2.trans k3).trans k4, by omega, r, rr, hGr, hG4, [_,_,_,_,_,_,_,_,_,_,_,_,_,_,_,_,_,_,_,_,_,_,_,_,_,_,_,_,_,_,_,_,_,_,_,_,_,_,_,_,_,_,_,_,_,_,_,_,_,_,_,_,_,_,_,_,_,_,_,_,_,_,_,_,_,_,_,_,_,_,_,_,_,_,_,_,_,_,_,_,_,_,_,_,_,_,_,_,_,_,_,_,_,_,_], rfl⟩
   rintro T' H4 ⟨k04, n4, r, rr, hr4, hrr4, Y, rfl⟩
   show Wp _ _ _ _ _ _ _ _
   repeat (first | refine qM rfl rfl ?_ | apply qR | apply qS)
   refine WOps.mono (K := fun T' H' => Keeps H4 H' ∧ H'.next ≤ H4.next + 7000 ∧ ∃ ur, S2 H' 31 ur (unA ms) ∧ ∃ (Y : List AV), T' = (.v yv :: .v xv :: lget Y 0 :: lget Y 1 :: lget Y 2 :: r :: rr :: iv (rpE l ms) :: ur :: iv (mvE ms) :: lget Y 3 :: lget Y 4 :: lget Y 5 :: lget Y 6 :: lget Y 7 :: lget Y 8 :: lget Y 9 :: lget Y 10 :: lget Y 11 :: lget Y 12 :: lget Y 13 :: lget Y 14 :: lget Y 15 :: lget Y 16 :: lget Y 17 :: lget Y 18 :: lget Y 19 :: lget Y 20 :: lget Y 21 :: lget Y 22 :: lget Y 23 :: lget Y 24 :: lget Y 25 :: lget Y 26 :: lget Y 27 :: lget Y 28 :: lget Y 29 :: lget Y 30 :: lget Y 31 :: lget Y 32 :: lget Y 33 :: lget Y 34 :: lget Y 35 :: lget Y 36 :: lget Y 37 :: lget Y 38 :: lget Y 39 :: lget Y 40 :: lget Y 41 :: lget Y 42 :: lget Y 43 :: lget Y 44 :: lget Y 45 :: lget Y 46 :: lget Y 47 :: lget Y 48 :: lget Y 49 :: lget Y 50 :: lget Y 51 :: lget Y 52 :: lget Y 53 :: lget Y 54 :: lget Y 55 :: lget Y 56 :: lget Y 57 :: lget Y 58 :: lget Y 59 :: lget Y 60 :: lget Y 61 :: lget Y 62 :: lget Y 63 :: lget Y 64 :: lget Y 65 :: lget Y 66 :: lget Y 67 :: lget Y 68 :: lget Y 69 :: lget Y 70 :: lget Y 71 :: lget Y 72 :: lget Y 73 :: lget Y 74 :: lget Y 75 :: lget Y 76 :: lget Y 77 :: lget Y 78 :: lget Y 79 :: lget Y 80 :: lget Y 81 :: lget Y 82 :: lget Y 83 :: lget Y 84 :: lget Y 85 :: lget Y 86 :: lget Y 87 :: lget Y 88 :: lget Y 89 :: lget Y 90 :: lget Y 91 :: lget Y 92 :: [])) ?_ ?_
   · refine wops_cons (wop_callF rfl rfl rfl (fn := Tryz.f23) (by rfl) ?_)
     refine cMoves hq H4 xv ms (hx.keep k04) (by omega) (by omega) _ fun H5 r5 k5 n5 hG5 hn5 => ⟨k5.nx, ?_⟩
     refine wops_cons (wop_callF rfl rfl rfl (fn := Tryz.f24) (by rfl) ?_)
     refine cUndo hq H5 r5 ms hG5.s2 (by omega) _ (fun h0 => ⟨Nat.le_refl _, ?_⟩) (fun h0 H6 r6 k6 n6 hS6 => ⟨k6.nx, ?_⟩)
     · repeat (first | apply qN | refine qM rfl rfl ?_ | refine zq9 rfl rfl rfl rfl ?_)
       exact ⟨k5, by omega, .v (.slice none 0 0), .inl ⟨rfl, by unfold unA; rw [if_neg h0]⟩, [_,_,_,_,_,_,_,_,_,_,_,_,_,_,_,_,_,_,_,_,_,_,_,_,_,_,_,_,_,_,_,_,_,_,_,_,_,_,_,_,_,_,_,_,_,_,_,_,_,_,_,_,_,_,_,_,_,_,_,_,_,_,_,_,_,_,_,_,_,_,_,_,_,_,_,_,_,_,_,_,_,_,_,_,_,_,_,_,_,_,_,_,_], rfl⟩
     · rw [show unA ms = unL ms by unfold unA; rw [if_pos h0], h0]
       repeat (first | apply qN | refine qM rfl rfl ?_ | refine zq9 rfl rfl rfl rfl ?_)
       exact ⟨k5.trans k6, by omega, r6, hS6, [_,_,_,_,_,_,_,_,_,_,_,_,_,_,_,_,_,_,_,_,_,_,_,_,_,_,_,_,_,_,_,_,_,_,_,_,_,_,_,_,_,_,_,_,_,_,_,_,_,_,_,_,_,_,_,_,_,_,_,_,_,_,_,_,_,_,_,_,_,_,_,_,_,_,_,_,_,_,_,_,_,_,_,_,_,_,_,_,_,_,_,_,_], rfl⟩
   rintro T' H6 ⟨k46, n6, ur, hur6, Y, rfl⟩
   have k06 := k04.trans k46
   have hr6 := hr4.keep k46
   have hrr6 := hrr4.keep k46
   clear hr4 hrr4
   show Wp _ _ _ _ _ _ _ _
   repeat (first | refine qM rfl rfl ?_ | apply qR | apply qS)
   refine wops_cons (wop_callF rfl rfl rfl (fn := Tryz.f25) (by rfl) ?_)
   refine cRCkM hq H6 xv ms (hx.keep k06) _ ⟨Nat.le_refl _, ?_⟩
   repeat (first | apply qN | refine qM rfl rfl ?_ | apply qR | apply qS)
   by_cases hm : mvE ms = 0
   · rw [hm]
     refine wops_cons (wop_bin (op := .eql) (v := .bool true) rfl rfl rfl rfl rfl ?_)
     repeat (first | apply qN | refine qM rfl rfl ?_ | refine qT rfl ?_ | apply qR)
     refine wops_cons (wop_callF rfl rfl rfl (fn := Tryz.f26) (by rfl) ?_)
     refine cRUndo hq H6 xv ms (hx.keep k06) (mvE_len hm) (by omega) _ fun H7 u7 k7 n7 hU7 => ⟨k7.nx, ?_⟩
     have hu7 : S2 H7 24 u7 (unA ms) := by rw [show unA ms = unL ms by unfold unA; rw [if_pos hm]]; exact hU7.s2
     have hur7 := hur6.keep k7
     have hr7 := hr6.keep k7
     have hrr7 := hrr6.keep k7
     repeat (first | apply qN | refine qM rfl rfl ?_ | apply qR | apply qS)
     have hu := unA_len ms
     refine wops_cons (wop_callF rfl rfl rfl (fn := Tryz.f28) (by rfl) ?_)
     refine cOwnM hq H7 ur (unA ms) hur7 (by omega) (by omega) _ fun H8 r8 k8 n8 hG8 hn8 => ⟨k8.nx, ?_⟩
     repeat (first | refine qM rfl rfl ?_)
     refine wops_cons (wop_callF rfl rfl rfl (fn := Tryz.f27) (by rfl) ?_)
     refine cSameM hq H8 24 24 r8 u7 (unA ms) (unA ms) hG8.s2 (hu7.keep k8) (by omega) (by omega) _ ⟨Nat.le_refl _, ?_⟩
     rw [decide_eq_true rfl]
     have k08 := (k06.trans k7).trans k8
     repeat (first | refine qM rfl rfl ?_ | refine zq8 rfl rfl rfl ?_)
     refine wops_cons (wop_bin (op := .neq) (v := .bool false) rfl rfl rfl rfl (by simp [binI]) ?_)
     repeat (first | apply qN | refine qM rfl rfl ?_ | refine zq7 rfl rfl rfl ?_ | refine qF rfl ?_ | apply qR | apply qS | apply qK)
     refine wops_cons (wop_callF rfl rfl rfl (fn := Tryz.f16) (by rfl) ?_)
     refine cRChk hq H8 _ l (hy.keep (hoy _) k08) (by omega) _ ⟨Nat.le_refl _, ?_⟩
     repeat (first | refine qM rfl rfl ?_)
     have r9 : H8.next < 2 ^ 39 := by omega
     refine wops_cons (o_build2 rfl rfl rfl rfl r9 ?_)
     refine WOps.mem (fun H9 => Keeps H8 H9 ∧ H9.next = H8.next + 1 ∧ Sl H9 (.slc H8.next 0 2 2) (ivs [chkE l, 0])) ⟨(Keeps.refl H8).add _ r9, rfl, sl_new (cs := ivs [chkE l, 0]) r9 2⟩ ?_
     rintro H9 ⟨k9, n9, hs9⟩
     refine wops_cons (wop_callF rfl rfl rfl (fn := Tryz.f29) (by rfl) ?_)
     refine cFst hq H9 _ _ hs9 (by show 2 ≤ 1000; decide) _ ⟨Nat.le_refl _, ?_⟩
     clear hs9
     show WOps _ _ _ _ _ _
     rw [show firstNZ [chkE l, 0] = rpE l ms by unfold rpE; rw [hm]]
     have k09 := k08.trans k9
     have hr9 := (hr7.keep k8).keep k9
     have hrr9 := (hrr7.keep k8).keep k9
     repeat (first | apply qN | refine qM rfl rfl ?_ | apply qR | apply qS)
     refine WOps.cut (fun T => ∃ Y : List AV, T = (.v yv :: .v xv :: lget Y 0 :: lget Y 1 :: lget Y 2 :: r :: rr :: iv (rpE l ms) :: lget Y 3 :: lget Y 4 :: lget Y 5 :: lget Y 6 :: iv (rpE l ms) :: lget Y 7 :: lget Y 8 :: lget Y 9 :: lget Y 10 :: lget Y 11 :: lget Y 12 :: lget Y 13 :: lget Y 14 :: lget Y 15 :: lget Y 16 :: lget Y 17 :: lget Y 18 :: lget Y 19 :: lget Y 20 :: lget Y 21 :: lget Y 22 :: lget Y 23 :: lget Y 24 :: lget Y 25 :: lget Y 26 :: lget Y 27 :: lget Y 28 :: lget Y 29 :: lget Y 30 :: lget Y 31 :: lget Y 32 :: lget Y 33 :: lget Y 34 :: lget Y 35 :: lget Y 36 :: lget Y 37 :: lget Y 38 :: lget Y 39 :: lget Y 40 :: lget Y 41 :: lget Y 42 :: lget Y 43 :: lget Y 44 :: lget Y 45 :: lget Y 46 :: lget Y 47 :: lget Y 48 :: lget Y 49 :: lget Y 50 :: lget Y 51 :: lget Y 52 :: lget Y 53 :: iv (rpE l ms) :: lget Y 54 :: lget Y 55 :: lget Y 56 :: lget Y 57 :: lget Y 58 :: lget Y 59 :: lget Y 60 :: lget Y 61 :: lget Y 62 :: lget Y 63 :: lget Y 64 :: lget Y 65 :: lget Y 66 :: lget Y 67 :: lget Y 68 :: lget Y 69 :: lget Y 70 :: lget Y 71 :: lget Y 72 :: lget Y 73 :: lget Y 74 :: lget Y 75 :: lget Y 76 :: lget Y 77 :: lget Y 78 :: lget Y 79 :: lget Y 80 :: lget Y 81 :: lget Y 82 :: lget Y 83 :: lget Y 84 :: lget Y 85 :: lget Y 86 :: lget Y 87 :: lget Y 88 :: lget Y 89 :: lget Y 90 :: lget Y 91 :: lget Y 92 :: [])) ⟨[_,_,_,_,_,_,_,_,_,_,_,_,_,_,_,_,_,_,_,_,_,_,_,_,_,_,_,_,_,_,_,_,_,_,_,_,_,_,_,_,_,_,_,_,_,_,_,_,_,_,_,_,_,_,_,_,_,_,_,_,_,_,_,_,_,_,_,_,_,_,_,_,_,_,_,_,_,_,_,_,_,_,_,_,_,_,_,_,_,_,_,_,_], rfl⟩ ?_
     rintro T ⟨Y, rfl⟩
     by_cases he : rpE l ms = 0
     · obtain ⟨hc0, hm0⟩ := first2 he
       have hml2 := mvE_len hm0
       obtain ⟨h4, h64⟩ := chkE_len hc0
       rw [show rpA l ms = (rpL l 0 ms).1 by unfold rpA; rw [if_pos he]] at hr9
       rw [show rpR l ms = (rpL l 0 ms).2 by unfold rpR; rw [if_pos he]] at hrr9
       obtain ⟨hle1, hle2⟩ := rpL_len ms l 0
       rw [he]
       refine wops_cons (wop_bin (op := .neq) (v := .bool false) rfl rfl rfl rfl rfl ?_)
       repeat (first | apply qN | refine qM rfl rfl ?_ | refine qF rfl ?_ | apply qR | apply qS | apply qK)
       refine wops_cons (wop_callF rfl rfl rfl (fn := Tryz.f30) (by rfl) ?_)
       refine cRReplay hq H9 yv l xv ms (hy.keep (hoy _) k09) (hx.keep k09) (by omega) (by omega) hml2 (by omega) _ fun H10 ra rb k10 n10 hra hrb => ⟨k10.nx, ?_⟩
       have k010 := k09.trans k10
       have hr10 := hr9.keep k10
       have hrr10 := hrr9.keep k10
       repeat (first | apply qN | refine qM rfl rfl ?_ | refine zq9 rfl rfl rfl rfl ?_ | apply qR | apply qS)
       refine wops_cons (wop_bin (op := .eql) (v := .bool true) rfl rfl rfl rfl rfl ?_)
       repeat (first | refine qM rfl rfl ?_)
       refine wops_cons (wop_callF rfl rfl rfl (fn := Tryz.f19) (by rfl) ?_)
       refine cSameI hq H10 r ra (rpL l 0 ms).1 (rpL l 0 ms).1 hr10.sl hra.sl (by omega) (by omega) _ ⟨Nat.le_refl _, ?_⟩
       rw [decide_eq_true rfl]
       repeat (first | refine qM rfl rfl ?_ | refine zq7 rfl rfl rfl ?_)
       refine wops_cons (wop_callF rfl rfl rfl (fn := Tryz.f32) (by rfl) ?_)
       refine cOwnR hq H10 rr (rpL l 0 ms).2 hrr10.s2 (by omega) (by omega) _ fun H11 r11 k11 n11 hG11 hn11 => ⟨k11.nx, ?_⟩
       repeat (first | refine qM rfl rfl ?_)
       refine wops_cons (wop_callF rfl rfl rfl (fn := Tryz.f31) (by rfl) ?_)
       refine cSameR hq H11 137 137 r11 rb (rpL l 0 ms).2 (rpL l 0 ms).2 hG11.s2 (hrb.keep k11).s2 (by omega) (by omega) _ ⟨Nat.le_refl _, ?_⟩
       rw [decide_eq_true rfl]
       repeat (first | refine qM rfl rfl ?_ | refine zq7 rfl rfl rfl ?_)
       refine wops_cons (wop_callF rfl rfl rfl (fn := Tryz.f12) (by rfl) ?_)
       refine ca_oracle (hA _ (k010.trans k11).gl) ⟨Nat.le_refl _, ?_⟩
       repeat (first | apply qN | refine qM rfl rfl ?_ | refine zq7 rfl rfl rfl ?_)
       refine wp_ret ?_
       exact ⟨_, _, rfl, hk _⟩
     · have hrS : Sl H9 r (ivs []) := by
         have h := hr9.sl
         rw [show rpA l ms = [] by unfold rpA; rw [if_neg he]] at h
         exact h
       have hrrS : S2 H9 105 rr [] := by
         have h := hrr9.s2
         rw [show rpR l ms = [] by unfold rpR; rw [if_neg he]] at h
         exact h
       generalize rpE l ms = w at he ⊢
       refine wops_cons (wop_bin (op := .neq) (v := .bool true) rfl rfl rfl rfl (by simp [binI, he]) ?_)
       repeat (first | apply qN | refine qM rfl rfl ?_ | refine zq5 rfl rfl rfl rfl rfl ‹_› ?_ | refine qT rfl ?_ | apply qR | apply qS)
       refine wops_cons (wop_bin (op := .eql) (v := .bool true) rfl rfl rfl rfl rfl ?_)
       repeat (first | refine qM rfl rfl ?_)
       refine wops_cons (o_len2 rfl rfl rfl rfl rfl hrrS ?_)
       refine wops_cons (wop_bin (op := .eql) (v := .bool true) rfl rfl rfl rfl rfl ?_)
       repeat (first | refine qM rfl rfl ?_ | refine zq7 rfl rfl rfl ?_)
       refine wops_cons (wop_bin (op := .eql) (v := .bool true) rfl rfl rfl rfl (by simp [binI]) ?_)
       repeat (first | refine qM rfl rfl ?_ | refine zq7 rfl rfl rfl ?_)
       refine wops_cons (wop_callF rfl rfl rfl (fn := Tryz.f12) (by rfl) ?_)
       refine ca_oracle (hA _ k09.gl) ⟨Nat.le_refl _, ?_⟩
       repeat (first | apply qN | refine qM rfl rfl ?_ | refine zq7 rfl rfl rfl ?_)
       refine wp_ret ?_
       exact ⟨_, _, rfl, hk _⟩
   · have hu6 : S2 H6 24 (.v (.slice none 0 0)) (unA ms) := by rw [show unA ms = [] by unfold unA; rw [if_neg hm]]; exact .inl ⟨rfl, rfl⟩
     refine wops_cons (wop_bin (op := .eql) (v := .bool false) rfl rfl rfl rfl (by simp [binI, hm]) ?_)
     repeat (first | apply qN | refine qM rfl rfl ?_ | refine qF rfl ?_ | apply qR | apply qS | apply qK)
     have hu := unA_len ms
     refine wops_cons (wop_callF rfl rfl rfl (fn := Tryz.f28) (by rfl) ?_)
     refine cOwnM hq H6 ur (unA ms) hur6 (by omega) (by omega) _ fun H8 r8 k8 n8 hG8 hn8 => ⟨k8.nx, ?_⟩
     repeat (first | refine qM rfl rfl ?_)
     refine wops_cons (wop_callF rfl rfl rfl (fn := Tryz.f27) (by rfl) ?_)
     refine cSameM hq H8 24 24 r8 _ (unA ms) (unA ms) hG8.s2 (hu6.keep k8) (by omega) (by omega) _ ⟨Nat.le_refl _, ?_⟩
     rw [decide_eq_true rfl]
     have k08 := (k06).trans k8
     repeat (first | refine qM rfl rfl ?_ | refine zq8 rfl rfl rfl ?_)
     refine wops_cons (wop_bin (op := .neq) (v := .bool false) rfl rfl rfl rfl (by simp [binI]) ?_)
     repeat (first | apply qN | refine qM rfl rfl ?_ | refine zq7 rfl rfl rfl ?_ | refine qF rfl ?_ | apply qR | apply qS | apply qK)
     refine wops_cons (wop_callF rfl rfl rfl (fn := Tryz.f16) (by rfl) ?_)
     refine cRChk hq H8 _ l (hy.keep (hoy _) k08) (by omega) _ ⟨Nat.le_refl _, ?_⟩
     repeat (first | refine qM rfl rfl ?_)
     have r9 : H8.next < 2 ^ 39 := by omega
     refine wops_cons (o_build2 rfl rfl rfl rfl r9 ?_)
     refine WOps.mem (fun H9 => Keeps H8 H9 ∧ H9.next = H8.next + 1 ∧ Sl H9 (.slc H8.next 0 2 2) (ivs [chkE l, mvE ms])) ⟨(Keeps.refl H8).add _ r9, rfl, sl_new (cs := ivs [chkE l, mvE ms]) r9 2⟩ ?_
     rintro H9 ⟨k9, n9, hs9⟩
     refine wops_cons (wop_callF rfl rfl rfl (fn := Tryz.f29) (by rfl) ?_)
     refine cFst hq H9 _ _ hs9 (by show 2 ≤ 1000; decide) _ ⟨Nat.le_refl _, ?_⟩
     clear hs9
     show WOps _ _ _ _ _ _
     rw [show firstNZ [chkE l, mvE ms] = rpE l ms from rfl]
     have k09 := k08.trans k9
     have hr9 := (hr6.keep k8).keep k9
     have hrr9 := (hrr6.keep k8).keep k9
     repeat (first | apply qN | refine qM rfl rfl ?_ | apply qR | apply qS)
     refine WOps.cut (fun T => ∃ Y : List AV, T = (.v yv :: .v xv :: lget Y 0 :: lget Y 1 :: lget Y 2 :: r :: rr :: iv (rpE l ms) :: lget Y 3 :: lget Y 4 :: lget Y 5 :: lget Y 6 :: iv (rpE l ms) :: lget Y 7 :: lget Y 8 :: lget Y 9 :: lget Y 10 :: lget Y 11 :: lget Y 12 :: lget Y 13 :: lget Y 14 :: lget Y 15 :: lget Y 16 :: lget Y 17 :: lget Y 18 :: lget Y 19 :: lget Y 20 :: lget Y 21 :: lget Y 22 :: lget Y 23 :: lget Y 24 :: lget Y 25 :: lget Y 26 :: lget Y 27 :: lget Y 28 :: lget Y 29 :: lget Y 30 :: lget Y 31 :: lget Y 32 :: lget Y 33 :: lget Y 34 :: lget Y 35 :: lget Y 36 :: lget Y 37 :: lget Y 38 :: lget Y 39 :: lget Y 40 :: lget Y 41 :: lget Y 42 :: lget Y 43 :: lget Y 44 :: lget Y 45 :: lget Y 46 :: lget Y 47 :: lget Y 48 :: lget Y 49 :: lget Y 50 :: lget Y 51 :: lget Y 52 :: lget Y 53 :: iv (rpE l ms) :: lget Y 54 :: lget Y 55 :: lget Y 56 :: lget Y 57 :: lget Y 58 :: lget Y 59 :: lget Y 60 :: lget Y 61 :: lget Y 62 :: lget Y 63 :: lget Y 64 :: lget Y 65 :: lget Y 66 :: lget Y 67 :: lget Y 68 :: lget Y 69 :: lget Y 70 :: lget Y 71 :: lget Y 72 :: lget Y 73 :: lget Y 74 :: lget Y 75 :: lget Y 76 :: lget Y 77 :: lget Y 78 :: lget Y 79 :: lget Y 80 :: lget Y 81 :: lget Y 82 :: lget Y 83 :: lget Y 84 :: lget Y 85 :: lget Y 86 :: lget Y 87 :: lget Y 88 :: lget Y 89 :: lget Y 90 :: lget Y 91 :: lget Y 92 :: [])) ⟨[_,_,_,_,_,_,_,_,_,_,_,_,_,_,_,_,_,_,_,_,_,_,_,_,_,_,_,_,_,_,_,_,_,_,_,_,_,_,_,_,_,_,_,_,_,_,_,_,_,_,_,_,_,_,_,_,_,_,_,_,_,_,_,_,_,_,_,_,_,_,_,_,_,_,_,_,_,_,_,_,_,_,_,_,_,_,_,_,_,_,_,_,_], rfl⟩ ?_
     rintro T ⟨Y, rfl⟩
     have he : rpE l ms ≠ 0 := fun h => hm (first2 h).2
     clear hm hu6
     have hrS : Sl H9 r (ivs []) := by
       have h := hr9.sl
       rw [show rpA l ms = [] by unfold rpA; rw [if_neg he]] at h
       exact h
     have hrrS : S2 H9 105 rr [] := by
       have h := hrr9.s2
       rw [show rpR l ms = [] by unfold rpR; rw [if_neg he]] at h
       exact h
     generalize rpE l ms = w at he ⊢
     refine wops_cons (wop_bin (op := .neq) (v := .bool true) rfl rfl rfl rfl (by simp [binI, he]) ?_)
     repeat (first | apply qN | refine qM rfl rfl ?_ | refine zq5 rfl rfl rfl rfl rfl ‹_› ?_ | refine qT rfl ?_ | apply qR | apply qS)
     refine wops_cons (wop_bin (op := .eql) (v := .bool true) rfl rfl rfl rfl rfl ?_)
     repeat (first | refine qM rfl rfl ?_)
     refine wops_cons (o_len2 rfl rfl rfl rfl rfl hrrS ?_)
     refine wops_cons (wop_bin (op := .eql) (v := .bool true) rfl rfl rfl rfl rfl ?_)
     repeat (first | refine qM rfl rfl ?_ | refine zq7 rfl rfl rfl ?_)
     refine wops_cons (wop_bin (op := .eql) (v := .bool true) rfl rfl rfl rfl (by simp [binI]) ?_)
     repeat (first | refine qM rfl rfl ?_ | refine zq7 rfl rfl rfl ?_)
     refine wops_cons (wop_callF rfl rfl rfl (fn := Tryz.f12) (by rfl) ?_)
     refine ca_oracle (hA _ k09.gl) ⟨Nat.le_refl _, ?_⟩
     repeat (first | apply qN | refine qM rfl rfl ?_ | refine zq7 rfl rfl rfl ?_)
     refine wp_ret ?_
     exact ⟨_, _, rfl, hk _⟩
end Go.Ev
