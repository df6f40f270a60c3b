/- Part of an evaluator of calls that is proved sound, and of what it gives about this program. No condition of its own. -/
import Derived.Test.YtknbipaecnggcaaGreatDoorEvTh
set_option linter.unusedVariables false
set_option linter.unusedSimpArgs false
set_option linter.unusedSectionVars false
set_option maxRecDepth 1000000
set_option maxHeartbeats 4000000
namespace Go.Ev
open Go.Proofs
theorem Gr.keepT {H H' : AH} {r : AV} {l : List AV} (h : Gr H 3 r l) (k : Keeps H H') : Gr H' 3 r l := h.frame k.nx fun b hb => k.get b (h.old b hb)
def tuA (l : List Int) (z : Int) : List Int := if chkE l = 0 then rotL l (trK l.length z) else []
def akK (l l2 : List Int) : Int := if akE l l2 = 0 then (if alkZ l l2 < 0 then 0 else alkZ l l2) else 0
def akF (l l2 : List Int) : Int := if akE l l2 = 0 then (if alkZ l l2 < 0 then 7 else 0) else akE l l2
theorem nz2 {a b : Int} (ha : a = 0) : firstNZ [a, b] = b := by
 rw [firstNZ_cons, if_neg (by simpa using ha), firstNZ_cons]
 by_cases h : b = 0
 · rw [if_neg (by simpa using h), h]; rfl
 · rw [if_pos h]
variable {O : CallF} (hq : Quiet O) (hG : GrowsO O)
include hq hG
theorem c5l (H : AH) (hA : ∀ H', H'.gl = H.gl → O 12 [] H' = some (.v (.bool true), H')) (yv xv : Value) (l l2 : List Int) (z : Int) (hy : Sl H (.v yv) (ivs l)) (hx : Sl H (.v xv) (ivs l2)) (hr : H.next ≤ 1000) (K : AV → AH → Prop) (hk : ∀ H', K (.v (.bool true)) H') : Ca (ENV O) 5 [.v yv, .v xv, iv z] H K := by
 refine ca_intro (hq _ _ _ rfl) (fn := Tryz.f5) (by rfl) rfl ?_
 have hoy : ∀ H', Old H' (.v yv) := fun H' => Old.v _
 have hox : ∀ H', Old H' (.v xv) := fun H' => Old.v _
 repeat (first | apply qN | refine qM rfl rfl ?_ | apply qR | apply qS)
 refine wops_cons (wop_callF rfl rfl rfl (fn := Tryz.f11) (by rfl) ?_)
 refine cShort hq H _ l hy _ ⟨Nat.le_refl _, ?_⟩
 by_cases hs : (l.length : Int) ≤ 66
 rotate_left
 · rw [decide_eq_false hs]
   repeat (first | apply qN | refine zq1 rfl rfl ?_ | refine qM rfl rfl ?_ | refine zq7 rfl rfl rfl ?_ | refine zq8 rfl rfl rfl ?_ | refine qT rfl ?_ | apply qR | apply qS)
   refine wops_cons (wop_callF rfl rfl rfl (fn := Tryz.f12) (by rfl) ?_)
   refine ca_oracle (hA _ rfl) ⟨Nat.le_refl _, ?_⟩
   repeat (first | apply qN | refine qM rfl rfl ?_)
   refine wp_ret ?_
   exact ⟨_, _, rfl, hk _⟩
 have hl : l.length ≤ 66 := by omega
 rw [decide_eq_true hs]
 repeat (first | refine qM rfl rfl ?_ | refine zq8 rfl rfl rfl ?_)
 refine wops_cons (wop_callF rfl rfl rfl (fn := Tryz.f11) (by rfl) ?_)
 refine cShort hq H _ l2 hx _ ⟨Nat.le_refl _, ?_⟩
 by_cases hs2 : (l2.length : Int) ≤ 66
 rotate_left
 · rw [decide_eq_false hs2]
   repeat (first | apply qN | refine zq7 rfl rfl rfl ?_ | refine zq8 rfl rfl rfl ?_ | refine qT rfl ?_ | apply qR | apply qS)
   refine wops_cons (wop_callF rfl rfl rfl (fn := Tryz.f12) (by rfl) ?_)
   refine ca_oracle (hA _ rfl) ⟨Nat.le_refl _, ?_⟩
   repeat (first | apply qN | refine qM rfl rfl ?_)
   refine wp_ret ?_
   exact ⟨_, _, rfl, hk _⟩
 have hl2 : l2.length ≤ 66 := by omega
 rw [decide_eq_true hs2]
 repeat (first | apply qN | refine qM rfl rfl ?_ | refine zq7 rfl rfl rfl ?_ | refine zq8 rfl rfl rfl ?_ | refine qF rfl ?_ | apply qR | apply qS | apply qK)
 refine WOps.mono (K := fun T' H' => Keeps H H' ∧ H'.next ≤ H.next + 2000 ∧ ∃ r, Gr H' 3 r (ivs (tuA l z)) ∧ ∃ (Y : List AV), T' = (.v yv :: .v xv :: iv z :: lget Y 0 :: lget Y 1 :: lget Y 2 :: lget Y 3 :: r :: iv (chkE l) :: lget Y 4 :: lget Y 5 :: lget Y 6 :: lget Y 7 :: lget Y 8 :: lget Y 9 :: lget Y 10 :: lget Y 11 :: lget Y 12 :: lget Y 13 :: lget Y 14 :: lget Y 15 :: lget Y 16 :: lget Y 17 :: lget Y 18 :: lget Y 19 :: lget Y 20 :: lget Y 21 :: lget Y 22 :: lget Y 23 :: lget Y 24 :: lget Y 25 :: lget Y 26 :: lget Y 27 :: lget Y 28 :: lget Y 29 :: lget Y 30 :: lget Y 31 :: lget Y 32 :: lget Y 33 :: lget Y 34 :: lget Y 35 :: lget Y 36 :: lget Y 37 :: lget Y 38 :: lget Y 39 :: lget Y 40 :: lget Y 41 :: lget Y 42 :: lget Y 43 :: lget Y 44 :: lget Y 45 :: lget Y 46 :: lget Y 47 :: lget Y 48 :: lget Y 49 :: lget Y 50 :: lget Y 51 :: lget Y 52 :: lget Y 53 :: lget Y 54 :: lget Y 55 :: lget Y 56 :: lget Y 57 :: lget Y 58 :: lget Y 59 :: lget Y 60 :: lget Y 61 :: lget Y 62 :: lget Y 63 :: lget Y 64 :: lget Y 65 :: lget Y 66 :: lget Y 67 :: lget Y 68 :: lget Y 69 :: lget Y 70 :: lget Y 71 :: lget Y 72 :: lget Y 73 :: lget Y 74 :: lget Y 75 :: lget Y 76 :: lget Y 77 :: lget Y 78 :: lget Y 79 :: lget Y 80 :: lget Y 81 :: [])) ?_ ?_
 · refine wops_cons (wop_callF rfl rfl rfl (fn := Tryz.f14) (by rfl) ?_)
   refine cNums hq H yv l hy (by omega) (by omega) _ fun H2 r2 k2 n2 hA2 hn2 => ⟨k2.nx, ?_⟩
   repeat (first | refine qM rfl rfl ?_)
   refine wops_cons (wop_callF rfl rfl rfl (fn := Tryz.f33) (by rfl) ?_)
   refine cTurned hq hG H2 r2 l z hA2 (by omega) (by omega) _ (fun h0 H3 k3 n3 => ⟨k3.nx, ?_⟩) (fun h0 H3 d k3 n3 hd1 hd2 gd => ⟨k3.nx, ?_⟩)
   · repeat (first | apply qN | refine qM rfl rfl ?_ | refine zq9 rfl rfl rfl rfl ?_)
     exact ⟨k2.trans k3, by omega, .v (.slice none 0 0), .inl ⟨rfl, by unfold tuA; rw [if_neg h0]; rfl⟩, [_,_,_,_,_,_,_,_,_,_,_,_,_,_,_,_,_,_,_,_,_,_,_,_,_,_,_,_,_,_,_,_,_,_,_,_,_,_,_,_,_,_,_,_,_,_,_,_,_,_,_,_,_,_,_,_,_,_,_,_,_,_,_,_,_,_,_,_,_,_,_,_,_,_,_,_,_,_,_,_,_,_], rfl⟩
   · rw [h0]
     repeat (first | apply qN | refine qM rfl rfl ?_ | refine zq9 rfl rfl rfl rfl ?_)
     exact ⟨k2.trans k3, by omega, .slu d 0 l.length 1, .inr ⟨d, hd2, by omega, by unfold tuA; rw [if_pos h0, ivs_length, rotL_len], by unfold tuA; rw [if_pos h0]; exact gd⟩, [_,_,_,_,_,_,_,_,_,_,_,_,_,_,_,_,_,_,_,_,_,_,_,_,_,_,_,_,_,_,_,_,_,_,_,_,_,_,_,_,_,_,_,_,_,_,_,_,_,_,_,_,_,_,_,_,_,_,_,_,_,_,_,_,_,_,_,_,_,_,_,_,_,_,_,_,_,_,_,_,_,_], rfl⟩
 rintro T' H4 ⟨k04, n4, r, hr4, Y, rfl⟩
 show Wp _ _ _ _ _ _ _ _
 repeat (first | refine qM rfl rfl ?_ | apply qR | apply qS)
 refine WOps.mono (K := fun T' H' => Keeps H4 H' ∧ H'.next ≤ H4.next + 3000 ∧ ∃ (Y : List AV), T' = (.v yv :: .v xv :: iv z :: lget Y 0 :: lget Y 1 :: lget Y 2 :: lget Y 3 :: r :: iv (chkE l) :: iv (akK l l2) :: iv (akF l l2) :: lget Y 4 :: lget Y 5 :: lget Y 6 :: lget Y 7 :: lget Y 8 :: lget Y 9 :: lget Y 10 :: lget Y 11 :: lget Y 12 :: lget Y 13 :: lget Y 14 :: lget Y 15 :: lget Y 16 :: lget Y 17 :: lget Y 18 :: lget Y 19 :: lget Y 20 :: lget Y 21 :: lget Y 22 :: lget Y 23 :: lget Y 24 :: lget Y 25 :: lget Y 26 :: lget Y 27 :: lget Y 28 :: lget Y 29 :: lget Y 30 :: lget Y 31 :: lget Y 32 :: lget Y 33 :: lget Y 34 :: lget Y 35 :: lget Y 36 :: lget Y 37 :: lget Y 38 :: lget Y 39 :: lget Y 40 :: lget Y 41 :: lget Y 42 :: lget Y 43 :: lget Y 44 :: lget Y 45 :: lget Y 46 :: lget Y 47 :: lget Y 48 :: lget Y 49 :: lget Y 50 :: lget Y 51 :: lget Y 52 :: lget Y 53 :: lget Y 54 :: lget Y 55 :: lget Y 56 :: lget Y 57 :: lget Y 58 :: lget Y 59 :: lget Y 60 :: lget Y 61 :: lget Y 62 :: lget Y 63 :: lget Y 64 :: lget Y 65 :: lget Y 66 :: lget Y 67 :: lget Y 68 :: lget Y 69 :: lget Y 70 :: lget Y 71 :: lget Y 72 :: lget Y 73 :: lget Y 74 :: lget Y 75 :: lget Y 76 :: lget Y 77 :: lget Y 78 :: lget Y 79 :: [])) ?_ ?_
 · refine wops_cons (wop_callF rfl rfl rfl (fn := Tryz.f14) (by rfl) ?_)
   refine cNums hq H4 yv l (hy.keep (hoy _) k04) (by omega) (by omega) _ fun H5 r5 k5 n5 hA5 hn5 => ⟨k5.nx, ?_⟩
   repeat (first | refine qM rfl rfl ?_)
   refine wops_cons (wop_callF rfl rfl rfl (fn := Tryz.f14) (by rfl) ?_)
   refine cNums hq H5 xv l2 (hx.keep (hox _) (k04.trans k5)) (by omega) (by omega) _ fun H6 r6 k6 n6 hA6 hn6 => ⟨k6.nx, ?_⟩
   skip
   refine wops_cons (wop_callF rfl rfl rfl (fn := Tryz.f34) (by rfl) ?_)
   refine cAlike hq H6 r5 r6 l l2 (hA5.keep k6) hA6 (by omega) (by omega) (by omega) _ (fun h0 H7 k7 n7 => ⟨k7.nx, ?_⟩) (fun h0 H7 k7 n7 => ⟨k7.nx, ?_⟩)
   · rw [show akK l l2 = 0 by unfold akK; rw [if_neg h0], show akF l l2 = akE l l2 by unfold akF; rw [if_neg h0]]
     repeat (first | apply qN | refine qM rfl rfl ?_ | refine zq9 rfl rfl rfl rfl ?_)
     exact ⟨(k5.trans k6).trans k7, by omega, [_,_,_,_,_,_,_,_,_,_,_,_,_,_,_,_,_,_,_,_,_,_,_,_,_,_,_,_,_,_,_,_,_,_,_,_,_,_,_,_,_,_,_,_,_,_,_,_,_,_,_,_,_,_,_,_,_,_,_,_,_,_,_,_,_,_,_,_,_,_,_,_,_,_,_,_,_,_,_,_], rfl⟩
   · rw [show akK l l2 = (if alkZ l l2 < 0 then 0 else alkZ l l2) by unfold akK; rw [if_pos h0], show akF l l2 = (if alkZ l l2 < 0 then 7 else 0) by unfold akF; rw [if_pos h0]]
     repeat (first | apply qN | refine qM rfl rfl ?_ | refine zq9 rfl rfl rfl rfl ?_)
     exact ⟨(k5.trans k6).trans k7, by omega, [_,_,_,_,_,_,_,_,_,_,_,_,_,_,_,_,_,_,_,_,_,_,_,_,_,_,_,_,_,_,_,_,_,_,_,_,_,_,_,_,_,_,_,_,_,_,_,_,_,_,_,_,_,_,_,_,_,_,_,_,_,_,_,_,_,_,_,_,_,_,_,_,_,_,_,_,_,_,_,_], rfl⟩
 rintro T' H7 ⟨k47, n7, Y, rfl⟩
 have k07 := k04.trans k47
 have hr7 := hr4.keepT k47
 clear hr4
 show Wp _ _ _ _ _ _ _ _
 repeat (first | refine qM rfl rfl ?_ | apply qR | apply qS)
 refine wops_cons (wop_callF rfl rfl rfl (fn := Tryz.f16) (by rfl) ?_)
 refine cRChk hq H7 _ l (hy.keep (hoy _) k07) (by omega) _ ⟨Nat.le_refl _, ?_⟩
 repeat (first | apply qN | refine qM rfl rfl ?_ | apply qR | apply qS)
 refine wops_cons (wop_callF rfl rfl rfl (fn := Tryz.f16) (by rfl) ?_)
 refine cRChk hq H7 _ l2 (hx.keep (hox _) k07) (by omega) _ ⟨Nat.le_refl _, ?_⟩
 skip
 have r8 : H7.next < 2 ^ 39 := by omega
 refine wops_cons (o_build2 rfl rfl rfl rfl r8 ?_)
 refine WOps.mem (fun H8 => Keeps H7 H8 ∧ H8.next = H7.next + 1 ∧ Sl H8 (.slc H7.next 0 2 2) (ivs [chkE l, chkE l2])) ⟨(Keeps.refl H7).add _ r8, rfl, sl_new (cs := ivs [chkE l, chkE l2]) r8 2⟩ ?_
 rintro H8 ⟨k8, n8, hs8⟩
 refine wops_cons (wop_callF rfl rfl rfl (fn := Tryz.f29) (by rfl) ?_)
 refine cFst hq H8 _ _ hs8 (by show 2 ≤ 1000; decide) _ ⟨Nat.le_refl _, ?_⟩
 clear hs8
 show WOps _ _ _ _ _ _
 have k08 := k07.trans k8
 have hr8 := hr7.keepT k8
 clear hr7
 repeat (first | apply qN | refine qM rfl rfl ?_ | apply qR | apply qS)
 refine WOps.cut (fun T => ∃ Y : List AV, T = (.v yv :: .v xv :: iv z :: lget Y 0 :: lget Y 1 :: lget Y 2 :: lget Y 3 :: r :: iv (chkE l) :: iv (akK l l2) :: iv (akF l l2) :: iv (chkE l) :: iv (firstNZ [chkE l, chkE l2]) :: .v (.slice none 0 0) :: lget Y 4 :: lget Y 5 :: lget Y 6 :: lget Y 7 :: lget Y 8 :: lget Y 9 :: lget Y 10 :: lget Y 11 :: lget Y 12 :: lget Y 13 :: lget Y 14 :: lget Y 15 :: lget Y 16 :: lget Y 17 :: lget Y 18 :: lget Y 19 :: lget Y 20 :: lget Y 21 :: lget Y 22 :: lget Y 23 :: lget Y 24 :: lget Y 25 :: lget Y 26 :: lget Y 27 :: lget Y 28 :: lget Y 29 :: lget Y 30 :: lget Y 31 :: lget Y 32 :: lget Y 33 :: lget Y 34 :: lget Y 35 :: iv (chkE l) :: lget Y 36 :: lget Y 37 :: lget Y 38 :: lget Y 39 :: lget Y 40 :: lget Y 41 :: lget Y 42 :: lget Y 43 :: lget Y 44 :: lget Y 45 :: lget Y 46 :: lget Y 47 :: lget Y 48 :: lget Y 49 :: lget Y 50 :: lget Y 51 :: lget Y 52 :: lget Y 53 :: lget Y 54 :: lget Y 55 :: lget Y 56 :: lget Y 57 :: lget Y 58 :: lget Y 59 :: lget Y 60 :: lget Y 61 :: lget Y 62 :: lget Y 63 :: lget Y 64 :: lget Y 65 :: lget Y 66 :: lget Y 67 :: lget Y 68 :: lget Y 69 :: lget Y 70 :: lget Y 71 :: lget Y 72 :: lget Y 73 :: lget Y 74 :: lget Y 75 :: [])) ⟨[_,_,_,_,_,_,_,_,_,_,_,_,_,_,_,_,_,_,_,_,_,_,_,_,_,_,_,_,_,_,_,_,_,_,_,_,_,_,_,_,_,_,_,_,_,_,_,_,_,_,_,_,_,_,_,_,_,_,_,_,_,_,_,_,_,_,_,_,_,_,_,_,_,_,_,_], rfl⟩ ?_
 rintro T ⟨Y, rfl⟩
 by_cases hc1 : chkE l = 0
 rotate_left
 · have hak : akE l l2 = chkE l := by unfold akE; rw [firstNZ_cons, if_pos hc1]
   rw [show akK l l2 = 0 by unfold akK; rw [hak, if_neg hc1], show akF l l2 = chkE l by unfold akF; rw [hak, if_neg hc1], show firstNZ [chkE l, chkE l2] = chkE l by rw [firstNZ_cons, if_pos hc1]]
   have hrS : Sl H8 r (ivs []) := by
     have h := hr8.sl
     rw [show tuA l z = [] by unfold tuA; rw [if_neg hc1]] at h
     exact h
   have hnS : Sl H8 (.v (.slice none 0 0)) (ivs []) := ⟨rfl, .inl rfl⟩
   generalize chkE l = w at hc1 ⊢
   refine wops_cons (wop_bin (op := .eql) (v := .bool false) rfl rfl rfl rfl (by simp [binI, hc1]) ?_)
   repeat (first | apply qN | refine qM rfl rfl ?_ | refine qF rfl ?_ | apply qR | apply qS | apply qK)
   refine wops_cons (wop_callF rfl rfl rfl (fn := Tryz.f19) (by rfl) ?_)
   refine cSameI hq H8 _ _ [] [] hrS hnS (by decide) (by decide) _ ⟨Nat.le_refl _, ?_⟩
   rw [decide_eq_true rfl]
   repeat (first | refine qM rfl rfl ?_ | refine zq8 rfl rfl rfl ?_)
   refine wops_cons (wop_bin (op := .neq) (v := .bool false) rfl rfl rfl rfl (by simp [binI]) ?_)
   repeat (first | apply qN | refine qM rfl rfl ?_ | refine zq7 rfl rfl rfl ?_ | refine qF rfl ?_ | apply qR | apply qS | apply qK)
   refine wops_cons (wop_bin (op := .eql) (v := .bool false) rfl rfl rfl rfl (by simp [binI, hc1]) ?_)
   repeat (first | apply qN | refine zq1 rfl rfl ?_ | refine qM rfl rfl ?_ | refine zq7 rfl rfl rfl ?_ | refine qF rfl ?_ | apply qR | apply qS | apply qK)
   refine wops_cons (wop_bin (op := .eql) (v := .bool false) rfl rfl rfl rfl (by simp [binI, hc1]) ?_)
   repeat (first | apply qN | refine qM rfl rfl ?_ | refine qF rfl ?_ | apply qR | apply qS | apply qK)
   refine wops_cons (wop_bin (op := .eql) (v := .bool true) rfl rfl rfl rfl rfl ?_)
   repeat (first | refine qM rfl rfl ?_)
   refine wops_cons (wop_bin (op := .eql) (v := .bool true) rfl rfl rfl rfl (by simp [binI]) ?_)
   repeat (first | refine qM rfl rfl ?_ | refine zq7 rfl rfl rfl ?_)
   refine wops_cons (wop_callF rfl rfl rfl (fn := Tryz.f12) (by rfl) ?_)
   refine ca_oracle (hA _ k08.gl) ⟨Nat.le_refl _, ?_⟩
   repeat (first | apply qN | refine qM rfl rfl ?_ | refine zq7 rfl rfl rfl ?_)
   refine wp_ret ?_
   exact ⟨_, _, rfl, hk _⟩
 obtain ⟨h4, h64⟩ := chkE_len hc1
 have hl0 : 0 < l.length := by omega
 have hrS : Sl H8 r (ivs (rotL l (trK l.length z))) := by
   have h := hr8.sl
   rw [show tuA l z = rotL l (trK l.length z) by unfold tuA; rw [if_pos hc1]] at h
   exact h
 have hro : Old H8 r := hr8.old
 rw [nz2 hc1, hc1]
 refine wops_cons (wop_bin (op := .eql) (v := .bool true) rfl rfl rfl rfl rfl ?_)
 repeat (first | apply qN | refine qM rfl rfl ?_ | refine qT rfl ?_ | apply qR)
 refine wops_cons (wop_callF rfl rfl rfl (fn := Tryz.f35) (by rfl) ?_)
 refine cRTurned hq H8 yv l z (hy.keep (hoy _) k08) hl0 (by omega) (by omega) _ fun H9 k9 n9 g9 => ⟨k9.nx, ?_⟩
 have k09 := k08.trans k9
 have hr9 := hrS.keep hro k9
 have hS9 : Sl H9 (.slc H8.next 0 l.length l.length) (ivs (rotL l (trK l.length z))) := ⟨by rw [ivs_length, rotL_len], by omega, _, _, _, g9, fun j v hv => by rw [Nat.zero_add]; exact hv⟩
 have hy9 : Sl H9 (.v yv) (ivs l) := hy.keep (hoy _) k09
 have hx9 : Sl H9 (.v xv) (ivs l2) := hx.keep (hox _) k09
 repeat (first | apply qN | refine qM rfl rfl ?_ | apply qR | apply qS)
 refine wops_cons (wop_callF rfl rfl rfl (fn := Tryz.f19) (by rfl) ?_)
 refine cSameI hq H9 _ _ _ _ hr9 hS9 (by rw [rotL_len]; omega) (by rw [rotL_len]; omega) _ ⟨Nat.le_refl _, ?_⟩
 rw [decide_eq_true rfl]
 repeat (first | refine qM rfl rfl ?_ | refine zq8 rfl rfl rfl ?_)
 refine wops_cons (wop_bin (op := .neq) (v := .bool false) rfl rfl rfl rfl rfl ?_)
 repeat (first | apply qN | refine qM rfl rfl ?_ | refine zq7 rfl rfl rfl ?_ | refine qF rfl ?_ | apply qR | apply qS | apply qK)
 refine WOps.cut (fun T => ∃ Y : List AV, T = (.v yv :: .v xv :: lget Y 0 :: lget Y 1 :: lget Y 2 :: lget Y 3 :: lget Y 4 :: lget Y 5 :: lget Y 6 :: iv (akK l l2) :: iv (akF l l2) :: lget Y 7 :: iv (chkE l2) :: lget Y 8 :: lget Y 9 :: lget Y 10 :: lget Y 11 :: lget Y 12 :: lget Y 13 :: lget Y 14 :: lget Y 15 :: lget Y 16 :: lget Y 17 :: lget Y 18 :: lget Y 19 :: lget Y 20 :: lget Y 21 :: lget Y 22 :: lget Y 23 :: lget Y 24 :: lget Y 25 :: lget Y 26 :: lget Y 27 :: lget Y 28 :: lget Y 29 :: lget Y 30 :: lget Y 31 :: lget Y 32 :: lget Y 33 :: lget Y 34 :: lget Y 35 :: lget Y 36 :: lget Y 37 :: lget Y 38 :: lget Y 39 :: lget Y 40 :: lget Y 41 :: lget Y 42 :: lget Y 43 :: lget Y 44 :: lget Y 45 :: lget Y 46 :: lget Y 47 :: lget Y 48 :: lget Y 49 :: lget Y 50 :: lget Y 51 :: lget Y 52 :: lget Y 53 :: lget Y 54 :: iv (chkE l2) :: lget Y 55 :: lget Y 56 :: lget Y 57 :: lget Y 58 :: lget Y 59 :: lget Y 60 :: lget Y 61 :: lget Y 62 :: lget Y 63 :: lget Y 64 :: lget Y 65 :: lget Y 66 :: lget Y 67 :: lget Y 68 :: lget Y 69 :: lget Y 70 :: lget Y 71 :: lget Y 72 :: lget Y 73 :: lget Y 74 :: lget Y 75 :: lget Y 76 :: lget Y 77 :: lget Y 78 :: lget Y 79 :: lget Y 80 :: [])) ⟨[_,_,_,_,_,_,_,_,_,_,_,_,_,_,_,_,_,_,_,_,_,_,_,_,_,_,_,_,_,_,_,_,_,_,_,_,_,_,_,_,_,_,_,_,_,_,_,_,_,_,_,_,_,_,_,_,_,_,_,_,_,_,_,_,_,_,_,_,_,_,_,_,_,_,_,_,_,_,_,_,_], rfl⟩ ?_
 rintro T ⟨Y, rfl⟩
 by_cases hc2 : chkE l2 = 0
 rotate_left
 · have hak : akE l l2 = chkE l2 := by unfold akE; rw [firstNZ_cons, if_neg (by simpa using hc1), firstNZ_cons, if_pos hc2]
   rw [show akK l l2 = 0 by unfold akK; rw [hak, if_neg hc2], show akF l l2 = chkE l2 by unfold akF; rw [hak, if_neg hc2]]
   generalize chkE l2 = w at hc2 ⊢
   refine wops_cons (wop_bin (op := .eql) (v := .bool false) rfl rfl rfl rfl (by simp [binI, hc2]) ?_)
   repeat (first | apply qN | refine zq1 rfl rfl ?_ | refine qM rfl rfl ?_ | refine zq7 rfl rfl rfl ?_ | refine qF rfl ?_ | apply qR | apply qS | apply qK)
   refine wops_cons (wop_bin (op := .eql) (v := .bool false) rfl rfl rfl rfl (by simp [binI, hc2]) ?_)
   repeat (first | apply qN | refine qM rfl rfl ?_ | refine qF rfl ?_ | apply qR | apply qS | apply qK)
   refine wops_cons (wop_bin (op := .eql) (v := .bool true) rfl rfl rfl rfl rfl ?_)
   repeat (first | refine qM rfl rfl ?_)
   refine wops_cons (wop_bin (op := .eql) (v := .bool true) rfl rfl rfl rfl (by simp [binI]) ?_)
   repeat (first | refine qM rfl rfl ?_ | refine zq7 rfl rfl rfl ?_)
   refine wops_cons (wop_callF rfl rfl rfl (fn := Tryz.f12) (by rfl) ?_)
   refine ca_oracle (hA _ k09.gl) ⟨Nat.le_refl _, ?_⟩
   repeat (first | apply qN | refine qM rfl rfl ?_ | refine zq7 rfl rfl rfl ?_)
   refine wp_ret ?_
   exact ⟨_, _, rfl, hk _⟩
 rw [hc2]
 refine wops_cons (wop_bin (op := .eql) (v := .bool true) rfl rfl rfl rfl rfl ?_)
 repeat (first | refine qM rfl rfl ?_ | refine zq5 rfl rfl rfl rfl rfl ‹_› ?_)
 by_cases hll : (l.length : Int) = l2.length
 rotate_left
 · have hak : akE l l2 = 2 := by unfold akE eqE; rw [firstNZ_cons, if_neg (by simpa using hc1), firstNZ_cons, if_neg (by simpa using hc2), decide_eq_false hll]; rfl
   rw [show akK l l2 = 0 by unfold akK; rw [hak, if_neg (by decide)], show akF l l2 = 2 by unfold akF; rw [hak, if_neg (by decide)]]
   have hb : binI .neq .i64 .i64 (l.length : Int) (l2.length : Int) = some (.bool true) := by
     generalize (l.length : Int) = a at hll ⊢
     generalize (l2.length : Int) = b at hll ⊢
     simp [binI, hll]
   refine wops_cons (wop_bin (op := .neq) (v := .bool true) rfl rfl rfl rfl hb ?_)
   repeat (first | apply qN | refine qM rfl rfl ?_ | refine zq7 rfl rfl rfl ?_ | refine qT rfl ?_ | apply qR | apply qS)
   refine wops_cons (wop_bin (op := .eql) (v := .bool false) rfl rfl rfl rfl rfl ?_)
   repeat (first | apply qN | refine qM rfl rfl ?_ | refine qF rfl ?_ | apply qR | apply qS | apply qK)
   refine wops_cons (wop_bin (op := .eql) (v := .bool true) rfl rfl rfl rfl rfl ?_)
   repeat (first | refine qM rfl rfl ?_)
   refine wops_cons (wop_bin (op := .eql) (v := .bool true) rfl rfl rfl rfl rfl ?_)
   repeat (first | refine qM rfl rfl ?_ | refine zq7 rfl rfl rfl ?_)
   refine wops_cons (wop_callF rfl rfl rfl (fn := Tryz.f12) (by rfl) ?_)
   refine ca_oracle (hA _ k09.gl) ⟨Nat.le_refl _, ?_⟩
   repeat (first | apply qN | refine qM rfl rfl ?_ | refine zq7 rfl rfl rfl ?_)
   refine wp_ret ?_
   exact ⟨_, _, rfl, hk _⟩
 have hak : akE l l2 = 0 := by unfold akE eqE; rw [firstNZ_cons, if_neg (by simpa using hc1), firstNZ_cons, if_neg (by simpa using hc2), decide_eq_true hll]; rfl
 rw [show akK l l2 = (if alkZ l l2 < 0 then 0 else alkZ l l2) by unfold akK; rw [if_pos hak], show akF l l2 = (if alkZ l l2 < 0 then 7 else 0) by unfold akF; rw [if_pos hak]]
 have hb : binI .neq .i64 .i64 (l.length : Int) (l2.length : Int) = some (.bool false) := by
   rw [hll]
   generalize (l2.length : Int) = b
   simp [binI]
 refine wops_cons (wop_bin (op := .neq) (v := .bool false) rfl rfl rfl rfl hb ?_)
 repeat (first | apply qN | refine qM rfl rfl ?_ | refine zq7 rfl rfl rfl ?_ | refine qF rfl ?_ | apply qR | apply qS | apply qK)
 refine wops_cons (wop_bin (op := .eql) (v := .bool true) rfl rfl rfl rfl rfl ?_)
 repeat (first | apply qN | refine qM rfl rfl ?_ | refine qT rfl ?_ | apply qR | apply qS)
 refine wops_cons (wop_callF rfl rfl rfl (fn := Tryz.f36) (by rfl) ?_)
 refine cRAlike hq H9 yv xv l l2 hy9 hx9 hl0 (by omega) (by omega) (by omega) _ fun H10 k10 n10 => ⟨k10.nx, ?_⟩
 have k010 := k09.trans k10
 repeat (first | apply qN | refine qM rfl rfl ?_ | apply qR | apply qS)
 refine WOps.cut (fun T => ∃ Y : List AV, T = (lget Y 0 :: lget Y 1 :: lget Y 2 :: lget Y 3 :: lget Y 4 :: lget Y 5 :: lget Y 6 :: lget Y 7 :: lget Y 8 :: iv (if alkZ l l2 < 0 then 0 else alkZ l l2) :: iv (if alkZ l l2 < 0 then 7 else 0) :: lget Y 9 :: iv 0 :: lget Y 10 :: iv (alkZ l l2) :: lget Y 11 :: lget Y 12 :: lget Y 13 :: lget Y 14 :: lget Y 15 :: lget Y 16 :: lget Y 17 :: lget Y 18 :: lget Y 19 :: lget Y 20 :: lget Y 21 :: lget Y 22 :: lget Y 23 :: lget Y 24 :: lget Y 25 :: lget Y 26 :: lget Y 27 :: lget Y 28 :: lget Y 29 :: lget Y 30 :: lget Y 31 :: lget Y 32 :: lget Y 33 :: lget Y 34 :: lget Y 35 :: lget Y 36 :: lget Y 37 :: lget Y 38 :: lget Y 39 :: lget Y 40 :: lget Y 41 :: lget Y 42 :: lget Y 43 :: lget Y 44 :: lget Y 45 :: lget Y 46 :: lget Y 47 :: lget Y 48 :: lget Y 49 :: lget Y 50 :: lget Y 51 :: lget Y 52 :: lget Y 53 :: lget Y 54 :: lget Y 55 :: lget Y 56 :: lget Y 57 :: lget Y 58 :: lget Y 59 :: lget Y 60 :: lget Y 61 :: lget Y 62 :: lget Y 63 :: lget Y 64 :: lget Y 65 :: lget Y 66 :: lget Y 67 :: lget Y 68 :: lget Y 69 :: iv (alkZ l l2) :: lget Y 70 :: lget Y 71 :: lget Y 72 :: lget Y 73 :: lget Y 74 :: lget Y 75 :: lget Y 76 :: lget Y 77 :: lget Y 78 :: lget Y 79 :: lget Y 80 :: lget Y 81 :: [])) ⟨[_,_,_,_,_,_,_,_,_,_,_,_,_,_,_,_,_,_,_,_,_,_,_,_,_,_,_,_,_,_,_,_,_,_,_,_,_,_,_,_,_,_,_,_,_,_,_,_,_,_,_,_,_,_,_,_,_,_,_,_,_,_,_,_,_,_,_,_,_,_,_,_,_,_,_,_,_,_,_,_,_,_], rfl⟩ ?_
 rintro T ⟨Y, rfl⟩
 generalize alkZ l l2 = w
 by_cases hw : w < 0
 · rw [if_pos hw, if_pos hw]
   refine wops_cons (wop_bin (op := .lss) (v := .bool true) rfl rfl rfl rfl (by simp [binI, hw]) ?_)
   repeat (first | apply qN | refine qM rfl rfl ?_ | refine qT rfl ?_ | apply qR | apply qS)
   refine wops_cons (wop_bin (op := .eql) (v := .bool true) rfl rfl rfl rfl rfl ?_)
   repeat (first | refine qM rfl rfl ?_)
   refine wops_cons (wop_bin (op := .eql) (v := .bool true) rfl rfl rfl rfl rfl ?_)
   repeat (first | refine qM rfl rfl ?_ | refine zq7 rfl rfl rfl ?_)
   refine wops_cons (wop_callF rfl rfl rfl (fn := Tryz.f12) (by rfl) ?_)
   refine ca_oracle (hA _ k010.gl) ⟨Nat.le_refl _, ?_⟩
   repeat (first | apply qN | refine qM rfl rfl ?_ | refine zq7 rfl rfl rfl ?_)
   refine wp_ret ?_
   exact ⟨_, _, rfl, hk _⟩
 · rw [if_neg hw, if_neg hw]
   refine wops_cons (wop_bin (op := .lss) (v := .bool false) rfl rfl rfl rfl (by simp [binI]; omega) ?_)
   repeat (first | apply qN | refine qM rfl rfl ?_ | refine qF rfl ?_ | apply qR | apply qS | apply qK)
   refine wops_cons (wop_bin (op := .eql) (v := .bool true) rfl rfl rfl rfl (by simp [binI]) ?_)
   repeat (first | refine qM rfl rfl ?_)
   refine wops_cons (wop_bin (op := .eql) (v := .bool true) rfl rfl rfl rfl rfl ?_)
   repeat (first | refine qM rfl rfl ?_ | refine zq7 rfl rfl rfl ?_)
   refine wops_cons (wop_callF rfl rfl rfl (fn := Tryz.f12) (by rfl) ?_)
   refine ca_oracle (hA _ k010.gl) ⟨Nat.le_refl _, ?_⟩
   repeat (first | apply qN | refine qM rfl rfl ?_ | refine zq7 rfl rfl rfl ?_)
   refine wp_ret ?_
   exact ⟨_, _, rfl, hk _⟩
end Go.Ev
