/- Part of an evaluator of calls that is proved sound, and of what it gives about this program. No condition of its own. -/
import Derived.Test.YtknbipaecnggcaaGreatDoorExRh
set_option linter.unusedVariables false
set_option linter.unusedSimpArgs false
set_option linter.unusedSectionVars false
set_option maxRecDepth 1000000
set_option maxHeartbeats 16000000
namespace Go.Ev
open Go.Proofs
def lgE (l : List Int) (a b : Int) : Int := if chkE l ≠ 0 then 0 else refE l a b
theorem lg_tup (l : List Int) (a b : Int) : (if chkE l ≠ 0 then [iv 0, iv (chkE l)] else [iv (refE l a b), iv 0]) = [iv (lgE l a b), iv (chkE l)] := by
 unfold lgE
 by_cases h : chkE l = 0
 · simp [h]
 · simp [h]
theorem rpE_one (l : List Int) (p : Int × Int) : rpE l [p] = chkE l := by
 have e : mvE [p] = 0 := rfl
 unfold rpE
 rw [e]
 by_cases h : chkE l = 0
 · simp [firstNZ, h]
 · simp [firstNZ, h]
theorem fl_bad {l : List Int} {a b : Int} (h : chkE l ≠ 0) : flE l [(a, b)] = chkE l := by
 rw [flE_bad (by rw [rpE_one]; exact h), rpE_one]
theorem fl_ref {l : List Int} {a b : Int} (h : chkE l = 0) (h2 : refE l a b ≠ 0) : flE l [(a, b)] = 18 := by
 rw [flE_ok (by rw [rpE_one]; exact h)]
 simp [rpL, h2]
theorem rp_ok {l : List Int} {a b : Int} (h2 : refE l a b = 0) : rpL l 0 [(a, b)] = (nxL l a b, []) := by
 simp [rpL, h2]
theorem fl_ok {l : List Int} {a b : Int} (h : chkE l = 0) (h2 : refE l a b = 0) : flE l [(a, b)] = 0 := by
 rw [flE_ok (by rw [rpE_one]; exact h), rp_ok h2]
 rfl
def frL (l : List Int) (a b : Int) : List Int := if flE l [(a, b)] = 0 then (rpL l 0 [(a, b)]).1 else []
variable {O : CallF} (hq : Quiet O)
include hq
theorem c3l (H : AH) (hA : ∀ H', H'.gl = H.gl → O 12 [] H' = some (.v (.bool true), H')) (yv : Value) (a0 : AV) (l : List Int) (a b : Int) (ha : a0.cells = [iv a, iv b]) (hy : Sl H (.v yv) (ivs l)) (hr : H.next ≤ 1000) (K : AV → AH → Prop) (hk : ∀ H', K (.v (.bool true)) H') : Ca (ENV O) 3 [.v yv, a0] H K := by
 refine ca_intro (hq _ _ _ rfl) (fn := Tryz.f3) (by rfl) rfl ?_
 have hoy : ∀ H', Old H' (.v yv) := fun H' => Old.v _
 repeat (first | apply qR | apply qS)
 refine wops_cons (o_boxS rfl rfl ha (by omega) fun H1 n1 k1 b1 => ?_)
 have hy1 := hy.keep (hoy _) k1
 have hL1 : ∀ c, (AV.ptr H.next 0).own = some c → Lk H1 c := b1.lk (by omega) (by simp [beqs, AV.beq, iv, vbeq])
 repeat (first | apply qN | refine qM rfl rfl ?_ | apply qR | apply qS)
 refine wops_cons (wop_callF rfl rfl rfl (fn := Tryz.f11) (by rfl) ?_)
 refine cShort hq H1 _ l hy1 _ ⟨Nat.le_refl _, ?_⟩
 by_cases hs : (l.length : Int) ≤ 66
 rotate_left
 · rw [decide_eq_false hs]
   repeat (first | apply qN | refine zq8 rfl rfl rfl ?_ | refine qT rfl ?_ | apply qR | apply qS)
   refine wops_cons (wop_callF rfl rfl rfl (fn := Tryz.f12) (by rfl) ?_)
   refine ca_oracle (hA _ k1.gl) ⟨Nat.le_refl _, ?_⟩
   repeat (first | apply qN | refine qM rfl rfl ?_)
   refine wp_ret ?_
   exact ⟨_, _, rfl, hk _⟩
 have hl : l.length ≤ 66 := by omega
 rw [decide_eq_true hs]
 repeat (first | apply qN | refine zq8 rfl rfl rfl ?_ | refine qF rfl ?_ | apply qS | apply qK)
 refine Wp.mono (Q := fun x' T' M' H' => x' = .normal ∧ M' = [] ∧ Keeps H1 H' ∧ H'.next ≤ H1.next + 1200 ∧ ∃ (Y : List AV), T' = (.v yv :: lget Y 0 :: lget Y 1 :: .ptr H.next 0 :: lget Y 2 :: iv (lgE l a b) :: iv (chkE l) :: lget Y 3 :: lget Y 4 :: lget Y 5 :: lget Y 6 :: lget Y 7 :: lget Y 8 :: lget Y 9 :: lget Y 10 :: lget Y 11 :: lget Y 12 :: lget Y 13 :: lget Y 14 :: lget Y 15 :: lget Y 16 :: lget Y 17 :: lget Y 18 :: lget Y 19 :: lget Y 20 :: lget Y 21 :: lget Y 22 :: lget Y 23 :: lget Y 24 :: lget Y 25 :: lget Y 26 :: lget Y 27 :: lget Y 28 :: lget Y 29 :: lget Y 30 :: lget Y 31 :: lget Y 32 :: lget Y 33 :: lget Y 34 :: lget Y 35 :: lget Y 36 :: lget Y 37 :: lget Y 38 :: lget Y 39 :: lget Y 40 :: lget Y 41 :: lget Y 42 :: lget Y 43 :: lget Y 44 :: lget Y 45 :: lget Y 46 :: lget Y 47 :: lget Y 48 :: lget Y 49 :: lget Y 50 :: lget Y 51 :: lget Y 52 :: lget Y 53 :: lget Y 54 :: lget Y 55 :: lget Y 56 :: lget Y 57 :: lget Y 58 :: lget Y 59 :: lget Y 60 :: lget Y 61 :: lget Y 62 :: lget Y 63 :: lget Y 64 :: lget Y 65 :: lget Y 66 :: lget Y 67 :: lget Y 68 :: lget Y 69 :: lget Y 70 :: lget Y 71 :: lget Y 72 :: lget Y 73 :: lget Y 74 :: lget Y 75 :: lget Y 76 :: lget Y 77 :: lget Y 78 :: lget Y 79 :: lget Y 80 :: lget Y 81 :: lget Y 82 :: lget Y 83 :: lget Y 84 :: lget Y 85 :: lget Y 86 :: lget Y 87 :: [])) (wp_drawK rfl ?_) ?_
 · repeat (first | refine k_move rfl rfl rfl ?_ | refine k_load4 rfl rfl rfl rfl ‹_› ‹_› ?_)
   refine k_call rfl rfl rfl (fun b h => by cases h) (wop_callF rfl rfl rfl (fn := Tryz.f14) (by rfl) ?_)
   refine cNums hq H1 yv l hy1 (by omega) (by omega) _ fun H2 r2 k2 n2 hA2 hn2 => ⟨k2.nx, k2, ?_⟩
   refine k_call rfl rfl rfl (fun b h => by cases h) (wop_callF rfl rfl rfl (fn := Tryz.f13) (by rfl) ?_)
   refine cLegal hq H2 r2 l a b _ rfl hA2.ky.sl hA2.ky.old (by omega) (by omega) _ fun H3 k3 n3 => ⟨k3.nx, k2.trans k3, ?_⟩
   rw [lg_tup]
   repeat (first | refine k_move rfl rfl rfl ?_)
   refine k_extract rfl rfl rfl rfl rfl ?_
   skip
   refine k_extract rfl rfl rfl rfl rfl ?_
   repeat (first | refine k_nil ?_ | refine k_assign rfl rfl rfl ?_)
   exact ⟨rfl, rfl, k2.trans k3, by omega, [_,_,_,_,_,_,_,_,_,_,_,_,_,_,_,_,_,_,_,_,_,_,_,_,_,_,_,_,_,_,_,_,_,_,_,_,_,_,_,_,_,_,_,_,_,_,_,_,_,_,_,_,_,_,_,_,_,_,_,_,_,_,_,_,_,_,_,_,_,_,_,_,_,_,_,_,_,_,_,_,_,_,_,_,_,_,_,_], rfl⟩
 rintro x' T' M' H4 ⟨rfl, rfl, k14, n4, Y, rfl⟩
 show Wp _ _ _ _ _ _ _ _
 have hy4 := hy1.keep (hoy _) k14
 have b4 := b1.keep (by omega) k14
 have hL4 : ∀ c, (AV.ptr H.next 0).own = some c → Lk H4 c := b4.lk (by have := k14.nx; omega) (by simp [beqs, AV.beq, iv, vbeq])
 repeat (first | apply qS)
 refine Wp.mono (Q := fun x' T' M' H' => x' = .normal ∧ M' = [] ∧ Keeps H4 H' ∧ H'.next ≤ H4.next + 1300 ∧ ∃ r, Gr H' 3 r (ivs (frL l a b)) ∧ ∃ (Y : List AV), T' = (.v yv :: lget Y 0 :: lget Y 1 :: .ptr H.next 0 :: lget Y 2 :: iv (lgE l a b) :: iv (chkE l) :: r :: iv (flE l [(a, b)]) :: lget Y 3 :: lget Y 4 :: lget Y 5 :: lget Y 6 :: lget Y 7 :: lget Y 8 :: lget Y 9 :: lget Y 10 :: lget Y 11 :: lget Y 12 :: lget Y 13 :: lget Y 14 :: lget Y 15 :: lget Y 16 :: lget Y 17 :: lget Y 18 :: lget Y 19 :: lget Y 20 :: lget Y 21 :: lget Y 22 :: lget Y 23 :: lget Y 24 :: lget Y 25 :: lget Y 26 :: lget Y 27 :: lget Y 28 :: lget Y 29 :: lget Y 30 :: lget Y 31 :: lget Y 32 :: lget Y 33 :: lget Y 34 :: lget Y 35 :: lget Y 36 :: lget Y 37 :: lget Y 38 :: lget Y 39 :: lget Y 40 :: lget Y 41 :: lget Y 42 :: lget Y 43 :: lget Y 44 :: lget Y 45 :: lget Y 46 :: lget Y 47 :: lget Y 48 :: lget Y 49 :: lget Y 50 :: lget Y 51 :: lget Y 52 :: lget Y 53 :: lget Y 54 :: lget Y 55 :: lget Y 56 :: lget Y 57 :: lget Y 58 :: lget Y 59 :: lget Y 60 :: lget Y 61 :: lget Y 62 :: lget Y 63 :: lget Y 64 :: lget Y 65 :: lget Y 66 :: lget Y 67 :: lget Y 68 :: lget Y 69 :: lget Y 70 :: lget Y 71 :: lget Y 72 :: lget Y 73 :: lget Y 74 :: lget Y 75 :: lget Y 76 :: lget Y 77 :: lget Y 78 :: lget Y 79 :: lget Y 80 :: lget Y 81 :: lget Y 82 :: lget Y 83 :: lget Y 84 :: lget Y 85 :: [])) (wp_drawK rfl ?_) ?_
 · repeat (first | refine k_move rfl rfl rfl ?_ | refine k_load4 rfl rfl rfl rfl ‹_› ‹_› ?_)
   refine k_call rfl rfl rfl (fun b h => by cases h) (wop_callF rfl rfl rfl (fn := Tryz.f14) (by rfl) ?_)
   refine cNums hq H4 yv l hy4 (by omega) (by omega) _ fun H2 r2 k2 n2 hA2 hn2 => ⟨k2.nx, k2, ?_⟩
   refine k_call rfl rfl rfl (fun b h => by cases h) (wop_callF rfl rfl rfl (fn := Tryz.f15) (by rfl) ?_)
   refine cNext hq H2 r2 l a b _ rfl hA2.ky.sl hA2.ky.old hA2.gr (by omega) (by omega) _ (fun h0 H3 k3 n3 => ⟨k3.nx, k2.trans k3, ?_⟩) (fun h0 H3 r k3 n3 hG hn => ⟨k3.nx, k2.trans k3, ?_⟩)
   · repeat (first | refine k_move rfl rfl rfl ?_)
     refine k_extract rfl rfl rfl rfl rfl ?_
     skip
     refine k_extract rfl rfl rfl rfl rfl ?_
     repeat (first | refine k_nil ?_ | refine k_assign rfl rfl rfl ?_)
     exact ⟨rfl, rfl, k2.trans k3, by omega, .v (.slice none 0 0), .inl ⟨rfl, by unfold frL; rw [if_neg h0]; rfl⟩, [_,_,_,_,_,_,_,_,_,_,_,_,_,_,_,_,_,_,_,_,_,_,_,_,_,_,_,_,_,_,_,_,_,_,_,_,_,_,_,_,_,_,_,_,_,_,_,_,_,_,_,_,_,_,_,_,_,_,_,_,_,_,_,_,_,_,_,_,_,_,_,_,_,_,_,_,_,_,_,_,_,_,_,_,_,_], rfl⟩
   · rw [show frL l a b = (rpL l 0 [(a, b)]).1 by unfold frL; rw [if_pos h0]]
     rw [h0]
     repeat (first | refine k_move rfl rfl rfl ?_)
     refine k_extract rfl rfl rfl rfl rfl ?_
     skip
     refine k_extract rfl rfl rfl rfl rfl ?_
     repeat (first | refine k_nil ?_ | refine k_assign rfl rfl rfl ?_)
     exact ⟨rfl, rfl, k2.trans k3, by omega, r, hG, [_,_,_,_,_,_,_,_,_,_,_,_,_,_,_,_,_,_,_,_,_,_,_,_,_,_,_,_,_,_,_,_,_,_,_,_,_,_,_,_,_,_,_,_,_,_,_,_,_,_,_,_,_,_,_,_,_,_,_,_,_,_,_,_,_,_,_,_,_,_,_,_,_,_,_,_,_,_,_,_,_,_,_,_,_,_], rfl⟩
 rintro x' T' M' H5 ⟨rfl, rfl, k45, n5, r, hG5, Y, rfl⟩
 show Wp _ _ _ _ _ _ _ _
 have k15 := k14.trans k45
 have hy5 := hy1.keep (hoy _) k15
 repeat (first | refine qM rfl rfl ?_ | apply qR | apply qS)
 refine wops_cons (wop_callF rfl rfl rfl (fn := Tryz.f16) (by rfl) ?_)
 refine cRChk hq H5 _ l hy5 (by omega) _ ⟨Nat.le_refl _, ?_⟩
 repeat (first | apply qN | refine qM rfl rfl ?_ | apply qR | apply qS)
 refine wops_cons (wop_callF rfl rfl rfl (fn := Tryz.f14) (by rfl) ?_)
 refine cNums hq H5 yv l hy5 (by omega) (by omega) _ fun H6 r6 k6 n6 hA6 hn6 => ⟨k6.nx, ?_⟩
 refine wops_cons (wop_callF rfl rfl rfl (fn := Tryz.f17) (by rfl) ?_)
 refine cChk hq H6 r6 l hA6.ky.sl hA6.ky.old (by omega) (by omega) _ fun H7 k7 n7 => ⟨k7.nx, ?_⟩
 have k57 := k6.trans k7
 have k17 := k15.trans k57
 have k07 := k1.trans k17
 have hy7 := hy.keep (hoy _) k07
 have b7 := b1.keep (by omega) k17
 have hG7 : Gr H7 3 r (ivs (frL l a b)) := hG5.frame k57.nx fun b hb => k57.get b (hG5.old b hb)
 have n7' : H7.next ≤ 5000 := by omega
 clear hG5 hA6 hn6
 repeat (first | refine qM rfl rfl ?_)
 refine wops_cons (wop_bin (op := .neq) (v := .bool false) rfl rfl rfl rfl (by simp [binI]) ?_)
 refine WOps.cut (fun T => ∃ Y : List AV, T = (.v yv :: lget Y 0 :: lget Y 1 :: .ptr H.next 0 :: lget Y 2 :: iv (lgE l a b) :: iv (chkE l) :: r :: iv (flE l [(a, b)]) :: iv (chkE l) :: lget Y 3 :: lget Y 4 :: lget Y 5 :: lget Y 6 :: lget Y 7 :: lget Y 8 :: lget Y 9 :: lget Y 10 :: lget Y 11 :: lget Y 12 :: lget Y 13 :: lget Y 14 :: lget Y 15 :: lget Y 16 :: lget Y 17 :: lget Y 18 :: lget Y 19 :: lget Y 20 :: lget Y 21 :: lget Y 22 :: lget Y 23 :: lget Y 24 :: lget Y 25 :: lget Y 26 :: lget Y 27 :: .v (.bool false) :: lget Y 28 :: lget Y 29 :: lget Y 30 :: lget Y 31 :: lget Y 32 :: lget Y 33 :: lget Y 34 :: lget Y 35 :: lget Y 36 :: lget Y 37 :: lget Y 38 :: lget Y 39 :: lget Y 40 :: lget Y 41 :: lget Y 42 :: lget Y 43 :: lget Y 44 :: lget Y 45 :: lget Y 46 :: lget Y 47 :: lget Y 48 :: lget Y 49 :: lget Y 50 :: lget Y 51 :: lget Y 52 :: lget Y 53 :: lget Y 54 :: lget Y 55 :: lget Y 56 :: lget Y 57 :: lget Y 58 :: lget Y 59 :: lget Y 60 :: lget Y 61 :: lget Y 62 :: lget Y 63 :: lget Y 64 :: lget Y 65 :: lget Y 66 :: lget Y 67 :: lget Y 68 :: lget Y 69 :: lget Y 70 :: lget Y 71 :: lget Y 72 :: lget Y 73 :: lget Y 74 :: lget Y 75 :: lget Y 76 :: lget Y 77 :: lget Y 78 :: lget Y 79 :: lget Y 80 :: lget Y 81 :: lget Y 82 :: lget Y 83 :: [])) ⟨[_,_,_,_,_,_,_,_,_,_,_,_,_,_,_,_,_,_,_,_,_,_,_,_,_,_,_,_,_,_,_,_,_,_,_,_,_,_,_,_,_,_,_,_,_,_,_,_,_,_,_,_,_,_,_,_,_,_,_,_,_,_,_,_,_,_,_,_,_,_,_,_,_,_,_,_,_,_,_,_,_,_,_,_], rfl⟩ ?_
 rintro T ⟨Y, rfl⟩
 repeat (first | apply qN | refine qM rfl rfl ?_ | refine qF rfl ?_ | apply qR | apply qS | apply qK)
 by_cases hc : chkE l = 0
 rotate_left
 · rw [fl_bad hc]
   have hS7 : Sl H7 r (ivs []) := by
     have h := hG7.sl
     rw [show frL l a b = [] by unfold frL; rw [fl_bad hc, if_neg hc]] at h
     exact h
   rw [show lgE l a b = 0 by unfold lgE; rw [if_pos hc]]
   refine wops_cons (wop_bin (op := .neq) (v := .bool true) rfl rfl rfl rfl (by simp [binI, hc]) ?_)
   repeat (first | apply qN | refine qM rfl rfl ?_ | refine qT rfl ?_ | apply qR | apply qS)
   refine wops_cons (wop_bin (op := .eql) (v := .bool true) rfl rfl rfl rfl rfl ?_)
   repeat (first | refine qM rfl rfl ?_)
   refine wops_cons (wop_bin (op := .eql) (v := .bool true) rfl rfl rfl rfl (by simp [binI]) ?_)
   repeat (first | refine qM rfl rfl ?_ | refine zq5 rfl rfl rfl rfl rfl ‹_› ?_ | refine zq7 rfl rfl rfl ?_)
   refine wops_cons (wop_bin (op := .eql) (v := .bool true) rfl rfl rfl rfl rfl ?_)
   repeat (first | refine qM rfl rfl ?_ | refine zq7 rfl rfl rfl ?_)
   refine wops_cons (wop_bin (op := .eql) (v := .bool true) rfl rfl rfl rfl (by simp [binI]) ?_)
   repeat (first | refine qM rfl rfl ?_ | refine zq7 rfl rfl rfl ?_)
   refine wops_cons (wop_callF rfl rfl rfl (fn := Tryz.f12) (by rfl) ?_)
   refine ca_oracle (hA _ k07.gl) ⟨Nat.le_refl _, ?_⟩
   repeat (first | apply qN | refine qM rfl rfl ?_ | refine zq7 rfl rfl rfl ?_)
   refine wp_ret ?_
   exact ⟨_, _, rfl, hk _⟩
 rw [show lgE l a b = refE l a b by unfold lgE; rw [if_neg (fun h => h hc)], hc]
 refine wops_cons (wop_bin (op := .neq) (v := .bool false) rfl rfl rfl rfl rfl ?_)
 repeat (first | apply qN | refine qM rfl rfl ?_ | refine zqb rfl rfl rfl ‹_› ?_ | refine qF rfl ?_ | apply qR | apply qS | apply qK)
 refine wops_cons (wop_callF rfl rfl rfl (fn := Tryz.f18) (by rfl) ?_)
 refine cRLegal hq H7 _ l a b _ rfl hy7 (hoy _) (by omega) (by omega) _ fun H8 k8 n8 => ⟨k8.nx, ?_⟩
 have k08 := k07.trans k8
 have hy8 := hy.keep (hoy _) k08
 have b8 := b7.keep (by have := k17.nx; omega) k8
 have hG8 : Gr H8 3 r (ivs (frL l a b)) := hG7.frame k8.nx fun b hb => k8.get b (hG7.old b hb)
 clear hG7 b7
 repeat (first | apply qN | refine qM rfl rfl ?_ | apply qR | apply qS)
 refine wops_cons (wop_bin (op := .neq) (v := .bool false) rfl rfl rfl rfl (by simp [binI]) ?_)
 repeat (first | refine qM rfl rfl ?_)
 refine wops_cons (wop_bin (op := .neq) (v := .bool false) rfl rfl rfl rfl rfl ?_)
 repeat (first | apply qN | refine qM rfl rfl ?_ | refine zq7 rfl rfl rfl ?_ | refine qF rfl ?_ | apply qR | apply qS | apply qK)
 have hle := refE_le l a b
 by_cases h2 : refE l a b = 0
 rotate_left
 · rw [fl_ref hc h2]
   have hS8 : Sl H8 r (ivs []) := by
     have h := hG8.sl
     rw [show frL l a b = [] by unfold frL; rw [fl_ref hc h2]; rfl] at h
     exact h
   refine wops_cons (wop_bin (op := .gtr) (v := .bool true) rfl rfl rfl rfl (by simp [binI]; omega) ?_)
   repeat (first | apply qN | refine qM rfl rfl ?_ | refine zq5 rfl rfl rfl rfl rfl ‹_› ?_ | refine qT rfl ?_ | apply qR | apply qS)
   refine wops_cons (wop_bin (op := .eql) (v := .bool true) rfl rfl rfl rfl rfl ?_)
   repeat (first | refine qM rfl rfl ?_)
   refine wops_cons (wop_bin (op := .eql) (v := .bool true) rfl rfl rfl rfl rfl ?_)
   repeat (first | refine qM rfl rfl ?_ | refine zq7 rfl rfl rfl ?_)
   refine wops_cons (wop_callF rfl rfl rfl (fn := Tryz.f12) (by rfl) ?_)
   refine ca_oracle (hA _ k08.gl) ⟨Nat.le_refl _, ?_⟩
   repeat (first | apply qN | refine qM rfl rfl ?_ | refine zq7 rfl rfl rfl ?_)
   refine wp_ret ?_
   exact ⟨_, _, rfl, hk _⟩
 rw [fl_ok hc h2, h2]
 have hS8 : Sl H8 r (ivs (nxL l a b)) := by
   have h := hG8.sl
   rw [show frL l a b = nxL l a b by unfold frL; rw [fl_ok hc h2, if_pos rfl, rp_ok h2]] at h
   exact h
 have ho8 := hG8.old
 refine wops_cons (wop_bin (op := .gtr) (v := .bool false) rfl rfl rfl rfl rfl ?_)
 repeat (first | apply qN | refine qM rfl rfl ?_ | refine qF rfl ?_ | apply qR | apply qS | apply qK)
 refine wops_cons (wop_bin (op := .eql) (v := .bool true) rfl rfl rfl rfl rfl ?_)
 repeat (first | refine qM rfl rfl ?_ | refine zqb rfl rfl rfl ‹_› ?_)
 refine wops_cons (wop_callF rfl rfl rfl (fn := Tryz.f20) (by rfl) ?_)
 have h4 := (chkE_len hc).1
 refine cRNext hq H8 yv l a b _ rfl hy8 (by omega) (by omega) h2 (by omega) _ fun H9 r9 k9 n9 hG9 => ⟨k9.nx, ?_⟩
 have hln := nxL_len l a b
 refine wops_cons (wop_callF rfl rfl rfl (fn := Tryz.f19) (by rfl) ?_)
 refine cSameI hq H9 r r9 (nxL l a b) (nxL l a b) (hS8.keep ho8 k9) hG9.sl (by omega) (by omega) _ ⟨Nat.le_refl _, ?_⟩
 rw [decide_eq_true rfl]
 repeat (first | refine qM rfl rfl ?_ | refine zq7 rfl rfl rfl ?_)
 refine wops_cons (wop_callF rfl rfl rfl (fn := Tryz.f12) (by rfl) ?_)
 refine ca_oracle (hA _ (k08.trans k9).gl) ⟨Nat.le_refl _, ?_⟩
 repeat (first | apply qN | refine qM rfl rfl ?_ | refine zq7 rfl rfl rfl ?_)
 refine wp_ret ?_
 exact ⟨_, _, rfl, hk _⟩
end Go.Ev
