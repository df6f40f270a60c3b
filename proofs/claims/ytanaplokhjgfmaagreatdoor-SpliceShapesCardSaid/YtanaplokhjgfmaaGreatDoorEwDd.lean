/- Part of an evaluator of calls that is proved sound, and of what it gives about this program. No condition of its own. -/
import Derived.Test.YtanaplokhjgfmaaGreatDoorEwDa
set_option linter.unusedVariables false
set_option linter.unusedSimpArgs false
set_option linter.unusedSectionVars false
set_option maxRecDepth 100000
set_option maxHeartbeats 4000000
namespace Go.Ev
open Go.Proofs
def evR (f l R i : Nat) : Int × Int := rwN (mN f l R i) (mN f l R (i + 1))
def evL (f l R : Nat) : List (Int × Int) := (List.range R).map (evR f l R)
theorem evL_len (f l R : Nat) : (evL f l R).length = R := by simp [evL]
theorem evL_get {f l R i : Nat} (h : i < R) : (evL f l R)[i]? = some (evR f l R i) := by simp [evL, h]
theorem fillP {l : List (Int × Int)} {n i : Nat} (hl : l.length = n) (hi : i < n) {z : Int × Int} (hz : l[i]? = some z) : (l.take i ++ List.replicate (n - i) ((0 : Int), (0 : Int))).set i z = l.take (i + 1) ++ List.replicate (n - (i + 1)) (0, 0) := by
 have h1 : (l.take i).length = i := by rw [List.length_take]; omega
 rw [List.set_append_right _ _ (by omega), h1, Nat.sub_self, List.take_add_one, hz]
 obtain ⟨k, hk⟩ : ∃ k, n - i = k + 1 := ⟨n - i - 1, by omega⟩
 rw [hk, List.replicate_succ, List.set_cons_zero, show n - (i + 1) = k by omega]
 simp
def shE (f l R : Int) : Int := firstNZ [if inB f 1 500 = true then 0 else 3, if inB l 1 500 = true then 0 else 3, if inB R 1 64 = true then 0 else 3]
theorem shE_ok {f l R : Int} (h : shE f l R = 0) : ∃ a b c : Nat, f = (a : Int) ∧ l = (b : Int) ∧ R = (c : Int) ∧ 1 ≤ a ∧ a ≤ 500 ∧ 1 ≤ b ∧ b ≤ 500 ∧ 1 ≤ c ∧ c ≤ 64 := by
 unfold shE at h
 rw [firstNZ_cons] at h
 cases h1 : inB f 1 500 with
 | false => rw [h1] at h; simp at h
 | true =>
   rw [h1] at h
   simp only [if_true, ne_eq, not_true, if_false] at h
   obtain ⟨h2, h3⟩ := first2n h
   have h1 := inB_iff.1 h1
   have e2 : inB l 1 500 = true := by
     cases hb : inB l 1 500 with
     | true => rfl
     | false => rw [hb] at h2; simp at h2
   have e3 : inB R 1 64 = true := by
     cases hb : inB R 1 64 with
     | true => rfl
     | false => rw [hb] at h3; simp at h3
   have h2 := inB_iff.1 e2
   have h3 := inB_iff.1 e3
   exact ⟨f.toNat, l.toNat, R.toNat, by omega, by omega, by omega, by omega, by omega, by omega, by omega, by omega, by omega⟩
variable {O : CallF} (hq : Quiet O)
include hq
theorem c85 (H : AH) (nb pf pl pR : Nat) (f l R : Nat) (hf : f ≤ 500) (hl : l ≤ 500) (hR0 : 0 < R) (hR : R ≤ 64) (g1 : H.get pf = some (.cells [iv (f : Nat)] 3 0)) (g2 : H.get pl = some (.cells [iv (l : Nat)] 3 0)) (g3 : H.get pR = some (.cells [iv (R : Nat)] 3 0)) (l1 : pf < H.next) (l2 : pl < H.next) (l3 : pR < H.next) (hnb : nb < H.next) (gn : H.get nb = some (.cells (ivs (nums R)) 3 0)) (hr : H.next + 2000 < 2 ^ 59) (K : AV → AH → Prop)
   (hk : ∀ H', Keeps H H' → H'.next ≤ H.next + 1 + 2 * R → H.next < H'.next → H'.get H.next = some (.cells (fl2 (evL f l R)) 120 0) → K (.slc H.next 0 R R) H') : Ca (ENV O) 85 [.slc nb 0 R R, .fn (.func 87) [] [.ptr pf 0, .ptr pl 0, .ptr pR 0]] H K := by
 refine ca_intro (hq _ _ _ rfl) (fn := Tryz.f85) (by rfl) rfl ?_
 have r0 : H.next < 2 ^ 59 := by omega
 have hS : Sl H (.slc nb 0 R R) (ivs (nums R)) := ⟨by rw [ivs_length, nums_len], by omega, _, _, _, gn, fun j v hv => by rw [Nat.zero_add]; exact hv⟩
 have hno : Old H (.slc nb 0 R R) := fun d hd => by cases hd; exact hnb
 repeat (first | apply qN | refine qM rfl rfl ?_ | refine zq5 rfl rfl rfl rfl rfl ‹_› ?_ | apply qR | apply qS)
 rw [nums_len]
 refine wops_cons (o_make2 (n := R) rfl rfl rfl rfl (by omega) r0 ?_)
 refine WOps.mem (fun H1 => Keeps H H1 ∧ H1.next = H.next + 1 ∧ H1.get H.next = some (.cells (fl2 (List.replicate R (0, 0))) 120 0)) ⟨(Keeps.refl H).add _ r0, rfl, get_add_eq r0⟩ ?_
 rintro H1 ⟨k1, n1, gz⟩
 have hS1 := hS.keep hno k1
 repeat (first | apply qN | refine qM rfl rfl ?_ | refine zq5 rfl rfl rfl rfl rfl ‹_› ?_ | apply qR | apply qS | apply qB)
 rw [nums_len]
 refine wp_loop (fun q T M H' => ∃ (i : Nat) (Y : List AV), q = R - i ∧ i ≤ R ∧ Keeps H H' ∧ H1.next ≤ H'.next ∧ H'.next ≤ H1.next + 2 * i ∧ H'.get H.next = some (.cells (fl2 ((evL f l R).take i ++ List.replicate (R - i) (0, 0))) 120 0) ∧ M = [] ∧ T = (lget Y 0 :: .fn (.func 87) [] [.ptr pf 0, .ptr pl 0, .ptr pR 0] :: lget Y 1 :: lget Y 2 :: lget Y 3 :: .slc H.next 0 R R :: lget Y 4 :: lget Y 5 :: lget Y 6 :: lget Y 7 :: lget Y 8 :: .slc nb 0 R R :: iv (R : Nat) :: iv (i : Nat) :: lget Y 9 :: lget Y 10 :: lget Y 11 :: lget Y 12 :: lget Y 13 :: lget Y 14 :: lget Y 15 :: lget Y 16 :: lget Y 17 :: lget Y 18 :: lget Y 19 :: lget Y 20 :: [])) R
   ⟨0, [_,_,_,_,_,_,_,_,_,_,_,_,_,_,_,_,_,_,_,_,_], rfl, Nat.zero_le _, k1, Nat.le_refl _, Nat.le_refl _, gz, rfl, rfl⟩ ?_
 rintro q T M H4 ⟨i, Y, hq1, hi, k4, n4, n4', g4, rfl, rfl⟩
 repeat (first | apply qR | apply qS)
 refine wops_cons (wop_cmp rfl rfl rfl rfl rfl (fun h => ?_) (fun h => ?_))
 rotate_left
 · have h : ¬ ((i : Int) < (R : Nat)) := of_decide_eq_false h
   have e : i = R := by omega
   subst e
   rw [Nat.sub_self, List.replicate_zero, List.append_nil, List.take_of_length_le (by rw [evL_len]; exact Nat.le_refl _)] at g4
   repeat (first | apply qN | refine qM rfl rfl ?_ | refine qF rfl ?_ | apply qR | apply qS | apply qE)
   refine wp_ret ?_
   exact ⟨_, _, rfl, hk H4 k4 (by omega) (by omega) g4⟩
 have hi' : i < R := by have h : (i : Int) < (R : Nat) := of_decide_eq_true h; omega
 clear h
 have hS4 := hS.keep hno k4
 repeat (first | apply qN | refine qM rfl rfl ?_ | refine qT rfl ?_ | apply qR | apply qS | apply qK | apply qB)
 refine wops_cons (o_indexI rfl rfl hS4 rfl (nums_get hi') fun pp hpp => ?_)
 repeat (first | apply qN | refine qM rfl rfl ?_ | refine zq6 rfl rfl ‹_› ?_ | apply qR)
 refine wops_cons (wop_callFn rfl rfl rfl rfl (by rfl) ?_)
 refine cShC hq H4 pf pl pR f l R i hf hl hR0 hR hi' ((k4.get _ l1).trans g1) ((k4.get _ l2).trans g2) ((k4.get _ l3).trans g3) (by have := k4.nx; omega) (by have := k4.nx; omega) (by have := k4.nx; omega) (by omega) _ fun H5 k5 n5 => ⟨k5.nx, ?_⟩
 rw [show rwN (mN f l R i) (mN f l R (i + 1)) = evR f l R i from rfl]
 have g5 := (k5.get H.next (by omega)).trans g4
 have hcl : ((evL f l R).take i ++ List.replicate (R - i) ((0 : Int), (0 : Int))).length = R := by rw [List.length_append, List.length_take, List.length_replicate, evL_len]; omega
 refine wops_cons (o_index2S rfl rfl rfl rfl hi' ?_)
 refine wops_cons (o_storeA (n := 2) (vs := [iv (evR f l R i).1, iv (evR f l R i).2]) rfl rfl (by kernel_rfl) rfl rfl rfl rfl g5 (by rw [fl2_len, hcl]; omega) ?_)
 refine WOps.mem (fun H6 => Keeps H H6 ∧ H6.next = H5.next ∧ H6.get H.next = some (.cells (fl2 ((evL f l R).take (i + 1) ++ List.replicate (R - (i + 1)) (0, 0))) 120 0)) ⟨(k4.trans k5).set _ (Nat.le_refl _) r0, rfl, ?_⟩ ?_
 · refine (get_set_eq r0).trans ?_
   rw [fl2_wr (by rw [hcl]; exact hi'), ← fillP (evL_len f l R) hi' (evL_get hi')]
 rintro H6 ⟨k6, n6, g6⟩
 repeat (first | apply qN | refine qM rfl rfl ?_ | refine zq4 rfl rfl rfl rfl (inc (by omega)) ?_ | apply qR)
 exact ⟨R - (i + 1), by omega, i + 1, [_,_,_,_,_,_,_,_,_,_,_,_,_,_,_,_,_,_,_,_,_], rfl, by omega, k6, by omega, by omega, g6, rfl, rfl⟩
theorem c31 (H : AH) (f l R : Int) (hr : H.next + 50000 < 2 ^ 59) (K : AV → AH → Prop)
   (hke : shE f l R ≠ 0 → ∀ H', Keeps H H' → H'.next ≤ H.next + 3000 → K (.tup [.agg [iv 0, .v (.slice none 0 0)], iv (shE f l R)]) H')
   (hk : ∀ a b c : Nat, f = (a : Int) → l = (b : Int) → R = (c : Int) → 1 ≤ a → a ≤ 500 → 1 ≤ b → b ≤ 500 → 1 ≤ c → c ≤ 64 →
     (mshE a (evL a b c) ≠ 0 → ∀ H', Keeps H H' → H'.next ≤ H.next + 3000 → K (.tup [.agg [iv 0, .v (.slice none 0 0)], iv (mshE a (evL a b c))]) H') ∧
     (mshE a (evL a b c) = 0 → ∀ H' d, Keeps H H' → H'.next ≤ H.next + 3000 → H.next ≤ d → d < H'.next → H'.get d = some (.cells (fl2 (evL a b c)) 120 0) → K (.tup [.agg [iv (a : Nat), .slc d 0 c c], iv 0]) H')) : Ca (ENV O) 31 [iv f, iv l, iv R] H K := by
 refine ca_intro (hq _ _ _ rfl) (fn := Tryz.f31) (by rfl) rfl ?_
 have r0 : H.next < 2 ^ 59 := by omega
 repeat (first | apply qR | apply qS)
 refine wops_cons (o_box rfl rfl rfl r0 ?_)
 refine WOps.mem (fun H1 => Keeps H H1 ∧ H1.next = H.next + 1 ∧ H1.get H.next = some (.cells [iv f] 3 0)) ⟨(Keeps.refl H).add _ r0, rfl, get_add_eq r0⟩ ?_
 rintro H1 ⟨k1, n1, g1⟩
 have r1 : H1.next < 2 ^ 59 := by omega
 refine wops_cons (o_box rfl rfl rfl r1 ?_)
 refine WOps.mem (fun H2 => Keeps H1 H2 ∧ H2.next = H1.next + 1 ∧ H2.get H1.next = some (.cells [iv l] 3 0)) ⟨(Keeps.refl H1).add _ r1, rfl, get_add_eq r1⟩ ?_
 rintro H2 ⟨k2, n2, g2⟩
 have r2 : H2.next < 2 ^ 59 := by omega
 refine wops_cons (o_box rfl rfl rfl r2 ?_)
 refine WOps.mem (fun H3 => Keeps H2 H3 ∧ H3.next = H2.next + 1 ∧ H3.get H2.next = some (.cells [iv R] 3 0)) ⟨(Keeps.refl H2).add _ r2, rfl, get_add_eq r2⟩ ?_
 rintro H3 ⟨k3, n3, g3⟩
 have r3 : H3.next < 2 ^ 59 := by omega
 refine wops_cons (o_allocA (zs := [iv 0, .v (.slice none 0 0)]) rfl rfl (z := .agg #[.int .i64 0, .slice none 0 0]) (by kernel_rfl) rfl r3 ?_)
 refine WOps.mem (fun H4 => Keeps H3 H4 ∧ H4.next = H3.next + 1 ∧ H4.get H3.next = some (.cells [iv 0, .v (.slice none 0 0)] 67 0)) ⟨(Keeps.refl H3).add _ r3, rfl, get_add_eq r3⟩ ?_
 rintro H4 ⟨k4, n4, g4⟩
 have k24 := k3.trans k4
 have k14 := k2.trans k24
 have k04 := k1.trans k14
 have gf := (k14.get H.next (by omega)).trans g1
 have gl := (k24.get H1.next (by omega)).trans g2
 have gR := (k4.get H2.next (by omega)).trans g3
 have a1 : At H4 (.ptr H.next 0) (iv f) := at_ptr r0 gf rfl
 have a2 : At H4 (.ptr H1.next 0) (iv l) := at_ptr r1 gl rfl
 have a3 : At H4 (.ptr H2.next 0) (iv R) := at_ptr r2 gR rfl
 have L1 : ∀ c, (AV.ptr H.next 0).own = some c → Lk H4 c := fun c hc => by cases hc; exact ⟨by omega, by rw [gf]; simp [sameBlk, beqs, AV.beq, vbeq, iv]⟩
 have L2 : ∀ c, (AV.ptr H1.next 0).own = some c → Lk H4 c := fun c hc => by cases hc; exact ⟨by omega, by rw [gl]; simp [sameBlk, beqs, AV.beq, vbeq, iv]⟩
 have L3 : ∀ c, (AV.ptr H2.next 0).own = some c → Lk H4 c := fun c hc => by cases hc; exact ⟨by omega, by rw [gR]; simp [sameBlk, beqs, AV.beq, vbeq, iv]⟩
 have r4 : H4.next < 2 ^ 59 := by omega
 show WOps _ _ _ _ _ _
 repeat (first | apply qN | refine qM rfl rfl ?_ | apply qS)
 refine wp_drawK rfl ?_
 refine k_load rfl rfl rfl a1 L1 ?_
 refine k_load rfl rfl rfl a2 L2 ?_
 refine k_load rfl rfl rfl a3 L3 ?_
 refine k_call rfl rfl rfl (fun b h => by cases h) (wop_callF rfl rfl rfl (fn := Tryz.f84) (by rfl) ?_)
 refine cMesh hq H4 f _ ⟨Nat.le_refl _, Keeps.refl _, ?_⟩
 refine k_call rfl rfl rfl (fun b h => by cases h) (wop_callF rfl rfl rfl (fn := Tryz.f84) (by rfl) ?_)
 refine cMesh hq H4 l _ ⟨Nat.le_refl _, Keeps.refl _, ?_⟩
 refine k_call rfl rfl rfl (fun b h => by cases h) (wop_callF rfl rfl rfl (fn := Tryz.f69) (by rfl) ?_)
 refine cRange hq H4 R 1 64 _ ⟨Nat.le_refl _, Keeps.refl _, ?_⟩
 refine k_loud rfl rfl (o_build3 rfl rfl rfl rfl rfl r4 ⟨(Keeps.refl H4).add _ r4, ?_⟩)
 refine WK.mem (fun H5 => Keeps H4 H5 ∧ H5.next = H4.next + 1 ∧ Sl H5 (.slc H4.next 0 3 3) (ivs [if inB f 1 500 = true then 0 else 3, if inB l 1 500 = true then 0 else 3, if inB R 1 64 = true then 0 else 3])) ⟨(Keeps.refl H4).add _ r4, rfl, sl_new (cs := ivs [if inB f 1 500 = true then 0 else 3, if inB l 1 500 = true then 0 else 3, if inB R 1 64 = true then 0 else 3]) r4 3⟩ ?_
 rintro H5 ⟨k5, n5, hs5⟩
 refine k_call rfl rfl rfl (fun b h => by cases h) (wop_callF rfl rfl rfl (fn := Tryz.f68) (by rfl) ?_)
 refine cFirst hq H5 _ _ hs5 (by show 3 ≤ 1000; decide) _ ⟨Nat.le_refl _, k5, ?_⟩
 clear hs5
 show WK _ _ _ _ _ _ _
 rw [show firstNZ [if inB f 1 500 = true then 0 else 3, if inB l 1 500 = true then 0 else 3, if inB R 1 64 = true then 0 else 3] = shE f l R from rfl]
 have k05 := k04.trans k5
 have g45 := (k5.get H3.next (by omega)).trans g4
 repeat (first | refine qM rfl rfl ?_ | refine k_nil ?_ | refine k_assign rfl rfl rfl ?_ | apply qR | apply qS)
 refine WOps.cut (fun T => ∃ Y : List AV, T = (lget Y 0 :: lget Y 1 :: lget Y 2 :: .ptr H.next 0 :: .ptr H1.next 0 :: .ptr H2.next 0 :: .ptr H3.next 0 :: lget Y 3 :: iv (shE f l R) :: lget Y 4 :: lget Y 5 :: lget Y 6 :: lget Y 7 :: lget Y 8 :: lget Y 9 :: lget Y 10 :: lget Y 11 :: lget Y 12 :: lget Y 13 :: iv (shE f l R) :: lget Y 14 :: lget Y 15 :: lget Y 16 :: lget Y 17 :: lget Y 18 :: lget Y 19 :: lget Y 20 :: lget Y 21 :: lget Y 22 :: lget Y 23 :: lget Y 24 :: lget Y 25 :: lget Y 26 :: lget Y 27 :: lget Y 28 :: lget Y 29 :: [])) ⟨[_,_,_,_,_,_,_,_,_,_,_,_,_,_,_,_,_,_,_,_,_,_,_,_,_,_,_,_,_,_], rfl⟩ ?_
 rintro T ⟨Y, rfl⟩
 by_cases h0 : shE f l R = 0
 rotate_left
 · have hke := hke h0
   generalize shE f l R = w at h0 hke ⊢
   refine wops_cons (wop_bin (op := .neq) (v := .bool true) rfl rfl rfl rfl (by simp [binI, h0]) ?_)
   repeat (first | apply qN | refine qT rfl ?_ | apply qR | apply qS)
   refine wops_cons (o_buildN0 rfl rfl ?_)
   repeat (first | refine qM rfl rfl ?_)
   refine wops_cons (o_storeA (n := 2) (vs := [iv 0, .v (.slice none 0 0)]) rfl rfl (by kernel_rfl) rfl rfl rfl rfl g45 (Nat.le_refl _) ?_)
   refine WOps.mem (fun H6 => Keeps H H6 ∧ H6.next = H5.next ∧ H6.get H3.next = some (.cells [iv 0, .v (.slice none 0 0)] 67 0)) ⟨k05.set _ (by omega) r3, rfl, get_set_eq r3⟩ ?_
   rintro H6 ⟨k6, n6, g6⟩
   repeat (first | apply qN | refine qM rfl rfl ?_)
   refine Wp.cut (fun T => ∃ Y : List AV, T = (lget Y 0 :: lget Y 1 :: lget Y 2 :: lget Y 3 :: lget Y 4 :: lget Y 5 :: .ptr H3.next 0 :: iv w :: lget Y 6 :: lget Y 7 :: lget Y 8 :: lget Y 9 :: lget Y 10 :: lget Y 11 :: lget Y 12 :: lget Y 13 :: lget Y 14 :: lget Y 15 :: lget Y 16 :: lget Y 17 :: lget Y 18 :: lget Y 19 :: lget Y 20 :: lget Y 21 :: lget Y 22 :: lget Y 23 :: lget Y 24 :: lget Y 25 :: lget Y 26 :: lget Y 27 :: lget Y 28 :: lget Y 29 :: lget Y 30 :: lget Y 31 :: lget Y 32 :: lget Y 33 :: [])) ⟨[_,_,_,_,_,_,_,_,_,_,_,_,_,_,_,_,_,_,_,_,_,_,_,_,_,_,_,_,_,_,_,_,_,_], rfl⟩ ?_
   rintro T ⟨Y, rfl⟩
   refine wp_ret ?_
   refine ⟨.tup [.agg [iv 0, .v (.slice none 0 0)], iv w], H6, ?_, hke H6 k6 (by omega)⟩
   have hres : resA Tryz.prog (lget Y 0 :: lget Y 1 :: lget Y 2 :: lget Y 3 :: lget Y 4 :: lget Y 5 :: .ptr H3.next 0 :: iv w :: lget Y 6 :: lget Y 7 :: lget Y 8 :: lget Y 9 :: lget Y 10 :: lget Y 11 :: lget Y 12 :: lget Y 13 :: lget Y 14 :: lget Y 15 :: lget Y 16 :: lget Y 17 :: lget Y 18 :: lget Y 19 :: lget Y 20 :: lget Y 21 :: lget Y 22 :: lget Y 23 :: lget Y 24 :: lget Y 25 :: lget Y 26 :: lget Y 27 :: lget Y 28 :: lget Y 29 :: lget Y 30 :: lget Y 31 :: lget Y 32 :: lget Y 33 :: []) H6 Tryz.f31.results.toList = some [.agg [iv 0, .v (.slice none 0 0)], iv w] := by
     show (match loadA Tryz.prog 67 H3.next 0 H6, (some [iv w] : Option (List AV)) with | some x, some m => some (x :: m) | _, _ => none) = _
     rw [load2 g6]
   unfold leaveM resultsA
   simp only [takeMarks]
   rw [show (ENV O).P = Tryz.prog from rfl, hres]
 obtain ⟨a, b, c, rfl, rfl, rfl, ha1, ha2, hb1, hb2, hc1, hc2⟩ := shE_ok h0
 obtain ⟨hkE, hkO⟩ := hk a b c rfl rfl rfl ha1 ha2 hb1 hb2 hc1 hc2
 rw [h0]
 refine wops_cons (wop_bin (op := .neq) (v := .bool false) rfl rfl rfl rfl rfl ?_)
 repeat (first | apply qN | refine qF rfl ?_ | apply qS | apply qK)
 have gf5 := (k5.get H.next (by omega)).trans gf
 have gl5 := (k5.get H1.next (by omega)).trans gl
 have gR5 := (k5.get H2.next (by omega)).trans gR
 have b1 : At H5 (.ptr H.next 0) (iv (a : Nat)) := at_ptr r0 gf5 rfl
 have b3 : At H5 (.ptr H2.next 0) (iv (c : Nat)) := at_ptr r2 gR5 rfl
 have L1 : ∀ c, (AV.ptr H.next 0).own = some c → Lk H5 c := fun c hc => by cases hc; exact ⟨by omega, by rw [gf5]; simp [sameBlk, beqs, AV.beq, vbeq, iv]⟩
 have L3 : ∀ c, (AV.ptr H2.next 0).own = some c → Lk H5 c := fun c hc => by cases hc; exact ⟨by omega, by rw [gR5]; simp [sameBlk, beqs, AV.beq, vbeq, iv]⟩
 refine wp_drawK rfl ?_
 refine k_load rfl rfl rfl b1 L1 ?_
 refine k_load rfl rfl rfl b3 L3 ?_
 refine k_makeFunc rfl rfl rfl ?_
 refine k_call rfl rfl rfl (fun b h => by cases h) (wop_callF rfl rfl rfl (fn := Tryz.f86) (by rfl) ?_)
 refine cNumbers hq H5 c (by omega) (by omega) _ fun H6 k6 n6 g6 => ⟨k6.nx, k6, ?_⟩
 refine k_call rfl rfl rfl (fun b h => by cases h) (wop_callF rfl rfl rfl (fn := Tryz.f85) (by rfl) ?_)
 refine c85 hq H6 H5.next H.next H1.next H2.next a b c ha2 hb2 (by omega) hc2 ((k6.get _ (by omega)).trans gf5) ((k6.get _ (by omega)).trans gl5) ((k6.get _ (by omega)).trans gR5) (by omega) (by omega) (by omega) (by omega) g6 (by omega) _ fun H7 k7 n7 n7' g7 => ⟨k7.nx, k6.trans k7, ?_⟩
 refine k_buildN rfl rfl rfl rfl rfl ?_
 have r7 : H7.next < 2 ^ 59 := by omega
 have k57 := k6.trans k7
 refine k_allocA (zs := [iv 0, .v (.slice none 0 0)]) rfl rfl rfl (z := .agg #[.int .i64 0, .slice none 0 0]) (by kernel_rfl) rfl r7 ?_
 refine k_loud rfl rfl (o_storeA (n := 2) (vs := [iv (a : Nat), .slc H6.next 0 c c]) rfl rfl (by kernel_rfl) rfl rfl rfl rfl (get_add_eq r7) (Nat.le_refl _) ⟨(k57.add _ r7).set _ k57.nx r7, ?_⟩)
 refine k_nil ?_
 refine Wp.mem (fun H8 => Keeps H7 H8 ∧ H8.next = H7.next + 1 ∧ Bk H8 H7.next 67 [iv (a : Nat), .slc H6.next 0 c c]) ⟨((Keeps.refl H7).add _ r7).set _ (Nat.le_refl _) r7, rfl, ⟨r7, get_set_eq r7⟩⟩ ?_
 rintro H8 ⟨k8, n8, b8⟩
 have g78 := (k8.get H6.next (by omega)).trans g7
 have hcl := evL_len a b c
 repeat (first | refine zqb rfl rfl rfl ‹_› ?_ | apply qR | apply qS)
 refine wops_cons (wop_callF rfl rfl rfl (fn := Tryz.f45) (by rfl) ?_)
 refine c45 hq H8 (a : Nat) H6.next (evL a b c) _ (by rw [hcl]; rfl) (by omega) g78 (by omega) _ fun H9 k9 n9 => ⟨k9.nx, ?_⟩
 have k59 := (k57.trans k8).trans k9
 have k09 := k05.trans k59
 have g49 := (k59.get H3.next (by omega)).trans g45
 have b9 := b8.keep (by omega) k9
 have g79 := (k9.get H6.next (by omega)).trans g78
 repeat (first | apply qN | refine qM rfl rfl ?_ | apply qR | apply qS)
 refine WOps.cut (fun T => ∃ Y : List AV, T = (lget Y 0 :: lget Y 1 :: lget Y 2 :: lget Y 3 :: lget Y 4 :: lget Y 5 :: .ptr H3.next 0 :: lget Y 6 :: lget Y 7 :: .ptr H7.next 0 :: iv (mshE a (evL a b c)) :: lget Y 8 :: lget Y 9 :: lget Y 10 :: lget Y 11 :: lget Y 12 :: lget Y 13 :: lget Y 14 :: lget Y 15 :: lget Y 16 :: lget Y 17 :: lget Y 18 :: lget Y 19 :: lget Y 20 :: lget Y 21 :: lget Y 22 :: lget Y 23 :: lget Y 24 :: lget Y 25 :: lget Y 26 :: lget Y 27 :: iv (mshE a (evL a b c)) :: lget Y 28 :: lget Y 29 :: lget Y 30 :: lget Y 31 :: [])) ⟨[_,_,_,_,_,_,_,_,_,_,_,_,_,_,_,_,_,_,_,_,_,_,_,_,_,_,_,_,_,_,_,_], rfl⟩ ?_
 rintro T ⟨Y, rfl⟩
 by_cases hz : mshE a (evL a b c) = 0
 · have hkO := hkO hz
   rw [hz]
   refine wops_cons (wop_bin (op := .neq) (v := .bool false) rfl rfl rfl rfl rfl ?_)
   repeat (first | apply qN | refine zqb rfl rfl rfl ‹_› ?_ | refine qF rfl ?_ | apply qR | apply qS | apply qK)
   refine wops_cons (o_storeA (n := 2) (vs := [iv (a : Nat), .slc H6.next 0 c c]) rfl rfl (by kernel_rfl) rfl rfl rfl rfl g49 (Nat.le_refl _) ?_)
   refine WOps.mem (fun H10 => Keeps H H10 ∧ H10.next = H9.next ∧ H10.get H3.next = some (.cells [iv (a : Nat), .slc H6.next 0 c c] 67 0) ∧ H10.get H6.next = some (.cells (fl2 (evL a b c)) 120 0)) ⟨k09.set _ (by omega) r3, rfl, get_set_eq r3, by rw [get_set_ne r3 (by omega)]; exact g79⟩ ?_
   rintro H10 ⟨k10, n10, g10, gx⟩
   repeat (first | apply qN | refine qM rfl rfl ?_)
   refine Wp.cut (fun T => ∃ Y : List AV, T = (lget Y 0 :: lget Y 1 :: lget Y 2 :: lget Y 3 :: lget Y 4 :: lget Y 5 :: .ptr H3.next 0 :: iv 0 :: lget Y 6 :: lget Y 7 :: lget Y 8 :: lget Y 9 :: lget Y 10 :: lget Y 11 :: lget Y 12 :: lget Y 13 :: lget Y 14 :: lget Y 15 :: lget Y 16 :: lget Y 17 :: lget Y 18 :: lget Y 19 :: lget Y 20 :: lget Y 21 :: lget Y 22 :: lget Y 23 :: lget Y 24 :: lget Y 25 :: lget Y 26 :: lget Y 27 :: lget Y 28 :: lget Y 29 :: lget Y 30 :: lget Y 31 :: lget Y 32 :: lget Y 33 :: [])) ⟨[_,_,_,_,_,_,_,_,_,_,_,_,_,_,_,_,_,_,_,_,_,_,_,_,_,_,_,_,_,_,_,_,_,_], rfl⟩ ?_
   rintro T ⟨Y, rfl⟩
   refine wp_ret ?_
   refine ⟨.tup [.agg [iv (a : Nat), .slc H6.next 0 c c], iv 0], H10, ?_, hkO H10 H6.next k10 (by omega) (by omega) (by have := k9.nx; omega) gx⟩
   have hres : resA Tryz.prog (lget Y 0 :: lget Y 1 :: lget Y 2 :: lget Y 3 :: lget Y 4 :: lget Y 5 :: .ptr H3.next 0 :: iv 0 :: lget Y 6 :: lget Y 7 :: lget Y 8 :: lget Y 9 :: lget Y 10 :: lget Y 11 :: lget Y 12 :: lget Y 13 :: lget Y 14 :: lget Y 15 :: lget Y 16 :: lget Y 17 :: lget Y 18 :: lget Y 19 :: lget Y 20 :: lget Y 21 :: lget Y 22 :: lget Y 23 :: lget Y 24 :: lget Y 25 :: lget Y 26 :: lget Y 27 :: lget Y 28 :: lget Y 29 :: lget Y 30 :: lget Y 31 :: lget Y 32 :: lget Y 33 :: []) H10 Tryz.f31.results.toList = some [.agg [iv (a : Nat), .slc H6.next 0 c c], iv 0] := by
     show (match loadA Tryz.prog 67 H3.next 0 H10, (some [iv 0] : Option (List AV)) with | some x, some m => some (x :: m) | _, _ => none) = _
     rw [load2 g10]
   unfold leaveM resultsA
   simp only [takeMarks]
   rw [show (ENV O).P = Tryz.prog from rfl, hres]
 · have hkE := hkE hz
   generalize mshE a (evL a b c) = w at hz hkE ⊢
   refine wops_cons (wop_bin (op := .neq) (v := .bool true) rfl rfl rfl rfl (by simp [binI, hz]) ?_)
   repeat (first | apply qN | refine qT rfl ?_ | apply qR | apply qS)
   refine wops_cons (o_buildN0 rfl rfl ?_)
   repeat (first | refine qM rfl rfl ?_)
   refine wops_cons (o_storeA (n := 2) (vs := [iv 0, .v (.slice none 0 0)]) rfl rfl (by kernel_rfl) rfl rfl rfl rfl g49 (Nat.le_refl _) ?_)
   refine WOps.mem (fun H10 => Keeps H H10 ∧ H10.next = H9.next ∧ H10.get H3.next = some (.cells [iv 0, .v (.slice none 0 0)] 67 0)) ⟨k09.set _ (by omega) r3, rfl, get_set_eq r3⟩ ?_
   rintro H10 ⟨k10, n10, g10⟩
   repeat (first | apply qN | refine qM rfl rfl ?_)
   refine Wp.cut (fun T => ∃ Y : List AV, T = (lget Y 0 :: lget Y 1 :: lget Y 2 :: lget Y 3 :: lget Y 4 :: lget Y 5 :: .ptr H3.next 0 :: iv w :: lget Y 6 :: lget Y 7 :: lget Y 8 :: lget Y 9 :: lget Y 10 :: lget Y 11 :: lget Y 12 :: lget Y 13 :: lget Y 14 :: lget Y 15 :: lget Y 16 :: lget Y 17 :: lget Y 18 :: lget Y 19 :: lget Y 20 :: lget Y 21 :: lget Y 22 :: lget Y 23 :: lget Y 24 :: lget Y 25 :: lget Y 26 :: lget Y 27 :: lget Y 28 :: lget Y 29 :: lget Y 30 :: lget Y 31 :: lget Y 32 :: lget Y 33 :: [])) ⟨[_,_,_,_,_,_,_,_,_,_,_,_,_,_,_,_,_,_,_,_,_,_,_,_,_,_,_,_,_,_,_,_,_,_], rfl⟩ ?_
   rintro T ⟨Y, rfl⟩
   refine wp_ret ?_
   refine ⟨.tup [.agg [iv 0, .v (.slice none 0 0)], iv w], H10, ?_, hkE H10 k10 (by omega)⟩
   have hres : resA Tryz.prog (lget Y 0 :: lget Y 1 :: lget Y 2 :: lget Y 3 :: lget Y 4 :: lget Y 5 :: .ptr H3.next 0 :: iv w :: lget Y 6 :: lget Y 7 :: lget Y 8 :: lget Y 9 :: lget Y 10 :: lget Y 11 :: lget Y 12 :: lget Y 13 :: lget Y 14 :: lget Y 15 :: lget Y 16 :: lget Y 17 :: lget Y 18 :: lget Y 19 :: lget Y 20 :: lget Y 21 :: lget Y 22 :: lget Y 23 :: lget Y 24 :: lget Y 25 :: lget Y 26 :: lget Y 27 :: lget Y 28 :: lget Y 29 :: lget Y 30 :: lget Y 31 :: lget Y 32 :: lget Y 33 :: []) H10 Tryz.f31.results.toList = some [.agg [iv 0, .v (.slice none 0 0)], iv w] := by
     show (match loadA Tryz.prog 67 H3.next 0 H10, (some [iv w] : Option (List AV)) with | some x, some m => some (x :: m) | _, _ => none) = _
     rw [load2 g10]
   unfold leaveM resultsA
   simp only [takeMarks]
   rw [show (ENV O).P = Tryz.prog from rfl, hres]
end Go.Ev
