/- Part of an evaluator of calls that is proved sound, and of what it gives about this program. No condition of its own. -/
import Derived.Test.YtanaplokhjgfmaaGreatDoorEwDd
set_option linter.unusedVariables false
set_option linter.unusedSimpArgs false
set_option linter.unusedSectionVars false
set_option maxRecDepth 100000
set_option maxHeartbeats 4000000
namespace Go.Ev
open Go.Proofs
theorem floor_neg {z R : Int} (hR : 0 < R) : -((-z + R - 1) / R) = z / R := by
 have h1 : z / R * R ≤ z := (Int.le_ediv_iff_mul_le hR).1 (Int.le_refl _)
 have h2 : z < (z / R + 1) * R := (Int.ediv_lt_iff_lt_mul hR).1 (by omega)
 generalize z / R = q at h1 h2 ⊢
 have e1 : (q + 1) * R = q * R + R := by rw [Int.add_mul, Int.one_mul]
 have e2 : (-q) * R = -(q * R) := Int.neg_mul q R
 have e3 : (-q + 1) * R = -(q * R) + R := by rw [Int.add_mul, Int.one_mul, e2]
 rw [e1] at h2
 have h3 : -q ≤ (-z + R - 1) / R := (Int.le_ediv_iff_mul_le hR).2 (by rw [e2]; omega)
 have h4 : (-z + R - 1) / R < -q + 1 := (Int.ediv_lt_iff_lt_mul hR).2 (by rw [e3]; omega)
 omega
theorem mN_floor {f l R k : Nat} (hR : 0 < R) (hk : k ≤ R) : ((k : Int) * ((l : Int) - (f : Int))) / (R : Int) = ((mN f l R k : Nat) : Int) - (f : Int) := by
 have e : ((f * (R - k) + l * k : Nat) : Int) = (k : Int) * ((l : Int) - (f : Int)) + (f : Int) * (R : Int) := by
   rw [Int.natCast_add, Int.natCast_mul, Int.natCast_mul, Int.natCast_sub hk, Int.mul_sub, Int.mul_sub, Int.mul_comm (k : Int) l, Int.mul_comm (k : Int) f]
   omega
 have h : ((mN f l R k : Nat) : Int) = ((f * (R - k) + l * k : Nat) : Int) / (R : Int) := rfl
 rw [h, e, Int.add_mul_ediv_right _ _ (by omega)]
 omega
theorem mul_bd {k d : Int} (h1 : 0 ≤ k) (h2 : k ≤ 64) (h3 : -500 ≤ d) (h4 : d ≤ 500) : -32000 ≤ k * d ∧ k * d ≤ 32000 := by
 have a := Int.mul_le_mul_of_nonneg_left h4 h1
 have b := Int.mul_le_mul_of_nonneg_left h3 h1
 generalize k * d = m at a b
 omega
theorem mulI {a b : Int} (h : -4000000 ≤ a * b ∧ a * b ≤ 4000000) : binI .mul .i64 .i64 a b = some (.int .i64 (a * b)) := by
 show some (Value.int .i64 (IntKind.i64.wrap (a * b))) = _
 generalize a * b = m at h
 rw [wr64 h]
theorem shE_3 {f l R : Int} (h : shE f l R ≠ 0) : shE f l R = 3 ∧ ¬ (inB f 1 500 = true ∧ inB l 1 500 = true ∧ inB R 1 64 = true) := by
 unfold shE at h ⊢
 cases h1 : inB f 1 500 <;> cases h2 : inB l 1 500 <;> cases h3 : inB R 1 64 <;> simp_all [firstNZ]
variable {O : CallF} (hq : Quiet O)
include hq
theorem cOut (H : AH) (n lo hi : Int) (K : AV → AH → Prop) (hk : K (.v (.bool (!inB n lo hi))) H) : Ca (ENV O) 67 [iv n, iv lo, iv hi] H K := by
 refine ca_intro (hq _ _ _ rfl) (fn := Tryz.f67) (by rfl) rfl ?_
 repeat (first | apply qN | refine qM rfl rfl ?_ | apply qR | apply qS)
 by_cases h : n < lo
 · have e : inB n lo hi = false := by
     rw [Bool.eq_false_iff]; intro h2; have := inB_iff.1 h2; omega
   rw [e] at hk
   refine wops_cons (wop_bin (op := .lss) (v := .bool true) rfl rfl rfl rfl (by simp [binI, h]) ?_)
   repeat (first | apply qN | refine zq1 rfl rfl ?_ | refine qM rfl rfl ?_ | refine zq7 rfl rfl rfl ?_)
   refine wp_ret ?_
   exact ⟨_, _, rfl, hk⟩
 · refine wops_cons (wop_bin (op := .lss) (v := .bool false) rfl rfl rfl rfl (by simp [binI]; omega) ?_)
   repeat (first | refine qM rfl rfl ?_)
   by_cases h2 : n > hi
   · have e : inB n lo hi = false := by
       rw [Bool.eq_false_iff]; intro h2; have := inB_iff.1 h2; omega
     rw [e] at hk
     refine wops_cons (wop_bin (op := .gtr) (v := .bool true) rfl rfl rfl rfl (by simp [binI, h2]) ?_)
     repeat (first | apply qN | refine qM rfl rfl ?_ | refine zq7 rfl rfl rfl ?_)
     refine wp_ret ?_
     exact ⟨_, _, rfl, hk⟩
   · have e : inB n lo hi = true := inB_iff.2 (by omega)
     rw [e] at hk
     refine wops_cons (wop_bin (op := .gtr) (v := .bool false) rfl rfl rfl rfl (by simp [binI]; omega) ?_)
     repeat (first | apply qN | refine qM rfl rfl ?_ | refine zq7 rfl rfl rfl ?_)
     refine wp_ret ?_
     exact ⟨_, _, rfl, hk⟩
theorem c90 (H : AH) (z : Int) (R : Nat) (hz : -40000 ≤ z ∧ z ≤ 40000) (hR0 : 0 < R) (hR : R ≤ 1000) (K : AV → AH → Prop) (hk : K (iv (z / (R : Int))) H) : Ca (ENV O) 90 [iv z, iv (R : Nat)] H K := by
 refine ca_intro (hq _ _ _ rfl) (fn := Tryz.f90) (by rfl) rfl ?_
 have hR' : (0 : Int) < R := by omega
 repeat (first | apply qN | refine qM rfl rfl ?_ | apply qR | apply qS)
 by_cases h : z < 0
 · refine wops_cons (wop_bin (op := .lss) (v := .bool true) rfl rfl rfl rfl (by simp [binI, h]) ?_)
   repeat (first | apply qN | refine qM rfl rfl ?_ | refine qT rfl ?_ | apply qR | apply qS)
   refine wops_cons (wop_bin (op := .sub) (v := .int .i64 (0 - z)) rfl rfl rfl rfl (subI (by omega)) ?_)
   repeat (first | refine qM rfl rfl ?_)
   refine wops_cons (wop_bin (op := .add) (v := .int .i64 (0 - z + R)) rfl rfl rfl rfl (addI (by omega)) ?_)
   refine wops_cons (wop_bin (op := .sub) (v := .int .i64 (0 - z + R - 1)) rfl rfl rfl rfl (subI (by omega)) ?_)
   repeat (first | refine qM rfl rfl ?_)
   refine wops_cons (wop_quo rfl rfl rfl rfl (by omega) ?_)
   have hq0 : (0 - z + (R : Int) - 1).tdiv R = (0 - z + (R : Int) - 1) / R := Int.tdiv_eq_ediv_of_nonneg (by omega)
   have hq1 : 0 ≤ (0 - z + (R : Int) - 1) / R := Int.ediv_nonneg (by omega) (by omega)
   have hq2 : (0 - z + (R : Int) - 1) / R ≤ 0 - z + (R : Int) - 1 := Int.ediv_le_self _ (by omega)
   have hfl : 0 - (0 - z + (R : Int) - 1) / R = z / R := by
     have h9 := floor_neg (z := z) hR'
     rw [show -z + (R : Int) - 1 = 0 - z + R - 1 by omega] at h9
     omega
   rw [hq0]
   generalize (0 - z + (R : Int) - 1) / R = q at hq1 hq2 hfl ⊢
   rw [wr64 (by omega)]
   rw [← hfl] at hk
   refine wops_cons (wop_bin (op := .sub) (v := .int .i64 (0 - q)) rfl rfl rfl rfl (subI (by omega)) ?_)
   repeat (first | apply qN | refine qM rfl rfl ?_)
   refine wp_ret ?_
   exact ⟨_, _, rfl, hk⟩
 · refine wops_cons (wop_bin (op := .lss) (v := .bool false) rfl rfl rfl rfl (by simp [binI]; omega) ?_)
   repeat (first | apply qN | refine qM rfl rfl ?_ | refine qF rfl ?_ | apply qR | apply qS | apply qK)
   refine wops_cons (wop_quo rfl rfl rfl rfl (by omega) ?_)
   have hq0 : z.tdiv (R : Int) = z / R := Int.tdiv_eq_ediv_of_nonneg (by omega)
   have hq1 : 0 ≤ z / (R : Int) := Int.ediv_nonneg (by omega) (by omega)
   have hq2 : z / (R : Int) ≤ z := Int.ediv_le_self _ (by omega)
   rw [hq0]
   generalize z / (R : Int) = q at hq1 hq2 hk ⊢
   rw [wr64 (by omega)]
   repeat (first | apply qN | refine qM rfl rfl ?_)
   refine wp_ret ?_
   exact ⟨_, _, rfl, hk⟩
theorem c44 (H : AH) (f : Int) (r : AV) (ms : List (Int × Int)) (mv : AV) (hmv : mv = .agg [iv f, r]) (hx : S2 H 144 r ms) (hml : ms.length ≤ 1000) (hr : H.next + 20000 < 2 ^ 59) (K : AV → AH → Prop)
   (hk : ∀ H', Keeps H H' → H'.next ≤ H.next + 1 + ms.length → K (iv (mshE f ms)) H') : Ca (ENV O) 44 [mv] H K := by
 subst hmv
 refine ca_intro (hq _ _ _ rfl) (fn := Tryz.f44) (by rfl) rfl ?_
 have r0 : H.next < 2 ^ 59 := by omega
 repeat (first | apply qR | apply qS)
 refine wops_cons (o_boxS (cs := [iv f, r]) rfl rfl rfl r0 fun H1 n1 k1 b1 => ?_)
 have hp0 : At H1 (.ptr H.next 0) (iv f) := b1.at rfl
 have hp1 : At H1 (.ptr H.next 1) r := b1.at rfl
 have hx1 := hx.keep k1
 repeat (first | apply qN | refine qM rfl rfl ?_ | refine zqa rfl rfl rfl ?_ | refine zq6 rfl rfl ‹_› ?_ | apply qR | apply qS)
 refine wops_cons (wop_callF rfl rfl rfl (fn := Tryz.f67) (by rfl) ?_)
 refine cOut hq H1 f 1 500 _ ⟨Nat.le_refl _, ?_⟩
 cases hf : inB f 1 500 with
 | false =>
   have hk := hk H1 k1 (by omega)
   rw [show mshE f ms = 3 by unfold mshE chkN; rw [hf]; rfl] at hk
   repeat (first | apply qN | refine qM rfl rfl ?_ | refine qT rfl ?_ | apply qR | apply qS)
   refine wp_ret ?_
   exact ⟨_, _, rfl, hk⟩
 | true =>
   have hf' := inB_iff.1 hf
   repeat (first | apply qN | refine zqa rfl rfl rfl ?_ | refine zq6 rfl rfl ‹_› ?_ | refine qF rfl ?_ | apply qR | apply qS | apply qK)
   refine wops_cons (o_len2 rfl rfl rfl rfl rfl hx1 ?_)
   by_cases h64 : (ms.length : Int) > 64
   · have hk := hk H1 k1 (by omega)
     rw [show mshE f ms = 5 by unfold mshE chkN; rw [hf, decide_eq_false (by omega)]; rfl] at hk
     refine wops_cons (wop_bin (op := .gtr) (v := .bool true) rfl rfl rfl rfl (by show some (Value.bool (decide ((ms.length : Int) > 64))) = _; rw [decide_eq_true h64]) ?_)
     repeat (first | apply qN | refine qM rfl rfl ?_ | refine qT rfl ?_ | apply qR | apply qS)
     refine wp_ret ?_
     exact ⟨_, _, rfl, hk⟩
   have he : mshE f ms = netE f ms := by unfold mshE chkN; rw [hf, decide_eq_true (by omega)]; rfl
   rw [he] at hk
   refine wops_cons (wop_bin (op := .gtr) (v := .bool false) rfl rfl rfl rfl (by show some (Value.bool (decide ((ms.length : Int) > 64))) = _; rw [decide_eq_false h64]) ?_)
   repeat (first | apply qN | refine qM rfl rfl ?_ | refine zqa rfl rfl rfl ?_ | refine zq6 rfl rfl ‹_› ?_ | refine qF rfl ?_ | apply qR | apply qS | apply qK | apply qB)
   refine wp_loop (fun q T M H' => ∃ (i : Nat) (m : Int) (Y : List AV), q = ms.length - i ∧ i ≤ ms.length ∧ Keeps H1 H' ∧ H'.next = H1.next + i ∧ (1 ≤ m ∧ m ≤ 500) ∧ netE f ms = netE m (ms.drop i) ∧ M = [] ∧ T = (lget Y 0 :: .ptr H.next 0 :: lget Y 1 :: iv m :: iv (i : Nat) :: lget Y 2 :: lget Y 3 :: lget Y 4 :: lget Y 5 :: lget Y 6 :: lget Y 7 :: lget Y 8 :: lget Y 9 :: lget Y 10 :: lget Y 11 :: lget Y 12 :: lget Y 13 :: lget Y 14 :: lget Y 15 :: lget Y 16 :: lget Y 17 :: lget Y 18 :: lget Y 19 :: lget Y 20 :: lget Y 21 :: lget Y 22 :: lget Y 23 :: lget Y 24 :: lget Y 25 :: lget Y 26 :: lget Y 27 :: lget Y 28 :: lget Y 29 :: lget Y 30 :: lget Y 31 :: lget Y 32 :: lget Y 33 :: lget Y 34 :: lget Y 35 :: lget Y 36 :: lget Y 37 :: lget Y 38 :: lget Y 39 :: lget Y 40 :: lget Y 41 :: lget Y 42 :: lget Y 43 :: lget Y 44 :: lget Y 45 :: lget Y 46 :: lget Y 47 :: lget Y 48 :: [])) ms.length
     ⟨0, f, [_,_,_,_,_,_,_,_,_,_,_,_,_,_,_,_,_,_,_,_,_,_,_,_,_,_,_,_,_,_,_,_,_,_,_,_,_,_,_,_,_,_,_,_,_,_,_,_,_], rfl, Nat.zero_le _, Keeps.refl _, rfl, hf', rfl, rfl, rfl⟩ ?_
   rintro q T M H4 ⟨i, m, Y, hq4, hi, k4, n4, hm, hE, rfl, rfl⟩
   have b4 := b1.keep (by omega) k4
   have hp14 : At H4 (.ptr H.next 1) r := b4.at rfl
   have hx4 := hx1.keep k4
   repeat (first | refine qM rfl rfl ?_ | refine zqa rfl rfl rfl ?_ | refine zq6 rfl rfl ‹_› ?_ | apply qR | apply qS)
   refine wops_cons (o_len2 rfl rfl rfl rfl rfl hx4 ?_)
   refine wops_cons (wop_cmp rfl rfl rfl rfl rfl (fun h => ?_) (fun h => ?_))
   rotate_left
   · have h : ¬ ((i : Int) < (ms.length : Nat)) := of_decide_eq_false h
     have e : i = ms.length := by omega
     subst e
     rw [List.drop_length] at hE
     have hk := hk H4 (k1.trans k4) (by omega)
     rw [hE] at hk
     repeat (first | apply qN | refine qM rfl rfl ?_ | refine qF rfl ?_ | apply qR | apply qS | apply qE)
     refine wp_ret ?_
     exact ⟨_, _, rfl, hk⟩
   have hi' : i < ms.length := by have h : (i : Int) < (ms.length : Nat) := of_decide_eq_true h; omega
   clear h
   obtain ⟨p, hp⟩ : ∃ p, ms[i]? = some p := ⟨ms[i], List.getElem?_eq_getElem hi'⟩
   rw [drop_consP hp, netE] at hE
   repeat (first | apply qN | refine qM rfl rfl ?_ | refine zqa rfl rfl rfl ?_ | refine zq6 rfl rfl ‹_› ?_ | refine qT rfl ?_ | apply qR | apply qS | apply qK | apply qB)
   refine wops_cons (o_index2 rfl rfl hx4 rfl hp fun xb' gr hxb' hxg => ?_)
   refine wops_cons (o_loadA (r := [iv p.1, iv p.2]) (n := 2) rfl rfl (by kernel_rfl) (by kernel_rfl) rfl hxg (by rw [Nat.zero_add]; exact fl2_get hp) (by rw [fl2_len]; omega) ?_)
   have r4 : H4.next < 2 ^ 59 := by omega
   refine wops_cons (o_allocA (zs := [iv 0, iv 0]) rfl rfl (z := .agg #[.int .i64 0, .int .i64 0]) (by kernel_rfl) rfl r4 ?_)
   skip
   refine wops_cons (o_storeA (n := 2) (vs := [iv p.1, iv p.2]) rfl rfl (by kernel_rfl) rfl rfl rfl rfl (get_add_eq r4) (Nat.le_refl _) ?_)
   refine WOps.mem (fun H5 => Keeps H4 H5 ∧ H5.next = H4.next + 1 ∧ Bk H5 H4.next 144 [iv p.1, iv p.2]) ⟨((Keeps.refl H4).add _ r4).set _ (Nat.le_refl _) r4, rfl, ⟨r4, get_set_eq r4⟩⟩ ?_
   rintro H5 ⟨k5, n5, b5⟩
   have k45 := k4.trans k5
   have hk5 := hk H5 (k1.trans k45) (by omega)
   have q0 : At H5 (.ptr H4.next 0) (iv p.1) := b5.at rfl
   have q1 : At H5 (.ptr H4.next 1) (iv p.2) := b5.at rfl
   show WOps _ _ _ _ _ _
   repeat (first | apply qN | refine zqa rfl rfl rfl ?_ | refine zq6 rfl rfl ‹_› ?_ | apply qR | apply qS)
   refine wops_cons (wop_callF rfl rfl rfl (fn := Tryz.f67) (by rfl) ?_)
   refine cOut hq H5 p.1 0 500 _ ⟨Nat.le_refl _, ?_⟩
   cases h1 : inB p.1 0 500 with
   | false =>
     have e : rowE m p = 3 := by unfold rowE; rw [h1]; rfl
     rw [e, if_neg (by decide)] at hE
     rw [hE] at hk5
     repeat (first | apply qN | refine zq1 rfl rfl ?_ | refine qM rfl rfl ?_ | refine zq7 rfl rfl rfl ?_ | refine qT rfl ?_ | apply qR | apply qS)
     refine wp_ret ?_
     exact ⟨_, _, rfl, hk5⟩
   | true =>
     have h1' := inB_iff.1 h1
     repeat (first | refine qM rfl rfl ?_ | refine zqa rfl rfl rfl ?_ | refine zq6 rfl rfl ‹_› ?_)
     refine wops_cons (wop_callF rfl rfl rfl (fn := Tryz.f67) (by rfl) ?_)
     refine cOut hq H5 p.2 0 500 _ ⟨Nat.le_refl _, ?_⟩
     cases h2 : inB p.2 0 500 with
     | false =>
       have e : rowE m p = 3 := by unfold rowE; rw [h1, h2]; rfl
       rw [e, if_neg (by decide)] at hE
       rw [hE] at hk5
       repeat (first | apply qN | refine qM rfl rfl ?_ | refine zq7 rfl rfl rfl ?_ | refine qT rfl ?_ | apply qR | apply qS)
       refine wp_ret ?_
       exact ⟨_, _, rfl, hk5⟩
     | true =>
       have h2' := inB_iff.1 h2
       repeat (first | apply qN | refine zqa rfl rfl rfl ?_ | refine zq6 rfl rfl ‹_› ?_ | refine zq7 rfl rfl rfl ?_ | refine qF rfl ?_ | apply qR | apply qS | apply qK)
       refine wops_cons (wop_bin (op := .mul) (v := .int .i64 (2 * p.2)) rfl rfl rfl rfl (mulI (by omega)) ?_)
       refine wops_cons (wop_bin (op := .add) (v := .int .i64 (p.1 + 2 * p.2)) rfl rfl rfl rfl (addI (by omega)) ?_)
       repeat (first | refine qM rfl rfl ?_)
       by_cases h3 : m < p.1 + 2 * p.2
       · have e : rowE m p = 18 := by unfold rowE; rw [h1, h2, if_neg (by decide), if_neg (by decide), if_pos h3]
         rw [e, if_neg (by decide)] at hE
         rw [hE] at hk5
         refine wops_cons (wop_bin (op := .gtr) (v := .bool true) rfl rfl rfl rfl (by show some (Value.bool (decide (p.1 + 2 * p.2 > m))) = _; rw [decide_eq_true h3]) ?_)
         repeat (first | apply qN | refine qM rfl rfl ?_ | refine qT rfl ?_ | apply qR | apply qS)
         refine wp_ret ?_
         exact ⟨_, _, rfl, hk5⟩
       refine wops_cons (wop_bin (op := .gtr) (v := .bool false) rfl rfl rfl rfl (by show some (Value.bool (decide (p.1 + 2 * p.2 > m))) = _; rw [decide_eq_false h3]) ?_)
       repeat (first | apply qN | refine qM rfl rfl ?_ | refine zqa rfl rfl rfl ?_ | refine zq6 rfl rfl ‹_› ?_ | refine qF rfl ?_ | apply qR | apply qS | apply qK)
       refine wops_cons (wop_bin (op := .sub) (v := .int .i64 (p.1 - p.2)) rfl rfl rfl rfl (subI (by omega)) ?_)
       refine wops_cons (wop_bin (op := .add) (v := .int .i64 (m + (p.1 - p.2))) rfl rfl rfl rfl (addI (by omega)) ?_)
       rw [show m + (p.1 - p.2) = m + p.1 - p.2 by omega]
       repeat (first | apply qN | refine qM rfl rfl ?_ | apply qR | apply qS)
       refine wops_cons (wop_callF rfl rfl rfl (fn := Tryz.f67) (by rfl) ?_)
       refine cOut hq H5 (m + p.1 - p.2) 1 500 _ ⟨Nat.le_refl _, ?_⟩
       cases h4 : inB (m + p.1 - p.2) 1 500 with
       | false =>
         have e : rowE m p = 3 := by unfold rowE; rw [h1, h2, if_neg (by decide), if_neg (by decide), if_neg h3, h4]; rfl
         rw [e, if_neg (by decide)] at hE
         rw [hE] at hk5
         repeat (first | apply qN | refine qM rfl rfl ?_ | refine qT rfl ?_ | apply qR | apply qS)
         refine wp_ret ?_
         exact ⟨_, _, rfl, hk5⟩
       | true =>
         have h4' := inB_iff.1 h4
         have e : rowE m p = 0 := by unfold rowE; rw [h1, h2, if_neg (by decide), if_neg (by decide), if_neg h3, h4]; rfl
         rw [e, if_pos rfl] at hE
         repeat (first | apply qN | refine qM rfl rfl ?_ | refine zq4 rfl rfl rfl rfl (inc (by omega)) ?_ | refine qF rfl ?_ | apply qR | apply qK)
         exact ⟨ms.length - (i + 1), by omega, i + 1, m + p.1 - p.2, [_,_,_,_,_,_,_,_,_,_,_,_,_,_,_,_,_,_,_,_,_,_,_,_,_,_,_,_,_,_,_,_,_,_,_,_,_,_,_,_,_,_,_,_,_,_,_,_,_], rfl, by omega, k45, by omega, h4', hE, rfl, rfl⟩
end Go.Ev
namespace Go.Ev
open Go.Proofs
section
variable {O : CallF} {T : List AV} {H H0 : AH} {ops : Array Oper} {o : Oper} {i : Nat} {π : List Stp} {B : Nat → Nat → Prop}
theorem y_build1S {K : List AV → AH → Prop} {t e : TypeId} {x : Operand} {a b : Int} (h1 : ops.toList[i]? = some o) (ho : o.op = .buildSlice t 1 #[(0, x)]) (hg : wantedA o ops T = true) [hu : TyP t e] (hx : av T x = .agg [iv a, iv b]) (hr : H.next < 2 ^ 59)
   (hk : WY (ENV O) ops H0 B π (putA T o.dst (.slc H.next 0 1 1)) (H.add (.cells [iv a, iv b] e 0)) K) : WY (ENV O) ops H0 B (.alc i :: π) T H K := by
 have hlt : Nat.blt H.next (2 ^ 59) = true := Nat.ble_eq_true_of_le hr
 refine ⟨o, h1, .inr ⟨hg, some (1, 1), [iv a, iv b], e, H.add (.cells [iv a, iv b] e 0), ?_, ?_, hk⟩⟩
 · unfold laysA; rw [ho]
   have h1 := hu.u
   have h2 := hu.s
   have h3 := hu.z
   simp only [ENV, h1, h2, h3]
   rw [if_pos (by decide)]
   simp [fillA, hx, AV.cells, wr]
 · simp only [newA, hlt, if_true]
theorem WY.mem {K : List AV → AH → Prop} (P : AH → Prop) (h : P H) (hw : ∀ H, P H → WY (ENV O) ops H0 B π T H K) : WY (ENV O) ops H0 B π T H K := hw H h
end
theorem evL_succ (f l R i : Nat) (h : i < R) : (evL f l R).take (i + 1) = (evL f l R).take i ++ [evR f l R i] := by
 rw [List.take_add_one, evL_get h]; rfl
variable {O : CallF} (hq : Quiet O)
include hq
theorem c35 (H : AH) (f l R : Nat) (hf : f ≤ 500) (hl : l ≤ 500) (hR0 : 0 < R) (hR : R ≤ 64) (hr : H.next + 20000 < 2 ^ 59) (K : AV → AH → Prop)
   (hk : ∀ H' r, Keeps H H' → H'.next ≤ H.next + 2 + 2 * R → G2 H' 144 r (evL f l R) → (∀ d, r.own = some d → H.next ≤ d) → K (.agg [iv (f : Nat), r]) H') : Ca (ENV O) 35 [iv (f : Nat), iv (l : Nat), iv (R : Nat)] H K := by
 refine ca_intro (hq _ _ _ rfl) (fn := Tryz.f35) (by rfl) rfl ?_
 have r0 : H.next < 2 ^ 59 := by omega
 repeat (first | apply qR | apply qS)
 refine wops_cons (o_allocA (zs := [iv 0, .v (.slice none 0 0)]) rfl rfl (z := .agg #[.int .i64 0, .slice none 0 0]) (by kernel_rfl) rfl r0 ?_)
 refine WOps.mem (fun H1 => Keeps H H1 ∧ H1.next = H.next + 1 ∧ H1.get H.next = some (.cells [iv 0, .v (.slice none 0 0)] 74 0)) ⟨(Keeps.refl H).add _ r0, rfl, get_add_eq r0⟩ ?_
 rintro H1 ⟨k1, n1, g1⟩
 have r1 : H1.next < 2 ^ 59 := by omega
 repeat (first | apply qN | refine qM rfl rfl ?_ | apply qR | apply qS)
 refine wops_cons (o_buildN1 rfl rfl rfl ?_)
 refine wops_cons (o_allocA (zs := [iv 0, .v (.slice none 0 0)]) rfl rfl (z := .agg #[.int .i64 0, .slice none 0 0]) (by kernel_rfl) rfl r1 ?_)
 refine wops_cons (o_storeA (n := 2) (vs := [iv (f : Nat), .v (.slice none 0 0)]) rfl rfl (by kernel_rfl) rfl rfl rfl rfl (get_add_eq r1) (Nat.le_refl _) ?_)
 refine WOps.mem (fun H2 => Keeps H H2 ∧ H2.next = H.next + 2 ∧ H2.get H.next = some (.cells [iv 0, .v (.slice none 0 0)] 74 0) ∧ H2.get H1.next = some (.cells [iv (f : Nat), .v (.slice none 0 0)] 74 0)) ⟨(k1.add _ r1).set _ (by omega) r1, by show H1.next + 1 = _; omega, ?_, get_set_eq r1⟩ ?_
 · rw [get_set_ne r1 (by omega), get_add_ne r1 (by omega)]; exact g1
 rintro H2 ⟨k2, n2, g2a, g2⟩
 show WOps _ _ _ _ _ _
 repeat (first | apply qN | refine qM rfl rfl ?_ | apply qR | apply qS | apply qB)
 refine wp_loop (fun q T M H' => ∃ (i : Nat) (r : AV) (Y : List AV), q = R - i ∧ i ≤ R ∧ Keeps H H' ∧ H2.next ≤ H'.next ∧ H'.next ≤ H2.next + 2 * i ∧ H'.get H.next = some (.cells [iv 0, .v (.slice none 0 0)] 74 0) ∧ H'.get H1.next = some (.cells [iv (f : Nat), r] 74 0) ∧ G2 H' 144 r ((evL f l R).take i) ∧ (∀ d, r.own = some d → H2.next ≤ d) ∧ r.cells = [r] ∧ r.one = true ∧ M = [] ∧ T = (iv (f : Nat) :: iv (l : Nat) :: iv (R : Nat) :: lget Y 0 :: lget Y 1 :: lget Y 2 :: .ptr H.next 0 :: .ptr H1.next 0 :: iv ((i + 1 : Nat) : Int) :: lget Y 3 :: lget Y 4 :: lget Y 5 :: lget Y 6 :: lget Y 7 :: lget Y 8 :: lget Y 9 :: lget Y 10 :: lget Y 11 :: lget Y 12 :: lget Y 13 :: lget Y 14 :: lget Y 15 :: lget Y 16 :: lget Y 17 :: lget Y 18 :: lget Y 19 :: lget Y 20 :: lget Y 21 :: lget Y 22 :: lget Y 23 :: lget Y 24 :: lget Y 25 :: lget Y 26 :: lget Y 27 :: lget Y 28 :: lget Y 29 :: lget Y 30 :: lget Y 31 :: lget Y 32 :: lget Y 33 :: lget Y 34 :: lget Y 35 :: lget Y 36 :: lget Y 37 :: lget Y 38 :: [])) R
   ⟨0, .v (.slice none 0 0), [_,_,_,_,_,_,_,_,_,_,_,_,_,_,_,_,_,_,_,_,_,_,_,_,_,_,_,_,_,_,_,_,_,_,_,_,_,_,_], rfl, Nat.zero_le _, k2, Nat.le_refl _, Nat.le_refl _, g2a, g2, .inl ⟨rfl, rfl⟩, (fun d hd => by cases hd), rfl, rfl, rfl, rfl⟩ ?_
 rintro q T M H4 ⟨i, r, Y, hq4, hi, k4, n4, n4', g4a, g4, hG, hown, hrc, hr1, rfl, rfl⟩
 have hp1 : At H4 (.ptr H1.next 1) r := at_ptr r1 g4 rfl
 repeat (first | refine qM rfl rfl ?_ | apply qR | apply qS)
 refine wops_cons (wop_cmp rfl rfl rfl rfl rfl (fun h => ?_) (fun h => ?_))
 rotate_left
 · have h : ¬ (((i + 1 : Nat) : Int) ≤ (R : Nat)) := of_decide_eq_false h
   have e : i = R := by omega
   subst e
   rw [List.take_of_length_le (by rw [evL_len]; exact Nat.le_refl _)] at hG
   have b4 : Bk H4 H1.next 74 [iv (f : Nat), r] := ⟨r1, g4⟩
   repeat (first | apply qN | refine zqb rfl rfl rfl ‹_› ?_ | refine qF rfl ?_ | apply qR | apply qS | apply qE)
   refine wops_cons (o_storeA (n := 2) (vs := [iv (f : Nat), r]) rfl rfl (by kernel_rfl) rfl rfl rfl (by show (AV.one (iv (f : Nat)) && (AV.one r && true)) = true; rw [hr1]; rfl) g4a (Nat.le_refl _) ?_)
   refine WOps.mem (fun H5 => Keeps H H5 ∧ H5.next = H4.next ∧ H5.get H.next = some (.cells [iv (f : Nat), r] 74 0) ∧ G2 H5 144 r (evL f l i)) ⟨k4.set _ (Nat.le_refl _) r0, rfl, get_set_eq r0, ?_⟩ ?_
   · rcases hG with h | ⟨d, h1, h2, h3, h4⟩
     · exact .inl h
     · have := hown d (by rw [h3]; rfl)
       exact .inr ⟨d, h1, h2, h3, by rw [get_set_ne r0 (by omega)]; exact h4⟩
   rintro H5 ⟨k5, n5, g5, hG5⟩
   repeat (first | apply qN)
   refine Wp.cut (fun T => ∃ Y : List AV, T = (lget Y 0 :: lget Y 1 :: lget Y 2 :: lget Y 3 :: lget Y 4 :: lget Y 5 :: .ptr H.next 0 :: lget Y 6 :: lget Y 7 :: lget Y 8 :: lget Y 9 :: lget Y 10 :: lget Y 11 :: lget Y 12 :: lget Y 13 :: lget Y 14 :: lget Y 15 :: lget Y 16 :: lget Y 17 :: lget Y 18 :: lget Y 19 :: lget Y 20 :: lget Y 21 :: lget Y 22 :: lget Y 23 :: lget Y 24 :: lget Y 25 :: lget Y 26 :: lget Y 27 :: lget Y 28 :: lget Y 29 :: lget Y 30 :: lget Y 31 :: lget Y 32 :: lget Y 33 :: lget Y 34 :: lget Y 35 :: lget Y 36 :: lget Y 37 :: lget Y 38 :: lget Y 39 :: lget Y 40 :: lget Y 41 :: lget Y 42 :: lget Y 43 :: [])) ⟨[_,_,_,_,_,_,_,_,_,_,_,_,_,_,_,_,_,_,_,_,_,_,_,_,_,_,_,_,_,_,_,_,_,_,_,_,_,_,_,_,_,_,_,_], rfl⟩ ?_
   rintro T ⟨Y, rfl⟩
   refine wp_ret ?_
   refine ⟨.agg [iv (f : Nat), r], H5, ?_, hk H5 r k5 (by omega) hG5 (fun d hd => by have := hown d hd; omega)⟩
   have hres : resA Tryz.prog (lget Y 0 :: lget Y 1 :: lget Y 2 :: lget Y 3 :: lget Y 4 :: lget Y 5 :: .ptr H.next 0 :: lget Y 6 :: lget Y 7 :: lget Y 8 :: lget Y 9 :: lget Y 10 :: lget Y 11 :: lget Y 12 :: lget Y 13 :: lget Y 14 :: lget Y 15 :: lget Y 16 :: lget Y 17 :: lget Y 18 :: lget Y 19 :: lget Y 20 :: lget Y 21 :: lget Y 22 :: lget Y 23 :: lget Y 24 :: lget Y 25 :: lget Y 26 :: lget Y 27 :: lget Y 28 :: lget Y 29 :: lget Y 30 :: lget Y 31 :: lget Y 32 :: lget Y 33 :: lget Y 34 :: lget Y 35 :: lget Y 36 :: lget Y 37 :: lget Y 38 :: lget Y 39 :: lget Y 40 :: lget Y 41 :: lget Y 42 :: lget Y 43 :: []) H5 Tryz.f35.results.toList = some [.agg [iv (f : Nat), r]] := by
     show (match loadA Tryz.prog 74 H.next 0 H5, (some [] : Option (List AV)) with | some x, some m => some (x :: m) | _, _ => none) = _
     rw [load2 g5]
   unfold leaveM resultsA
   simp only [takeMarks]
   rw [show (ENV O).P = Tryz.prog from rfl, hres]
 have hi' : i < R := by have h : ((i + 1 : Nat) : Int) ≤ (R : Nat) := of_decide_eq_true h; omega
 clear h
 have r4 : H4.next < 2 ^ 59 := by omega
 obtain ⟨m1, m1'⟩ := mul_bd (k := ((i + 1 : Nat) : Int)) (d := (l : Int) - (f : Int)) (by omega) (by omega) (by omega) (by omega)
 obtain ⟨m2, m2'⟩ := mul_bd (k := (i : Int)) (d := (l : Int) - (f : Int)) (by omega) (by omega) (by omega) (by omega)
 have hF1 := mN_floor (f := f) (l := l) hR0 (show i + 1 ≤ R from hi')
 have hF2 := mN_floor (f := f) (l := l) hR0 (Nat.le_of_lt hi')
 obtain ⟨bb1, bb2⟩ := mN_bd hf hl hR (Nat.le_of_lt hi')
 obtain ⟨bb3, bb4⟩ := mN_bd hf hl hR (show i + 1 ≤ R from hi')
 have mm1 : mN f l R i ≤ 64000 := Nat.le_trans (Nat.div_le_self _ _) (by omega)
 have mm2 : mN f l R (i + 1) ≤ 64000 := Nat.le_trans (Nat.div_le_self _ _) (by omega)
 repeat (first | apply qN | refine qM rfl rfl ?_ | refine qT rfl ?_ | apply qR | apply qS | apply qK | apply qB)
 refine wops_cons (wop_bin (op := .sub) (v := .int .i64 ((l : Int) - (f : Int))) rfl rfl rfl rfl (subI (by omega)) ?_)
 refine wops_cons (wop_bin (op := .mul) (v := .int .i64 (((i + 1 : Nat) : Int) * ((l : Int) - (f : Int)))) rfl rfl rfl rfl (mulI (by omega)) ?_)
 repeat (first | refine qM rfl rfl ?_)
 refine wops_cons (wop_callF rfl rfl rfl (fn := Tryz.f90) (by rfl) ?_)
 refine c90 hq H4 _ R (by omega) hR0 (by omega) _ ⟨Nat.le_refl _, ?_⟩
 rw [hF1]
 repeat (first | refine qM rfl rfl ?_)
 refine wops_cons (wop_bin (op := .sub) (v := .int .i64 (i : Int)) rfl rfl rfl rfl (by rw [subI (by omega)]; congr 2; omega) ?_)
 repeat (first | refine qM rfl rfl ?_)
 refine wops_cons (wop_bin (op := .sub) (v := .int .i64 ((l : Int) - (f : Int))) rfl rfl rfl rfl (subI (by omega)) ?_)
 refine wops_cons (wop_bin (op := .mul) (v := .int .i64 ((i : Int) * ((l : Int) - (f : Int)))) rfl rfl rfl rfl (mulI (by omega)) ?_)
 repeat (first | refine qM rfl rfl ?_)
 refine wops_cons (wop_callF rfl rfl rfl (fn := Tryz.f90) (by rfl) ?_)
 refine c90 hq H4 _ R (by omega) hR0 (by omega) _ ⟨Nat.le_refl _, ?_⟩
 rw [hF2]
 refine wops_cons (wop_bin (op := .sub) (v := .int .i64 (((mN f l R (i + 1) : Nat) : Int) - ((mN f l R i : Nat) : Int))) rfl rfl rfl rfl (by rw [subI (by omega)]; congr 2; omega) ?_)
 repeat (first | apply qN | refine qM rfl rfl ?_ | refine zqa rfl rfl rfl ?_ | refine zq6 rfl rfl ‹_› ?_ | apply qR)
 refine wops_cons (o_max rfl rfl rfl rfl rfl rfl ?_)
 rw [mx0]
 repeat (first | refine qM rfl rfl ?_)
 refine wops_cons (wop_bin (op := .sub) (v := .int .i64 (((mN f l R i : Nat) : Int) - ((mN f l R (i + 1) : Nat) : Int))) rfl rfl rfl rfl (by rw [subI (by omega)]; congr 2; omega) ?_)
 refine wops_cons (o_max rfl rfl rfl rfl rfl rfl ?_)
 rw [mx0]
 skip
 refine wops_cons (o_buildP rfl rfl rfl rfl ?_)
 refine wops_cons (o_build1S rfl rfl rfl r4 ?_)
 refine WOps.mem (fun H5 => Keeps H4 H5 ∧ H5.next = H4.next + 1 ∧ H5.get H4.next = some (.cells [iv (evR f l R i).1, iv (evR f l R i).2] 144 0)) ⟨(Keeps.refl H4).add _ r4, rfl, get_add_eq r4⟩ ?_
 rintro H5 ⟨k5, n5, g5⟩
 have r5 : H5.next < 2 ^ 59 := by omega
 have g51 := (k5.get H1.next (by omega)).trans g4
 have g5a := (k5.get H.next (by omega)).trans g4a
 refine wops_cons (o_append2 (p := evR f l R i) (ms := (evL f l R).take i) rfl rfl rfl rfl rfl (by rw [List.length_take]; omega) r5 rfl g5 (hG.keep k5) fun r8 H8 n8 gl8 f8 hr8 hG8 => ?_)
 have k48 : Keeps H H8 := ⟨by have := k4.nx; omega, gl8.trans (k4.trans k5).gl, fun d hd => (f8 d (by have := k4.nx; omega) (fun e => by have := hown d e; omega)).trans ((k4.trans k5).get d hd)⟩
 have g81 := (f8 H1.next (by omega) (fun e => by have := hown _ e; omega)).trans g51
 have g8a := (f8 H.next (by omega) (fun e => by have := hown _ e; omega)).trans g5a
 rw [← evL_succ f l R i hi'] at hG8
 subst hr8
 repeat (first | refine zqa rfl rfl rfl ?_)
 refine wops_cons (o_store rfl rfl rfl g81 (by simp) rfl ?_)
 refine WOps.mem (fun H9 => Keeps H H9 ∧ H9.next = H8.next ∧ H9.get H.next = some (.cells [iv 0, .v (.slice none 0 0)] 74 0) ∧ H9.get H1.next = some (.cells [iv (f : Nat), .slu H5.next 0 (((evL f l R).take i).length + 1) 2] 74 0) ∧ G2 H9 144 (.slu H5.next 0 (((evL f l R).take i).length + 1) 2) ((evL f l R).take (i + 1))) ⟨k48.set _ (by omega) r1, rfl, by rw [get_set_ne r1 (by omega)]; exact g8a, get_set_eq r1, ?_⟩ ?_
 · rcases hG8 with ⟨h, _⟩ | ⟨d, h1, h2, h3, h4⟩
   · cases h
   · refine .inr ⟨d, h1, h2, h3, ?_⟩
     have hd : H5.next = d := by
       have := congrArg AV.own h3
       simpa [AV.own] using this
     subst hd
     rw [get_set_ne r1 (by omega)]; exact h4
 rintro H9 ⟨k9, n9, g9a, g9, hG9⟩
 repeat (first | apply qN | refine qM rfl rfl ?_ | refine zq4 rfl rfl rfl rfl (inc (by omega)) ?_ | apply qR)
 exact ⟨R - (i + 1), by omega, i + 1, _, [_,_,_,_,_,_,_,_,_,_,_,_,_,_,_,_,_,_,_,_,_,_,_,_,_,_,_,_,_,_,_,_,_,_,_,_,_,_,_], rfl, by omega, k9, by omega, by omega, g9a, g9, hG9, (fun d hd => by cases hd; omega), rfl, rfl, rfl, rfl⟩
def csE (f l R : Int) : Int := if shE f l R = 0 then mshE f (evL f.toNat l.toNat R.toNat) else 3
theorem c32 (H : AH) (f l R : Int) (hr : H.next + 50000 < 2 ^ 59) (K : AV → AH → Prop) (hk : ∀ H', Keeps H H' → H'.next ≤ H.next + 1000 → K (iv (csE f l R)) H') : Ca (ENV O) 32 [iv f, iv l, iv R] H K := by
 refine ca_intro (hq _ _ _ rfl) (fn := Tryz.f32) (by rfl) rfl ?_
 repeat (first | apply qN | refine qM rfl rfl ?_ | apply qR | apply qS)
 refine wops_cons (wop_callF rfl rfl rfl (fn := Tryz.f67) (by rfl) ?_)
 refine cOut hq H f 1 500 _ ⟨Nat.le_refl _, ?_⟩
 cases h1 : inB f 1 500 with
 | false =>
   have hk := hk H (Keeps.refl H) (by omega)
   rw [show csE f l R = 3 by unfold csE; rw [if_neg]; unfold shE; rw [h1]; simp [firstNZ]] at hk
   repeat (first | apply qN | refine zq1 rfl rfl ?_ | refine qM rfl rfl ?_ | refine zq7 rfl rfl rfl ?_ | refine qT rfl ?_ | apply qR | apply qS)
   refine wp_ret ?_
   exact ⟨_, _, rfl, hk⟩
 | true =>
   repeat (first | refine qM rfl rfl ?_)
   refine wops_cons (wop_callF rfl rfl rfl (fn := Tryz.f67) (by rfl) ?_)
   refine cOut hq H l 1 500 _ ⟨Nat.le_refl _, ?_⟩
   cases h2 : inB l 1 500 with
   | false =>
     have hk := hk H (Keeps.refl H) (by omega)
     rw [show csE f l R = 3 by unfold csE; rw [if_neg]; unfold shE; rw [h1, h2]; simp [firstNZ]] at hk
     repeat (first | apply qN | refine zq1 rfl rfl ?_ | refine qM rfl rfl ?_ | refine zq7 rfl rfl rfl ?_ | refine qT rfl ?_ | apply qR | apply qS)
     refine wp_ret ?_
     exact ⟨_, _, rfl, hk⟩
   | true =>
     repeat (first | refine qM rfl rfl ?_ | refine zq7 rfl rfl rfl ?_)
     refine wops_cons (wop_callF rfl rfl rfl (fn := Tryz.f67) (by rfl) ?_)
     refine cOut hq H R 1 64 _ ⟨Nat.le_refl _, ?_⟩
     cases h3 : inB R 1 64 with
     | false =>
       have hk := hk H (Keeps.refl H) (by omega)
       rw [show csE f l R = 3 by unfold csE; rw [if_neg]; unfold shE; rw [h1, h2, h3]; simp [firstNZ]] at hk
       repeat (first | apply qN | refine qM rfl rfl ?_ | refine zq7 rfl rfl rfl ?_ | refine qT rfl ?_ | apply qR | apply qS)
       refine wp_ret ?_
       exact ⟨_, _, rfl, hk⟩
     | true =>
       have h0 : shE f l R = 0 := by unfold shE; rw [h1, h2, h3]; rfl
       obtain ⟨a, b, c, rfl, rfl, rfl, ha1, ha2, hb1, hb2, hc1, hc2⟩ := shE_ok h0
       rw [show csE (a : Int) (b : Int) (c : Int) = mshE (a : Int) (evL a b c) by unfold csE; rw [if_pos h0]; rfl] at hk
       repeat (first | apply qN | refine qM rfl rfl ?_ | refine zq7 rfl rfl rfl ?_ | refine qF rfl ?_ | apply qR | apply qS | apply qK)
       refine wops_cons (wop_callF rfl rfl rfl (fn := Tryz.f35) (by rfl) ?_)
       refine c35 hq H a b c ha2 hb2 (by omega) hc2 (by omega) _ fun H1 r k1 n1 hG hown => ⟨k1.nx, ?_⟩
       refine wops_cons (wop_callF rfl rfl rfl (fn := Tryz.f44) (by rfl) ?_)
       refine c44 hq H1 (a : Nat) r (evL a b c) _ rfl hG.s2 (by rw [evL_len]; omega) (by omega) _ fun H2 k2 n2 => ⟨k2.nx, ?_⟩
       rw [evL_len] at n2
       repeat (first | apply qN | refine qM rfl rfl ?_)
       refine wp_ret ?_
       exact ⟨_, _, rfl, hk H2 (k1.trans k2) (by omega)⟩
end Go.Ev
