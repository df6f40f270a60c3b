/- Part of an evaluator of calls that is proved sound, and of what it gives about this program. No condition of its own. -/
import Derived.Test.YtanaplokhjgfmaaGreatDoorEvEd
set_option linter.unusedVariables false
set_option linter.unusedSimpArgs false
set_option linter.unusedSectionVars false
set_option maxRecDepth 100000
set_option maxHeartbeats 4000000
namespace Go.Ev
open Go.Proofs
structure Tk where
 a : Int
 b : Int
 c : Int
def Tk.cs (k : Tk) : List AV := [iv k.a, iv k.b, iv k.c]
theorem tk_beq (k : Tk) : beqs k.cs k.cs = true := by simp [Tk.cs, beqs, AV.beq, vbeq, iv]
def strB (r : Ru) (a : Int) : Bool := decide (0 ≤ a) && decide (a < r.s)
def tukE (r : Ru) (k : Tk) : Int := firstNZ [if strB r k.a = true then 0 else 10, rg k.b 0 8, rg k.c 0 8]
theorem tukE_ok {r : Ru} {k : Tk} (h : tukE r k = 0) : (0 ≤ k.a ∧ k.a < r.s) ∧ (0 ≤ k.b ∧ k.b ≤ 8) ∧ (0 ≤ k.c ∧ k.c ≤ 8) := by
 unfold tukE at h
 cases h1 : strB r k.a with
 | true =>
   rw [h1, if_pos rfl, fnz_0 rfl] at h
   obtain ⟨h2, h3⟩ := first2n h
   refine ⟨?_, rg_0.1 h2, rg_0.1 h3⟩
   unfold strB at h1
   simpa using h1
 | false => rw [h1, fnz_ne (by decide)] at h; exact absurd h (by decide)
variable {O : CallF} (hq : Quiet O)
include hq
theorem c91 (H : AH) (r : Ru) (rv : AV) (hrv : rv.cells = r.cs) (a : Int) (hr : H.next + 20 < 2 ^ 59) (K : AV → AH → Prop) (hk : ∀ H', Keeps H H' → H'.next = H.next + 1 → K (iv (if strB r a = true then 0 else 10)) H') : Ca (ENV O) 91 [rv, iv a] H K := by
 refine ca_intro (hq _ _ _ rfl) (fn := Tryz.f91) (by rfl) rfl ?_
 have r0 : H.next < 2 ^ 59 := by omega
 repeat (first | apply qR | apply qS)
 refine wops_cons (o_boxS (cs := r.cs) rfl rfl hrv r0 fun H1 n1 k1 b1 => ?_)
 have p0 : At H1 (.ptr H.next 0) (iv r.s) := b1.at rfl
 have hk := hk H1 k1 n1
 repeat (first | apply qN | refine qM rfl rfl ?_ | apply qR | apply qS)
 by_cases h : 0 ≤ a
 · refine wops_cons (wop_bin (op := .geq) (v := .bool true) rfl rfl rfl rfl (by simp [binI, h]) ?_)
   repeat (first | refine qM rfl rfl ?_ | refine zqa rfl rfl rfl ?_ | refine zq6 rfl rfl ‹_› ?_)
   refine wops_cons (wop_bin (op := .lss) (v := .bool (decide (a < r.s))) rfl rfl rfl rfl rfl ?_)
   rw [show strB r a = decide (a < r.s) by unfold strB; rw [decide_eq_true h]; rfl] at hk
   generalize decide (a < r.s) = v at hk ⊢
   repeat (first | refine zq7 rfl rfl rfl ?_)
   refine wops_cons (wop_callF rfl rfl rfl (fn := Tryz.f70) (by rfl) ?_)
   refine cThat hq H1 v 10 _ ⟨Nat.le_refl _, ?_⟩
   repeat (first | apply qN | refine qM rfl rfl ?_)
   refine wp_ret ?_
   exact ⟨_, _, rfl, hk⟩
 · refine wops_cons (wop_bin (op := .geq) (v := .bool false) rfl rfl rfl rfl (by simp [binI]; omega) ?_)
   rw [show strB r a = false by unfold strB; rw [decide_eq_false h]; rfl] at hk
   repeat (first | refine zq1 rfl rfl ?_ | refine qM rfl rfl ?_ | refine zq7 rfl rfl rfl ?_)
   refine wops_cons (wop_callF rfl rfl rfl (fn := Tryz.f70) (by rfl) ?_)
   refine cThat hq H1 false 10 _ ⟨Nat.le_refl _, ?_⟩
   repeat (first | apply qN | refine qM rfl rfl ?_)
   refine wp_ret ?_
   exact ⟨_, _, rfl, hk⟩
theorem c78 (H : AH) (r : Ru) (k : Tk) (rv kv : AV) (hrv : rv.cells = r.cs) (hkv : kv.cells = k.cs) (hr : H.next + 40 < 2 ^ 59) (K : AV → AH → Prop) (hk : ∀ H', Keeps H H' → H'.next ≤ H.next + 4 → K (iv (tukE r k)) H') : Ca (ENV O) 78 [rv, kv] H K := by
 refine ca_intro (hq _ _ _ rfl) (fn := Tryz.f78) (by rfl) rfl ?_
 have r0 : H.next < 2 ^ 59 := by omega
 repeat (first | apply qR | apply qS)
 refine wops_cons (o_boxS (cs := r.cs) rfl rfl hrv r0 fun H1 n1 k1 b1 => ?_)
 have r1 : H1.next < 2 ^ 59 := by omega
 refine wops_cons (o_boxS (cs := k.cs) rfl rfl hkv r1 fun H2 n2 k2 b2 => ?_)
 have x1 := k1.nx
 have x2 := k2.nx
 have k02 := k1.trans k2
 have b1 := b1.keep (by omega) k2
 have q0 : At H2 (.ptr H1.next 0) (iv k.a) := b2.at rfl
 have q1 : At H2 (.ptr H1.next 1) (iv k.b) := b2.at rfl
 have q2 : At H2 (.ptr H1.next 2) (iv k.c) := b2.at rfl
 have L := fun n => lkP (n := n) b1 (by omega) (ru_beq r)
 have M := fun n => lkP (n := n) b2 (by omega) (tk_beq k)
 repeat (first | apply qN | refine qM rfl rfl ?_ | apply qS)
 refine wp_drawK rfl ?_
 refine k_load4 rfl rfl rfl rfl b1 (L 0) ?_
 refine k_field rfl rfl rfl rfl ?_
 refine k_load rfl rfl rfl q0 (M _) ?_
 refine k_field rfl rfl rfl rfl ?_
 refine k_load rfl rfl rfl q1 (M _) ?_
 refine k_field rfl rfl rfl rfl ?_
 refine k_load rfl rfl rfl q2 (M _) ?_
 refine k_call rfl rfl rfl (fun b h => by cases h) (wop_callF rfl rfl rfl (fn := Tryz.f91) (by rfl) ?_)
 refine c91 hq H2 r _ rfl k.a (by omega) _ fun H3 k3 n3 => ⟨k3.nx, k3, ?_⟩
 have x3 := k3.nx
 refine k_call rfl rfl rfl (fun b h => by cases h) (wop_callF rfl rfl rfl (fn := Tryz.f69) (by rfl) ?_)
 refine cRange hq H3 k.b 0 8 _ ⟨Nat.le_refl _, k3, ?_⟩
 refine k_call rfl rfl rfl (fun b h => by cases h) (wop_callF rfl rfl rfl (fn := Tryz.f69) (by rfl) ?_)
 refine cRange hq H3 k.c 0 8 _ ⟨Nat.le_refl _, k3, ?_⟩
 have r3 : H3.next < 2 ^ 59 := by omega
 refine k_loud rfl rfl (o_build3 rfl rfl rfl rfl rfl r3 ⟨k3.add _ r3, ?_⟩)
 refine WK.mem (fun H4 => Keeps H3 H4 ∧ H4.next = H3.next + 1 ∧ Sl H4 (.slc H3.next 0 3 3) (ivs [if strB r k.a = true then 0 else 10, rg k.b 0 8, rg k.c 0 8])) ⟨(Keeps.refl H3).add _ r3, rfl, sl_new (cs := ivs [if strB r k.a = true then 0 else 10, rg k.b 0 8, rg k.c 0 8]) r3 3⟩ ?_
 rintro H4 ⟨k4, n4, hs4⟩
 refine k_call rfl rfl rfl (fun b h => by cases h) (wop_callF rfl rfl rfl (fn := Tryz.f68) (by rfl) ?_)
 refine cFirst hq H4 _ _ hs4 (by show 3 ≤ 1000; decide) _ ⟨Nat.le_refl _, k3.trans k4, ?_⟩
 clear hs4
 show WK _ _ _ _ _ _ _
 rw [show firstNZ [if strB r k.a = true then 0 else 10, rg k.b 0 8, rg k.c 0 8] = tukE r k from rfl]
 repeat (first | refine k_nil ?_ | refine k_assign rfl rfl rfl ?_)
 refine wp_ret ?_
 exact ⟨_, _, rfl, hk H4 ((k02.trans k3).trans k4) (by omega)⟩
theorem c21 (H : AH) (r : Ru) (k : Tk) (rv kv : AV) (hrv : rv.cells = r.cs) (hkv : kv.cells = k.cs) (hru : ruE r = 0) (hr : H.next + 20 < 2 ^ 59) (K : AV → AH → Prop) (hk : ∀ H', Keeps H H' → H'.next ≤ H.next + 4 → K (iv (tukE r k)) H') : Ca (ENV O) 21 [rv, kv] H K := by
 refine ca_intro (hq _ _ _ rfl) (fn := Tryz.f21) (by rfl) rfl ?_
 have r0 : H.next < 2 ^ 59 := by omega
 have hR := ruE_ok hru
 repeat (first | apply qR | apply qS)
 refine wops_cons (o_boxS (cs := r.cs) rfl rfl hrv r0 fun H1 n1 k1 b1 => ?_)
 have r1 : H1.next < 2 ^ 59 := by omega
 refine wops_cons (o_boxS (cs := k.cs) rfl rfl hkv r1 fun H2 n2 k2 b2 => ?_)
 have x1 := k1.nx
 have x2 := k2.nx
 have k02 := k1.trans k2
 have b1 := b1.keep (by omega) k2
 have p0 : At H2 (.ptr H.next 0) (iv r.s) := b1.at rfl
 have q0 : At H2 (.ptr H1.next 0) (iv k.a) := b2.at rfl
 have q1 : At H2 (.ptr H1.next 1) (iv k.b) := b2.at rfl
 have q2 : At H2 (.ptr H1.next 2) (iv k.c) := b2.at rfl
 have hk := hk H2 k02 (by omega)
 unfold tukE at hk
 repeat (first | apply qN | refine qM rfl rfl ?_ | refine zqa rfl rfl rfl ?_ | refine zq6 rfl rfl ‹_› ?_ | apply qR | apply qS)
 refine wops_cons (wop_bin (op := .sub) (v := .int .i64 (r.s - 1)) rfl rfl rfl rfl (subI (by omega)) ?_)
 refine wops_cons (wop_callF rfl rfl rfl (fn := Tryz.f67) (by rfl) ?_)
 refine cOut hq H2 k.a 0 (r.s - 1) _ ⟨Nat.le_refl _, ?_⟩
 have e : inB k.a 0 (r.s - 1) = strB r k.a := by
   unfold strB
   rw [Bool.eq_iff_iff, inB_iff]
   simp
   omega
 rw [e]
 cases h1 : strB r k.a with
 | false =>
   rw [h1, fnz_ne (by decide)] at hk
   repeat (first | apply qN | refine qM rfl rfl ?_ | refine qT rfl ?_ | apply qR | apply qS)
   refine wp_ret ?_
   exact ⟨_, _, rfl, hk⟩
 | true =>
 rw [h1, if_pos rfl, fnz_0 rfl] at hk
 repeat (first | apply qN | refine zqa rfl rfl rfl ?_ | refine zq6 rfl rfl ‹_› ?_ | refine qF rfl ?_ | apply qR | apply qS | apply qK)
 refine wops_cons (wop_callF rfl rfl rfl (fn := Tryz.f67) (by rfl) ?_)
 refine cOut hq H2 k.b 0 8 _ ⟨Nat.le_refl _, ?_⟩
 cases h2 : inB k.b 0 8 with
 | false =>
   rw [inB_rg3 h2, fnz_ne (by decide)] at hk
   repeat (first | apply qN | refine zq1 rfl rfl ?_ | refine qM rfl rfl ?_ | refine zq7 rfl rfl rfl ?_ | refine qT rfl ?_ | apply qR | apply qS)
   refine wp_ret ?_
   exact ⟨_, _, rfl, hk⟩
 | true =>
 rw [inB_rg h2, fnz_0 rfl] at hk
 repeat (first | refine qM rfl rfl ?_ | refine zqa rfl rfl rfl ?_ | refine zq6 rfl rfl ‹_› ?_)
 refine wops_cons (wop_callF rfl rfl rfl (fn := Tryz.f67) (by rfl) ?_)
 refine cOut hq H2 k.c 0 8 _ ⟨Nat.le_refl _, ?_⟩
 cases h3 : inB k.c 0 8 with
 | false =>
   rw [inB_rg3 h3, fnz_ne (by decide)] at hk
   repeat (first | apply qN | refine qM rfl rfl ?_ | refine zq7 rfl rfl rfl ?_ | refine qT rfl ?_ | apply qR | apply qS)
   refine wp_ret ?_
   exact ⟨_, _, rfl, hk⟩
 | true =>
 rw [inB_rg h3] at hk
 repeat (first | apply qN | refine qM rfl rfl ?_ | refine zq7 rfl rfl rfl ?_ | refine qF rfl ?_ | apply qR | apply qS | apply qK)
 refine wp_ret ?_
 exact ⟨_, _, rfl, hk⟩
end Go.Ev
