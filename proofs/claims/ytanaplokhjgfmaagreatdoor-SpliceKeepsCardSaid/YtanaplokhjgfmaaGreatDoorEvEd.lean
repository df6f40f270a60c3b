/- Part of an evaluator of calls that is proved sound, and of what it gives about this program. No condition of its own. -/
import Derived.Test.YtanaplokhjgfmaaGreatDoorEvEa
set_option linter.unusedVariables false
set_option linter.unusedSimpArgs false
set_option linter.unusedSectionVars false
set_option maxRecDepth 100000
set_option maxHeartbeats 4000000
namespace Go.Ev
open Go.Proofs
def preE (r : Ru) (tk gp : List Int) : Int := firstNZ [ruE r, if (decide ((tk.length : Int) = r.s) && decide ((gp.length : Int) = r.s)) = true then 0 else 2, eachE (fun z => rg z 0 (w64 (r.f + r.t))) tk, eachE (fun z => rg z 0 (w64 (r.s - 1))) gp]
def okB (tk gp : List Int) : Bool := decide (mxL tk - mnL tk ≤ 1) && decide (((spt [] (prs tk gp)).length : Int) = tk.length)
def staE (r : Ru) (tk gp : List Int) : Int := if preE r tk gp = 0 then (if okB tk gp = true then 0 else 19) else preE r tk gp
theorem eachE_0 {e : Int → Int} : ∀ {l : List Int}, eachE e l = 0 ↔ ∀ z ∈ l, e z = 0
 | [] => by simp [eachE]
 | z :: l => by
   rw [eachE]
   by_cases h : e z = 0
   · rw [if_pos h, eachE_0]
     simp [h]
   · rw [if_neg h]
     simp [h]
theorem first4 {a b c d : Int} (h : firstNZ [a, b, c, d] = 0) : a = 0 ∧ b = 0 ∧ c = 0 ∧ d = 0 := by
 by_cases ha : a = 0
 · rw [fnz_0 ha] at h
   by_cases hb : b = 0
   · rw [fnz_0 hb] at h
     exact ⟨ha, hb, first2n h⟩
   · rw [fnz_ne hb] at h; exact absurd h hb
 · rw [fnz_ne ha] at h; exact absurd h ha
structure StOk (r : Ru) (tk gp : List Int) : Prop where
 ru : 2 ≤ r.s ∧ r.s ≤ 8 ∧ 0 ≤ r.o ∧ r.o ≤ r.s - 1 ∧ 1 ≤ r.u ∧ r.u ≤ r.s - 1 ∧ 1 ≤ r.f ∧ r.f ≤ 20 ∧ 0 ≤ r.t ∧ r.t ≤ 20
 lt : (tk.length : Int) = r.s
 lg : (gp.length : Int) = r.s
 tk : ∀ z ∈ tk, 0 ≤ z ∧ z ≤ r.f + r.t
 gp : ∀ z ∈ gp, 0 ≤ z ∧ z ≤ r.s - 1
theorem preE_ok {r : Ru} {tk gp : List Int} (h : preE r tk gp = 0) : StOk r tk gp := by
 obtain ⟨h1, h2, h3, h4⟩ := first4 h
 have hr := ruE_ok h1
 have hw1 : w64 (r.f + r.t) = r.f + r.t := wr64 (by omega)
 have hw2 : w64 (r.s - 1) = r.s - 1 := wr64 (by omega)
 rw [hw1] at h3
 rw [hw2] at h4
 refine ⟨hr, ?_, ?_, fun z hz => rg_0.1 (eachE_0.1 h3 z hz), fun z hz => rg_0.1 (eachE_0.1 h4 z hz)⟩
 · cases hd : decide ((tk.length : Int) = r.s) with
   | true => exact of_decide_eq_true hd
   | false => rw [hd] at h2; simp at h2
 · cases hd : decide ((gp.length : Int) = r.s) with
   | true => exact of_decide_eq_true hd
   | false => rw [hd] at h2; simp at h2
theorem staE_ok {r : Ru} {tk gp : List Int} (h : staE r tk gp = 0) : preE r tk gp = 0 ∧ okB tk gp = true := by
 unfold staE at h
 by_cases h0 : preE r tk gp = 0
 · rw [if_pos h0] at h
   refine ⟨h0, ?_⟩
   cases hb : okB tk gp with
   | true => rfl
   | false => rw [hb] at h; simp at h
 · rw [if_neg h0] at h; exact absurd h h0
theorem mxL_mem {l : List Int} (h : l ≠ []) : mxL l ∈ l := by
 cases l with
 | nil => exact absurd rfl h
 | cons a l =>
   show mxF a l ∈ _
   rcases (mxF_p l a).2 with e | e <;> simp [e]
theorem mnL_mem {l : List Int} (h : l ≠ []) : mnL l ∈ l := by
 cases l with
 | nil => exact absurd rfl h
 | cons a l =>
   show mnF a l ∈ _
   rcases (mnF_p l a).2 with e | e <;> simp [e]
variable {O : CallF} (hq : Quiet O)
include hq
theorem c75' (H : AH) (y : AV) (l : List Int) (hne : l ≠ []) (hy : Sl H y (ivs l)) (hl : l.length ≤ 100000) (K : AV → AH → Prop) (hk : K (iv (mxL l)) H) : Ca (ENV O) 75 [y] H K := by
 cases l with
 | nil => exact absurd rfl hne
 | cons a l => exact c75 hq H y a l hy (by simp at hl; omega) K hk
theorem c76' (H : AH) (y : AV) (l : List Int) (hne : l ≠ []) (hy : Sl H y (ivs l)) (hl : l.length ≤ 100000) (K : AV → AH → Prop) (hk : K (iv (mnL l)) H) : Ca (ENV O) 76 [y] H K := by
 cases l with
 | nil => exact absurd rfl hne
 | cons a l => exact c76 hq H y a l hy (by simp at hl; omega) K hk
theorem c18 (H : AH) (r : Ru) (rv : AV) (hrv : rv.cells = r.cs) (x y : AV) (tk gp : List Int) (hx : Ky H x tk) (hy : Ky H y gp) (hlt : tk.length ≤ 1000) (hlg : gp.length ≤ 1000) (hr : H.next + 20000 < 2 ^ 59) (K : AV → AH → Prop)
   (hk : ∀ H', Keeps H H' → H'.next ≤ H.next + 9000 → K (iv (staE r tk gp)) H') : Ca (ENV O) 18 [rv, .agg [x, y]] H K := by
 refine ca_intro (hq _ _ _ rfl) (fn := Tryz.f18) (by rfl) rfl ?_
 have r0 : H.next < 2 ^ 59 := by omega
 repeat (first | apply qR | apply qS)
 refine wops_cons (o_boxS (cs := r.cs) rfl rfl hrv r0 fun H1 n1 k1 b1 => ?_)
 have r1 : H1.next < 2 ^ 59 := by omega
 refine wops_cons (o_boxS (cs := [x, y]) rfl rfl rfl r1 fun H2 n2 k2 b2 => ?_)
 have k02 := k1.trans k2
 have x1 := k1.nx
 have x2 := k2.nx
 have b1 := b1.keep (by omega) k2
 have hx2 := hx.keep k02
 have hy2 := hy.keep k02
 have q0 : At H2 (.ptr H1.next 0) x := b2.at rfl
 have q1 : At H2 (.ptr H1.next 1) y := b2.at rfl
 have p0 : At H2 (.ptr H.next 0) (iv r.s) := b1.at rfl
 have hxb : x.beq x = true := hx2.sl.beq
 have hyb : y.beq y = true := hy2.sl.beq
 have sb : beqs [x, y] [x, y] = true := by simp [beqs, hxb, hyb]
 have L := fun n => lkP (n := n) b1 (by omega) (ru_beq r)
 have M := fun n => lkP (n := n) b2 (by omega) sb
 have r2 : H2.next < 2 ^ 59 := by omega
 repeat (first | apply qN | refine qM rfl rfl ?_ | apply qS)
 refine wp_drawK rfl ?_
 refine k_load4 rfl rfl rfl rfl b1 (L 0) ?_
 refine k_field rfl rfl rfl rfl ?_
 refine k_load rfl rfl rfl q0 (M _) ?_
 refine k_lenI rfl rfl rfl rfl rfl rfl hx2.sl ?_
 refine k_field rfl rfl rfl rfl ?_
 refine k_load rfl rfl rfl p0 (L _) ?_
 refine k_bin (op := .eql) (v := .bool (decide ((tk.length : Int) = r.s))) rfl rfl rfl rfl rfl (by simp [binI]; rfl) ?_
 refine k_field rfl rfl rfl rfl ?_
 refine k_load rfl rfl rfl q0 (M _) ?_
 refine k_makeFunc rfl rfl rfl ?_
 refine k_field rfl rfl rfl rfl ?_
 refine k_load rfl rfl rfl q1 (M _) ?_
 refine k_makeFunc rfl rfl rfl ?_
 refine k_call rfl rfl rfl (fun b h => by cases h) (wop_callF rfl rfl rfl (fn := Tryz.f14) (by rfl) ?_)
 refine c14 hq H2 r _ rfl (by omega) _ fun H3 k3 n3 => ⟨k3.nx, k3, ?_⟩
 have x3 := k3.nx
 refine wk_split 8 ?_
 refine WK.mono (K := fun T' H' => H' = H3 ∧ ∃ (Y : List AV), T' = (lget Y 0 :: lget Y 1 :: .ptr H.next 0 :: .ptr H1.next 0 :: lget Y 2 :: lget Y 3 :: lget Y 4 :: lget Y 5 :: lget Y 6 :: iv (ruE r) :: lget Y 7 :: lget Y 8 :: lget Y 9 :: lget Y 10 :: lget Y 11 :: lget Y 12 :: lget Y 13 :: lget Y 14 :: lget Y 15 :: lget Y 16 :: lget Y 17 :: lget Y 18 :: lget Y 19 :: .v (.bool (decide ((tk.length : Int) = r.s) && decide ((gp.length : Int) = r.s))) :: lget Y 20 :: lget Y 21 :: x :: .fn (.func 72) [] [.ptr H.next 0] :: lget Y 22 :: lget Y 23 :: y :: .fn (.func 74) [] [.ptr H.next 0] :: lget Y 24 :: lget Y 25 :: lget Y 26 :: lget Y 27 :: lget Y 28 :: lget Y 29 :: lget Y 30 :: lget Y 31 :: lget Y 32 :: lget Y 33 :: lget Y 34 :: lget Y 35 :: lget Y 36 :: lget Y 37 :: lget Y 38 :: lget Y 39 :: lget Y 40 :: lget Y 41 :: lget Y 42 :: lget Y 43 :: lget Y 44 :: lget Y 45 :: lget Y 46 :: lget Y 47 :: lget Y 48 :: [])) ?_ ?_
 rotate_left
 · show WK _ _ _ _ _ _ _
   cases hd : decide ((tk.length : Int) = r.s) with
   | false =>
     refine k_move rfl rfl rfl ?_
     refine k_skip rfl rfl ?_
     refine k_skip rfl rfl ?_
     refine k_skip rfl rfl ?_
     refine k_skip rfl rfl ?_
     refine k_skip rfl rfl ?_
     refine k_skip rfl rfl ?_
     refine k_pick rfl rfl rfl rfl ?_
     exact ⟨rfl, [_,_,_,_,_,_,_,_,_,_,_,_,_,_,_,_,_,_,_,_,_,_,_,_,_,_,_,_,_,_,_,_,_,_,_,_,_,_,_,_,_,_,_,_,_,_,_,_,_], rfl⟩
   | true =>
     refine k_move rfl rfl rfl ?_
     refine k_field rfl rfl rfl rfl ?_
     refine k_load rfl rfl rfl q1 (M _) ?_
     refine k_lenI rfl rfl rfl rfl rfl rfl hy2.sl ?_
     refine k_field rfl rfl rfl rfl ?_
     refine k_load rfl rfl rfl p0 (L _) ?_
     refine k_bin (op := .eql) (v := .bool (decide ((gp.length : Int) = r.s))) rfl rfl rfl rfl rfl (by simp [binI]; rfl) ?_
     refine k_pick rfl rfl rfl rfl ?_
     exact ⟨rfl, [_,_,_,_,_,_,_,_,_,_,_,_,_,_,_,_,_,_,_,_,_,_,_,_,_,_,_,_,_,_,_,_,_,_,_,_,_,_,_,_,_,_,_,_,_,_,_,_,_], rfl⟩
 rintro T' H' ⟨rfl, Y, rfl⟩
 show WK _ _ _ _ _ _ _
 have b13 := b1.keep (by omega) k3
 have k03 := k02.trans k3
 have hx3 := hx.keep k03
 have hy3 := hy.keep k03
 refine k_call rfl rfl rfl (fun b h => by cases h) (wop_callF rfl rfl rfl (fn := Tryz.f70) (by rfl) ?_)
 refine cThat hq H' _ 2 _ ⟨Nat.le_refl _, k3, ?_⟩
 refine k_call rfl rfl rfl (fun b h => by cases h) (wop_callF rfl rfl rfl (fn := Tryz.f71) (by rfl) ?_)
 refine c71 hq H' x tk 72 Tryz.f72 [.ptr H.next 0] (fun z => rg z 0 (w64 (r.f + r.t))) (by rfl) hx3.sl hx3.old (by omega) (fun Ha z K ka na hk => have xa := ka.nx; c72 hq Ha H.next r z (b13.keep (by omega) ka) (by omega) K hk) _ fun H4 k4 n4 => ⟨k4.nx, k3.trans k4, ?_⟩
 have x4 := k4.nx
 have b14 := b13.keep (by omega) k4
 refine k_call rfl rfl rfl (fun b h => by cases h) (wop_callF rfl rfl rfl (fn := Tryz.f71) (by rfl) ?_)
 refine c71 hq H4 y gp 74 Tryz.f74 [.ptr H.next 0] (fun z => rg z 0 (w64 (r.s - 1))) (by rfl) (hy3.keep k4).sl (hy3.keep k4).old (by omega) (fun Ha z K ka na hk => have xa := ka.nx; c74 hq Ha H.next r z (b14.keep (by omega) ka) K hk) _ fun H5 k5 n5 => ⟨k5.nx, (k3.trans k4).trans k5, ?_⟩
 have x5 := k5.nx
 have k25 := (k3.trans k4).trans k5
 have r5 : H5.next < 2 ^ 59 := by omega
 have hpre : firstNZ [ruE r, if (decide ((tk.length : Int) = r.s) && decide ((gp.length : Int) = r.s)) = true then 0 else 2, eachE (fun z => rg z 0 (w64 (r.f + r.t))) tk, eachE (fun z => rg z 0 (w64 (r.s - 1))) gp] = preE r tk gp := rfl
 generalize (if (decide ((tk.length : Int) = r.s) && decide ((gp.length : Int) = r.s)) = true then (0 : Int) else 2) = w2 at hpre ⊢
 generalize eachE (fun z => rg z 0 (w64 (r.f + r.t))) tk = w3 at hpre ⊢
 generalize eachE (fun z => rg z 0 (w64 (r.s - 1))) gp = w4 at hpre ⊢
 generalize ruE r = w1 at hpre ⊢
 refine k_loud rfl rfl (o_build4 rfl rfl rfl rfl rfl rfl r5 ⟨k25.add _ r5, ?_⟩)
 refine WK.mem (fun H6 => Keeps H5 H6 ∧ H6.next = H5.next + 1 ∧ Sl H6 (.slc H5.next 0 4 4) (ivs [w1, w2, w3, w4])) ⟨(Keeps.refl H5).add _ r5, rfl, sl_new (cs := ivs [w1, w2, w3, w4]) r5 4⟩ ?_
 rintro H6 ⟨k6, n6, hs6⟩
 have x6 := k6.nx
 refine k_call rfl rfl rfl (fun b h => by cases h) (wop_callF rfl rfl rfl (fn := Tryz.f68) (by rfl) ?_)
 refine cFirst hq H6 _ _ hs6 (by show 4 ≤ 1000; decide) _ ⟨Nat.le_refl _, k25.trans k6, ?_⟩
 clear hs6
 show WK _ _ _ _ _ _ _
 rw [hpre]
 clear hpre
 have k26 := k25.trans k6
 have k06 := k02.trans k26
 repeat (first | refine qM rfl rfl ?_ | refine k_nil ?_ | refine k_assign rfl rfl rfl ?_ | apply qR | apply qS)
 have b16 := ((b13.keep (by omega) k4).keep (by omega) k5).keep (by omega) k6
 have b26 := b2.keep (by omega) k26
 have hx6 := hx.keep k06
 have hy6 := hy.keep k06
 clear b13 b14 hx3 hy3
 refine WOps.cut (fun T => ∃ Y : List AV, T = (lget Y 0 :: lget Y 1 :: .ptr H.next 0 :: .ptr H1.next 0 :: lget Y 2 :: iv (preE r tk gp) :: lget Y 3 :: lget Y 4 :: lget Y 5 :: lget Y 6 :: lget Y 7 :: lget Y 8 :: lget Y 9 :: lget Y 10 :: lget Y 11 :: lget Y 12 :: lget Y 13 :: lget Y 14 :: lget Y 15 :: lget Y 16 :: lget Y 17 :: lget Y 18 :: lget Y 19 :: lget Y 20 :: lget Y 21 :: lget Y 22 :: lget Y 23 :: lget Y 24 :: lget Y 25 :: lget Y 26 :: lget Y 27 :: lget Y 28 :: lget Y 29 :: lget Y 30 :: lget Y 31 :: iv (preE r tk gp) :: lget Y 32 :: lget Y 33 :: lget Y 34 :: lget Y 35 :: lget Y 36 :: lget Y 37 :: lget Y 38 :: lget Y 39 :: lget Y 40 :: lget Y 41 :: lget Y 42 :: lget Y 43 :: lget Y 44 :: lget Y 45 :: lget Y 46 :: lget Y 47 :: lget Y 48 :: lget Y 49 :: lget Y 50 :: lget Y 51 :: lget Y 52 :: [])) ⟨[_,_,_,_,_,_,_,_,_,_,_,_,_,_,_,_,_,_,_,_,_,_,_,_,_,_,_,_,_,_,_,_,_,_,_,_,_,_,_,_,_,_,_,_,_,_,_,_,_,_,_,_,_], rfl⟩ ?_
 rintro T ⟨Y, rfl⟩
 unfold staE at hk
 by_cases h0 : preE r tk gp = 0
 rotate_left
 · rw [if_neg h0] at hk
   have hk := hk H6 k06 (by omega)
   generalize preE r tk gp = w at h0 hk ⊢
   refine wops_cons (wop_bin (op := .neq) (v := .bool true) rfl rfl rfl rfl (by simp [binI, h0]) ?_)
   repeat (first | apply qN | refine qM rfl rfl ?_ | refine qT rfl ?_ | apply qR | apply qS)
   refine wp_ret ?_
   exact ⟨_, _, rfl, hk⟩
 rw [if_pos h0] at hk
 have hst := preE_ok h0
 have hne : tk ≠ [] := fun e => by have := hst.lt; rw [e] at this; simp at this; have := hst.ru; omega
 have hgl : gp.length = tk.length := by have := hst.lt; have := hst.lg; omega
 have hmx := hst.tk _ (mxL_mem hne)
 have hmn := hst.tk _ (mnL_mem hne)
 have hru := hst.ru
 have hs2 : r.s = (tk.length : Int) := hst.lt.symm
 rw [h0]
 refine wops_cons (wop_bin (op := .neq) (v := .bool false) rfl rfl rfl rfl rfl ?_)
 repeat (first | apply qN | refine qF rfl ?_ | apply qS | apply qK)
 have q06 : At H6 (.ptr H1.next 0) x := b26.at rfl
 have p06 : At H6 (.ptr H.next 0) (iv r.s) := b16.at rfl
 have M6 := fun n => lkP (n := n) b26 (by omega) sb
 have L6 := fun n => lkP (n := n) b16 (by omega) (ru_beq r)
 have e2 : okB tk gp = (decide (mxL tk - mnL tk ≤ 1) && decide (((spt [] (prs tk gp)).length : Int) = r.s)) := by unfold okB; rw [hs2]
 rw [e2] at hk
 refine wp_drawK rfl ?_
 refine k_field rfl rfl rfl rfl ?_
 refine k_load rfl rfl rfl q06 (M6 _) ?_
 refine k_field rfl rfl rfl rfl ?_
 refine k_load rfl rfl rfl q06 (M6 _) ?_
 refine k_call rfl rfl rfl (fun b h => by cases h) (wop_callF rfl rfl rfl (fn := Tryz.f75) (by rfl) ?_)
 refine c75' hq H6 x tk hne hx6.sl (by omega) _ ⟨Nat.le_refl _, Keeps.refl _, ?_⟩
 refine k_call rfl rfl rfl (fun b h => by cases h) (wop_callF rfl rfl rfl (fn := Tryz.f76) (by rfl) ?_)
 refine c76' hq H6 x tk hne hx6.sl (by omega) _ ⟨Nat.le_refl _, Keeps.refl _, ?_⟩
 refine k_bin (op := .sub) (v := .int .i64 (mxL tk - mnL tk)) rfl rfl rfl rfl rfl (subI (by omega)) ?_
 refine k_bin (op := .leq) (v := .bool (decide (mxL tk - mnL tk ≤ 1))) rfl rfl rfl rfl rfl rfl ?_
 generalize decide (mxL tk - mnL tk ≤ 1) = b1v at hk ⊢
 repeat (first | refine k_nil ?_ | refine k_assign rfl rfl rfl ?_ | apply qS)
 refine wp_drawK rfl ?_
 refine k_load4 rfl rfl rfl rfl b26 (M6 0) ?_
 refine k_field rfl rfl rfl rfl ?_
 refine k_load rfl rfl rfl p06 (L6 _) ?_
 refine k_call rfl rfl rfl (fun b h => by cases h) (wop_callF rfl rfl rfl (fn := Tryz.f77) (by rfl) ?_)
 refine c77 hq H6 x y tk gp hx6 hy6 hgl (by omega) (by omega) _ fun H7 es cl k7 n7 g7 hS7 => ⟨k7.nx, k7, ?_⟩
 have x7 := k7.nx
 refine k_loud rfl rfl (o_lenM rfl rfl rfl rfl rfl rfl g7 hS7 ⟨k7, ?_⟩)
 refine k_bin (op := .eql) (v := .bool (decide (((spt [] (prs tk gp)).length : Int) = r.s))) rfl rfl rfl rfl rfl (by simp [binI]; rfl) ?_
 generalize decide (((spt [] (prs tk gp)).length : Int) = r.s) = b2v at hk ⊢
 have hk := hk H7 (k06.trans k7) (by omega)
 cases b1v with
 | true =>
   repeat (first | refine qM rfl rfl ?_ | refine zq7 rfl rfl rfl ?_ | refine k_nil ?_ | refine k_assign rfl rfl rfl ?_ | apply qR | apply qS)
   refine wops_cons (wop_callF rfl rfl rfl (fn := Tryz.f70) (by rfl) ?_)
   refine cThat hq H7 _ 19 _ ⟨Nat.le_refl _, ?_⟩
   repeat (first | apply qN | refine qM rfl rfl ?_)
   refine wp_ret ?_
   exact ⟨_, _, rfl, hk⟩
 | false =>
   repeat (first | refine zq1 rfl rfl ?_ | refine qM rfl rfl ?_ | refine zq7 rfl rfl rfl ?_ | refine k_nil ?_ | refine k_assign rfl rfl rfl ?_ | apply qR | apply qS)
   refine wops_cons (wop_callF rfl rfl rfl (fn := Tryz.f70) (by rfl) ?_)
   refine cThat hq H7 _ 19 _ ⟨Nat.le_refl _, ?_⟩
   repeat (first | apply qN | refine qM rfl rfl ?_)
   refine wp_ret ?_
   exact ⟨_, _, rfl, hk⟩
end Go.Ev
namespace Go.Ev
open Go.Proofs
theorem eachE_03 {lo hi : Int} : ∀ (l : List Int), eachE (fun z => rg z lo hi) l = 0 ∨ eachE (fun z => rg z lo hi) l = 3
 | [] => .inl rfl
 | z :: l => by
   rw [eachE]
   by_cases h : rg z lo hi = 0
   · rw [if_pos h]; exact eachE_03 l
   · rw [if_neg h]; exact .inr (rg_3 h)
theorem inB_rg {z lo hi : Int} (h : inB z lo hi = true) : rg z lo hi = 0 := by unfold rg; rw [if_pos h]
theorem inB_rg3 {z lo hi : Int} (h : inB z lo hi = false) : rg z lo hi = 3 := by unfold rg; rw [h]; rfl
theorem eachE_bad {lo hi z : Int} {l : List Int} (h : z ∈ l) (hz : inB z lo hi = false) : eachE (fun z => rg z lo hi) l = 3 := by
 rcases eachE_03 (lo := lo) (hi := hi) l with e | e
 · have := eachE_0.1 e z h
   rw [inB_rg3 hz] at this; exact absurd this (by decide)
 · exact e
theorem preE_len {r : Ru} {tk gp : List Int} (hr : ruE r = 0) (h : ¬ ((tk.length : Int) = r.s ∧ (gp.length : Int) = r.s)) : preE r tk gp = 2 := by
 unfold preE
 rw [fnz_0 hr]
 have : (decide ((tk.length : Int) = r.s) && decide ((gp.length : Int) = r.s)) = false := by
   cases h1 : decide ((tk.length : Int) = r.s) <;> cases h2 : decide ((gp.length : Int) = r.s) <;> simp_all
 rw [this]
 exact fnz_ne (by decide)
theorem preE_eq {r : Ru} {tk gp : List Int} (hr : ruE r = 0) (h1 : (tk.length : Int) = r.s) (h2 : (gp.length : Int) = r.s) : preE r tk gp = firstNZ [eachE (fun z => rg z 0 (w64 (r.f + r.t))) tk, eachE (fun z => rg z 0 (w64 (r.s - 1))) gp] := by
 unfold preE
 rw [fnz_0 hr, fnz_0 (by rw [decide_eq_true h1, decide_eq_true h2]; rfl)]
theorem preE_bad {r : Ru} {tk gp : List Int} (hr : ruE r = 0) (h1 : (tk.length : Int) = r.s) (h2 : (gp.length : Int) = r.s) {a b : Int} (ha : a ∈ tk) (hb : b ∈ gp) (h : inB a 0 (w64 (r.f + r.t)) = false ∨ inB b 0 (w64 (r.s - 1)) = false) : preE r tk gp = 3 := by
 rw [preE_eq hr h1 h2]
 rcases h with h | h
 · rw [eachE_bad ha h]; exact fnz_ne (by decide)
 · rw [eachE_bad hb h]
   rcases eachE_03 (lo := 0) (hi := w64 (r.f + r.t)) tk with e | e
   · rw [e, fnz_0 rfl]; exact fnz_ne (by decide)
   · rw [e]; exact fnz_ne (by decide)
theorem preE_good {r : Ru} {tk gp : List Int} (hr : ruE r = 0) (h1 : (tk.length : Int) = r.s) (h2 : (gp.length : Int) = r.s) (ht : ∀ a ∈ tk, inB a 0 (w64 (r.f + r.t)) = true) (hg : ∀ b ∈ gp, inB b 0 (w64 (r.s - 1)) = true) : preE r tk gp = 0 := by
 rw [preE_eq hr h1 h2, eachE_0.2 fun z hz => inB_rg (ht z hz), eachE_0.2 fun z hz => inB_rg (hg z hz)]
 rfl
theorem staE_pre {r : Ru} {tk gp : List Int} (h : preE r tk gp ≠ 0) : staE r tk gp = preE r tk gp := by unfold staE; rw [if_neg h]
def badP (i j : Nat) (a b c d : Int) : Prop := a > c + 1 ∨ (i ≠ j ∧ a = c ∧ b = d)
theorem okB_iff {tk gp : List Int} (hne : tk ≠ []) (hl : gp.length = tk.length) : okB tk gp = true ↔ ∀ (i j : Nat) (a b c d : Int), tk[i]? = some a → gp[i]? = some b → tk[j]? = some c → gp[j]? = some d → ¬ badP i j a b c d := by
 have hzl : (prs tk gp).length = tk.length := by unfold prs; rw [List.length_zip]; omega
 have hsp : ((spt [] (prs tk gp)).length : Int) = tk.length ↔ (prs tk gp).Nodup := by
   have h := spt_nodup (prs tk gp) []
   rw [hzl] at h
   constructor
   · intro e; exact (h.1 (by simp; omega)).1
   · intro e
     have := h.2 ⟨e, fun p _ hp => by simp at hp⟩
     simp at this; omega
 unfold okB
 rw [Bool.and_eq_true, decide_eq_true_iff, decide_eq_true_iff, even_iff hne, hsp]
 constructor
 · rintro ⟨h1, h2⟩ i j a b c d ha hb hc hd (h | ⟨hij, rfl, rfl⟩)
   · exact h1 a (List.mem_of_getElem? ha) c (List.mem_of_getElem? hc) h
   · have e1 := prs_get ha hb
     have e2 := prs_get hc hd
     have hp := List.pairwise_iff_getElem.1 h2
     obtain ⟨l1, g1⟩ := List.getElem?_eq_some_iff.1 e1
     obtain ⟨l2, g2⟩ := List.getElem?_eq_some_iff.1 e2
     by_cases hlt : i < j
     · exact hp i j l1 l2 hlt (by rw [g1, g2])
     · exact hp j i l2 l1 (by omega) (by rw [g1, g2])
 · intro h
   constructor
   · intro x hx y hy hxy
     obtain ⟨i, hi⟩ := List.mem_iff_getElem?.1 hx
     obtain ⟨j, hj⟩ := List.mem_iff_getElem?.1 hy
     obtain ⟨li, _⟩ := List.getElem?_eq_some_iff.1 hi
     obtain ⟨lj, _⟩ := List.getElem?_eq_some_iff.1 hj
     obtain ⟨b, hb⟩ := l_some (show i < gp.length by omega)
     obtain ⟨d, hd⟩ := l_some (show j < gp.length by omega)
     exact h i j x b y d hi hb hj hd (.inl hxy)
   · refine List.pairwise_iff_getElem.2 fun i j hi hj hij e => ?_
     rw [hzl] at hi hj
     obtain ⟨a, ha⟩ := l_some hi
     obtain ⟨c, hc⟩ := l_some hj
     obtain ⟨b, hb⟩ := l_some (show i < gp.length by omega)
     obtain ⟨d, hd⟩ := l_some (show j < gp.length by omega)
     have e1 := prs_get ha hb
     have e2 := prs_get hc hd
     obtain ⟨l1, g1⟩ := List.getElem?_eq_some_iff.1 e1
     obtain ⟨l2, g2⟩ := List.getElem?_eq_some_iff.1 e2
     rw [g1, g2] at e
     cases e
     exact h i j a b a b ha hb hc hd (.inr ⟨by omega, rfl, rfl⟩)
end Go.Ev
