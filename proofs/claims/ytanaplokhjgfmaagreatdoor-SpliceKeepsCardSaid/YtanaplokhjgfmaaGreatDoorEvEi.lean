/- Part of an evaluator of calls that is proved sound, and of what it gives about this program. No condition of its own. -/
import Derived.Test.YtanaplokhjgfmaaGreatDoorEvEh
set_option linter.unusedVariables false
set_option linter.unusedSimpArgs false
set_option linter.unusedSectionVars false
set_option maxRecDepth 100000
set_option maxHeartbeats 4000000
namespace Go.Ev
open Go.Proofs
def errE (r : Ru) (tk gp : List Int) (k : Tk) : Int := firstNZ [staE r tk gp, tukE r k]
def lgE (r : Ru) (tk gp : List Int) (k : Tk) : Int := legE r tk gp k (tk.getD k.a.toNat 0) (gp.getD k.a.toNat 0)
theorem tkd_of {r : Ru} {tk gp : List Int} {k : Tk} (h : staE r tk gp = 0) (h2 : tukE r k = 0) : ∃ j z g, Tkd r tk gp k j z g ∧ lgE r tk gp k = legE r tk gp k z g := by
 have hst := preE_ok (staE_ok h).1
 obtain ⟨⟨a1, a2⟩, hb, hc⟩ := tukE_ok h2
 have := hst.lt
 have := hst.lg
 obtain ⟨z, hz⟩ := l_some (show k.a.toNat < tk.length by omega)
 obtain ⟨g, hg⟩ := l_some (show k.a.toNat < gp.length by omega)
 refine ⟨k.a.toNat, z, g, ⟨hst, by omega, hz, hg, hb, hc⟩, ?_⟩
 unfold lgE
 rw [List.getD_eq_getElem?_getD, List.getD_eq_getElem?_getD, hz, hg]
 rfl
theorem errE_0 {r : Ru} {tk gp : List Int} {k : Tk} (h : errE r tk gp k = 0) : staE r tk gp = 0 ∧ tukE r k = 0 := first2n h
theorem ruled_iff {r : Ru} {k : Tk} {v : Bool} : ruled r k v = true ↔ k.b = r.o ∧ (if v = true then r.u else 1) ≤ k.c ∧ k.c ≤ r.u := by
 unfold ruled
 rw [Bool.and_eq_true, Bool.and_eq_true, decide_eq_true_iff, decide_eq_true_iff, decide_eq_true_iff]
theorem prs_mem {tk gp : List Int} {p q : Int} : (p, q) ∈ prs tk gp ↔ ∃ m : Nat, tk[m]? = some p ∧ gp[m]? = some q := by
 rw [List.mem_iff_getElem?]
 constructor
 · rintro ⟨m, hm⟩
   unfold prs at hm
   have := List.getElem?_zip_eq_some.1 hm
   exact ⟨m, this.1, this.2⟩
 · rintro ⟨m, h1, h2⟩
   exact ⟨m, prs_get h1 h2⟩
variable {O : CallF} (hq : Quiet O)
include hq
theorem c19 (H : AH) (r : Ru) (k : Tk) (rv kv x y : AV) (tk gp : List Int) (hrv : rv.cells = r.cs) (hkv : kv.cells = k.cs) (hx : Ky H x tk) (hy : Ky H y gp) (hlt : tk.length ≤ 1000) (hlg : gp.length ≤ 1000) (hr : H.next + 40000 < 2 ^ 59) (K : AV → AH → Prop)
   (hke : errE r tk gp k ≠ 0 → ∀ H', Keeps H H' → H'.next ≤ H.next + 10000 → K (.tup [iv 0, iv (errE r tk gp k)]) H')
   (hk : errE r tk gp k = 0 → ∀ H', Keeps H H' → H'.next ≤ H.next + 10000 → K (.tup [iv (lgE r tk gp k), iv 0]) H') : Ca (ENV O) 19 [rv, .agg [x, y], kv] H K := by
 refine ca_intro (hq _ _ _ rfl) (fn := Tryz.f19) (by rfl) rfl ?_
 have r0 : H.next < 2 ^ 59 := by omega
 repeat (first | apply qR | apply qS)
 refine wops_cons (o_boxS (cs := r.cs) rfl rfl hrv r0 fun H1 n1 k1 b1 => ?_)
 have r1 : H1.next < 2 ^ 59 := by omega
 refine wops_cons (o_boxS (cs := [x, y]) rfl rfl rfl r1 fun H2 n2 k2 b2 => ?_)
 have r2 : H2.next < 2 ^ 59 := by omega
 refine wops_cons (o_boxS (cs := k.cs) rfl rfl hkv r2 fun H3 n3 k3 b3 => ?_)
 have r3 : H3.next < 2 ^ 59 := by omega
 have x1 := k1.nx
 have x2 := k2.nx
 have x3 := k3.nx
 have k03 := (k1.trans k2).trans k3
 have b1 := b1.keep (by omega) (k2.trans k3)
 have b2 := b2.keep (by omega) k3
 have hx3 := hx.keep k03
 have hy3 := hy.keep k03
 have sb : beqs [x, y] [x, y] = true := by simp [beqs, hx3.sl.beq, hy3.sl.beq]
 repeat (first | apply qN | refine qM rfl rfl ?_ | apply qS)
 refine wp_drawK rfl ?_
 refine k_load4 rfl rfl rfl rfl b1 (lkP (n := 0) b1 (by omega) (ru_beq r)) ?_
 refine k_load4 rfl rfl rfl rfl b2 (lkP (n := 0) b2 (by omega) sb) ?_
 refine k_load4 rfl rfl rfl rfl b1 (lkP (n := 0) b1 (by omega) (ru_beq r)) ?_
 refine k_load4 rfl rfl rfl rfl b3 (lkP (n := 0) b3 (by omega) (tk_beq k)) ?_
 refine k_call rfl rfl rfl (fun b h => by cases h) (wop_callF rfl rfl rfl (fn := Tryz.f18) (by rfl) ?_)
 refine c18 hq H3 r _ rfl x y tk gp hx3 hy3 hlt hlg (by omega) _ fun H4 k4 n4 => ⟨k4.nx, k4, ?_⟩
 have x4 := k4.nx
 refine k_call rfl rfl rfl (fun b h => by cases h) (wop_callF rfl rfl rfl (fn := Tryz.f78) (by rfl) ?_)
 refine c78 hq H4 r k _ _ rfl rfl (by omega) _ fun H5 k5 n5 => ⟨k5.nx, k4.trans k5, ?_⟩
 have x5 := k5.nx
 have r5 : H5.next < 2 ^ 59 := by omega
 have k35 := k4.trans k5
 refine k_loud rfl rfl (o_build2 rfl rfl rfl rfl r5 ⟨k35.add _ r5, ?_⟩)
 refine WK.mem (fun H6 => Keeps H5 H6 ∧ H6.next = H5.next + 1 ∧ Sl H6 (.slc H5.next 0 2 2) (ivs [staE r tk gp, tukE r k])) ⟨(Keeps.refl H5).add _ r5, rfl, sl_new (cs := ivs [staE r tk gp, tukE r k]) r5 2⟩ ?_
 rintro H6 ⟨k6, n6, hs6⟩
 refine k_call rfl rfl rfl (fun b h => by cases h) (wop_callF rfl rfl rfl (fn := Tryz.f68) (by rfl) ?_)
 refine cFirst hq H6 _ _ hs6 (by show 2 ≤ 1000; decide) _ ⟨Nat.le_refl _, k35.trans k6, ?_⟩
 clear hs6
 show WK _ _ _ _ _ _ _
 rw [show firstNZ [staE r tk gp, tukE r k] = errE r tk gp k from rfl]
 have k36 := k35.trans k6
 have k06 := k03.trans k36
 have b16 := b1.keep (by omega) k36
 have b26 := b2.keep (by omega) k36
 have b36 := b3.keep (by omega) k36
 repeat (first | refine qM rfl rfl ?_ | refine k_nil ?_ | refine k_assign rfl rfl rfl ?_ | apply qR | apply qS)
 by_cases h0 : errE r tk gp k = 0
 rotate_left
 · have hke := hke h0 H6 k06 (by omega)
   clear hk
   generalize errE r tk gp k = w at h0 hke ⊢
   refine wops_cons (wop_bin (op := .neq) (v := .bool true) rfl rfl rfl rfl (by simp [binI, h0]) ?_)
   repeat (first | apply qN | refine qM rfl rfl ?_ | refine qT rfl ?_ | apply qR | apply qS)
   refine wp_ret ?_
   exact ⟨_, _, rfl, hke⟩
 have hk := hk h0
 clear hke
 rw [h0]
 obtain ⟨e1, e2⟩ := errE_0 h0
 obtain ⟨j, z, g, hT, hlg⟩ := tkd_of e1 e2
 rw [hlg] at hk
 refine wops_cons (wop_bin (op := .neq) (v := .bool false) rfl rfl rfl rfl rfl ?_)
 repeat (first | apply qN | refine zqb rfl rfl rfl ‹_› ?_ | refine qF rfl ?_ | apply qR | apply qS | apply qK)
 refine wops_cons (wop_callF rfl rfl rfl (fn := Tryz.f79) (by rfl) ?_)
 refine c79 hq H6 r k _ _ x y tk gp j z g rfl rfl hT (hx.keep k06) (hy.keep k06) (by omega) _ fun H7 k7 n7 => ⟨k7.nx, ?_⟩
 repeat (first | apply qN | refine qM rfl rfl ?_)
 refine wp_ret ?_
 exact ⟨_, _, rfl, hk H7 (k06.trans k7) (by omega)⟩
end Go.Ev
