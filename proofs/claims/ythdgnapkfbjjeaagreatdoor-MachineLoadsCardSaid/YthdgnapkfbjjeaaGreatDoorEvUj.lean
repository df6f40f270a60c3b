/- Part of an evaluator of calls that is proved sound, and of what it gives about this program. No condition of its own. -/
import Derived.Test.YthdgnapkfbjjeaaGreatDoorEvUi
set_option linter.unusedVariables false
set_option linter.unusedSimpArgs false
set_option linter.unusedSectionVars false
set_option maxRecDepth 1000000
set_option maxHeartbeats 16000000
namespace Go.Ev
open Go.Proofs
theorem firstNZ_bad {e f : Int} (h : e ≠ 0) : firstNZ [e, f] = e := by simp [firstNZ, h]
theorem firstNZ_ok (b : Bool) : firstNZ [0, if (!b) = true then 3 else 0] = if b = true then 0 else 3 := by cases b <;> rfl
theorem mt_same {m : Mc} {l : List Int} {n k k' p p' : Nat} (h : mtF m (nowL (permL m n) l k) p) (hno : ∀ j, j < k → mtN m (nowL (permL m n) l j)) (h' : mtF m (nowL (permL m n) l k') p') (hno' : ∀ j, j < k' → mtN m (nowL (permL m n) l j)) : k = k' ∧ p = p' := by
 have hk : k = k' := by
   rcases Nat.lt_trichotomy k k' with hl | he | hl
   · exact (mtF_not h (hno' k hl)).elim
   · exact he
   · exact (mtF_not h' (hno k' hl)).elim
 subst hk
 exact ⟨rfl, mtF_inj h h'⟩
variable {O : CallF} (hq : Quiet O)
include hq
theorem c4l (H : AH) (hA : ∀ H', H'.gl = H.gl → O 14 [] H' = some (.v (.bool true), H')) (a0 x : AV) (yv : Value) (m : Mc) (l : List Int) (nn : Int) (ha : a0.cells = mc m x) (hx : Sl H x (ivs m.sw)) (ho : Old H x) (hLx : ∀ b, x.own = some b → Lk H b)
   (hy : Sl H (.v yv) (ivs l)) (hcap : CapOk (.v yv)) (hr : H.next + 17179869184 < 2 ^ 39) (K : AV → AH → Prop) (hk : ∀ H', K (.v (.bool true)) H') : Ca (ENV O) 4 [a0, .v yv, iv nn] H K := by
 refine ca_intro (hq _ _ _ rfl) (fn := Tryz.f4) (by rfl) rfl ?_
 have hoy : Old H (.v yv) := Old.v _
 have hky : Ky H (.v yv) l := ⟨hy, hoy, hcap, fun b hb => by cases hb⟩
 repeat (first | apply qN | refine zq1 rfl rfl ?_ | refine qM rfl rfl ?_ | refine zq5 rfl rfl rfl rfl rfl ‹_› ?_ | refine zq6 rfl rfl ‹_› ?_ | refine zqb rfl rfl rfl ‹_› ?_ | refine zq7 rfl rfl rfl ?_ | refine zq8 rfl rfl rfl ?_ | refine zq9 rfl rfl rfl rfl ?_ | refine qT rfl ?_ | refine qF rfl ?_ | apply qR | apply qS | apply qK)
 refine wops_cons (o_boxM rfl rfl ha (by omega) fun H1 n1 k1 b1 => ?_)
 repeat (first | apply qN | refine zq1 rfl rfl ?_ | refine qM rfl rfl ?_ | refine zq5 rfl rfl rfl rfl rfl ‹_› ?_ | refine zq6 rfl rfl ‹_› ?_ | refine zqb rfl rfl rfl ‹_› ?_ | refine zq7 rfl rfl rfl ?_ | refine zq8 rfl rfl rfl ?_ | refine zq9 rfl rfl rfl rfl ?_ | refine qT rfl ?_ | refine qF rfl ?_ | apply qR | apply qS | apply qK)
 refine wops_cons (o_alloc4 rfl rfl (by omega) fun H3 n3 k3 b3 => ?_)
 refine wops_cons (o_store4 (H0 := H1) rfl rfl rfl rfl hx.one b3 (Nat.le_refl _) k3 fun H4 n4 k4 b4 g4 => ?_)
 have k04 := k1.trans k4
 have b24 := b1.keep (by omega) k4
 have hbm : H.next < H1.next := by omega
 have hbm4 : H1.next < H4.next := by omega
 have n4' : H4.next ≤ H.next + 10 := by omega
 generalize H1.next = bm at b4 hbm hbm4 ⊢
 clear b1 b3 g4 k1 k3 k4 n1 n3 n4
 repeat (first | apply qN | refine zq1 rfl rfl ?_ | refine qM rfl rfl ?_ | refine zq5 rfl rfl rfl rfl rfl ‹_› ?_ | refine zq6 rfl rfl ‹_› ?_ | refine zqb rfl rfl rfl ‹_› ?_ | refine zq7 rfl rfl rfl ?_ | refine zq8 rfl rfl rfl ?_ | refine zq9 rfl rfl rfl rfl ?_ | refine qT rfl ?_ | refine qF rfl ?_ | apply qR | apply qS | apply qK)
 refine wops_cons (wop_callF rfl rfl rfl (fn := Tryz.f14) (by rfl) ?_)
 refine ca_oracle (hA _ k04.gl) ⟨Nat.le_refl _, ?_⟩
 repeat (first | apply qN | refine zq1 rfl rfl ?_ | refine qM rfl rfl ?_ | refine zq5 rfl rfl rfl rfl rfl ‹_› ?_ | refine zq6 rfl rfl ‹_› ?_ | refine zqb rfl rfl rfl ‹_› ?_ | refine zq7 rfl rfl rfl ?_ | refine zq8 rfl rfl rfl ?_ | refine zq9 rfl rfl rfl rfl ?_ | refine qT rfl ?_ | refine qF rfl ?_ | apply qR | apply qS | apply qK)
 refine wops_cons (wop_callF rfl rfl rfl (fn := Tryz.f15) (by rfl) ?_)
 refine c15 hq H4 _ x _ m l rfl (hx.keep ho k04) (ho.keep k04) (hky.keep k04).sl (Old.v _) (by omega) _ fun H5 k5 n5 => ⟨k5.nx, ?_⟩
 have k05 := k04.trans k5
 have b25 := b24.keep (by omega) k5
 have b45 := b4.keep (by omega) k5
 by_cases hs : m.sw.length ≤ 19 ∧ l.length ≤ 67
 rotate_left
 · rw [decide_eq_false hs]
   repeat (first | apply qN | refine zq1 rfl rfl ?_ | refine qM rfl rfl ?_ | refine zq5 rfl rfl rfl rfl rfl ‹_› ?_ | refine zq6 rfl rfl ‹_› ?_ | refine zqb rfl rfl rfl ‹_› ?_ | refine zq7 rfl rfl rfl ?_ | refine zq8 rfl rfl rfl ?_ | refine zq9 rfl rfl rfl rfl ?_ | refine qT rfl ?_ | refine qF rfl ?_ | apply qR | apply qS | apply qK)
   refine wops_cons (wop_callF rfl rfl rfl (fn := Tryz.f14) (by rfl) ?_)
   refine ca_oracle (hA _ k05.gl) ⟨Nat.le_refl _, ?_⟩
   repeat (first | apply qN | refine zq1 rfl rfl ?_ | refine qM rfl rfl ?_ | refine zq5 rfl rfl rfl rfl rfl ‹_› ?_ | refine zq6 rfl rfl ‹_› ?_ | refine zqb rfl rfl rfl ‹_› ?_ | refine zq7 rfl rfl rfl ?_ | refine zq8 rfl rfl rfl ?_ | refine zq9 rfl rfl rfl rfl ?_ | refine qT rfl ?_ | refine qF rfl ?_ | apply qR | apply qS | apply qK)
   refine wp_ret ?_
   exact ⟨_, _, rfl, hk _⟩
 rw [decide_eq_true hs]
 repeat (first | apply qN | refine zq1 rfl rfl ?_ | refine qM rfl rfl ?_ | refine zq5 rfl rfl rfl rfl rfl ‹_› ?_ | refine zq6 rfl rfl ‹_› ?_ | refine zqb rfl rfl rfl ‹_› ?_ | refine zq7 rfl rfl rfl ?_ | refine zq8 rfl rfl rfl ?_ | refine zq9 rfl rfl rfl rfl ?_ | refine qT rfl ?_ | refine qF rfl ?_ | apply qR | apply qS | apply qK)
 refine wops_cons (wop_callF rfl rfl rfl (fn := Tryz.f26) (by rfl) ?_)
 refine c26 hq H5 _ x _ m l rfl (hx.keep ho k05) (ho.keep k05) (fun b hb => (hLx b hb).keep k05) (hky.keep k05).sl (Old.v _) (fun b hb => by cases hb) (by omega) (by omega) (by omega) _ fun H6 k6 n6 => ⟨k6.nx, ?_⟩
 have k06 := k05.trans k6
 have h45 := k5.nx
 have b26 := b25.keep (by omega) k6
 have b46 := b45.keep (by omega) k6
 repeat (first | apply qN | refine zq1 rfl rfl ?_ | refine qM rfl rfl ?_ | refine zq5 rfl rfl rfl rfl rfl ‹_› ?_ | refine zq6 rfl rfl ‹_› ?_ | refine zqb rfl rfl rfl ‹_› ?_ | refine zq7 rfl rfl rfl ?_ | refine zq8 rfl rfl rfl ?_ | refine zq9 rfl rfl rfl rfl ?_ | refine qT rfl ?_ | refine qF rfl ?_ | apply qR | apply qS | apply qK)
 refine wops_cons (wop_callF rfl rfl rfl (fn := Tryz.f27) (by rfl) ?_)
 refine c27 hq H6 _ x _ m l rfl (hx.keep ho k06) (ho.keep k06) (hky.keep k06).sl (Old.v _) hcap (by omega) (by omega) (by omega) _ fun H7 k7 n7 => ⟨k7.nx, ?_⟩
 have k07 := k06.trans k7
 have h56 := k6.nx
 have b27 := b26.keep (by omega) k7
 have b47 := b46.keep (by omega) k7
 have h67 := k7.nx
 have n7' : H7.next ≤ H.next + 1000 := by omega
 have hbm7 : bm < H7.next := by omega
 clear b24 b4 b25 b45 b26 b46 k04 k05 k06 k5 k6 k7 n5 n6 n7 h45 h56 h67 n4' hbm4
 repeat (first | apply qN | refine zq1 rfl rfl ?_ | refine qM rfl rfl ?_ | refine zq5 rfl rfl rfl rfl rfl ‹_› ?_ | refine zq6 rfl rfl ‹_› ?_ | refine zqb rfl rfl rfl ‹_› ?_ | refine zq7 rfl rfl rfl ?_ | refine zq8 rfl rfl rfl ?_ | refine zq9 rfl rfl rfl rfl ?_ | refine qT rfl ?_ | refine qF rfl ?_ | apply qR | apply qS | apply qK)
 refine wops_cons (wop_bin (op := .neq) (v := .bool false) rfl rfl rfl rfl (by simp [binI]) ?_)
 repeat (first | apply qN | refine zq1 rfl rfl ?_ | refine qM rfl rfl ?_ | refine zq5 rfl rfl rfl rfl rfl ‹_› ?_ | refine zq6 rfl rfl ‹_› ?_ | refine zqb rfl rfl rfl ‹_› ?_ | refine zq7 rfl rfl rfl ?_ | refine zq8 rfl rfl rfl ?_ | refine zq9 rfl rfl rfl rfl ?_ | refine qT rfl ?_ | refine qF rfl ?_ | apply qR | apply qS | apply qK)
 refine wops_cons (wop_callF rfl rfl rfl (fn := Tryz.f28) (by rfl) ?_)
 by_cases hbad : cE m l = 0
 rotate_left
 · refine c28e hq H7 _ x _ m l nn rfl (hx.keep ho k07) (ho.keep k07) (hky.keep k07) (by omega) (by omega) (by rw [firstNZ_bad hbad]; exact hbad) (by omega) _ fun H8 k8 n8 => ⟨k8.nx, ?_⟩
   rw [firstNZ_bad hbad]
   have k08 := k07.trans k8
   have h78 := k8.nx
   have b28 := b27.keep (by omega) k8
   repeat (first | apply qN | refine zq1 rfl rfl ?_ | refine qM rfl rfl ?_ | refine zq5 rfl rfl rfl rfl rfl ‹_› ?_ | refine zq6 rfl rfl ‹_› ?_ | refine zqb rfl rfl rfl ‹_› ?_ | refine zq7 rfl rfl rfl ?_ | refine zq8 rfl rfl rfl ?_ | refine zq9 rfl rfl rfl rfl ?_ | refine qT rfl ?_ | refine qF rfl ?_ | apply qR | apply qS | apply qK)
   refine wops_cons (wop_callF rfl rfl rfl (fn := Tryz.f31) (by rfl) ?_)
   refine c31 hq H8 nn 0 999999999 _ ⟨Nat.le_refl _, ?_⟩
   repeat (first | apply qN | refine zq1 rfl rfl ?_ | refine qM rfl rfl ?_ | refine zq5 rfl rfl rfl rfl rfl ‹_› ?_ | refine zq6 rfl rfl ‹_› ?_ | refine zqb rfl rfl rfl ‹_› ?_ | refine zq7 rfl rfl rfl ?_ | refine zq8 rfl rfl rfl ?_ | refine zq9 rfl rfl rfl rfl ?_ | refine qT rfl ?_ | refine qF rfl ?_ | apply qR | apply qS | apply qK)
   refine wops_cons (wop_callF rfl rfl rfl (fn := Tryz.f30) (by rfl) ?_)
   refine cWhen hq H8 _ 3 _ ⟨Nat.le_refl _, ?_⟩
   have r8 : H8.next < 2 ^ 39 := by omega
   refine wops_cons (o_build2 rfl rfl rfl rfl r8 ?_)
   generalize (if (!inB nn 0 999999999) = true then (3 : Int) else 0) = w
   refine WOps.mem (fun H9 => Keeps H H9 ∧ H9.next = H8.next + 1 ∧ Bx H9 H.next 24 m x ∧ Sl H9 (.slc H8.next 0 2 2) (ivs [cE m l, w])) ⟨k08.add _ r8, rfl, b28.keep (by omega) ((Keeps.refl H8).add _ r8), sl_cells r8 (get_add_eq r8) rfl fun j v h => h⟩ ?_
   rintro H9 ⟨k9, n9, b29, hs9⟩
   refine wops_cons (wop_callF rfl rfl rfl (fn := Tryz.f29) (by rfl) ?_)
   refine cFirst hq H9 _ _ hs9 (by show 2 ≤ 1000; decide) _ ⟨Nat.le_refl _, ?_⟩
   clear hs9
   rw [firstNZ_bad hbad]
   repeat (first | apply qN | refine zq1 rfl rfl ?_ | refine qM rfl rfl ?_ | refine zq5 rfl rfl rfl rfl rfl ‹_› ?_ | refine zq6 rfl rfl ‹_› ?_ | refine zqb rfl rfl rfl ‹_› ?_ | refine zq7 rfl rfl rfl ?_ | refine zq8 rfl rfl rfl ?_ | refine zq9 rfl rfl rfl rfl ?_ | refine qT rfl ?_ | refine qF rfl ?_ | apply qR | apply qS | apply qK)
   refine wops_cons (wop_bin (op := .neq) (v := .bool true) rfl rfl rfl rfl (by simp [binI, hbad]) ?_)
   repeat (first | apply qN | refine zq1 rfl rfl ?_ | refine qM rfl rfl ?_ | refine zq5 rfl rfl rfl rfl rfl ‹_› ?_ | refine zq6 rfl rfl ‹_› ?_ | refine zqb rfl rfl rfl ‹_› ?_ | refine zq7 rfl rfl rfl ?_ | refine zq8 rfl rfl rfl ?_ | refine zq9 rfl rfl rfl rfl ?_ | refine qT rfl ?_ | refine qF rfl ?_ | apply qR | apply qS | apply qK)
   refine wops_cons (wop_callF rfl rfl rfl (fn := Tryz.f32) (by rfl) ?_)
   refine cList hq H9 (.v (.slice none 0 0)) (.v (.slice none 0 0)) [] [] (cE m l) (cE m l) ⟨rfl, .inl rfl⟩ ⟨rfl, .inl rfl⟩ (by decide) (by decide) _ ⟨Nat.le_refl _, ?_⟩
   rw [if_pos hbad, show (decide (([] : List Int) = []) && decide (cE m l = cE m l)) = true by simp]
   repeat (first | apply qN | refine zq1 rfl rfl ?_ | refine qM rfl rfl ?_ | refine zq5 rfl rfl rfl rfl rfl ‹_› ?_ | refine zq6 rfl rfl ‹_› ?_ | refine zqb rfl rfl rfl ‹_› ?_ | refine zq7 rfl rfl rfl ?_ | refine zq8 rfl rfl rfl ?_ | refine zq9 rfl rfl rfl rfl ?_ | refine qT rfl ?_ | refine qF rfl ?_ | apply qR | apply qS | apply qK)
   refine wops_cons (wop_bin (op := .eql) (v := .bool false) rfl rfl rfl rfl (by simp [binI, hbad]) ?_)
   repeat (first | apply qN | refine zq1 rfl rfl ?_ | refine qM rfl rfl ?_ | refine zq5 rfl rfl rfl rfl rfl ‹_› ?_ | refine zq6 rfl rfl ‹_› ?_ | refine zqb rfl rfl rfl ‹_› ?_ | refine zq7 rfl rfl rfl ?_ | refine zq8 rfl rfl rfl ?_ | refine zq9 rfl rfl rfl rfl ?_ | refine qT rfl ?_ | refine qF rfl ?_ | apply qR | apply qS | apply qK)
   refine wops_cons (wop_bin (op := .eql) (v := .bool false) rfl rfl rfl rfl (by simp [binI, hbad]) ?_)
   repeat (first | apply qN | refine zq1 rfl rfl ?_ | refine qM rfl rfl ?_ | refine zq5 rfl rfl rfl rfl rfl ‹_› ?_ | refine zq6 rfl rfl ‹_› ?_ | refine zqb rfl rfl rfl ‹_› ?_ | refine zq7 rfl rfl rfl ?_ | refine zq8 rfl rfl rfl ?_ | refine zq9 rfl rfl rfl rfl ?_ | refine qT rfl ?_ | refine qF rfl ?_ | apply qR | apply qS | apply qK)
   refine wops_cons (wop_callF rfl rfl rfl (fn := Tryz.f34) (by rfl) ?_)
   refine c34e hq H9 _ x _ m l rfl (hx.keep ho k9) (ho.keep k9) (hky.keep k9) (by omega) (by omega) hbad (by omega) _ fun H10 k10 n10 => ⟨k10.nx, ?_⟩
   have k010 := k9.trans k10
   have b210 := b29.keep (by omega) k10
   repeat (first | apply qN | refine zq1 rfl rfl ?_ | refine qM rfl rfl ?_ | refine zq5 rfl rfl rfl rfl rfl ‹_› ?_ | refine zq6 rfl rfl ‹_› ?_ | refine zqb rfl rfl rfl ‹_› ?_ | refine zq7 rfl rfl rfl ?_ | refine zq8 rfl rfl rfl ?_ | refine zq9 rfl rfl rfl rfl ?_ | refine qT rfl ?_ | refine qF rfl ?_ | apply qR | apply qS | apply qK)
   refine wops_cons (wop_callF rfl rfl rfl (fn := Tryz.f35) (by rfl) ?_)
   refine c35e hq H10 _ x _ m l rfl (hx.keep ho k010) (ho.keep k010) (hky.keep k010) (by omega) (by omega) hbad (by omega) _ fun H11 k11 n11 => ⟨k11.nx, ?_⟩
   repeat (first | apply qN | refine zq1 rfl rfl ?_ | refine qM rfl rfl ?_ | refine zq5 rfl rfl rfl rfl rfl ‹_› ?_ | refine zq6 rfl rfl ‹_› ?_ | refine zqb rfl rfl rfl ‹_› ?_ | refine zq7 rfl rfl rfl ?_ | refine zq8 rfl rfl rfl ?_ | refine zq9 rfl rfl rfl rfl ?_ | refine qT rfl ?_ | refine qF rfl ?_ | apply qR | apply qS | apply qK)
   refine wops_cons (wop_bin (op := .neq) (v := .bool true) rfl rfl rfl rfl (by simp [binI, hbad]) ?_)
   repeat (first | apply qN | refine zq1 rfl rfl ?_ | refine qM rfl rfl ?_ | refine zq5 rfl rfl rfl rfl rfl ‹_› ?_ | refine zq6 rfl rfl ‹_› ?_ | refine zqb rfl rfl rfl ‹_› ?_ | refine zq7 rfl rfl rfl ?_ | refine zq8 rfl rfl rfl ?_ | refine zq9 rfl rfl rfl rfl ?_ | refine qT rfl ?_ | refine qF rfl ?_ | apply qR | apply qS | apply qK)
   refine wops_cons (wop_bin (op := .eql) (v := .bool true) rfl rfl rfl rfl rfl ?_)
   repeat (first | apply qN | refine zq1 rfl rfl ?_ | refine qM rfl rfl ?_ | refine zq5 rfl rfl rfl rfl rfl ‹_› ?_ | refine zq6 rfl rfl ‹_› ?_ | refine zqb rfl rfl rfl ‹_› ?_ | refine zq7 rfl rfl rfl ?_ | refine zq8 rfl rfl rfl ?_ | refine zq9 rfl rfl rfl rfl ?_ | refine qT rfl ?_ | refine qF rfl ?_ | apply qR | apply qS | apply qK)
   refine wops_cons (wop_bin (op := .eql) (v := .bool true) rfl rfl rfl rfl rfl ?_)
   repeat (first | apply qN | refine zq1 rfl rfl ?_ | refine qM rfl rfl ?_ | refine zq5 rfl rfl rfl rfl rfl ‹_› ?_ | refine zq6 rfl rfl ‹_› ?_ | refine zqb rfl rfl rfl ‹_› ?_ | refine zq7 rfl rfl rfl ?_ | refine zq8 rfl rfl rfl ?_ | refine zq9 rfl rfl rfl rfl ?_ | refine qT rfl ?_ | refine qF rfl ?_ | apply qR | apply qS | apply qK)
   refine wops_cons (wop_bin (op := .eql) (v := .bool true) rfl rfl rfl rfl (by simp [binI]) ?_)
   repeat (first | apply qN | refine zq1 rfl rfl ?_ | refine qM rfl rfl ?_ | refine zq5 rfl rfl rfl rfl rfl ‹_› ?_ | refine zq6 rfl rfl ‹_› ?_ | refine zqb rfl rfl rfl ‹_› ?_ | refine zq7 rfl rfl rfl ?_ | refine zq8 rfl rfl rfl ?_ | refine zq9 rfl rfl rfl rfl ?_ | refine qT rfl ?_ | refine qF rfl ?_ | apply qR | apply qS | apply qK)
   refine wops_cons (wop_bin (op := .eql) (v := .bool true) rfl rfl rfl rfl (by simp [binI]) ?_)
   repeat (first | apply qN | refine zq1 rfl rfl ?_ | refine qM rfl rfl ?_ | refine zq5 rfl rfl rfl rfl rfl ‹_› ?_ | refine zq6 rfl rfl ‹_› ?_ | refine zqb rfl rfl rfl ‹_› ?_ | refine zq7 rfl rfl rfl ?_ | refine zq8 rfl rfl rfl ?_ | refine zq9 rfl rfl rfl rfl ?_ | refine qT rfl ?_ | refine qF rfl ?_ | apply qR | apply qS | apply qK)
   refine wp_ret ?_
   exact ⟨_, _, rfl, hk _⟩
 obtain ⟨n, hV⟩ := vld_of (by omega) hbad
 rw [hbad]
 have hn16 := hV.hn
 have hle := hV.hle
 refine c28u hq H7 _ x _ m l n nn rfl (hx.keep ho k07) (ho.keep k07) (hky.keep k07) hV (by omega) _ fun H8 r k8 n8 hr8 => ⟨k8.nx, ?_⟩
 have k08 := k07.trans k8
 have h78 := k8.nx
 have b28 := b27.keep (by omega) k8
 have b48 := b47.keep (by omega) k8
 repeat (first | apply qN | refine zq1 rfl rfl ?_ | refine qM rfl rfl ?_ | refine zq5 rfl rfl rfl rfl rfl ‹_› ?_ | refine zq6 rfl rfl ‹_› ?_ | refine zqb rfl rfl rfl ‹_› ?_ | refine zq7 rfl rfl rfl ?_ | refine zq8 rfl rfl rfl ?_ | refine zq9 rfl rfl rfl rfl ?_ | refine qT rfl ?_ | refine qF rfl ?_ | apply qR | apply qS | apply qK)
 refine wops_cons (wop_callF rfl rfl rfl (fn := Tryz.f31) (by rfl) ?_)
 refine c31 hq H8 nn 0 999999999 _ ⟨Nat.le_refl _, ?_⟩
 repeat (first | apply qN | refine zq1 rfl rfl ?_ | refine qM rfl rfl ?_ | refine zq5 rfl rfl rfl rfl rfl ‹_› ?_ | refine zq6 rfl rfl ‹_› ?_ | refine zqb rfl rfl rfl ‹_› ?_ | refine zq7 rfl rfl rfl ?_ | refine zq8 rfl rfl rfl ?_ | refine zq9 rfl rfl rfl rfl ?_ | refine qT rfl ?_ | refine qF rfl ?_ | apply qR | apply qS | apply qK)
 refine wops_cons (wop_callF rfl rfl rfl (fn := Tryz.f30) (by rfl) ?_)
 refine cWhen hq H8 _ 3 _ ⟨Nat.le_refl _, ?_⟩
 have r8 : H8.next < 2 ^ 39 := by omega
 refine wops_cons (o_build2 rfl rfl rfl rfl r8 ?_)
 refine WOps.mem (fun H9 => Keeps H8 H9 ∧ H9.next = H8.next + 1 ∧ Sl H9 (.slc H8.next 0 2 2) (ivs [0, if (!inB nn 0 999999999) = true then 3 else 0])) ⟨(Keeps.refl H8).add _ r8, rfl, sl_cells r8 (get_add_eq r8) rfl fun j v h => h⟩ ?_
 rintro H9 ⟨hk9, n9, hs9⟩
 have k9 := k08.trans hk9
 have b29 := b28.keep (by omega) hk9
 have b49 := b48.keep (by omega) hk9
 have hr9 := hr8.keep hk9
 refine wops_cons (wop_callF rfl rfl rfl (fn := Tryz.f29) (by rfl) ?_)
 refine cFirst hq H9 _ _ hs9 (by show 2 ≤ 1000; decide) _ ⟨Nat.le_refl _, ?_⟩
 clear hs9 hr8
 rw [firstNZ_ok]
 have hE : (∃ kn : Nat, nn = (kn : Int) ∧ kn ≤ 999999999 ∧ (if inB nn 0 999999999 = true then (0 : Int) else 3) = 0 ∧ (if inB nn 0 999999999 = true then nowL (permL m n) l nn.toNat else []) = nowL (permL m n) l kn) ∨ ((if inB nn 0 999999999 = true then (0 : Int) else 3) = 3 ∧ (if inB nn 0 999999999 = true then nowL (permL m n) l nn.toNat else []) = []) := by
   cases hb : inB nn 0 999999999 with
   | true =>
     have hb2 : 0 ≤ nn ∧ nn ≤ 999999999 := by simpa [inB] using hb
     exact .inl ⟨nn.toNat, by omega, by omega, rfl, rfl⟩
   | false => exact .inr ⟨rfl, rfl⟩
 generalize (if inB nn 0 999999999 = true then (0 : Int) else 3) = E1 at hE ⊢
 generalize (if inB nn 0 999999999 = true then nowL (permL m n) l nn.toNat else []) = L1 at hE hr9
 have n9' : H9.next ≤ H.next + 300000 := by omega
 have hbm9 : bm < H9.next := by omega
 clear b28 b48 b27 b47 k08 k8 hk9 n8 h78 n7' n9 hbm7 r8
 repeat (first | apply qN | refine zq1 rfl rfl ?_ | refine qM rfl rfl ?_ | refine zq5 rfl rfl rfl rfl rfl ‹_› ?_ | refine zq6 rfl rfl ‹_› ?_ | refine zqb rfl rfl rfl ‹_› ?_ | refine zq7 rfl rfl rfl ?_ | refine zq8 rfl rfl rfl ?_ | refine zq9 rfl rfl rfl rfl ?_ | refine qT rfl ?_ | refine qF rfl ?_ | apply qR | apply qS | apply qK)
 refine WOps.cut (fun T => ∃ Y : List AV, T = (lget Y 0 :: .v yv :: iv nn :: .ptr H.next 0 :: lget Y 1 :: lget Y 2 :: lget Y 3 :: .ptr bm 0 :: iv 0 :: r :: iv E1 :: iv E1 :: lget Y 4 :: lget Y 5 :: lget Y 6 :: lget Y 7 :: lget Y 8 :: lget Y 9 :: lget Y 10 :: lget Y 11 :: lget Y 12 :: lget Y 13 :: lget Y 14 :: lget Y 15 :: lget Y 16 :: lget Y 17 :: lget Y 18 :: lget Y 19 :: lget Y 20 :: lget Y 21 :: lget Y 22 :: lget Y 23 :: lget Y 24 :: lget Y 25 :: lget Y 26 :: lget Y 27 :: lget Y 28 :: lget Y 29 :: lget Y 30 :: lget Y 31 :: lget Y 32 :: lget Y 33 :: lget Y 34 :: lget Y 35 :: lget Y 36 :: lget Y 37 :: lget Y 38 :: lget Y 39 :: lget Y 40 :: iv E1 :: lget Y 41 :: lget Y 42 :: lget Y 43 :: lget Y 44 :: lget Y 45 :: lget Y 46 :: lget Y 47 :: lget Y 48 :: lget Y 49 :: lget Y 50 :: lget Y 51 :: lget Y 52 :: lget Y 53 :: lget Y 54 :: lget Y 55 :: lget Y 56 :: lget Y 57 :: lget Y 58 :: lget Y 59 :: lget Y 60 :: lget Y 61 :: lget Y 62 :: lget Y 63 :: lget Y 64 :: lget Y 65 :: lget Y 66 :: lget Y 67 :: lget Y 68 :: lget Y 69 :: lget Y 70 :: lget Y 71 :: lget Y 72 :: lget Y 73 :: lget Y 74 :: lget Y 75 :: lget Y 76 :: lget Y 77 :: lget Y 78 :: lget Y 79 :: lget Y 80 :: lget Y 81 :: lget Y 82 :: lget Y 83 :: lget Y 84 :: lget Y 85 :: lget Y 86 :: lget Y 87 :: lget Y 88 :: lget Y 89 :: lget Y 90 :: lget Y 91 :: lget Y 92 :: lget Y 93 :: lget Y 94 :: lget Y 95 :: lget Y 96 :: lget Y 97 :: lget Y 98 :: lget Y 99 :: lget Y 100 :: lget Y 101 :: lget Y 102 :: lget Y 103 :: lget Y 104 :: lget Y 105 :: lget Y 106 :: lget Y 107 :: lget Y 108 :: lget Y 109 :: lget Y 110 :: lget Y 111 :: lget Y 112 :: lget Y 113 :: lget Y 114 :: lget Y 115 :: lget Y 116 :: lget Y 117 :: lget Y 118 :: lget Y 119 :: lget Y 120 :: lget Y 121 :: lget Y 122 :: lget Y 123 :: lget Y 124 :: lget Y 125 :: lget Y 126 :: lget Y 127 :: lget Y 128 :: lget Y 129 :: lget Y 130 :: lget Y 131 :: lget Y 132 :: lget Y 133 :: lget Y 134 :: lget Y 135 :: [])) ⟨[_,_,_,_,_,_,_,_,_,_,_,_,_,_,_,_,_,_,_,_,_,_,_,_,_,_,_,_,_,_,_,_,_,_,_,_,_,_,_,_,_,_,_,_,_,_,_,_,_,_,_,_,_,_,_,_,_,_,_,_,_,_,_,_,_,_,_,_,_,_,_,_,_,_,_,_,_,_,_,_,_,_,_,_,_,_,_,_,_,_,_,_,_,_,_,_,_,_,_,_,_,_,_,_,_,_,_,_,_,_,_,_,_,_,_,_,_,_,_,_,_,_,_,_,_,_,_,_,_,_,_,_,_,_,_,_], rfl⟩ ?_
 rintro T ⟨Y, rfl⟩
 refine WOps.mono (K := fun T' H' => Keeps H9 H' ∧ H'.next ≤ H9.next + 500000 ∧ ∃ (Y : List AV), T' = (lget Y 0 :: .v yv :: iv nn :: .ptr H.next 0 :: lget Y 1 :: lget Y 2 :: lget Y 3 :: .ptr bm 0 :: iv 0 :: lget Y 4 :: lget Y 5 :: lget Y 6 :: lget Y 7 :: lget Y 8 :: lget Y 9 :: lget Y 10 :: lget Y 11 :: lget Y 12 :: lget Y 13 :: lget Y 14 :: lget Y 15 :: lget Y 16 :: lget Y 17 :: lget Y 18 :: lget Y 19 :: lget Y 20 :: lget Y 21 :: lget Y 22 :: lget Y 23 :: lget Y 24 :: lget Y 25 :: lget Y 26 :: lget Y 27 :: lget Y 28 :: lget Y 29 :: lget Y 30 :: lget Y 31 :: lget Y 32 :: lget Y 33 :: lget Y 34 :: lget Y 35 :: lget Y 36 :: lget Y 37 :: lget Y 38 :: lget Y 39 :: lget Y 40 :: lget Y 41 :: lget Y 42 :: lget Y 43 :: lget Y 44 :: lget Y 45 :: lget Y 46 :: lget Y 47 :: lget Y 48 :: lget Y 49 :: lget Y 50 :: lget Y 51 :: lget Y 52 :: lget Y 53 :: lget Y 54 :: lget Y 55 :: lget Y 56 :: lget Y 57 :: lget Y 58 :: lget Y 59 :: lget Y 60 :: lget Y 61 :: lget Y 62 :: lget Y 63 :: lget Y 64 :: lget Y 65 :: .v (.bool false) :: lget Y 66 :: lget Y 67 :: lget Y 68 :: lget Y 69 :: lget Y 70 :: lget Y 71 :: lget Y 72 :: lget Y 73 :: lget Y 74 :: lget Y 75 :: lget Y 76 :: lget Y 77 :: lget Y 78 :: lget Y 79 :: lget Y 80 :: lget Y 81 :: lget Y 82 :: lget Y 83 :: lget Y 84 :: lget Y 85 :: lget Y 86 :: lget Y 87 :: lget Y 88 :: lget Y 89 :: lget Y 90 :: lget Y 91 :: lget Y 92 :: lget Y 93 :: lget Y 94 :: lget Y 95 :: lget Y 96 :: lget Y 97 :: lget Y 98 :: lget Y 99 :: lget Y 100 :: lget Y 101 :: lget Y 102 :: lget Y 103 :: lget Y 104 :: lget Y 105 :: lget Y 106 :: lget Y 107 :: lget Y 108 :: lget Y 109 :: lget Y 110 :: lget Y 111 :: lget Y 112 :: lget Y 113 :: lget Y 114 :: lget Y 115 :: lget Y 116 :: lget Y 117 :: lget Y 118 :: lget Y 119 :: lget Y 120 :: lget Y 121 :: lget Y 122 :: lget Y 123 :: lget Y 124 :: lget Y 125 :: lget Y 126 :: lget Y 127 :: lget Y 128 :: lget Y 129 :: lget Y 130 :: lget Y 131 :: lget Y 132 :: lget Y 133 :: lget Y 134 :: lget Y 135 :: lget Y 136 :: lget Y 137 :: lget Y 138 :: [])) ?_ ?_
 · rcases hE with ⟨kn, rfl, hkn, rfl, rfl⟩ | ⟨rfl, rfl⟩
   · have hnl := now_length (permL m n) l kn
     refine wops_cons (wop_bin (op := .neq) (v := .bool false) rfl rfl rfl rfl rfl ?_)
     repeat (first | apply qN | refine zq1 rfl rfl ?_ | refine qM rfl rfl ?_ | refine zq5 rfl rfl rfl rfl rfl ‹_› ?_ | refine zq6 rfl rfl ‹_› ?_ | refine zqb rfl rfl rfl ‹_› ?_ | refine zq7 rfl rfl rfl ?_ | refine zq8 rfl rfl rfl ?_ | refine zq9 rfl rfl rfl rfl ?_ | refine qT rfl ?_ | refine qF rfl ?_ | apply qR | apply qS | apply qK)
     refine wops_cons (wop_bin (op := .eql) (v := .bool true) rfl rfl rfl rfl rfl ?_)
     repeat (first | apply qN | refine zq1 rfl rfl ?_ | refine qM rfl rfl ?_ | refine zq5 rfl rfl rfl rfl rfl ‹_› ?_ | refine zq6 rfl rfl ‹_› ?_ | refine zqb rfl rfl rfl ‹_› ?_ | refine zq7 rfl rfl rfl ?_ | refine zq8 rfl rfl rfl ?_ | refine zq9 rfl rfl rfl rfl ?_ | refine qT rfl ?_ | refine qF rfl ?_ | apply qR | apply qS | apply qK)
     refine wops_cons (wop_callF rfl rfl rfl (fn := Tryz.f33) (by rfl) ?_)
     refine cRefSteps hq H9 _ x _ m l n kn rfl (hx.keep ho k9) (ho.keep k9) (by omega) hV.hg hV.hn1 hn16 (hky.keep k9) hV.hl (by omega) (by omega) _ fun H10 c k10 n10 hc => ⟨k10.nx, ?_⟩
     refine wops_cons (wop_callF rfl rfl rfl (fn := Tryz.f32) (by rfl) ?_)
     refine cList hq H10 r c _ _ 0 0 (hr9.keep k10).sl hc.sl (by omega) (by omega) _ ⟨Nat.le_refl _, ?_⟩
     rw [if_neg (by decide), show (decide ((0 : Int) = 0) && decide (nowL (permL m n) l kn = nowL (permL m n) l kn)) = true by simp]
     repeat (first | apply qN | refine zq1 rfl rfl ?_ | refine qM rfl rfl ?_ | refine zq5 rfl rfl rfl rfl rfl ‹_› ?_ | refine zq6 rfl rfl ‹_› ?_ | refine zqb rfl rfl rfl ‹_› ?_ | refine zq7 rfl rfl rfl ?_ | refine zq8 rfl rfl rfl ?_ | refine zq9 rfl rfl rfl rfl ?_ | refine qT rfl ?_ | refine qF rfl ?_ | apply qR | apply qS | apply qK)
     exact ⟨k10, by omega, [_,_,_,_,_,_,_,_,_,_,_,_,_,_,_,_,_,_,_,_,_,_,_,_,_,_,_,_,_,_,_,_,_,_,_,_,_,_,_,_,_,_,_,_,_,_,_,_,_,_,_,_,_,_,_,_,_,_,_,_,_,_,_,_,_,_,_,_,_,_,_,_,_,_,_,_,_,_,_,_,_,_,_,_,_,_,_,_,_,_,_,_,_,_,_,_,_,_,_,_,_,_,_,_,_,_,_,_,_,_,_,_,_,_,_,_,_,_,_,_,_,_,_,_,_,_,_,_,_,_,_,_,_,_,_,_,_,_,_], rfl⟩
   · refine wops_cons (wop_bin (op := .neq) (v := .bool true) rfl rfl rfl rfl rfl ?_)
     repeat (first | apply qN | refine zq1 rfl rfl ?_ | refine qM rfl rfl ?_ | refine zq5 rfl rfl rfl rfl rfl ‹_› ?_ | refine zq6 rfl rfl ‹_› ?_ | refine zqb rfl rfl rfl ‹_› ?_ | refine zq7 rfl rfl rfl ?_ | refine zq8 rfl rfl rfl ?_ | refine zq9 rfl rfl rfl rfl ?_ | refine qT rfl ?_ | refine qF rfl ?_ | apply qR | apply qS | apply qK)
     refine wops_cons (wop_callF rfl rfl rfl (fn := Tryz.f32) (by rfl) ?_)
     refine cList hq H9 r (.v (.slice none 0 0)) [] [] 3 3 hr9.sl ⟨rfl, .inl rfl⟩ (by decide) (by decide) _ ⟨Nat.le_refl _, ?_⟩
     rw [if_pos (by decide), show (decide (([] : List Int) = []) && decide ((3 : Int) = 3)) = true by simp]
     repeat (first | apply qN | refine zq1 rfl rfl ?_ | refine qM rfl rfl ?_ | refine zq5 rfl rfl rfl rfl rfl ‹_› ?_ | refine zq6 rfl rfl ‹_› ?_ | refine zqb rfl rfl rfl ‹_› ?_ | refine zq7 rfl rfl rfl ?_ | refine zq8 rfl rfl rfl ?_ | refine zq9 rfl rfl rfl rfl ?_ | refine qT rfl ?_ | refine qF rfl ?_ | apply qR | apply qS | apply qK)
     refine wops_cons (wop_bin (op := .eql) (v := .bool false) rfl rfl rfl rfl rfl ?_)
     repeat (first | apply qN | refine zq1 rfl rfl ?_ | refine qM rfl rfl ?_ | refine zq5 rfl rfl rfl rfl rfl ‹_› ?_ | refine zq6 rfl rfl ‹_› ?_ | refine zqb rfl rfl rfl ‹_› ?_ | refine zq7 rfl rfl rfl ?_ | refine zq8 rfl rfl rfl ?_ | refine zq9 rfl rfl rfl rfl ?_ | refine qT rfl ?_ | refine qF rfl ?_ | apply qR | apply qS | apply qK)
     exact ⟨Keeps.refl _, by omega, [_,_,_,_,_,_,_,_,_,_,_,_,_,_,_,_,_,_,_,_,_,_,_,_,_,_,_,_,_,_,_,_,_,_,_,_,_,_,_,_,_,_,_,_,_,_,_,_,_,_,_,_,_,_,_,_,_,_,_,_,_,_,_,_,_,_,_,_,_,_,_,_,_,_,_,_,_,_,_,_,_,_,_,_,_,_,_,_,_,_,_,_,_,_,_,_,_,_,_,_,_,_,_,_,_,_,_,_,_,_,_,_,_,_,_,_,_,_,_,_,_,_,_,_,_,_,_,_,_,_,_,_,_,_,_,_,_,_,_], rfl⟩
 rintro T' H10 ⟨k10, n10, Y, rfl⟩
 have k010 := k9.trans k10
 have b210 := b29.keep (by omega) k10
 have b410 := b49.keep hbm9 k10
 have hky10 := hky.keep k010
 have hyS := hky10.sl
 have h910 := k10.nx
 clear hr9 hE b29 b49
 refine Wp.cut (fun T => ∃ Y : List AV, T = (lget Y 0 :: .v yv :: iv nn :: .ptr H.next 0 :: lget Y 1 :: lget Y 2 :: lget Y 3 :: .ptr bm 0 :: iv 0 :: lget Y 4 :: lget Y 5 :: lget Y 6 :: lget Y 7 :: lget Y 8 :: lget Y 9 :: lget Y 10 :: lget Y 11 :: lget Y 12 :: lget Y 13 :: lget Y 14 :: lget Y 15 :: lget Y 16 :: lget Y 17 :: lget Y 18 :: lget Y 19 :: lget Y 20 :: lget Y 21 :: lget Y 22 :: lget Y 23 :: lget Y 24 :: lget Y 25 :: lget Y 26 :: lget Y 27 :: lget Y 28 :: lget Y 29 :: lget Y 30 :: lget Y 31 :: lget Y 32 :: lget Y 33 :: lget Y 34 :: lget Y 35 :: lget Y 36 :: lget Y 37 :: lget Y 38 :: lget Y 39 :: lget Y 40 :: lget Y 41 :: lget Y 42 :: lget Y 43 :: lget Y 44 :: lget Y 45 :: lget Y 46 :: lget Y 47 :: lget Y 48 :: lget Y 49 :: lget Y 50 :: lget Y 51 :: lget Y 52 :: lget Y 53 :: lget Y 54 :: lget Y 55 :: lget Y 56 :: lget Y 57 :: lget Y 58 :: lget Y 59 :: lget Y 60 :: lget Y 61 :: lget Y 62 :: lget Y 63 :: lget Y 64 :: lget Y 65 :: .v (.bool false) :: lget Y 66 :: lget Y 67 :: lget Y 68 :: lget Y 69 :: lget Y 70 :: lget Y 71 :: lget Y 72 :: lget Y 73 :: lget Y 74 :: lget Y 75 :: lget Y 76 :: lget Y 77 :: lget Y 78 :: lget Y 79 :: lget Y 80 :: lget Y 81 :: lget Y 82 :: lget Y 83 :: lget Y 84 :: lget Y 85 :: lget Y 86 :: lget Y 87 :: lget Y 88 :: lget Y 89 :: lget Y 90 :: lget Y 91 :: lget Y 92 :: lget Y 93 :: lget Y 94 :: lget Y 95 :: lget Y 96 :: lget Y 97 :: lget Y 98 :: lget Y 99 :: lget Y 100 :: lget Y 101 :: lget Y 102 :: lget Y 103 :: lget Y 104 :: lget Y 105 :: lget Y 106 :: lget Y 107 :: lget Y 108 :: lget Y 109 :: lget Y 110 :: lget Y 111 :: lget Y 112 :: lget Y 113 :: lget Y 114 :: lget Y 115 :: lget Y 116 :: lget Y 117 :: lget Y 118 :: lget Y 119 :: lget Y 120 :: lget Y 121 :: lget Y 122 :: lget Y 123 :: lget Y 124 :: lget Y 125 :: lget Y 126 :: lget Y 127 :: lget Y 128 :: lget Y 129 :: lget Y 130 :: lget Y 131 :: lget Y 132 :: lget Y 133 :: lget Y 134 :: lget Y 135 :: lget Y 136 :: lget Y 137 :: lget Y 138 :: [])) ⟨[_,_,_,_,_,_,_,_,_,_,_,_,_,_,_,_,_,_,_,_,_,_,_,_,_,_,_,_,_,_,_,_,_,_,_,_,_,_,_,_,_,_,_,_,_,_,_,_,_,_,_,_,_,_,_,_,_,_,_,_,_,_,_,_,_,_,_,_,_,_,_,_,_,_,_,_,_,_,_,_,_,_,_,_,_,_,_,_,_,_,_,_,_,_,_,_,_,_,_,_,_,_,_,_,_,_,_,_,_,_,_,_,_,_,_,_,_,_,_,_,_,_,_,_,_,_,_,_,_,_,_,_,_,_,_,_,_,_,_], rfl⟩ ?_
 rintro T ⟨Y, rfl⟩
 repeat (first | apply qN | refine zq1 rfl rfl ?_ | refine qM rfl rfl ?_ | refine zq5 rfl rfl rfl rfl rfl ‹_› ?_ | refine zq6 rfl rfl ‹_› ?_ | refine zqb rfl rfl rfl ‹_› ?_ | refine zq7 rfl rfl rfl ?_ | refine zq8 rfl rfl rfl ?_ | refine zq9 rfl rfl rfl rfl ?_ | refine qT rfl ?_ | refine qF rfl ?_ | apply qR | apply qS | apply qK)
 refine wops_cons (wop_bin (op := .eql) (v := .bool true) rfl rfl rfl rfl rfl ?_)
 repeat (first | apply qN | refine zq1 rfl rfl ?_ | refine qM rfl rfl ?_ | refine zq5 rfl rfl rfl rfl rfl ‹_› ?_ | refine zq6 rfl rfl ‹_› ?_ | refine zqb rfl rfl rfl ‹_› ?_ | refine zq7 rfl rfl rfl ?_ | refine zq8 rfl rfl rfl ?_ | refine zq9 rfl rfl rfl rfl ?_ | refine qT rfl ?_ | refine qF rfl ?_ | apply qR | apply qS | apply qK)
 refine wops_cons (wop_cmp rfl rfl rfl rfl rfl (fun h => ?_) (fun h => ?_))
 · repeat (first | apply qN | refine zq1 rfl rfl ?_ | refine qM rfl rfl ?_ | refine zq5 rfl rfl rfl rfl rfl ‹_› ?_ | refine zq6 rfl rfl ‹_› ?_ | refine zqb rfl rfl rfl ‹_› ?_ | refine zq7 rfl rfl rfl ?_ | refine zq8 rfl rfl rfl ?_ | refine zq9 rfl rfl rfl rfl ?_ | refine qT rfl ?_ | refine qF rfl ?_ | apply qR | apply qS | apply qK)
   refine wp_ret ?_
   exact ⟨_, _, rfl, hk _⟩
 have hl20 : ¬ ((l.length : Int) > 20) := of_decide_eq_false h
 clear h
 have hl20 : l.length ≤ 20 := by omega
 have hev := mE_ring hV.hg hV.hm0
 have hval := valsL_le hV.fr.perd_mem
 repeat (first | apply qN | refine zq1 rfl rfl ?_ | refine qM rfl rfl ?_ | refine zq5 rfl rfl rfl rfl rfl ‹_› ?_ | refine zq6 rfl rfl ‹_› ?_ | refine zqb rfl rfl rfl ‹_› ?_ | refine zq7 rfl rfl rfl ?_ | refine zq8 rfl rfl rfl ?_ | refine zq9 rfl rfl rfl rfl ?_ | refine qT rfl ?_ | refine qF rfl ?_ | apply qR | apply qS | apply qK)
 refine WOps.cut (fun T => ∃ Y : List AV, T = (lget Y 0 :: .v yv :: iv nn :: .ptr H.next 0 :: lget Y 1 :: lget Y 2 :: lget Y 3 :: .ptr bm 0 :: iv 0 :: lget Y 4 :: lget Y 5 :: lget Y 6 :: lget Y 7 :: lget Y 8 :: lget Y 9 :: lget Y 10 :: lget Y 11 :: lget Y 12 :: lget Y 13 :: lget Y 14 :: lget Y 15 :: lget Y 16 :: lget Y 17 :: lget Y 18 :: lget Y 19 :: lget Y 20 :: lget Y 21 :: lget Y 22 :: lget Y 23 :: lget Y 24 :: lget Y 25 :: lget Y 26 :: lget Y 27 :: lget Y 28 :: lget Y 29 :: lget Y 30 :: lget Y 31 :: lget Y 32 :: lget Y 33 :: lget Y 34 :: lget Y 35 :: lget Y 36 :: lget Y 37 :: lget Y 38 :: lget Y 39 :: lget Y 40 :: lget Y 41 :: lget Y 42 :: lget Y 43 :: lget Y 44 :: lget Y 45 :: lget Y 46 :: lget Y 47 :: lget Y 48 :: lget Y 49 :: lget Y 50 :: lget Y 51 :: lget Y 52 :: lget Y 53 :: lget Y 54 :: lget Y 55 :: lget Y 56 :: lget Y 57 :: lget Y 58 :: lget Y 59 :: lget Y 60 :: lget Y 61 :: lget Y 62 :: lget Y 63 :: lget Y 64 :: lget Y 65 :: lget Y 66 :: lget Y 67 :: lget Y 68 :: lget Y 69 :: lget Y 70 :: lget Y 71 :: lget Y 72 :: lget Y 73 :: lget Y 74 :: .agg (mc m x) :: .v yv :: lget Y 75 :: lget Y 76 :: lget Y 77 :: lget Y 78 :: lget Y 79 :: lget Y 80 :: lget Y 81 :: lget Y 82 :: lget Y 83 :: lget Y 84 :: lget Y 85 :: lget Y 86 :: lget Y 87 :: lget Y 88 :: lget Y 89 :: lget Y 90 :: lget Y 91 :: lget Y 92 :: lget Y 93 :: lget Y 94 :: lget Y 95 :: lget Y 96 :: lget Y 97 :: lget Y 98 :: lget Y 99 :: lget Y 100 :: lget Y 101 :: lget Y 102 :: lget Y 103 :: lget Y 104 :: lget Y 105 :: lget Y 106 :: lget Y 107 :: lget Y 108 :: lget Y 109 :: lget Y 110 :: lget Y 111 :: lget Y 112 :: lget Y 113 :: lget Y 114 :: lget Y 115 :: lget Y 116 :: lget Y 117 :: lget Y 118 :: lget Y 119 :: lget Y 120 :: lget Y 121 :: lget Y 122 :: lget Y 123 :: lget Y 124 :: lget Y 125 :: lget Y 126 :: lget Y 127 :: lget Y 128 :: lget Y 129 :: lget Y 130 :: lget Y 131 :: lget Y 132 :: lget Y 133 :: lget Y 134 :: lget Y 135 :: lget Y 136 :: lget Y 137 :: [])) ⟨[_,_,_,_,_,_,_,_,_,_,_,_,_,_,_,_,_,_,_,_,_,_,_,_,_,_,_,_,_,_,_,_,_,_,_,_,_,_,_,_,_,_,_,_,_,_,_,_,_,_,_,_,_,_,_,_,_,_,_,_,_,_,_,_,_,_,_,_,_,_,_,_,_,_,_,_,_,_,_,_,_,_,_,_,_,_,_,_,_,_,_,_,_,_,_,_,_,_,_,_,_,_,_,_,_,_,_,_,_,_,_,_,_,_,_,_,_,_,_,_,_,_,_,_,_,_,_,_,_,_,_,_,_,_,_,_,_,_], rfl⟩ ?_
 rintro T ⟨Y, rfl⟩
 refine wops_cons (wop_callF rfl rfl rfl (fn := Tryz.f34) (by rfl) ?_)
 refine c34 hq H10 _ x _ m l n _ rfl (hx.keep ho k010) (ho.keep k010) hky10.sl hky10.old hky10.cap hky10.lk hV.good (by omega) _ (fun H11 kk pp k11 n11 e1 e2 e3 e4 => ⟨k11.nx, ?_⟩) (fun H11 k11 n11 e1 => ⟨k11.nx, ?_⟩)
 · have k011 := k010.trans k11
   have b211 := b210.keep (by omega) k11
   have b411 := b410.keep (by omega) k11
   have hky11 := hky.keep k011
   repeat (first | apply qN | refine zq1 rfl rfl ?_ | refine qM rfl rfl ?_ | refine zq5 rfl rfl rfl rfl rfl ‹_› ?_ | refine zq6 rfl rfl ‹_› ?_ | refine zqb rfl rfl rfl ‹_› ?_ | refine zq7 rfl rfl rfl ?_ | refine zq8 rfl rfl rfl ?_ | refine zq9 rfl rfl rfl rfl ?_ | refine qT rfl ?_ | refine qF rfl ?_ | apply qR | apply qS | apply qK)
   refine wops_cons (wop_callF rfl rfl rfl (fn := Tryz.f35) (by rfl) ?_)
   refine c35 hq H11 _ x _ m l n _ rfl (hx.keep ho k011) (ho.keep k011) hky11.sl hky11.old hky11.cap hky11.lk hV.good (by omega) _ (fun H12 k p k12 n12 f1 => ⟨k12.nx, ?_⟩) (fun H12 k12 n12 f1 => (mtF_not e1 (f1 _)).elim)
   have k012 := k011.trans k12
   have h1112 := k12.nx
   have h1011 := k11.nx
   have b212 := b211.keep (by omega) k12
   have b412 := b411.keep (by omega) k12
   repeat (first | apply qN | refine zq1 rfl rfl ?_ | refine qM rfl rfl ?_ | refine zq5 rfl rfl rfl rfl rfl ‹_› ?_ | refine zq6 rfl rfl ‹_› ?_ | refine zqb rfl rfl rfl ‹_› ?_ | refine zq7 rfl rfl rfl ?_ | refine zq8 rfl rfl rfl ?_ | refine zq9 rfl rfl rfl rfl ?_ | refine qT rfl ?_ | refine qF rfl ?_ | apply qR | apply qS | apply qK)
   refine wops_cons (wop_bin (op := .neq) (v := .bool false) rfl rfl rfl rfl rfl ?_)
   repeat (first | apply qN | refine zq1 rfl rfl ?_ | refine qM rfl rfl ?_ | refine zq5 rfl rfl rfl rfl rfl ‹_› ?_ | refine zq6 rfl rfl ‹_› ?_ | refine zqb rfl rfl rfl ‹_› ?_ | refine zq7 rfl rfl rfl ?_ | refine zq8 rfl rfl rfl ?_ | refine zq9 rfl rfl rfl rfl ?_ | refine qT rfl ?_ | refine qF rfl ?_ | apply qR | apply qS | apply qK)
   refine WOps.cut (fun T => ∃ Y : List AV, T = (lget Y 0 :: .v yv :: iv nn :: .ptr H.next 0 :: lget Y 1 :: lget Y 2 :: lget Y 3 :: .ptr bm 0 :: iv 0 :: lget Y 4 :: lget Y 5 :: lget Y 6 :: iv (kk : Nat) :: iv (pp : Nat) :: iv 0 :: iv 16 :: lget Y 7 :: lget Y 8 :: lget Y 9 :: lget Y 10 :: lget Y 11 :: lget Y 12 :: lget Y 13 :: lget Y 14 :: lget Y 15 :: lget Y 16 :: lget Y 17 :: lget Y 18 :: lget Y 19 :: lget Y 20 :: lget Y 21 :: lget Y 22 :: lget Y 23 :: lget Y 24 :: lget Y 25 :: lget Y 26 :: lget Y 27 :: lget Y 28 :: lget Y 29 :: lget Y 30 :: lget Y 31 :: lget Y 32 :: lget Y 33 :: lget Y 34 :: lget Y 35 :: lget Y 36 :: lget Y 37 :: lget Y 38 :: lget Y 39 :: lget Y 40 :: lget Y 41 :: lget Y 42 :: lget Y 43 :: lget Y 44 :: lget Y 45 :: lget Y 46 :: lget Y 47 :: lget Y 48 :: lget Y 49 :: lget Y 50 :: lget Y 51 :: lget Y 52 :: lget Y 53 :: lget Y 54 :: lget Y 55 :: lget Y 56 :: lget Y 57 :: lget Y 58 :: lget Y 59 :: lget Y 60 :: lget Y 61 :: lget Y 62 :: lget Y 63 :: lget Y 64 :: lget Y 65 :: lget Y 66 :: lget Y 67 :: lget Y 68 :: lget Y 69 :: lget Y 70 :: lget Y 71 :: lget Y 72 :: lget Y 73 :: lget Y 74 :: lget Y 75 :: lget Y 76 :: lget Y 77 :: lget Y 78 :: lget Y 79 :: lget Y 80 :: lget Y 81 :: lget Y 82 :: lget Y 83 :: lget Y 84 :: lget Y 85 :: lget Y 86 :: lget Y 87 :: lget Y 88 :: lget Y 89 :: lget Y 90 :: lget Y 91 :: lget Y 92 :: lget Y 93 :: lget Y 94 :: lget Y 95 :: lget Y 96 :: lget Y 97 :: lget Y 98 :: .agg (mc m x) :: .v yv :: lget Y 99 :: lget Y 100 :: lget Y 101 :: lget Y 102 :: lget Y 103 :: lget Y 104 :: lget Y 105 :: lget Y 106 :: lget Y 107 :: lget Y 108 :: lget Y 109 :: lget Y 110 :: lget Y 111 :: lget Y 112 :: lget Y 113 :: lget Y 114 :: lget Y 115 :: lget Y 116 :: lget Y 117 :: lget Y 118 :: lget Y 119 :: lget Y 120 :: lget Y 121 :: lget Y 122 :: lget Y 123 :: lget Y 124 :: lget Y 125 :: lget Y 126 :: lget Y 127 :: lget Y 128 :: lget Y 129 :: lget Y 130 :: lget Y 131 :: lget Y 132 :: lget Y 133 :: [])) ⟨[_,_,_,_,_,_,_,_,_,_,_,_,_,_,_,_,_,_,_,_,_,_,_,_,_,_,_,_,_,_,_,_,_,_,_,_,_,_,_,_,_,_,_,_,_,_,_,_,_,_,_,_,_,_,_,_,_,_,_,_,_,_,_,_,_,_,_,_,_,_,_,_,_,_,_,_,_,_,_,_,_,_,_,_,_,_,_,_,_,_,_,_,_,_,_,_,_,_,_,_,_,_,_,_,_,_,_,_,_,_,_,_,_,_,_,_,_,_,_,_,_,_,_,_,_,_,_,_,_,_,_,_,_,_], rfl⟩ ?_
   rintro T ⟨Y, rfl⟩
   refine wops_cons (wop_callF rfl rfl rfl (fn := Tryz.f36) (by rfl) ?_)
   refine cRefMeet hq H12 _ x _ m l n _ rfl (hx.keep ho k012) (ho.keep k012) (by omega) hV.hg hV.hn1 hn16 hev (hky.keep k012) hV.hl hl20 (Nat.lt_of_lt_of_le Nat.zero_lt_one hval.1) (by omega) hV.back (by omega) _ (fun H13 k' p' k13 n13 f2 f3 => ⟨k13.nx, ?_⟩) (fun H13 k13 n13 f2 => (mtF_not e1 (f2 _)).elim)
   obtain ⟨rfl, rfl⟩ := mt_same e1 e2 f2 f3
   repeat (first | apply qN | refine zq1 rfl rfl ?_ | refine qM rfl rfl ?_ | refine zq5 rfl rfl rfl rfl rfl ‹_› ?_ | refine zq6 rfl rfl ‹_› ?_ | refine zqb rfl rfl rfl ‹_› ?_ | refine zq7 rfl rfl rfl ?_ | refine zq8 rfl rfl rfl ?_ | refine zq9 rfl rfl rfl rfl ?_ | refine qT rfl ?_ | refine qF rfl ?_ | apply qR | apply qS | apply qK)
   refine wops_cons (wop_bin (op := .lss) (v := .bool false) rfl rfl rfl rfl (by
     show some (Value.bool (decide ((kk : Int) < 0))) = _
     rw [decide_eq_false (by omega)]) ?_)
   repeat (first | apply qN | refine zq1 rfl rfl ?_ | refine qM rfl rfl ?_ | refine zq5 rfl rfl rfl rfl rfl ‹_› ?_ | refine zq6 rfl rfl ‹_› ?_ | refine zqb rfl rfl rfl ‹_› ?_ | refine zq7 rfl rfl rfl ?_ | refine zq8 rfl rfl rfl ?_ | refine zq9 rfl rfl rfl rfl ?_ | refine qT rfl ?_ | refine qF rfl ?_ | apply qR | apply qS | apply qK)
   refine wops_cons (wop_bin (op := .eql) (v := .bool true) rfl rfl rfl rfl rfl ?_)
   repeat (first | apply qN | refine zq1 rfl rfl ?_ | refine qM rfl rfl ?_ | refine zq5 rfl rfl rfl rfl rfl ‹_› ?_ | refine zq6 rfl rfl ‹_› ?_ | refine zqb rfl rfl rfl ‹_› ?_ | refine zq7 rfl rfl rfl ?_ | refine zq8 rfl rfl rfl ?_ | refine zq9 rfl rfl rfl rfl ?_ | refine qT rfl ?_ | refine qF rfl ?_ | apply qR | apply qS | apply qK)
   refine wops_cons (wop_bin (op := .eql) (v := .bool true) rfl rfl rfl rfl (by simp [binI]) ?_)
   repeat (first | apply qN | refine zq1 rfl rfl ?_ | refine qM rfl rfl ?_ | refine zq5 rfl rfl rfl rfl rfl ‹_› ?_ | refine zq6 rfl rfl ‹_› ?_ | refine zqb rfl rfl rfl ‹_› ?_ | refine zq7 rfl rfl rfl ?_ | refine zq8 rfl rfl rfl ?_ | refine zq9 rfl rfl rfl rfl ?_ | refine qT rfl ?_ | refine qF rfl ?_ | apply qR | apply qS | apply qK)
   refine wops_cons (wop_bin (op := .eql) (v := .bool true) rfl rfl rfl rfl (by simp [binI]) ?_)
   repeat (first | apply qN | refine zq1 rfl rfl ?_ | refine qM rfl rfl ?_ | refine zq5 rfl rfl rfl rfl rfl ‹_› ?_ | refine zq6 rfl rfl ‹_› ?_ | refine zqb rfl rfl rfl ‹_› ?_ | refine zq7 rfl rfl rfl ?_ | refine zq8 rfl rfl rfl ?_ | refine zq9 rfl rfl rfl rfl ?_ | refine qT rfl ?_ | refine qF rfl ?_ | apply qR | apply qS | apply qK)
   refine wops_cons (wop_bin (op := .eql) (v := .bool true) rfl rfl rfl rfl rfl ?_)
   repeat (first | apply qN | refine zq1 rfl rfl ?_ | refine qM rfl rfl ?_ | refine zq5 rfl rfl rfl rfl rfl ‹_› ?_ | refine zq6 rfl rfl ‹_› ?_ | refine zqb rfl rfl rfl ‹_› ?_ | refine zq7 rfl rfl rfl ?_ | refine zq8 rfl rfl rfl ?_ | refine zq9 rfl rfl rfl rfl ?_ | refine qT rfl ?_ | refine qF rfl ?_ | apply qR | apply qS | apply qK)
   refine wp_ret ?_
   exact ⟨_, _, rfl, hk _⟩
 · have k011 := k010.trans k11
   have b211 := b210.keep (by omega) k11
   have b411 := b410.keep (by omega) k11
   have hky11 := hky.keep k011
   repeat (first | apply qN | refine zq1 rfl rfl ?_ | refine qM rfl rfl ?_ | refine zq5 rfl rfl rfl rfl rfl ‹_› ?_ | refine zq6 rfl rfl ‹_› ?_ | refine zqb rfl rfl rfl ‹_› ?_ | refine zq7 rfl rfl rfl ?_ | refine zq8 rfl rfl rfl ?_ | refine zq9 rfl rfl rfl rfl ?_ | refine qT rfl ?_ | refine qF rfl ?_ | apply qR | apply qS | apply qK)
   refine wops_cons (wop_callF rfl rfl rfl (fn := Tryz.f35) (by rfl) ?_)
   refine c35 hq H11 _ x _ m l n _ rfl (hx.keep ho k011) (ho.keep k011) hky11.sl hky11.old hky11.cap hky11.lk hV.good (by omega) _ (fun H12 k p k12 n12 f1 => (mtF_not f1 (e1 _)).elim) (fun H12 k12 n12 f1 => ⟨k12.nx, ?_⟩)
   have k012 := k011.trans k12
   have h1112 := k12.nx
   have h1011 := k11.nx
   have b212 := b211.keep (by omega) k12
   have b412 := b411.keep (by omega) k12
   repeat (first | apply qN | refine zq1 rfl rfl ?_ | refine qM rfl rfl ?_ | refine zq5 rfl rfl rfl rfl rfl ‹_› ?_ | refine zq6 rfl rfl ‹_› ?_ | refine zqb rfl rfl rfl ‹_› ?_ | refine zq7 rfl rfl rfl ?_ | refine zq8 rfl rfl rfl ?_ | refine zq9 rfl rfl rfl rfl ?_ | refine qT rfl ?_ | refine qF rfl ?_ | apply qR | apply qS | apply qK)
   refine wops_cons (wop_bin (op := .neq) (v := .bool false) rfl rfl rfl rfl rfl ?_)
   repeat (first | apply qN | refine zq1 rfl rfl ?_ | refine qM rfl rfl ?_ | refine zq5 rfl rfl rfl rfl rfl ‹_› ?_ | refine zq6 rfl rfl ‹_› ?_ | refine zqb rfl rfl rfl ‹_› ?_ | refine zq7 rfl rfl rfl ?_ | refine zq8 rfl rfl rfl ?_ | refine zq9 rfl rfl rfl rfl ?_ | refine qT rfl ?_ | refine qF rfl ?_ | apply qR | apply qS | apply qK)
   refine WOps.cut (fun T => ∃ Y : List AV, T = (lget Y 0 :: .v yv :: iv nn :: .ptr H.next 0 :: lget Y 1 :: lget Y 2 :: lget Y 3 :: .ptr bm 0 :: iv 0 :: lget Y 4 :: lget Y 5 :: lget Y 6 :: iv 0 :: iv 0 :: iv 7 :: iv 0 :: lget Y 7 :: lget Y 8 :: lget Y 9 :: lget Y 10 :: lget Y 11 :: lget Y 12 :: lget Y 13 :: lget Y 14 :: lget Y 15 :: lget Y 16 :: lget Y 17 :: lget Y 18 :: lget Y 19 :: lget Y 20 :: lget Y 21 :: lget Y 22 :: lget Y 23 :: lget Y 24 :: lget Y 25 :: lget Y 26 :: lget Y 27 :: lget Y 28 :: lget Y 29 :: lget Y 30 :: lget Y 31 :: lget Y 32 :: lget Y 33 :: lget Y 34 :: lget Y 35 :: lget Y 36 :: lget Y 37 :: lget Y 38 :: lget Y 39 :: lget Y 40 :: lget Y 41 :: lget Y 42 :: lget Y 43 :: lget Y 44 :: lget Y 45 :: lget Y 46 :: lget Y 47 :: lget Y 48 :: lget Y 49 :: lget Y 50 :: lget Y 51 :: lget Y 52 :: lget Y 53 :: lget Y 54 :: lget Y 55 :: lget Y 56 :: lget Y 57 :: lget Y 58 :: lget Y 59 :: lget Y 60 :: lget Y 61 :: lget Y 62 :: lget Y 63 :: lget Y 64 :: lget Y 65 :: lget Y 66 :: lget Y 67 :: lget Y 68 :: lget Y 69 :: lget Y 70 :: lget Y 71 :: lget Y 72 :: lget Y 73 :: lget Y 74 :: lget Y 75 :: lget Y 76 :: lget Y 77 :: lget Y 78 :: lget Y 79 :: lget Y 80 :: lget Y 81 :: lget Y 82 :: lget Y 83 :: lget Y 84 :: lget Y 85 :: lget Y 86 :: lget Y 87 :: lget Y 88 :: lget Y 89 :: lget Y 90 :: lget Y 91 :: lget Y 92 :: lget Y 93 :: lget Y 94 :: lget Y 95 :: lget Y 96 :: lget Y 97 :: lget Y 98 :: .agg (mc m x) :: .v yv :: lget Y 99 :: lget Y 100 :: lget Y 101 :: lget Y 102 :: lget Y 103 :: lget Y 104 :: lget Y 105 :: lget Y 106 :: lget Y 107 :: lget Y 108 :: lget Y 109 :: lget Y 110 :: lget Y 111 :: lget Y 112 :: lget Y 113 :: lget Y 114 :: lget Y 115 :: lget Y 116 :: lget Y 117 :: lget Y 118 :: lget Y 119 :: lget Y 120 :: lget Y 121 :: lget Y 122 :: lget Y 123 :: lget Y 124 :: lget Y 125 :: lget Y 126 :: lget Y 127 :: lget Y 128 :: lget Y 129 :: lget Y 130 :: lget Y 131 :: lget Y 132 :: lget Y 133 :: [])) ⟨[_,_,_,_,_,_,_,_,_,_,_,_,_,_,_,_,_,_,_,_,_,_,_,_,_,_,_,_,_,_,_,_,_,_,_,_,_,_,_,_,_,_,_,_,_,_,_,_,_,_,_,_,_,_,_,_,_,_,_,_,_,_,_,_,_,_,_,_,_,_,_,_,_,_,_,_,_,_,_,_,_,_,_,_,_,_,_,_,_,_,_,_,_,_,_,_,_,_,_,_,_,_,_,_,_,_,_,_,_,_,_,_,_,_,_,_,_,_,_,_,_,_,_,_,_,_,_,_,_,_,_,_,_,_], rfl⟩ ?_
   rintro T ⟨Y, rfl⟩
   refine wops_cons (wop_callF rfl rfl rfl (fn := Tryz.f36) (by rfl) ?_)
   refine cRefMeet hq H12 _ x _ m l n _ rfl (hx.keep ho k012) (ho.keep k012) (by omega) hV.hg hV.hn1 hn16 hev (hky.keep k012) hV.hl hl20 (Nat.lt_of_lt_of_le Nat.zero_lt_one hval.1) (by omega) hV.back (by omega) _ (fun H13 k' p' k13 n13 f2 f3 => (mtF_not f2 (e1 _)).elim) (fun H13 k13 n13 f2 => ⟨k13.nx, ?_⟩)
   repeat (first | apply qN | refine zq1 rfl rfl ?_ | refine qM rfl rfl ?_ | refine zq5 rfl rfl rfl rfl rfl ‹_› ?_ | refine zq6 rfl rfl ‹_› ?_ | refine zqb rfl rfl rfl ‹_› ?_ | refine zq7 rfl rfl rfl ?_ | refine zq8 rfl rfl rfl ?_ | refine zq9 rfl rfl rfl rfl ?_ | refine qT rfl ?_ | refine qF rfl ?_ | apply qR | apply qS | apply qK)
   refine wops_cons (wop_bin (op := .lss) (v := .bool true) rfl rfl rfl rfl rfl ?_)
   repeat (first | apply qN | refine zq1 rfl rfl ?_ | refine qM rfl rfl ?_ | refine zq5 rfl rfl rfl rfl rfl ‹_› ?_ | refine zq6 rfl rfl ‹_› ?_ | refine zqb rfl rfl rfl ‹_› ?_ | refine zq7 rfl rfl rfl ?_ | refine zq8 rfl rfl rfl ?_ | refine zq9 rfl rfl rfl rfl ?_ | refine qT rfl ?_ | refine qF rfl ?_ | apply qR | apply qS | apply qK)
   refine wops_cons (wop_bin (op := .eql) (v := .bool true) rfl rfl rfl rfl rfl ?_)
   repeat (first | apply qN | refine zq1 rfl rfl ?_ | refine qM rfl rfl ?_ | refine zq5 rfl rfl rfl rfl rfl ‹_› ?_ | refine zq6 rfl rfl ‹_› ?_ | refine zqb rfl rfl rfl ‹_› ?_ | refine zq7 rfl rfl rfl ?_ | refine zq8 rfl rfl rfl ?_ | refine zq9 rfl rfl rfl rfl ?_ | refine qT rfl ?_ | refine qF rfl ?_ | apply qR | apply qS | apply qK)
   refine wops_cons (wop_bin (op := .eql) (v := .bool true) rfl rfl rfl rfl rfl ?_)
   repeat (first | apply qN | refine zq1 rfl rfl ?_ | refine qM rfl rfl ?_ | refine zq5 rfl rfl rfl rfl rfl ‹_› ?_ | refine zq6 rfl rfl ‹_› ?_ | refine zqb rfl rfl rfl ‹_› ?_ | refine zq7 rfl rfl rfl ?_ | refine zq8 rfl rfl rfl ?_ | refine zq9 rfl rfl rfl rfl ?_ | refine qT rfl ?_ | refine qF rfl ?_ | apply qR | apply qS | apply qK)
   refine wops_cons (wop_bin (op := .eql) (v := .bool true) rfl rfl rfl rfl rfl ?_)
   repeat (first | apply qN | refine zq1 rfl rfl ?_ | refine qM rfl rfl ?_ | refine zq5 rfl rfl rfl rfl rfl ‹_› ?_ | refine zq6 rfl rfl ‹_› ?_ | refine zqb rfl rfl rfl ‹_› ?_ | refine zq7 rfl rfl rfl ?_ | refine zq8 rfl rfl rfl ?_ | refine zq9 rfl rfl rfl rfl ?_ | refine qT rfl ?_ | refine qF rfl ?_ | apply qR | apply qS | apply qK)
   refine wops_cons (wop_bin (op := .eql) (v := .bool true) rfl rfl rfl rfl rfl ?_)
   repeat (first | apply qN | refine zq1 rfl rfl ?_ | refine qM rfl rfl ?_ | refine zq5 rfl rfl rfl rfl rfl ‹_› ?_ | refine zq6 rfl rfl ‹_› ?_ | refine zqb rfl rfl rfl ‹_› ?_ | refine zq7 rfl rfl rfl ?_ | refine zq8 rfl rfl rfl ?_ | refine zq9 rfl rfl rfl rfl ?_ | refine qT rfl ?_ | refine qF rfl ?_ | apply qR | apply qS | apply qK)
   refine wp_ret ?_
   exact ⟨_, _, rfl, hk _⟩
end Go.Ev
