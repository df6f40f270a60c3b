/- Part of an evaluator of calls that is proved sound, and of what it gives about this program. No condition of its own. -/
import Derived.Test.YtanaplokhjgfmaaGreatDoorEvEq
import Derived.Test.YtanaplokhjgfmaaGreatDoorEvEr
import Derived.Test.YtanaplokhjgfmaaGreatDoorEvEi
import Derived.Test.YtanaplokhjgfmaaGreatDoorEvEj
set_option linter.unusedVariables false
set_option linter.unusedSimpArgs false
set_option linter.unusedSectionVars false
set_option maxRecDepth 100000
set_option maxHeartbeats 4000000
namespace Go.Ev
open Go.Proofs
instance : TyS 53 32 := ⟨by kernel_rfl⟩
def intB (a b c d : Int) : Bool := if c = 0 then decide (b = 0) && decide (a = d) else decide (a = 0) && decide (b = c)
theorem staE_ru {r : Ru} {tk gp : List Int} (h : ruE r ≠ 0) : staE r tk gp = ruE r := by
 have e : preE r tk gp = ruE r := by unfold preE; exact fnz_ne h
 rw [staE_pre (by rw [e]; exact h), e]
variable {O : CallF} (hq : Quiet O)
include hq
theorem c15 (H : AH) (x y x2 y2 : AV) (tk gp tk2 gp2 : List Int) (hx : Ky H x tk) (hy : Ky H y gp) (hx2 : Ky H x2 tk2) (hy2 : Ky H y2 gp2) (l1 : tk.length ≤ 1000) (l2 : gp.length ≤ 1000) (l3 : tk2.length ≤ 1000) (l4 : gp2.length ≤ 1000) (hr : H.next + 20 < 2 ^ 59) (K : AV → AH → Prop) (hk : ∀ H', Keeps H H' → H'.next ≤ H.next + 2 → K (.v (.bool (decide (tk = tk2) && decide (gp = gp2)))) H') : Ca (ENV O) 15 [.agg [x, y], .agg [x2, y2]] H K := by
 refine ca_intro (hq _ _ _ rfl) (fn := Tryz.f15) (by rfl) rfl ?_
 have r0 : H.next < 2 ^ 59 := by omega
 repeat (first | apply qR | apply qS)
 refine wops_cons (o_boxS (cs := [x, y]) rfl rfl rfl r0 fun H1 n1 k1 b1 => ?_)
 have r1 : H1.next < 2 ^ 59 := by omega
 refine wops_cons (o_boxS (cs := [x2, y2]) rfl rfl rfl r1 fun H2 n2 k2 b2 => ?_)
 have k02 := k1.trans k2
 have xx1 := k1.nx
 have b1 := b1.keep (by omega) k2
 have s0 : At H2 (.ptr H.next 0) x := b1.at rfl
 have s1 : At H2 (.ptr H.next 1) y := b1.at rfl
 have s2 : At H2 (.ptr H1.next 0) x2 := b2.at rfl
 have s3 : At H2 (.ptr H1.next 1) y2 := b2.at rfl
 have hk := hk H2 k02 (by omega)
 repeat (first | apply qN | refine qM rfl rfl ?_ | refine zqa rfl rfl rfl ?_ | refine zq6 rfl rfl ‹_› ?_ | apply qR | apply qS)
 refine wops_cons (wop_callF rfl rfl rfl (fn := Tryz.f50) (by rfl) ?_)
 refine cSameI hq H2 _ _ tk tk2 (hx.keep k02).sl (hx2.keep k02).sl (by omega) (by omega) _ ⟨Nat.le_refl _, ?_⟩
 generalize decide (tk = tk2) = A at hk ⊢
 cases A with
 | false =>
   repeat (first | apply qN | refine zq1 rfl rfl ?_ | refine qM rfl rfl ?_ | refine zq7 rfl rfl rfl ?_)
   refine wp_ret ?_
   exact ⟨_, _, rfl, hk⟩
 | true =>
   repeat (first | refine qM rfl rfl ?_ | refine zqa rfl rfl rfl ?_ | refine zq6 rfl rfl ‹_› ?_)
   refine wops_cons (wop_callF rfl rfl rfl (fn := Tryz.f50) (by rfl) ?_)
   refine cSameI hq H2 _ _ gp gp2 (hy.keep k02).sl (hy2.keep k02).sl (by omega) (by omega) _ ⟨Nat.le_refl _, ?_⟩
   generalize decide (gp = gp2) = A at hk ⊢
   repeat (first | apply qN | refine qM rfl rfl ?_ | refine zq7 rfl rfl rfl ?_)
   refine wp_ret ?_
   exact ⟨_, _, rfl, hk⟩
theorem c9 (H : AH) (sv x y : AV) (hsv : sv.cells = [x, y]) (h1 : x.one = true) (h2 : y.one = true) (hr : H.next + 20 < 2 ^ 59) (K : AV → AH → Prop) (hk : ∀ H', Keeps H H' → H'.next = H.next + 2 → K (.agg [x, y]) H') : Ca (ENV O) 9 [sv] H K := by
 refine ca_intro (hq _ _ _ rfl) (fn := Tryz.f9) (by rfl) rfl ?_
 have r0 : H.next < 2 ^ 59 := by omega
 repeat (first | apply qR | apply qS)
 refine wops_cons (o_boxS (cs := [x, y]) rfl rfl hsv r0 fun H1 n1 k1 b1 => ?_)
 have r1 : H1.next < 2 ^ 59 := by omega
 have x1 := k1.nx
 refine wops_cons (o_allocA (zs := [.v (.slice none 0 0), .v (.slice none 0 0)]) rfl rfl (z := .agg #[.slice none 0 0, .slice none 0 0]) (by kernel_rfl) rfl r1 ?_)
 refine WOps.mem (fun H2 => Keeps H1 H2 ∧ H2.next = H1.next + 1 ∧ H2.get H1.next = some (.cells [.v (.slice none 0 0), .v (.slice none 0 0)] 30 0)) ⟨(Keeps.refl H1).add _ r1, rfl, get_add_eq r1⟩ ?_
 rintro H2 ⟨k2, n2, g2⟩
 have b12 := b1.keep (by omega) k2
 show WOps _ _ _ _ _ _
 repeat (first | apply qN | refine zqb rfl rfl rfl ‹_› ?_ | apply qR | apply qS)
 refine wops_cons (o_storeA (n := 2) (vs := [x, y]) rfl rfl (by kernel_rfl) rfl rfl rfl (by simp [h1, h2]) g2 (Nat.le_refl _) ?_)
 refine WOps.mem (fun H3 => Keeps H H3 ∧ H3.next = H2.next ∧ H3.get H1.next = some (.cells [x, y] 30 0)) ⟨(k1.trans k2).set _ (by omega) r1, rfl, get_set_eq r1⟩ ?_
 rintro H3 ⟨k3, n3, g3⟩
 repeat (first | apply qN)
 refine Wp.cut (fun T => ∃ Y : List AV, T = (lget Y 0 :: lget Y 1 :: .ptr H1.next 0 :: lget Y 2 :: [])) ⟨(_ :: _ :: _ :: []), rfl⟩ ?_
 rintro T ⟨Y, rfl⟩
 refine wp_ret ?_
 refine ⟨.agg [x, y], H3, ?_, hk H3 k3 (by omega)⟩
 have hres : resA Tryz.prog (lget Y 0 :: lget Y 1 :: .ptr H1.next 0 :: lget Y 2 :: []) H3 Tryz.f9.results.toList = some [.agg [x, y]] := by
   show (match loadA Tryz.prog 30 H1.next 0 H3, (some [] : Option (List AV)) with | some x, some m => some (x :: m) | _, _ => none) = _
   rw [load2 g3]
 unfold leaveM resultsA
 simp only [takeMarks]
 rw [show (ENV O).P = Tryz.prog from rfl, hres]
theorem c11 (H : AH) (x y : AV) (tk gp : List Int) (hx : Sl H x (ivs tk)) (hy : Sl H y (ivs gp)) (hox : Old H x) (hoy : Old H y) (hr : H.next + 20 < 2 ^ 59) (K : AV → AH → Prop) (hk : ∀ H', Keeps H H' → H'.next = H.next + 1 → K (.v (.bool (decide ((tk.length : Int) ≤ 11) && decide ((gp.length : Int) ≤ 11)))) H') : Ca (ENV O) 11 [.agg [x, y], .v (.slice none 0 0)] H K := by
 refine ca_intro (hq _ _ _ rfl) (fn := Tryz.f11) (by rfl) rfl ?_
 have r0 : H.next < 2 ^ 59 := by omega
 repeat (first | apply qR | apply qS)
 refine wops_cons (o_boxS (cs := [x, y]) rfl rfl rfl r0 fun H1 n1 k1 b1 => ?_)
 have s0 : At H1 (.ptr H.next 0) x := b1.at rfl
 have s1 : At H1 (.ptr H.next 1) y := b1.at rfl
 have hx1 := hx.keep hox k1
 have hy1 := hy.keep hoy k1
 have hk := hk H1 k1 n1
 repeat (first | apply qN | refine qM rfl rfl ?_ | refine zqa rfl rfl rfl ?_ | refine zq5 rfl rfl rfl rfl rfl ‹_› ?_ | refine zq6 rfl rfl ‹_› ?_ | apply qR | apply qS)
 refine wops_cons (wop_bin (op := .leq) (v := .bool (decide ((tk.length : Int) ≤ 11))) rfl rfl rfl rfl rfl ?_)
 generalize decide ((tk.length : Int) ≤ 11) = A at hk ⊢
 cases A with
 | false =>
   repeat (first | apply qN | refine zq1 rfl rfl ?_ | refine qM rfl rfl ?_ | refine zq7 rfl rfl rfl ?_)
   refine wp_ret ?_
   exact ⟨_, _, rfl, hk⟩
 | true =>
   repeat (first | refine qM rfl rfl ?_ | refine zqa rfl rfl rfl ?_ | refine zq5 rfl rfl rfl rfl rfl ‹_› ?_ | refine zq6 rfl rfl ‹_› ?_)
   refine wops_cons (wop_bin (op := .leq) (v := .bool (decide ((gp.length : Int) ≤ 11))) rfl rfl rfl rfl rfl ?_)
   generalize decide ((gp.length : Int) ≤ 11) = A at hk ⊢
   cases A with
   | false =>
     repeat (first | apply qN | refine zq1 rfl rfl ?_ | refine qM rfl rfl ?_ | refine zq7 rfl rfl rfl ?_)
     refine wp_ret ?_
     exact ⟨_, _, rfl, hk⟩
   | true =>
     repeat (first | refine qM rfl rfl ?_ | refine zq7 rfl rfl rfl ?_)
     refine wops_cons (o_len (l := []) rfl rfl rfl rfl rfl ⟨rfl, .inl rfl⟩ ?_)
     refine wops_cons (wop_bin (op := .leq) (v := .bool true) rfl rfl rfl rfl (by rfl) ?_)
     repeat (first | apply qN | refine qM rfl rfl ?_ | refine zq7 rfl rfl rfl ?_)
     refine wp_ret ?_
     exact ⟨_, _, rfl, hk⟩
theorem c17 (H : AH) (r : Ru) (rv : AV) (hrv : rv.cells = r.cs) (x y : AV) (tk gp : List Int) (hx : Ky H x tk) (hy : Ky H y gp) (hlt : tk.length ≤ 1000) (hlg : gp.length ≤ 1000) (hr : H.next + 40 < 2 ^ 59) (K : AV → AH → Prop)
   (hk : ∀ H', Keeps H H' → H'.next ≤ H.next + 10 → K (iv (staE r tk gp)) H') : Ca (ENV O) 17 [rv, .agg [x, y]] H K := by
 refine ca_intro (hq _ _ _ rfl) (fn := Tryz.f17) (by rfl) rfl ?_
 have r0 : H.next < 2 ^ 59 := by omega
 repeat (first | apply qR | apply qS)
 refine wops_cons (o_boxS (cs := r.cs) rfl rfl hrv r0 fun H1 n1 k1 b1 => ?_)
 have r1 : H1.next < 2 ^ 59 := by omega
 refine wops_cons (o_boxS (cs := [x, y]) rfl rfl rfl r1 fun H2 n2 k2 b2 => ?_)
 have k02 := k1.trans k2
 have x1 := k1.nx
 have b1 := b1.keep (by omega) k2
 repeat (first | apply qN | refine qM rfl rfl ?_ | refine zqb rfl rfl rfl ‹_› ?_ | apply qR | apply qS)
 refine wops_cons (wop_callF rfl rfl rfl (fn := Tryz.f13) (by rfl) ?_)
 refine c13 hq H2 r _ rfl (by omega) _ fun H3 k3 n3 => ⟨k3.nx, ?_⟩
 have k03 := k02.trans k3
 have x2 := k2.nx
 have b13 := b1.keep (by omega) k3
 have b23 := b2.keep (by omega) k3
 by_cases h0 : ruE r = 0
 · rw [h0]
   repeat (first | apply qN | refine qM rfl rfl ?_ | apply qR | apply qS)
   refine wops_cons (wop_bin (op := .neq) (v := .bool false) rfl rfl rfl rfl rfl ?_)
   repeat (first | apply qN | refine zqb rfl rfl rfl ‹_› ?_ | refine qF rfl ?_ | apply qR | apply qS | apply qK)
   refine wops_cons (wop_callF rfl rfl rfl (fn := Tryz.f36) (by rfl) ?_)
   refine c36 hq H3 r _ rfl x y tk gp (hx.keep k03) (hy.keep k03) hlt hlg h0 (by omega) _ fun H4 k4 n4 => ⟨k4.nx, ?_⟩
   repeat (first | apply qN | refine qM rfl rfl ?_)
   refine wp_ret ?_
   exact ⟨_, _, rfl, hk H4 (k03.trans k4) (by omega)⟩
 · have hk := hk H3 k03 (by omega)
   rw [staE_ru h0] at hk
   generalize ruE r = w at h0 hk ⊢
   repeat (first | apply qN | refine qM rfl rfl ?_ | apply qR | apply qS)
   refine wops_cons (wop_bin (op := .neq) (v := .bool true) rfl rfl rfl rfl (by simp [binI, h0]) ?_)
   repeat (first | apply qN | refine qM rfl rfl ?_ | refine qT rfl ?_ | apply qR | apply qS)
   refine wp_ret ?_
   exact ⟨_, _, rfl, hk⟩
theorem c22 (H : AH) (a b c d : Int) (K : AV → AH → Prop) (hk : K (.v (.bool (intB a b c d))) H) : Ca (ENV O) 22 [iv a, iv b, iv c, iv d] H K := by
 refine ca_intro (hq _ _ _ rfl) (fn := Tryz.f22) (by rfl) rfl ?_
 unfold intB at hk
 have he : ∀ a b : Int, binI .eql .i64 .i64 a b = some (.bool (decide (a = b))) := fun a b => by simp [binI]; rfl
 repeat (first | apply qN | refine qM rfl rfl ?_ | apply qR | apply qS)
 by_cases h : c = 0
 · rw [if_pos h] at hk
   refine wops_cons (wop_bin (op := .neq) (v := .bool false) rfl rfl rfl rfl (by simp [binI, h]) ?_)
   repeat (first | apply qN | refine qM rfl rfl ?_ | refine qF rfl ?_ | apply qR | apply qS | apply qK)
   refine wops_cons (wop_bin (op := .eql) (v := .bool (decide (b = 0))) rfl rfl rfl rfl (he _ _) ?_)
   generalize decide (b = 0) = A at hk ⊢
   cases A with
   | false =>
     repeat (first | apply qN | refine zq1 rfl rfl ?_ | refine qM rfl rfl ?_ | refine zq7 rfl rfl rfl ?_)
     refine wp_ret ?_
     exact ⟨_, _, rfl, hk⟩
   | true =>
     repeat (first | refine qM rfl rfl ?_)
     refine wops_cons (wop_bin (op := .eql) (v := .bool (decide (a = d))) rfl rfl rfl rfl (he _ _) ?_)
     repeat (first | apply qN | refine qM rfl rfl ?_ | refine zq7 rfl rfl rfl ?_)
     refine wp_ret ?_
     exact ⟨_, _, rfl, hk⟩
 · rw [if_neg h] at hk
   refine wops_cons (wop_bin (op := .neq) (v := .bool true) rfl rfl rfl rfl (by simp [binI, h]) ?_)
   repeat (first | apply qN | refine qM rfl rfl ?_ | refine qT rfl ?_ | apply qR | apply qS)
   refine wops_cons (wop_bin (op := .eql) (v := .bool (decide (a = 0))) rfl rfl rfl rfl (he _ _) ?_)
   generalize decide (a = 0) = A at hk ⊢
   cases A with
   | false =>
     repeat (first | apply qN | refine zq1 rfl rfl ?_ | refine qM rfl rfl ?_ | refine zq7 rfl rfl rfl ?_)
     refine wp_ret ?_
     exact ⟨_, _, rfl, hk⟩
   | true =>
     repeat (first | refine qM rfl rfl ?_)
     refine wops_cons (wop_bin (op := .eql) (v := .bool (decide (b = c))) rfl rfl rfl rfl (he _ _) ?_)
     repeat (first | apply qN | refine qM rfl rfl ?_ | refine zq7 rfl rfl rfl ?_)
     refine wp_ret ?_
     exact ⟨_, _, rfl, hk⟩
end Go.Ev
