/- Part of an evaluator of calls that is proved sound, and of what it gives about this program. No condition of its own. -/
import Derived.Test.YtanaplokhjgfmaaGreatDoorEvEg
set_option linter.unusedVariables false
set_option linter.unusedSimpArgs false
set_option linter.unusedSectionVars false
set_option maxRecDepth 100000
set_option maxHeartbeats 4000000
namespace Go.Ev
open Go.Proofs
def legE (r : Ru) (tk gp : List Int) (k : Tk) (z g : Int) : Int :=
 if z < r.f + r.t then
   if z = mnL tk then
     if ruled r k (decide (z < r.f)) = true then
       if (z + 1, gapA r k g) ∈ prs tk gp then 4 else 0
     else 3
   else 2
 else 1
structure RfE (H : AH) (zb rb sb kb : Nat) (r : Ru) (k : Tk) (x y : AV) (tk gp : List Int) (z : Int) : Prop where
 lz : zb < H.next
 bz : Bk H zb 3 [iv z]
 lr : rb < H.next
 br : Bk H rb 23 r.cs
 ls : sb < H.next
 bs : Bk H sb 26 [x, y]
 lk : kb < H.next
 bk : Bk H kb 28 k.cs
 x : Ky H x tk
 y : Ky H y gp
theorem RfE.keep {H H' : AH} {zb rb sb kb : Nat} {r : Ru} {k : Tk} {x y : AV} {tk gp : List Int} {z : Int} (h : RfE H zb rb sb kb r k x y tk gp z) (e : Keeps H H') : RfE H' zb rb sb kb r k x y tk gp z :=
 ⟨Nat.lt_of_lt_of_le h.lz e.nx, h.bz.keep h.lz e, Nat.lt_of_lt_of_le h.lr e.nx, h.br.keep h.lr e, Nat.lt_of_lt_of_le h.ls e.nx, h.bs.keep h.ls e, Nat.lt_of_lt_of_le h.lk e.nx, h.bk.keep h.lk e, h.x.keep e, h.y.keep e⟩
theorem RfE.sb {H : AH} {zb rb sb kb : Nat} {r : Ru} {k : Tk} {x y : AV} {tk gp : List Int} {z : Int} (h : RfE H zb rb sb kb r k x y tk gp z) : beqs [x, y] [x, y] = true := by simp [beqs, h.x.sl.beq, h.y.sl.beq]
theorem Tkd.ne {r : Ru} {tk gp : List Int} {k : Tk} {j : Nat} {z g : Int} (h : Tkd r tk gp k j z g) : tk ≠ [] := fun e => by have := h.z; rw [e] at this; simp at this
theorem Tkd.lens {r : Ru} {tk gp : List Int} {k : Tk} {j : Nat} {z g : Int} (h : Tkd r tk gp k j z g) : tk.length ≤ 8 ∧ gp.length = tk.length := by
 have := h.st.lt; have := h.st.lg; have := h.st.ru; omega
variable {O : CallF} (hq : Quiet O)
include hq
theorem c133 (H : AH) (zb rb sb kb : Nat) (r : Ru) (k : Tk) (x y : AV) (tk gp : List Int) (j : Nat) (z g : Int) (hE : RfE H zb rb sb kb r k x y tk gp z) (hT : Tkd r tk gp k j z g) (hr : H.next + 40 < 2 ^ 59) (K : AV → AH → Prop) (hk : ∀ H', Keeps H H' → H'.next ≤ H.next + 8 → K (.v (.bool (decide (z < r.f + r.t)))) H') : Ca (ENV O) 133 [.ptr zb 0, .ptr rb 0] H K := by
 refine ca_intro (hq _ _ _ rfl) (fn := Tryz.f133) (by rfl) rfl ?_
 have hR := hT.st.ru
 have hw : w64 (r.f + r.t) = r.f + r.t := wr64 (by omega)
 have pz : At H (.ptr zb 0) (iv z) := hE.bz.at rfl
 repeat (first | apply qN | refine qM rfl rfl ?_ | apply qR | apply qS)
 refine wp_drawK rfl ?_
 refine k_load rfl rfl rfl pz (lkP (n := 0) hE.bz hE.lz (by simp [beqs, AV.beq, vbeq, iv])) ?_
 refine k_load4 rfl rfl rfl rfl hE.br (lkP (n := 0) hE.br hE.lr (ru_beq r)) ?_
 refine k_call rfl rfl rfl (fun b h => by cases h) (wop_callF rfl rfl rfl (fn := Tryz.f73) (by rfl) ?_)
 refine c73 hq H r _ rfl (by omega) _ fun H1 k1 n1 => ⟨k1.nx, k1, ?_⟩
 rw [hw]
 refine k_bin (op := .lss) (v := .bool (decide (z < r.f + r.t))) rfl rfl rfl rfl rfl rfl ?_
 repeat (first | refine k_nil ?_ | refine k_assign rfl rfl rfl ?_)
 refine wp_ret ?_
 exact ⟨_, _, rfl, hk H1 k1 (by omega)⟩
theorem c134 (H : AH) (zb rb sb kb : Nat) (r : Ru) (k : Tk) (x y : AV) (tk gp : List Int) (j : Nat) (z g : Int) (hE : RfE H zb rb sb kb r k x y tk gp z) (hT : Tkd r tk gp k j z g) (hr : H.next + 40 < 2 ^ 59) (K : AV → AH → Prop) (hk : ∀ H', Keeps H H' → H'.next ≤ H.next + 8 → K (.v (.bool (decide (z = mnL tk)))) H') : Ca (ENV O) 134 [.ptr zb 0, .ptr sb 0] H K := by
 refine ca_intro (hq _ _ _ rfl) (fn := Tryz.f134) (by rfl) rfl ?_
 have hl := hT.lens
 have pz : At H (.ptr zb 0) (iv z) := hE.bz.at rfl
 have ps : At H (.ptr sb 0) x := hE.bs.at rfl
 repeat (first | apply qN | refine qM rfl rfl ?_ | apply qR | apply qS)
 refine wp_drawK rfl ?_
 refine k_load rfl rfl rfl pz (lkP (n := 0) hE.bz hE.lz (by simp [beqs, AV.beq, vbeq, iv])) ?_
 refine k_field rfl rfl rfl rfl ?_
 refine k_load rfl rfl rfl ps (lkP hE.bs hE.ls hE.sb) ?_
 refine k_call rfl rfl rfl (fun b h => by cases h) (wop_callF rfl rfl rfl (fn := Tryz.f76) (by rfl) ?_)
 refine c76' hq H x tk hT.ne hE.x.sl (by omega) _ ⟨Nat.le_refl _, Keeps.refl _, ?_⟩
 refine k_bin (op := .eql) (v := .bool (decide (z = mnL tk))) rfl rfl rfl rfl rfl (by simp [binI]; rfl) ?_
 repeat (first | refine k_nil ?_ | refine k_assign rfl rfl rfl ?_)
 refine wp_ret ?_
 exact ⟨_, _, rfl, hk H (Keeps.refl _) (by omega)⟩
theorem c135 (H : AH) (zb rb sb kb : Nat) (r : Ru) (k : Tk) (x y : AV) (tk gp : List Int) (j : Nat) (z g : Int) (hE : RfE H zb rb sb kb r k x y tk gp z) (hT : Tkd r tk gp k j z g) (hr : H.next + 40 < 2 ^ 59) (K : AV → AH → Prop) (hk : ∀ H', Keeps H H' → H'.next ≤ H.next + 8 → K (.v (.bool (ruled r k (decide (z < r.f))))) H') : Ca (ENV O) 135 [.ptr rb 0, .ptr kb 0, .ptr zb 0] H K := by
 refine ca_intro (hq _ _ _ rfl) (fn := Tryz.f135) (by rfl) rfl ?_
 have pz : At H (.ptr zb 0) (iv z) := hE.bz.at rfl
 have p3 : At H (.ptr rb 3) (iv r.f) := hE.br.at rfl
 have br := hE.br
 have bk := hE.bk
 repeat (first | apply qN | refine qM rfl rfl ?_ | refine zqa rfl rfl rfl ?_ | refine zq6 rfl rfl ‹_› ?_ | refine zqb rfl rfl rfl ‹_› ?_ | apply qR | apply qS)
 refine wops_cons (wop_bin (op := .lss) (v := .bool (decide (z < r.f))) rfl rfl rfl rfl rfl ?_)
 refine wops_cons (wop_callF rfl rfl rfl (fn := Tryz.f136) (by rfl) ?_)
 refine c136 hq H r k _ _ _ rfl rfl (by omega) _ fun H1 k1 n1 => ⟨k1.nx, ?_⟩
 repeat (first | apply qN | refine qM rfl rfl ?_)
 refine wp_ret ?_
 exact ⟨_, _, rfl, hk H1 k1 (by omega)⟩
theorem c137 (H : AH) (zb rb sb kb : Nat) (r : Ru) (k : Tk) (x y : AV) (tk gp : List Int) (j : Nat) (z g : Int) (hE : RfE H zb rb sb kb r k x y tk gp z) (hT : Tkd r tk gp k j z g) (hr : H.next + 40 < 2 ^ 59) (K : AV → AH → Prop) (hk : ∀ H', Keeps H H' → H'.next ≤ H.next + 8 → K (.v (.bool (!decide ((z + 1, gapA r k g) ∈ prs tk gp)))) H') : Ca (ENV O) 137 [.ptr sb 0, .ptr rb 0, .ptr kb 0] H K := by
 refine ca_intro (hq _ _ _ rfl) (fn := Tryz.f137) (by rfl) rfl ?_
 have hl := hT.lens
 have hR := hT.st.ru
 repeat (first | apply qN | refine qM rfl rfl ?_ | apply qR | apply qS)
 refine wp_drawK rfl ?_
 refine k_load4 rfl rfl rfl rfl hE.bs (lkP (n := 0) hE.bs hE.ls hE.sb) ?_
 refine k_load4 rfl rfl rfl rfl hE.br (lkP (n := 0) hE.br hE.lr (ru_beq r)) ?_
 refine k_load4 rfl rfl rfl rfl hE.bs (lkP (n := 0) hE.bs hE.ls hE.sb) ?_
 refine k_load4 rfl rfl rfl rfl hE.bk (lkP (n := 0) hE.bk hE.lk (tk_beq k)) ?_
 refine k_call rfl rfl rfl (fun b h => by cases h) (wop_callF rfl rfl rfl (fn := Tryz.f77) (by rfl) ?_)
 refine c77 hq H x y tk gp hE.x hE.y hl.2 (by omega) (by omega) _ fun H1 es cl k1 n1 g1 hS => ⟨k1.nx, k1, ?_⟩
 have hE1 := hE.keep k1
 refine k_call rfl rfl rfl (fun b h => by cases h) (wop_callF rfl rfl rfl (fn := Tryz.f138) (by rfl) ?_)
 refine c138 hq H1 r k _ _ x y tk gp j z g rfl rfl hT hE1.x hE1.y (by omega) _ fun H2 k2 n2 => ⟨k2.nx, k1.trans k2, ?_⟩
 have g2 := (k2.get _ (by omega)).trans g1
 refine k_loud rfl rfl (o_getS (p := (z + 1, gapA r k g)) rfl rfl rfl rfl g2 hS ⟨k1.trans k2, ?_⟩)
 rw [show decide ((z + 1, gapA r k g) ∈ spt [] (prs tk gp)) = decide ((z + 1, gapA r k g) ∈ prs tk gp) by rw [Bool.eq_iff_iff]; simp [spt_mem]]
 refine k_not rfl rfl rfl rfl ?_
 repeat (first | refine k_nil ?_ | refine k_assign rfl rfl rfl ?_)
 refine wp_ret ?_
 exact ⟨_, _, rfl, hk H2 (k1.trans k2) (by omega)⟩
theorem c132 (H : AH) (xb zb rb sb kb : Nat) (r : Ru) (k : Tk) (x y : AV) (tk gp : List Int) (j : Nat) (z g : Int) (hE : RfE H zb rb sb kb r k x y tk gp z) (hT : Tkd r tk gp k j z g)
   (hxb : xb < H.next) (hxl : Sl H (.slc xb 0 4 4) [.fn (.func 133) [] [.ptr zb 0, .ptr rb 0], .fn (.func 134) [] [.ptr zb 0, .ptr sb 0], .fn (.func 135) [] [.ptr rb 0, .ptr kb 0, .ptr zb 0], .fn (.func 137) [] [.ptr sb 0, .ptr rb 0, .ptr kb 0]]) (hr : H.next + 100 < 2 ^ 59) (K : AV → AH → Prop) (hk : ∀ H', Keeps H H' → H'.next ≤ H.next + 40 → K (iv (legE r tk gp k z g)) H') : Ca (ENV O) 132 [.slc xb 0 4 4] H K := by
 refine ca_intro (hq _ _ _ rfl) (fn := Tryz.f132) (by rfl) rfl ?_
 have hox : Old H (.slc xb 0 4 4) := fun b hb => by cases hb; exact hxb
 repeat (first | apply qN | refine qM rfl rfl ?_ | apply qR | apply qS)
 refine wops_cons (o_len rfl rfl rfl rfl rfl hxl ?_)
 repeat (first | apply qN | refine qM rfl rfl ?_ | apply qB)
 refine wp_loop (fun q T M H' => ∃ (i : Nat) (Y : List AV), q = 4 - i ∧ i ≤ 4 ∧ Keeps H H' ∧ H'.next ≤ H.next + 8 * i ∧ M = [] ∧ (1 ≤ i → z < r.f + r.t) ∧ (2 ≤ i → z = mnL tk) ∧ (3 ≤ i → ruled r k (decide (z < r.f)) = true) ∧ (4 ≤ i → ¬ (z + 1, gapA r k g) ∈ prs tk gp) ∧ T = (lget Y 0 :: lget Y 1 :: lget Y 2 :: lget Y 3 :: lget Y 4 :: .slc xb 0 4 4 :: iv 4 :: iv (i : Nat) :: lget Y 5 :: lget Y 6 :: lget Y 7 :: lget Y 8 :: lget Y 9 :: lget Y 10 :: lget Y 11 :: lget Y 12 :: lget Y 13 :: lget Y 14 :: [])) 4
   ⟨0, [_,_,_,_,_,_,_,_,_,_,_,_,_,_,_], rfl, Nat.zero_le _, Keeps.refl H, Nat.le_refl _, rfl, (fun h => absurd h (by omega)), (fun h => absurd h (by omega)), (fun h => absurd h (by omega)), (fun h => absurd h (by omega)), rfl⟩ ?_
 rintro q T M H1 ⟨i, Y, hq1, hi, k1, n1, rfl, h1, h2, h3, h4, rfl⟩
 have hxl1 := hxl.keep hox k1
 have hE1 := hE.keep k1
 repeat (first | apply qR | apply qS)
 refine wops_cons (wop_cmp rfl rfl rfl rfl rfl (fun h => ?_) (fun h => ?_))
 rotate_left
 · have h : ¬ ((i : Int) < 4) := of_decide_eq_false h
   have e : legE r tk gp k z g = 0 := by
     unfold legE
     rw [if_pos (h1 (by omega)), if_pos (h2 (by omega)), if_pos (h3 (by omega)), if_neg (h4 (by omega))]
   rw [e] at hk
   repeat (first | apply qN | refine qM rfl rfl ?_ | refine qF rfl ?_ | apply qR | apply qS | apply qE)
   refine wp_ret ?_
   exact ⟨_, _, rfl, hk H1 k1 (by omega)⟩
 have hi' : i < 4 := by have h : (i : Int) < 4 := of_decide_eq_true h; omega
 clear h
 rcases (show i = 0 ∨ i = 1 ∨ i = 2 ∨ i = 3 by omega) with rfl | rfl | rfl | rfl
 · repeat (first | apply qN | refine qM rfl rfl ?_ | refine qT rfl ?_ | apply qR | apply qS | apply qK | apply qB)
   refine wops_cons (o_index (j := 0) rfl rfl hxl1 rfl rfl fun pp hpp => ?_)
   repeat (first | apply qN | refine qM rfl rfl ?_ | refine zq6 rfl rfl ‹_› ?_ | apply qR | apply qS)
   refine wops_cons (wop_callFn rfl rfl rfl rfl (by rfl) ?_)
   refine c133 hq H1 zb rb sb kb r k x y tk gp j z g hE1 hT (by omega) _ fun H2 k2 n2 => ⟨k2.nx, ?_⟩
   by_cases hs : z < r.f + r.t
   · rw [decide_eq_true hs]
     repeat (first | apply qN | refine qM rfl rfl ?_ | refine zq4 rfl rfl rfl rfl (inc (by omega)) ?_ | refine zq8 rfl rfl rfl ?_ | refine qF rfl ?_ | apply qR | apply qK)
     exact ⟨3, by omega, 1, [_,_,_,_,_,_,_,_,_,_,_,_,_,_,_], rfl, by omega, k1.trans k2, by omega, rfl, (fun _ => hs), (fun h => absurd h (by omega)), (fun h => absurd h (by omega)), (fun h => absurd h (by omega)), rfl⟩
   · rw [decide_eq_false hs]
     rw [show legE r tk gp k z g = 1 by unfold legE; rw [if_neg hs]] at hk
     repeat (first | apply qN | refine qM rfl rfl ?_ | refine zq4 rfl rfl rfl rfl (inc (by omega)) ?_ | refine zq8 rfl rfl rfl ?_ | refine qT rfl ?_ | apply qR | apply qS)
     refine wp_ret ?_
     exact ⟨_, _, rfl, hk H2 (k1.trans k2) (by omega)⟩
 · have hs1 := h1 (by omega)
   repeat (first | apply qN | refine qM rfl rfl ?_ | refine qT rfl ?_ | apply qR | apply qS | apply qK | apply qB)
   refine wops_cons (o_index (j := 1) rfl rfl hxl1 rfl rfl fun pp hpp => ?_)
   repeat (first | apply qN | refine qM rfl rfl ?_ | refine zq6 rfl rfl ‹_› ?_ | apply qR | apply qS)
   refine wops_cons (wop_callFn rfl rfl rfl rfl (by rfl) ?_)
   refine c134 hq H1 zb rb sb kb r k x y tk gp j z g hE1 hT (by omega) _ fun H2 k2 n2 => ⟨k2.nx, ?_⟩
   by_cases hs : z = mnL tk
   · rw [decide_eq_true hs]
     repeat (first | apply qN | refine qM rfl rfl ?_ | refine zq4 rfl rfl rfl rfl (inc (by omega)) ?_ | refine zq8 rfl rfl rfl ?_ | refine qF rfl ?_ | apply qR | apply qK)
     exact ⟨2, by omega, 2, [_,_,_,_,_,_,_,_,_,_,_,_,_,_,_], rfl, by omega, k1.trans k2, by omega, rfl, (fun _ => hs1), (fun _ => hs), (fun h => absurd h (by omega)), (fun h => absurd h (by omega)), rfl⟩
   · rw [decide_eq_false hs]
     rw [show legE r tk gp k z g = 2 by unfold legE; rw [if_pos hs1, if_neg hs]] at hk
     repeat (first | apply qN | refine qM rfl rfl ?_ | refine zq4 rfl rfl rfl rfl (inc (by omega)) ?_ | refine zq8 rfl rfl rfl ?_ | refine qT rfl ?_ | apply qR | apply qS)
     refine wp_ret ?_
     exact ⟨_, _, rfl, hk H2 (k1.trans k2) (by omega)⟩
 · have hs1 := h1 (by omega)
   have hs2 := h2 (by omega)
   repeat (first | apply qN | refine qM rfl rfl ?_ | refine qT rfl ?_ | apply qR | apply qS | apply qK | apply qB)
   refine wops_cons (o_index (j := 2) rfl rfl hxl1 rfl rfl fun pp hpp => ?_)
   repeat (first | apply qN | refine qM rfl rfl ?_ | refine zq6 rfl rfl ‹_› ?_ | apply qR | apply qS)
   refine wops_cons (wop_callFn rfl rfl rfl rfl (by rfl) ?_)
   refine c135 hq H1 zb rb sb kb r k x y tk gp j z g hE1 hT (by omega) _ fun H2 k2 n2 => ⟨k2.nx, ?_⟩
   cases hs : ruled r k (decide (z < r.f)) with
   | true =>
     repeat (first | apply qN | refine qM rfl rfl ?_ | refine zq4 rfl rfl rfl rfl (inc (by omega)) ?_ | refine zq8 rfl rfl rfl ?_ | refine qF rfl ?_ | apply qR | apply qK)
     exact ⟨1, by omega, 3, [_,_,_,_,_,_,_,_,_,_,_,_,_,_,_], rfl, by omega, k1.trans k2, by omega, rfl, (fun _ => hs1), (fun _ => hs2), (fun _ => by first | exact hs | rfl), (fun h => absurd h (by omega)), rfl⟩
   | false =>
     rw [show legE r tk gp k z g = 3 by unfold legE; rw [if_pos hs1, if_pos hs2, if_neg (by rw [hs]; decide)]] at hk
     repeat (first | apply qN | refine qM rfl rfl ?_ | refine zq4 rfl rfl rfl rfl (inc (by omega)) ?_ | refine zq8 rfl rfl rfl ?_ | refine qT rfl ?_ | apply qR | apply qS)
     refine wp_ret ?_
     exact ⟨_, _, rfl, hk H2 (k1.trans k2) (by omega)⟩
 · have hs1 := h1 (by omega)
   have hs2 := h2 (by omega)
   have hs3 := h3 (by omega)
   repeat (first | apply qN | refine qM rfl rfl ?_ | refine qT rfl ?_ | apply qR | apply qS | apply qK | apply qB)
   refine wops_cons (o_index (j := 3) rfl rfl hxl1 rfl rfl fun pp hpp => ?_)
   repeat (first | apply qN | refine qM rfl rfl ?_ | refine zq6 rfl rfl ‹_› ?_ | apply qR | apply qS)
   refine wops_cons (wop_callFn rfl rfl rfl rfl (by rfl) ?_)
   refine c137 hq H1 zb rb sb kb r k x y tk gp j z g hE1 hT (by omega) _ fun H2 k2 n2 => ⟨k2.nx, ?_⟩
   by_cases hs : (z + 1, gapA r k g) ∈ prs tk gp
   · rw [decide_eq_true hs]
     rw [show legE r tk gp k z g = 4 by unfold legE; rw [if_pos hs1, if_pos hs2, if_pos hs3, if_pos hs]] at hk
     repeat (first | apply qN | refine qM rfl rfl ?_ | refine zq4 rfl rfl rfl rfl (inc (by omega)) ?_ | refine zq8 rfl rfl rfl ?_ | refine qT rfl ?_ | apply qR | apply qS)
     refine wp_ret ?_
     exact ⟨_, _, rfl, hk H2 (k1.trans k2) (by omega)⟩
   · rw [decide_eq_false hs]
     repeat (first | apply qN | refine qM rfl rfl ?_ | refine zq4 rfl rfl rfl rfl (inc (by omega)) ?_ | refine zq8 rfl rfl rfl ?_ | refine qF rfl ?_ | apply qR | apply qK)
     exact ⟨0, by omega, 4, [_,_,_,_,_,_,_,_,_,_,_,_,_,_,_], rfl, by omega, k1.trans k2, by omega, rfl, (fun _ => hs1), (fun _ => hs2), (fun _ => hs3), (fun _ => hs), rfl⟩
theorem c79 (H : AH) (r : Ru) (k : Tk) (rv kv x y : AV) (tk gp : List Int) (j : Nat) (z g : Int) (hrv : rv.cells = r.cs) (hkv : kv.cells = k.cs) (hT : Tkd r tk gp k j z g) (hx : Ky H x tk) (hy : Ky H y gp) (hr : H.next + 200 < 2 ^ 59) (K : AV → AH → Prop) (hk : ∀ H', Keeps H H' → H'.next ≤ H.next + 60 → K (iv (legE r tk gp k z g)) H') : Ca (ENV O) 79 [rv, .agg [x, y], kv] H K := by
 refine ca_intro (hq _ _ _ rfl) (fn := Tryz.f79) (by rfl) rfl ?_
 have r0 : H.next < 2 ^ 59 := by omega
 repeat (first | apply qR | apply qS)
 refine wops_cons (o_boxS (cs := r.cs) rfl rfl hrv r0 fun H1 n1 k1 b1 => ?_)
 have r1 : H1.next < 2 ^ 59 := by omega
 refine wops_cons (o_boxS (cs := [x, y]) rfl rfl rfl r1 fun H2 n2 k2 b2 => ?_)
 have r2 : H2.next < 2 ^ 59 := by omega
 refine wops_cons (o_boxS (cs := k.cs) rfl rfl hkv r2 fun H3 n3 k3 b3 => ?_)
 have r3 : H3.next < 2 ^ 59 := by omega
 have x1 := k1.nx
 have x2 := k2.nx
 have x3 := k3.nx
 have k03 := (k1.trans k2).trans k3
 have b1 := b1.keep (by omega) (k2.trans k3)
 have b2 := b2.keep (by omega) k3
 have hx3 := hx.keep k03
 have hy3 := hy.keep k03
 have hsx := hx3.sl
 have s0 : At H3 (.ptr H1.next 0) x := b2.at rfl
 have q0 : At H3 (.ptr H2.next 0) (iv (j : Nat)) := by rw [← hT.a]; exact b3.at rfl
 repeat (first | apply qN | refine qM rfl rfl ?_ | refine zqa rfl rfl rfl ?_ | refine zq6 rfl rfl ‹_› ?_ | apply qR | apply qS)
 refine wops_cons (o_indexI rfl rfl hsx rfl hT.z fun pp hpp => ?_)
 repeat (first | refine zq6 rfl rfl ‹_› ?_)
 refine wops_cons (o_alloc rfl rfl r3 ?_)
 refine wops_cons (o_store rfl rfl rfl (get_add_eq r3) (Nat.succ_pos _) rfl ?_)
 refine WOps.mem (fun H4 => Keeps H3 H4 ∧ H4.next = H3.next + 1 ∧ Bk H4 H3.next 3 [iv z]) ⟨((Keeps.refl H3).add _ r3).set _ (Nat.le_refl _) r3, rfl, ⟨r3, get_set_eq r3⟩⟩ ?_
 rintro H4 ⟨k4, n4, b4⟩
 have x4 := k4.nx
 have r4 : H4.next < 2 ^ 59 := by omega
 show WOps _ _ _ _ _ _
 repeat (first | apply qN | apply qR | apply qS)
 refine wops_cons (wop_makeFunc rfl rfl ?_)
 refine wops_cons (wop_makeFunc rfl rfl ?_)
 refine wops_cons (wop_makeFunc rfl rfl ?_)
 refine wops_cons (wop_makeFunc rfl rfl ?_)
 refine wops_cons (o_build4 rfl rfl rfl rfl rfl rfl r4 ?_)
 refine WOps.mem (fun H5 => Keeps H4 H5 ∧ H5.next = H4.next + 1 ∧ Sl H5 (.slc H4.next 0 4 4) [.fn (.func 133) [] [.ptr H3.next 0, .ptr H.next 0], .fn (.func 134) [] [.ptr H3.next 0, .ptr H1.next 0], .fn (.func 135) [] [.ptr H.next 0, .ptr H2.next 0, .ptr H3.next 0], .fn (.func 137) [] [.ptr H1.next 0, .ptr H.next 0, .ptr H2.next 0]]) ⟨(Keeps.refl H4).add _ r4, rfl, sl_new r4 4⟩ ?_
 rintro H5 ⟨k5, n5, hs5⟩
 have x5 := k5.nx
 have k35 := k4.trans k5
 have k05 := k03.trans k35
 refine wops_cons (wop_callF rfl rfl rfl (fn := Tryz.f132) (by rfl) ?_)
 refine c132 hq H5 H4.next H3.next H.next H1.next H2.next r k x y tk gp j z g ⟨by omega, b4.keep (by omega) k5, by omega, b1.keep (by omega) k35, by omega, b2.keep (by omega) k35, by omega, b3.keep (by omega) k35, hx.keep k05, hy.keep k05⟩ hT (by omega) hs5 (by omega) _ fun H6 k6 n6 => ⟨k6.nx, ?_⟩
 repeat (first | apply qN | refine qM rfl rfl ?_)
 refine wp_ret ?_
 exact ⟨_, _, rfl, hk H6 (k05.trans k6) (by omega)⟩
end Go.Ev
