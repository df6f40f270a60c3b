/- Part of an evaluator of calls that is proved sound, and of what it gives about this program. No condition of its own. -/
import Derived.Test.YtcbmpnddhnkfnaaGreatDoorEwHc
set_option linter.unusedVariables false
set_option linter.unusedSimpArgs false
set_option linter.unusedSectionVars false
set_option maxRecDepth 100000
set_option maxHeartbeats 4000000
namespace Go.Ev
open Go.Proofs
def firstNZ : List Int → Int
 | [] => 0
 | z :: l => if z ≠ 0 then z else firstNZ l
theorem firstNZ_cons (z : Int) (l : List Int) : firstNZ (z :: l) = if z ≠ 0 then z else firstNZ l := rfl
theorem sl_new {H : AH} {cs : List AV} {e : TypeId} (hr : H.next < 2 ^ 39) (n : Nat) : Sl (H.add (.cells cs e 0)) (.slc H.next 0 cs.length n) cs :=
 ⟨rfl, hr, cs, e, 0, by rw [AH.get_add _ _ _ hr, if_pos rfl], fun j v h => by rw [Nat.zero_add]; exact h⟩
variable {O : CallF} (hq : Quiet O)
include hq
theorem c74 (H : AH) (b : Bool) (e : Int) (K : AV → AH → Prop) (hk : K (iv (if b = true then 0 else e)) H) : Ca (ENV O) 74 [.v (.bool b), iv e] H K := by
 refine ca_intro (hq _ _ _ rfl) (fn := Tryz.f74) (by rfl) rfl ?_
 cases b with
 | true =>
   repeat (first | apply qN | refine qM rfl rfl ?_ | refine qT rfl ?_ | apply qR | apply qS)
   refine wp_ret ?_
   exact ⟨_, _, rfl, hk⟩
 | false =>
   repeat (first | apply qN | refine qM rfl rfl ?_ | refine qF rfl ?_ | apply qR | apply qS | apply qK)
   refine wp_ret ?_
   exact ⟨_, _, rfl, hk⟩
theorem c73 (H : AH) (n lo hi : Int) (K : AV → AH → Prop) (hk : K (iv (if inB n lo hi = true then 0 else 3)) H) : Ca (ENV O) 73 [iv n, iv lo, iv hi] H K := by
 refine ca_intro (hq _ _ _ rfl) (fn := Tryz.f73) (by rfl) rfl ?_
 repeat (first | apply qN | refine qM rfl rfl ?_ | apply qR | apply qS)
 refine wops_split 6 ?_
 refine WOps.mono (K := fun T' H' => H = H' ∧ ∃ (Y : List AV), T' = (lget Y 0 :: lget Y 1 :: lget Y 2 :: lget Y 3 :: lget Y 4 :: lget Y 5 :: lget Y 6 :: lget Y 7 :: lget Y 8 :: lget Y 9 :: lget Y 10 :: lget Y 11 :: lget Y 12 :: lget Y 13 :: .v (.bool (inB n lo hi)) :: lget Y 14 :: [])) ?_ ?_
 · refine wops_cons (wop_cmp rfl rfl rfl rfl rfl (fun h => ?_) (fun h => ?_))
   · have h1 : lo ≤ n := of_decide_eq_true h
     clear h
     repeat (first | refine qM rfl rfl ?_)
     refine wops_cons (wop_cmp rfl rfl rfl rfl rfl (fun h => ?_) (fun h => ?_))
     · have h2 : n ≤ hi := of_decide_eq_true h
       rw [show inB n lo hi = true by simp [inB, h1, h2]]
       repeat (first | apply qN | refine zq7 rfl rfl rfl ?_)
       exact ⟨rfl, [_,_,_,_,_,_,_,_,_,_,_,_,_,_,_], rfl⟩
     · have h2 : ¬ n ≤ hi := of_decide_eq_false h
       rw [show inB n lo hi = false by simp [inB, h1, h2]]
       repeat (first | apply qN | refine zq7 rfl rfl rfl ?_)
       exact ⟨rfl, [_,_,_,_,_,_,_,_,_,_,_,_,_,_,_], rfl⟩
   · have h1 : ¬ lo ≤ n := of_decide_eq_false h
     rw [show inB n lo hi = false by simp [inB, h1]]
     repeat (first | apply qN | refine zq1 rfl rfl ?_ | refine qM rfl rfl ?_ | refine zq7 rfl rfl rfl ?_)
     exact ⟨rfl, [_,_,_,_,_,_,_,_,_,_,_,_,_,_,_], rfl⟩
 rintro T' H' ⟨rfl, Y, rfl⟩
 refine wops_cons (wop_callF rfl rfl rfl (fn := Tryz.f74) (by rfl) ?_)
 refine c74 hq H (inB n lo hi) 3 _ ⟨Nat.le_refl _, ?_⟩
 repeat (first | apply qN | refine qM rfl rfl ?_)
 refine wp_ret ?_
 exact ⟨_, _, rfl, hk⟩
theorem c124 (H : AH) (a x : AV) (m : Mc) (ha : a.cells = mc m x) (hr : H.next < 2 ^ 39) (K : AV → AH → Prop) (hk : ∀ H', Keeps H H' → H'.next = H.next + 1 → K (iv (if m.ring = true then 0 else 1)) H') : Ca (ENV O) 124 [a] H K := by
 refine ca_intro (hq _ _ _ rfl) (fn := Tryz.f124) (by rfl) rfl ?_
 repeat (first | apply qR | apply qS)
 refine wops_cons (o_boxM rfl rfl ha hr fun H1 n1 k1 b1 => ?_)
 have hp0 := b1.p0
 have hk := hk H1 k1 n1
 repeat (first | apply qN | refine qM rfl rfl ?_ | refine zqa rfl rfl rfl ?_ | refine zq6 rfl rfl ‹_› ?_ | apply qR | apply qS)
 refine wp_cond rfl (fun h => ?_) (fun h => ?_)
 · rw [if_pos h] at hk
   repeat (first | apply qN | refine qM rfl rfl ?_ | apply qR | apply qS)
   refine wp_ret ?_
   exact ⟨_, _, rfl, hk⟩
 · rw [if_neg (by simp [h])] at hk
   repeat (first | apply qN | refine qM rfl rfl ?_ | apply qR | apply qS | apply qK)
   refine wp_ret ?_
   exact ⟨_, _, rfl, hk⟩
theorem c72 (H : AH) (x : AV) (l : List Int) (hx : Sl H x (ivs l)) (hlen : l.length ≤ 1000) (K : AV → AH → Prop) (hk : K (iv (firstNZ l)) H) : Ca (ENV O) 72 [x] H K := by
 refine ca_intro (hq _ _ _ rfl) (fn := Tryz.f72) (by rfl) rfl ?_
 repeat (first | apply qN | refine qM rfl rfl ?_ | refine zq5 rfl rfl rfl rfl rfl ‹_› ?_ | apply qR | apply qS | apply qB)
 refine wp_loop (fun q T M H' => ∃ (i : Nat) (Y : List AV), q = l.length - i ∧ i ≤ l.length ∧ firstNZ l = firstNZ (l.drop i) ∧ H' = H ∧ M = [] ∧ T = (lget Y 0 :: lget Y 1 :: lget Y 2 :: lget Y 3 :: lget Y 4 :: x :: iv l.length :: iv (i : Nat) :: lget Y 5 :: lget Y 6 :: lget Y 7 :: lget Y 8 :: lget Y 9 :: lget Y 10 :: lget Y 11 :: [])) l.length
   ⟨0, [_,_,_,_,_,_,_,_,_,_,_,_], rfl, Nat.zero_le _, rfl, rfl, rfl, rfl⟩ ?_
 rintro q T M H' ⟨i, Y, hq1, hi, hsw, rfl, rfl, rfl⟩
 repeat (first | apply qR | apply qS)
 refine wops_cons (wop_cmp rfl rfl rfl rfl rfl (fun h => ?_) (fun h => ?_))
 rotate_left
 · have h : ¬ ((i : Int) < l.length) := of_decide_eq_false h
   have e : i = l.length := by omega
   rw [hsw, e, List.drop_length] at hk
   repeat (first | apply qN | refine qM rfl rfl ?_ | refine qF rfl ?_ | apply qR | apply qS | apply qE)
   refine wp_ret ?_
   exact ⟨_, _, rfl, hk⟩
 have h : (i : Int) < l.length := of_decide_eq_true h
 obtain ⟨z, hz⟩ := l_some (show i < l.length by omega)
 rw [drop_cons hz, firstNZ_cons] at hsw
 repeat (first | apply qN | refine qT rfl ?_ | apply qR | apply qS | apply qK | apply qB)
 refine wops_cons (o_indexI rfl rfl hx rfl hz fun p hp => ?_)
 repeat (first | apply qN | refine qM rfl rfl ?_ | refine zq6 rfl rfl ‹_› ?_ | apply qR | apply qS)
 refine wops_cons (wop_cmp rfl rfl rfl rfl rfl (fun h => ?_) (fun h => ?_))
 · have h : z ≠ 0 := by simpa using h
   rw [hsw, if_pos h] at hk
   repeat (first | apply qN | refine qM rfl rfl ?_ | refine qT rfl ?_ | apply qR | apply qS)
   refine wp_ret ?_
   exact ⟨_, _, rfl, hk⟩
 have h : ¬ z ≠ 0 := by simpa using h
 rw [if_neg h] at hsw
 repeat (first | apply qN | refine qM rfl rfl ?_ | refine zq4 rfl rfl rfl rfl (inc (by omega)) ?_ | refine qF rfl ?_ | apply qR | apply qK)
 exact ⟨l.length - (i + 1), by omega, i + 1, [_,_,_,_,_,_,_,_,_,_,_,_], rfl, by omega, hsw, rfl, rfl, rfl⟩
theorem c75 (H : AH) (a x : AV) (m : Mc) (ha : a.cells = mc m x) (hx : Sl H x (ivs m.sw)) (ho : Old H x) (hl : m.sw.length ≤ 100000) (hr : H.next + m.sw.length + 10 < 2 ^ 39) (K : AV → AH → Prop) (hk : ∀ H', Keeps H H' → H'.next ≤ H.next + 1 + m.sw.length → K (iv (swE m none m.sw)) H') : Ca (ENV O) 75 [a] H K := by
 refine ca_intro (hq _ _ _ rfl) (fn := Tryz.f75) (by rfl) rfl ?_
 have r0 : H.next < 2 ^ 39 := by omega
 repeat (first | apply qR | apply qS)
 refine wops_cons (o_boxM rfl rfl ha r0 fun H1 n1 k1 b1 => ?_)
 have hp3 := b1.p3
 have hx1 := hx.keep ho k1
 have ho1 := ho.keep k1
 repeat (first | apply qN | refine qM rfl rfl ?_ | refine zqa rfl rfl rfl ?_ | refine zq5 rfl rfl rfl rfl rfl ‹_› ?_ | refine zq6 rfl rfl ‹_› ?_ | apply qR | apply qS | apply qB)
 refine wp_loop (fun q T M H' => ∃ (i : Nat) (Y : List AV), q = m.sw.length - i ∧ i ≤ m.sw.length ∧ swE m none m.sw = swE m (prv m.sw i) (m.sw.drop i) ∧ Keeps H1 H' ∧ H'.next ≤ H1.next + i ∧ M = [] ∧ T = (lget Y 0 :: .ptr H.next 0 :: lget Y 1 :: lget Y 2 :: lget Y 3 :: lget Y 4 :: x :: iv m.sw.length :: iv (i : Nat) :: lget Y 5 :: lget Y 6 :: lget Y 7 :: lget Y 8 :: lget Y 9 :: lget Y 10 :: lget Y 11 :: lget Y 12 :: lget Y 13 :: lget Y 14 :: lget Y 15 :: lget Y 16 :: lget Y 17 :: lget Y 18 :: lget Y 19 :: lget Y 20 :: lget Y 21 :: lget Y 22 :: lget Y 23 :: lget Y 24 :: lget Y 25 :: lget Y 26 :: lget Y 27 :: lget Y 28 :: lget Y 29 :: lget Y 30 :: lget Y 31 :: [])) m.sw.length
   ⟨0, [_,_,_,_,_,_,_,_,_,_,_,_,_,_,_,_,_,_,_,_,_,_,_,_,_,_,_,_,_,_,_,_], rfl, Nat.zero_le _, by simp [prv], Keeps.refl _, Nat.le_refl _, rfl, rfl⟩ ?_
 rintro q T M H2 ⟨i, Y, hq1, hi, hsw, k2, n2, rfl, rfl⟩
 have b2 := b1.keep (by omega) k2
 have hx2 := hx1.keep ho1 k2
 repeat (first | apply qR | apply qS)
 refine wops_cons (wop_cmp rfl rfl rfl rfl rfl (fun h => ?_) (fun h => ?_))
 rotate_left
 · have h : ¬ ((i : Int) < m.sw.length) := of_decide_eq_false h
   have e : i = m.sw.length := by omega
   have hk := hk H2 (k1.trans k2) (by omega)
   rw [hsw, e, List.drop_length] at hk
   repeat (first | apply qN | refine qM rfl rfl ?_ | refine qF rfl ?_ | apply qR | apply qS | apply qE)
   refine wp_ret ?_
   exact ⟨_, _, rfl, hk⟩
 have h : (i : Int) < m.sw.length := of_decide_eq_true h
 obtain ⟨z, hz⟩ := l_some (show i < m.sw.length by omega)
 rw [drop_cons hz, swE_cons] at hsw
 repeat (first | apply qN | refine qM rfl rfl ?_ | refine qT rfl ?_ | apply qR | apply qS | apply qK | apply qB)
 refine wops_cons (o_indexI rfl rfl hx2 rfl hz fun p hp => ?_)
 repeat (first | apply qN | refine qM rfl rfl ?_ | refine zq6 rfl rfl ‹_› ?_ | refine zqb rfl rfl rfl ‹_› ?_ | apply qR | apply qS)
 refine wops_cons (wop_callF rfl rfl rfl (fn := Tryz.f124) (by rfl) ?_)
 refine c124 hq H2 _ x m rfl (by omega) _ fun H3 k3 n3 => ⟨k3.nx, ?_⟩
 have b3 := b2.keep (by have := k2.nx; omega) k3
 have hx3 := hx2.keep (ho1.keep k2) k3
 clear hp3 hp
 have hp1 := b3.p1
 have hp3 := b3.p3
 refine wops_split 7 ?_
 refine WOps.mono (K := fun T' H' => H3 = H' ∧ ∃ (Y : List AV), T' = (lget Y 0 :: .ptr H.next 0 :: lget Y 1 :: iv (i : Nat) :: iv z :: lget Y 2 :: x :: iv m.sw.length :: iv (i : Nat) :: lget Y 3 :: lget Y 4 :: lget Y 5 :: lget Y 6 :: lget Y 7 :: lget Y 8 :: lget Y 9 :: lget Y 10 :: lget Y 11 :: lget Y 12 :: lget Y 13 :: lget Y 14 :: lget Y 15 :: .v (.bool (!shB m z)) :: lget Y 16 :: lget Y 17 :: lget Y 18 :: lget Y 19 :: lget Y 20 :: lget Y 21 :: lget Y 22 :: lget Y 23 :: lget Y 24 :: lget Y 25 :: lget Y 26 :: lget Y 27 :: lget Y 28 :: [])) ?_ ?_
 · refine wops_cons (wop_cmp rfl rfl rfl rfl rfl (fun h => ?_) (fun h => ?_))
   · have h1 : z < (if m.ring = true then 0 else 1) := of_decide_eq_true h
     rw [show (!shB m z) = true by simp only [shB, inB, Bool.not_eq_true', decide_eq_false_iff_not]; omega]
     repeat (first | apply qN | refine zq1 rfl rfl ?_ | refine qM rfl rfl ?_ | refine zq7 rfl rfl rfl ?_)
     exact ⟨rfl, [_,_,_,_,_,_,_,_,_,_,_,_,_,_,_,_,_,_,_,_,_,_,_,_,_,_,_,_,_], rfl⟩
   have h1 : ¬ z < (if m.ring = true then 0 else 1) := of_decide_eq_false h
   clear h
   repeat (first | refine qM rfl rfl ?_ | refine zqa rfl rfl rfl ?_ | refine zq6 rfl rfl ‹_› ?_)
   refine wops_cons (wop_cmp rfl rfl rfl rfl rfl (fun h => ?_) (fun h => ?_))
   · have h2 : z ≥ m.g := of_decide_eq_true h
     rw [show (!shB m z) = true by simp only [shB, inB, Bool.not_eq_true', decide_eq_false_iff_not]; omega]
     repeat (first | apply qN | refine zq7 rfl rfl rfl ?_)
     exact ⟨rfl, [_,_,_,_,_,_,_,_,_,_,_,_,_,_,_,_,_,_,_,_,_,_,_,_,_,_,_,_,_], rfl⟩
   · have h2 : ¬ z ≥ m.g := of_decide_eq_false h
     rw [show (!shB m z) = false by simp only [shB, inB, Bool.not_eq_false', decide_eq_true_eq]; omega]
     repeat (first | apply qN | refine zq7 rfl rfl rfl ?_)
     exact ⟨rfl, [_,_,_,_,_,_,_,_,_,_,_,_,_,_,_,_,_,_,_,_,_,_,_,_,_,_,_,_,_], rfl⟩
 rintro T' H' ⟨rfl, Y3, rfl⟩
 repeat (first | apply qN)
 refine wp_cond rfl (fun h => ?_) (fun h => ?_)
 · have h : shB m z = false := by simpa using h
   have hk := hk H3 ((k1.trans k2).trans k3) (by omega)
   rw [hsw, if_pos h] at hk
   repeat (first | apply qN | refine qM rfl rfl ?_ | apply qR | apply qS)
   refine wp_ret ?_
   exact ⟨_, _, rfl, hk⟩
 have hsh : shB m z = true := by simpa using h
 rw [if_neg (by simp [hsh])] at hsw
 clear h
 repeat (first | refine qM rfl rfl ?_ | apply qR | apply qS | apply qK)
 refine wops_cons (wop_cmp rfl rfl rfl rfl rfl (fun h => ?_) (fun h => ?_))
 · have h0 : 0 < i := by have : (i : Int) > 0 := of_decide_eq_true h
                         omega
   clear h
   obtain ⟨y, hy⟩ := l_some (show i - 1 < m.sw.length by omega)
   have hpr : prv m.sw i = some y := by rw [prv, if_neg (by omega)]; exact hy
   rw [hpr] at hsw
   repeat (first | refine qM rfl rfl ?_ | refine zqa rfl rfl rfl ?_ | refine zq6 rfl rfl ‹_› ?_)
   refine wops_cons (wop_bin (op := .sub) rfl rfl rfl rfl (dec1 h0 (by omega)) ?_)
   refine wops_cons (o_indexI rfl rfl hx3 rfl hy fun p hp => ?_)
   repeat (first | refine zq6 rfl rfl ‹_› ?_)
   refine wops_cons (wop_cmp rfl rfl rfl rfl rfl (fun h => ?_) (fun h => ?_))
   · have h : z ≤ y := of_decide_eq_true h
     have hk := hk H3 ((k1.trans k2).trans k3) (by omega)
     rw [hsw, if_pos (by simpa using h)] at hk
     repeat (first | apply qN | refine qM rfl rfl ?_ | refine zq7 rfl rfl rfl ?_ | refine qT rfl ?_ | apply qR | apply qS)
     refine wp_ret ?_
     exact ⟨_, _, rfl, hk⟩
   have h : ¬ z ≤ y := of_decide_eq_false h
   rw [if_neg (by simpa using h)] at hsw
   repeat (first | apply qN | refine qM rfl rfl ?_ | refine zq4 rfl rfl rfl rfl (inc (by omega)) ?_ | refine zq7 rfl rfl rfl ?_ | refine qF rfl ?_ | apply qR | apply qK)
   exact ⟨m.sw.length - (i + 1), by omega, i + 1, [_,_,_,_,_,_,_,_,_,_,_,_,_,_,_,_,_,_,_,_,_,_,_,_,_,_,_,_,_,_,_,_], rfl, by omega, by rw [hsw, prv_succ hz], k2.trans k3, by omega, rfl, rfl⟩
 have h0 : i = 0 := by have : ¬ (i : Int) > 0 := of_decide_eq_false h
                       omega
 rw [if_neg (by simp [prv, h0])] at hsw
 repeat (first | apply qN | refine zq1 rfl rfl ?_ | refine qM rfl rfl ?_ | refine zq4 rfl rfl rfl rfl (inc (by omega)) ?_ | refine zq7 rfl rfl rfl ?_ | refine qF rfl ?_ | apply qR | apply qK)
 exact ⟨m.sw.length - (i + 1), by omega, i + 1, [_,_,_,_,_,_,_,_,_,_,_,_,_,_,_,_,_,_,_,_,_,_,_,_,_,_,_,_,_,_,_,_], rfl, by omega, by rw [hsw, prv_succ hz], k2.trans k3, by omega, rfl, rfl⟩
end Go.Ev
namespace Go.Ev
open Go.Proofs
theorem o_build5 {O : CallF} {T : List AV} {H : AH} {ops : Array Oper} {o : Oper} {K : AV → AH → Prop} {t e : TypeId} {x y u v w : Operand} {z0 : Value} (ho : o.op = .buildSlice t 5 #[(0, x), (1, y), (2, u), (3, v), (4, w)]) (hg : wantedA o ops T = true) [hu : TyS t e] [hs : Cell e] [hz : Zero e z0] (h1 : (av T x).one = true) (h2 : (av T y).one = true) (h3 : (av T u).one = true) (h4 : (av T v).one = true) (h5 : (av T w).one = true) (hr : H.next < 2 ^ 39)
   (hk : K (.slc H.next 0 5 5) (H.add (.cells [av T x, av T y, av T u, av T v, av T w] e 0))) : WOp (ENV O) ops o T H K := by
 refine wop_val (by rw [ho]; rfl) hg (r := .slc H.next 0 5 5) (H' := H.add (.cells [av T x, av T y, av T u, av T v, av T w] e 0)) ?_ (Nat.le_succ _) hk
 have hlt : Nat.blt H.next (2 ^ 39) = true := Nat.ble_eq_true_of_le hr
 unfold opEval; rw [ho]
 simp only [ENV, buildSliceA, hu.u, hs.s, hz.z, hz.c]
 rw [if_pos (by decide)]
 simp [fillA, cells_one h1, cells_one h2, cells_one h3, cells_one h4, cells_one h5, wr, newA, hlt]
 rw [List.drop_eq_nil_of_le (by simp)]
def okMesh (m : Mc) : Bool := !m.ring || decide (m.g.tmod 2 = 0)
def okTurn (m : Mc) : Bool := decide (m.t = 1) || decide (m.t = -1)
theorem mE_firstNZ (m : Mc) : firstNZ [(if inB m.g 1 16 = true then 0 else 3), (if okMesh m = true then 0 else 17), (if okTurn m = true then 0 else 3), (if decide ((m.sw.length : Int) ≤ m.g) = true then 0 else 5), swE m none m.sw] = mE m := by
 have e3 : (m.t ≠ 1 ∧ m.t ≠ -1) ↔ okTurn m = false := by simp [okTurn]
 have e4 : (m.g < (m.sw.length : Int)) ↔ ¬ ((m.sw.length : Int) ≤ m.g) := by omega
 unfold mE
 simp only [e3, e4]
 cases h1 : inB m.g 1 16 with
 | false => simp [firstNZ]
 | true =>
   have hg : 1 ≤ m.g ∧ m.g ≤ 16 := of_decide_eq_true h1
   have hmod : m.g.tmod 2 = 0 ∨ m.g.tmod 2 = 1 := by
     have e : m.g.tmod 2 = m.g % 2 := Int.tmod_eq_emod_of_nonneg (by omega)
     rw [e]; omega
   have e2 : (m.ring = true ∧ m.g.tmod 2 = 1) ↔ okMesh m = false := by
     unfold okMesh
     cases m.ring with
     | false => simp
     | true => rcases hmod with h | h <;> simp [h]
   simp only [e2]
   cases okMesh m <;> cases okTurn m <;> by_cases h4 : (m.sw.length : Int) ≤ m.g <;> simp [firstNZ, h4]
   intro h5; exact h5.symm
variable {O : CallF} (hq : Quiet O)
include hq
theorem c17 (H : AH) (a x : AV) (m : Mc) (ha : a.cells = mc m x) (hx : Sl H x (ivs m.sw)) (ho : Old H x) (hl : m.sw.length ≤ 100000) (hr : H.next + m.sw.length + 20 < 2 ^ 39) (K : AV → AH → Prop) (hk : ∀ H', Keeps H H' → H'.next ≤ H.next + 3 + m.sw.length → K (iv (mE m)) H') : Ca (ENV O) 17 [a] H K := by
 refine ca_intro (hq _ _ _ rfl) (fn := Tryz.f17) (by rfl) rfl ?_
 have r0 : H.next < 2 ^ 39 := by omega
 repeat (first | apply qR | apply qS)
 refine wops_cons (o_boxM rfl rfl ha r0 fun H1 n1 k1 b1 => ?_)
 have hp0 := b1.p0
 have hp1 := b1.p1
 have hp2 := b1.p2
 have hp3 := b1.p3
 have hx1 := hx.keep ho k1
 have ho1 := ho.keep k1
 have hB := b1.lk (by omega) hx1
 repeat (first | apply qN | refine qM rfl rfl ?_ | apply qS)
 refine wp_drawK rfl ?_
 repeat (first | refine k_field rfl rfl rfl rfl ?_ | refine k_load rfl rfl rfl ‹_› ‹_› ?_)
 refine k_not rfl rfl rfl rfl ?_
 cases hring : m.ring with
 | true =>
   repeat (first | refine k_field rfl rfl rfl rfl ?_ | refine k_load rfl rfl rfl ‹_› ‹_› ?_)
   refine k_cmp rfl rfl rfl rfl rfl rfl (fun h => ?_) (fun h => ?_)
   · have ht : m.t = 1 := by simpa using h
     clear h
     repeat (first | refine k_field rfl rfl rfl rfl ?_ | refine k_load rfl rfl rfl ‹_› ‹_› ?_ | refine k_lenI rfl rfl rfl rfl rfl rfl ‹_› ?_)
     refine k_bin (op := .leq) rfl rfl rfl rfl rfl rfl ?_
     repeat (first | refine k_load4 rfl rfl rfl rfl ‹_› ‹_› ?_)
     refine k_call rfl rfl rfl (fun b h => by cases h) (wop_callF rfl rfl rfl (fn := Tryz.f73) (by rfl) ?_)
     refine c73 hq H1 m.g 1 16 _ ⟨Nat.le_refl _, Keeps.refl _, ?_⟩
     repeat (first | refine k_move rfl rfl rfl ?_ | refine k_field rfl rfl rfl rfl ?_ | refine k_load rfl rfl rfl ‹_› ‹_› ?_)
     refine k_rem rfl rfl rfl rfl rfl (by decide) ?_
     refine k_bin (op := .eql) (v := .bool (decide (m.g.tmod 2 = 0))) rfl rfl rfl rfl rfl rfl ?_
     repeat (first | refine k_pick rfl rfl rfl rfl ?_)
     refine k_call rfl rfl rfl (fun b h => by cases h) (wop_callF rfl rfl rfl (fn := Tryz.f74) (by rfl) ?_)
     refine c74 hq H1 (decide (m.g.tmod 2 = 0)) 17 _ ⟨Nat.le_refl _, Keeps.refl _, ?_⟩
     repeat (first | refine k_skip rfl rfl ?_ | refine k_move rfl rfl rfl ?_ | refine k_pick rfl rfl rfl rfl ?_)
     refine k_call rfl rfl rfl (fun b h => by cases h) (wop_callF rfl rfl rfl (fn := Tryz.f74) (by rfl) ?_)
     refine c74 hq H1 true 3 _ ⟨Nat.le_refl _, Keeps.refl _, ?_⟩
     refine k_call rfl rfl rfl (fun b h => by cases h) (wop_callF rfl rfl rfl (fn := Tryz.f74) (by rfl) ?_)
     refine c74 hq H1 (decide ((m.sw.length : Int) ≤ m.g)) 5 _ ⟨Nat.le_refl _, Keeps.refl _, ?_⟩
     refine k_call rfl rfl rfl (fun b h => by cases h) (wop_callF rfl rfl rfl (fn := Tryz.f75) (by rfl) ?_)
     refine c75 hq H1 _ x m rfl hx1 ho1 hl (by omega) _ fun H2 k2 n2 => ⟨k2.nx, k2, ?_⟩
     refine k_loud rfl rfl (o_build5 rfl rfl rfl rfl rfl rfl rfl (by omega) ⟨k2.add _ (by omega), ?_⟩)
     refine k_call rfl rfl rfl (fun b h => by cases h) (wop_callF rfl rfl rfl (fn := Tryz.f72) (by rfl) ?_)
     refine c72 hq _ _ [(if inB m.g 1 16 = true then 0 else 3), (if (decide (m.g.tmod 2 = 0)) = true then 0 else 17), (if (true) = true then 0 else 3), (if decide ((m.sw.length : Int) ≤ m.g) = true then 0 else 5), swE m none m.sw] (sl_new (cs := ivs [(if inB m.g 1 16 = true then 0 else 3), (if (decide (m.g.tmod 2 = 0)) = true then 0 else 17), (if (true) = true then 0 else 3), (if decide ((m.sw.length : Int) ≤ m.g) = true then 0 else 5), swE m none m.sw]) (by omega) 5) (by show 5 ≤ 1000; decide) _ ⟨Nat.le_refl _, k2.add _ (by omega), ?_⟩
     have e := mE_firstNZ m
     rw [show okMesh m = (decide (m.g.tmod 2 = 0)) by simp [okMesh, hring], show okTurn m = (true) by simp [okTurn, ht]] at e
     rw [e]
     repeat (first | refine k_nil ?_ | refine k_assign rfl rfl rfl ?_)
     refine wp_ret ?_
     exact ⟨_, _, rfl, hk _ (k1.trans (k2.add _ (by omega))) (by show H2.next + 1 ≤ _; omega)⟩
   · have ht : ¬ m.t = 1 := by simpa using h
     clear h
     repeat (first | refine k_field rfl rfl rfl rfl ?_ | refine k_load rfl rfl rfl ‹_› ‹_› ?_ | refine k_lenI rfl rfl rfl rfl rfl rfl ‹_› ?_)
     refine k_bin (op := .leq) rfl rfl rfl rfl rfl rfl ?_
     repeat (first | refine k_load4 rfl rfl rfl rfl ‹_› ‹_› ?_)
     refine k_call rfl rfl rfl (fun b h => by cases h) (wop_callF rfl rfl rfl (fn := Tryz.f73) (by rfl) ?_)
     refine c73 hq H1 m.g 1 16 _ ⟨Nat.le_refl _, Keeps.refl _, ?_⟩
     repeat (first | refine k_move rfl rfl rfl ?_ | refine k_field rfl rfl rfl rfl ?_ | refine k_load rfl rfl rfl ‹_› ‹_› ?_)
     refine k_rem rfl rfl rfl rfl rfl (by decide) ?_
     refine k_bin (op := .eql) (v := .bool (decide (m.g.tmod 2 = 0))) rfl rfl rfl rfl rfl rfl ?_
     repeat (first | refine k_pick rfl rfl rfl rfl ?_)
     refine k_call rfl rfl rfl (fun b h => by cases h) (wop_callF rfl rfl rfl (fn := Tryz.f74) (by rfl) ?_)
     refine c74 hq H1 (decide (m.g.tmod 2 = 0)) 17 _ ⟨Nat.le_refl _, Keeps.refl _, ?_⟩
     repeat (first | refine k_move rfl rfl rfl ?_ | refine k_field rfl rfl rfl rfl ?_ | refine k_load rfl rfl rfl ‹_› ‹_› ?_)
     refine k_bin (op := .eql) (v := .bool (decide (m.t = -1))) rfl rfl rfl rfl rfl rfl ?_
     repeat (first | refine k_pick rfl rfl rfl rfl ?_)
     refine k_call rfl rfl rfl (fun b h => by cases h) (wop_callF rfl rfl rfl (fn := Tryz.f74) (by rfl) ?_)
     refine c74 hq H1 (decide (m.t = -1)) 3 _ ⟨Nat.le_refl _, Keeps.refl _, ?_⟩
     refine k_call rfl rfl rfl (fun b h => by cases h) (wop_callF rfl rfl rfl (fn := Tryz.f74) (by rfl) ?_)
     refine c74 hq H1 (decide ((m.sw.length : Int) ≤ m.g)) 5 _ ⟨Nat.le_refl _, Keeps.refl _, ?_⟩
     refine k_call rfl rfl rfl (fun b h => by cases h) (wop_callF rfl rfl rfl (fn := Tryz.f75) (by rfl) ?_)
     refine c75 hq H1 _ x m rfl hx1 ho1 hl (by omega) _ fun H2 k2 n2 => ⟨k2.nx, k2, ?_⟩
     refine k_loud rfl rfl (o_build5 rfl rfl rfl rfl rfl rfl rfl (by omega) ⟨k2.add _ (by omega), ?_⟩)
     refine k_call rfl rfl rfl (fun b h => by cases h) (wop_callF rfl rfl rfl (fn := Tryz.f72) (by rfl) ?_)
     refine c72 hq _ _ [(if inB m.g 1 16 = true then 0 else 3), (if (decide (m.g.tmod 2 = 0)) = true then 0 else 17), (if (decide (m.t = -1)) = true then 0 else 3), (if decide ((m.sw.length : Int) ≤ m.g) = true then 0 else 5), swE m none m.sw] (sl_new (cs := ivs [(if inB m.g 1 16 = true then 0 else 3), (if (decide (m.g.tmod 2 = 0)) = true then 0 else 17), (if (decide (m.t = -1)) = true then 0 else 3), (if decide ((m.sw.length : Int) ≤ m.g) = true then 0 else 5), swE m none m.sw]) (by omega) 5) (by show 5 ≤ 1000; decide) _ ⟨Nat.le_refl _, k2.add _ (by omega), ?_⟩
     have e := mE_firstNZ m
     rw [show okMesh m = (decide (m.g.tmod 2 = 0)) by simp [okMesh, hring], show okTurn m = (decide (m.t = -1)) by simp [okTurn, ht]] at e
     rw [e]
     repeat (first | refine k_nil ?_ | refine k_assign rfl rfl rfl ?_)
     refine wp_ret ?_
     exact ⟨_, _, rfl, hk _ (k1.trans (k2.add _ (by omega))) (by show H2.next + 1 ≤ _; omega)⟩
 | false =>
   repeat (first | refine k_field rfl rfl rfl rfl ?_ | refine k_load rfl rfl rfl ‹_› ‹_› ?_)
   refine k_cmp rfl rfl rfl rfl rfl rfl (fun h => ?_) (fun h => ?_)
   · have ht : m.t = 1 := by simpa using h
     clear h
     repeat (first | refine k_field rfl rfl rfl rfl ?_ | refine k_load rfl rfl rfl ‹_› ‹_› ?_ | refine k_lenI rfl rfl rfl rfl rfl rfl ‹_› ?_)
     refine k_bin (op := .leq) rfl rfl rfl rfl rfl rfl ?_
     repeat (first | refine k_load4 rfl rfl rfl rfl ‹_› ‹_› ?_)
     refine k_call rfl rfl rfl (fun b h => by cases h) (wop_callF rfl rfl rfl (fn := Tryz.f73) (by rfl) ?_)
     refine c73 hq H1 m.g 1 16 _ ⟨Nat.le_refl _, Keeps.refl _, ?_⟩
     repeat (first | refine k_skip rfl rfl ?_ | refine k_move rfl rfl rfl ?_ | refine k_pick rfl rfl rfl rfl ?_)
     refine k_call rfl rfl rfl (fun b h => by cases h) (wop_callF rfl rfl rfl (fn := Tryz.f74) (by rfl) ?_)
     refine c74 hq H1 true 17 _ ⟨Nat.le_refl _, Keeps.refl _, ?_⟩
     repeat (first | refine k_skip rfl rfl ?_ | refine k_move rfl rfl rfl ?_ | refine k_pick rfl rfl rfl rfl ?_)
     refine k_call rfl rfl rfl (fun b h => by cases h) (wop_callF rfl rfl rfl (fn := Tryz.f74) (by rfl) ?_)
     refine c74 hq H1 true 3 _ ⟨Nat.le_refl _, Keeps.refl _, ?_⟩
     refine k_call rfl rfl rfl (fun b h => by cases h) (wop_callF rfl rfl rfl (fn := Tryz.f74) (by rfl) ?_)
     refine c74 hq H1 (decide ((m.sw.length : Int) ≤ m.g)) 5 _ ⟨Nat.le_refl _, Keeps.refl _, ?_⟩
     refine k_call rfl rfl rfl (fun b h => by cases h) (wop_callF rfl rfl rfl (fn := Tryz.f75) (by rfl) ?_)
     refine c75 hq H1 _ x m rfl hx1 ho1 hl (by omega) _ fun H2 k2 n2 => ⟨k2.nx, k2, ?_⟩
     refine k_loud rfl rfl (o_build5 rfl rfl rfl rfl rfl rfl rfl (by omega) ⟨k2.add _ (by omega), ?_⟩)
     refine k_call rfl rfl rfl (fun b h => by cases h) (wop_callF rfl rfl rfl (fn := Tryz.f72) (by rfl) ?_)
     refine c72 hq _ _ [(if inB m.g 1 16 = true then 0 else 3), (if (true) = true then 0 else 17), (if (true) = true then 0 else 3), (if decide ((m.sw.length : Int) ≤ m.g) = true then 0 else 5), swE m none m.sw] (sl_new (cs := ivs [(if inB m.g 1 16 = true then 0 else 3), (if (true) = true then 0 else 17), (if (true) = true then 0 else 3), (if decide ((m.sw.length : Int) ≤ m.g) = true then 0 else 5), swE m none m.sw]) (by omega) 5) (by show 5 ≤ 1000; decide) _ ⟨Nat.le_refl _, k2.add _ (by omega), ?_⟩
     have e := mE_firstNZ m
     rw [show okMesh m = (true) by simp [okMesh, hring], show okTurn m = (true) by simp [okTurn, ht]] at e
     rw [e]
     repeat (first | refine k_nil ?_ | refine k_assign rfl rfl rfl ?_)
     refine wp_ret ?_
     exact ⟨_, _, rfl, hk _ (k1.trans (k2.add _ (by omega))) (by show H2.next + 1 ≤ _; omega)⟩
   · have ht : ¬ m.t = 1 := by simpa using h
     clear h
     repeat (first | refine k_field rfl rfl rfl rfl ?_ | refine k_load rfl rfl rfl ‹_› ‹_› ?_ | refine k_lenI rfl rfl rfl rfl rfl rfl ‹_› ?_)
     refine k_bin (op := .leq) rfl rfl rfl rfl rfl rfl ?_
     repeat (first | refine k_load4 rfl rfl rfl rfl ‹_› ‹_› ?_)
     refine k_call rfl rfl rfl (fun b h => by cases h) (wop_callF rfl rfl rfl (fn := Tryz.f73) (by rfl) ?_)
     refine c73 hq H1 m.g 1 16 _ ⟨Nat.le_refl _, Keeps.refl _, ?_⟩
     repeat (first | refine k_skip rfl rfl ?_ | refine k_move rfl rfl rfl ?_ | refine k_pick rfl rfl rfl rfl ?_)
     refine k_call rfl rfl rfl (fun b h => by cases h) (wop_callF rfl rfl rfl (fn := Tryz.f74) (by rfl) ?_)
     refine c74 hq H1 true 17 _ ⟨Nat.le_refl _, Keeps.refl _, ?_⟩
     repeat (first | refine k_move rfl rfl rfl ?_ | refine k_field rfl rfl rfl rfl ?_ | refine k_load rfl rfl rfl ‹_› ‹_› ?_)
     refine k_bin (op := .eql) (v := .bool (decide (m.t = -1))) rfl rfl rfl rfl rfl rfl ?_
     repeat (first | refine k_pick rfl rfl rfl rfl ?_)
     refine k_call rfl rfl rfl (fun b h => by cases h) (wop_callF rfl rfl rfl (fn := Tryz.f74) (by rfl) ?_)
     refine c74 hq H1 (decide (m.t = -1)) 3 _ ⟨Nat.le_refl _, Keeps.refl _, ?_⟩
     refine k_call rfl rfl rfl (fun b h => by cases h) (wop_callF rfl rfl rfl (fn := Tryz.f74) (by rfl) ?_)
     refine c74 hq H1 (decide ((m.sw.length : Int) ≤ m.g)) 5 _ ⟨Nat.le_refl _, Keeps.refl _, ?_⟩
     refine k_call rfl rfl rfl (fun b h => by cases h) (wop_callF rfl rfl rfl (fn := Tryz.f75) (by rfl) ?_)
     refine c75 hq H1 _ x m rfl hx1 ho1 hl (by omega) _ fun H2 k2 n2 => ⟨k2.nx, k2, ?_⟩
     refine k_loud rfl rfl (o_build5 rfl rfl rfl rfl rfl rfl rfl (by omega) ⟨k2.add _ (by omega), ?_⟩)
     refine k_call rfl rfl rfl (fun b h => by cases h) (wop_callF rfl rfl rfl (fn := Tryz.f72) (by rfl) ?_)
     refine c72 hq _ _ [(if inB m.g 1 16 = true then 0 else 3), (if (true) = true then 0 else 17), (if (decide (m.t = -1)) = true then 0 else 3), (if decide ((m.sw.length : Int) ≤ m.g) = true then 0 else 5), swE m none m.sw] (sl_new (cs := ivs [(if inB m.g 1 16 = true then 0 else 3), (if (true) = true then 0 else 17), (if (decide (m.t = -1)) = true then 0 else 3), (if decide ((m.sw.length : Int) ≤ m.g) = true then 0 else 5), swE m none m.sw]) (by omega) 5) (by show 5 ≤ 1000; decide) _ ⟨Nat.le_refl _, k2.add _ (by omega), ?_⟩
     have e := mE_firstNZ m
     rw [show okMesh m = (true) by simp [okMesh, hring], show okTurn m = (decide (m.t = -1)) by simp [okTurn, ht]] at e
     rw [e]
     repeat (first | refine k_nil ?_ | refine k_assign rfl rfl rfl ?_)
     refine wp_ret ?_
     exact ⟨_, _, rfl, hk _ (k1.trans (k2.add _ (by omega))) (by show H2.next + 1 ≤ _; omega)⟩
end Go.Ev
namespace Go.Ev
open Go.Proofs
def cE (m : Mc) (l : List Int) : Int := if mE m ≠ 0 then mE m else lE m l
theorem mE_g {m : Mc} (h : mE m = 0) : 1 ≤ m.g ∧ m.g ≤ 16 := by
 unfold mE at h
 split at h
 · cases h
 · rename_i h1
   exact of_decide_eq_true (show inB m.g 1 16 = true by simpa using h1)
variable {O : CallF} (hq : Quiet O)
include hq
theorem c15 (H : AH) (a x y : AV) (m : Mc) (l : List Int) (ha : a.cells = mc m x) (hx : Sl H x (ivs m.sw)) (ho : Old H x) (hy : Sl H y (ivs l)) (hoy : Old H y) (hr : H.next < 2 ^ 39) (K : AV → AH → Prop) (hk : ∀ H', Keeps H H' → H'.next = H.next + 1 → K (.v (.bool (decide (m.sw.length ≤ 19 ∧ l.length ≤ 67)))) H') : Ca (ENV O) 15 [a, y] H K := by
 refine ca_intro (hq _ _ _ rfl) (fn := Tryz.f15) (by rfl) rfl ?_
 repeat (first | apply qR | apply qS)
 refine wops_cons (o_boxM rfl rfl ha hr fun H1 n1 k1 b1 => ?_)
 have hp3 := b1.p3
 have hx1 := hx.keep ho k1
 have hy1 := hy.keep hoy k1
 have hk := hk H1 k1 n1
 repeat (first | apply qN | refine qM rfl rfl ?_ | refine zqa rfl rfl rfl ?_ | refine zq5 rfl rfl rfl rfl rfl ‹_› ?_ | refine zq6 rfl rfl ‹_› ?_ | apply qR | apply qS)
 refine wops_cons (wop_cmp rfl rfl rfl rfl rfl (fun h => ?_) (fun h => ?_))
 · have h1 : m.sw.length ≤ 19 := by have : (m.sw.length : Int) ≤ 19 := of_decide_eq_true h
                                    omega
   clear h
   repeat (first | refine qM rfl rfl ?_ | refine zq5 rfl rfl rfl rfl rfl ‹_› ?_)
   refine wops_cons (wop_cmp rfl rfl rfl rfl rfl (fun h => ?_) (fun h => ?_))
   · have h2 : l.length ≤ 67 := by have : (l.length : Int) ≤ 67 := of_decide_eq_true h
                                   omega
     rw [decide_eq_true (show m.sw.length ≤ 19 ∧ l.length ≤ 67 from ⟨h1, h2⟩)] at hk
     repeat (first | apply qN | refine qM rfl rfl ?_ | refine zq7 rfl rfl rfl ?_)
     refine wp_ret ?_
     exact ⟨_, _, rfl, hk⟩
   · have h2 : ¬ l.length ≤ 67 := by have : ¬ (l.length : Int) ≤ 67 := of_decide_eq_false h
                                     omega
     rw [decide_eq_false (show ¬ (m.sw.length ≤ 19 ∧ l.length ≤ 67) from fun e => h2 e.2)] at hk
     repeat (first | apply qN | refine qM rfl rfl ?_ | refine zq7 rfl rfl rfl ?_)
     refine wp_ret ?_
     exact ⟨_, _, rfl, hk⟩
 · have h1 : ¬ m.sw.length ≤ 19 := by have : ¬ (m.sw.length : Int) ≤ 19 := of_decide_eq_false h
                                      omega
   rw [decide_eq_false (show ¬ (m.sw.length ≤ 19 ∧ l.length ≤ 67) from fun e => h1 e.1)] at hk
   repeat (first | apply qN | refine zq1 rfl rfl ?_ | refine qM rfl rfl ?_ | refine zq7 rfl rfl rfl ?_)
   refine wp_ret ?_
   exact ⟨_, _, rfl, hk⟩
theorem c26 (H : AH) (a x y : AV) (m : Mc) (l : List Int) (ha : a.cells = mc m x) (hx : Sl H x (ivs m.sw)) (ho : Old H x) (hLx : ∀ b, x.own = some b → Lk H b) (hy : Sl H y (ivs l)) (hoy : Old H y) (hLy : ∀ b, y.own = some b → Lk H b) (hl : m.sw.length ≤ 100000) (hll : l.length ≤ 100000) (hr : H.next + m.sw.length + l.length + 100 < 2 ^ 39) (K : AV → AH → Prop) (hk : ∀ H', Keeps H H' → H'.next ≤ H.next + m.sw.length + l.length + 6 → K (iv (cE m l)) H') : Ca (ENV O) 26 [a, y] H K := by
 refine ca_intro (hq _ _ _ rfl) (fn := Tryz.f26) (by rfl) rfl ?_
 repeat (first | apply qR | apply qS)
 refine wops_cons (o_boxM rfl rfl ha (by omega) fun H1 n1 k1 b1 => ?_)
 have hx1 := hx.keep ho k1
 have ho1 := ho.keep k1
 have hLx1 : ∀ b, x.own = some b → Lk H1 b := fun b hb => (hLx b hb).keep k1
 repeat (first | apply qN | refine qM rfl rfl ?_ | refine zqb rfl rfl rfl ‹_› ?_ | apply qR | apply qS)
 refine wops_cons (wop_callF rfl rfl rfl (fn := Tryz.f16) (by rfl) ?_)
 refine c16 hq H1 _ x m rfl hx1 ho1 hLx1 hl (by omega) _ fun H2 k2 n2 => ⟨k2.nx, ?_⟩
 repeat (first | apply qN | refine qM rfl rfl ?_ | apply qR | apply qS)
 refine wops_cons (wop_cmp rfl rfl rfl rfl rfl (fun h => ?_) (fun h => ?_))
 · have h : mE m ≠ 0 := by simpa using h
   have hk := hk H2 (k1.trans k2) (by omega)
   rw [cE, if_pos h] at hk
   repeat (first | apply qN | refine qM rfl rfl ?_ | refine qT rfl ?_ | apply qR | apply qS)
   refine wp_ret ?_
   exact ⟨_, _, rfl, hk⟩
 have h0 : ¬ mE m ≠ 0 := by simpa using h
 rw [cE, if_neg h0] at hk
 have hm0 : mE m = 0 := by omega
 clear h
 have b2 := b1.keep (by omega) k2
 repeat (first | apply qN | refine qM rfl rfl ?_ | refine zqb rfl rfl rfl ‹_› ?_ | refine qF rfl ?_ | apply qR | apply qS | apply qK)
 refine wops_cons (wop_callF rfl rfl rfl (fn := Tryz.f69) (by rfl) ?_)
 refine c69 hq H2 _ x y m l rfl (mE_g hm0) hx.beq (hy.keep hoy (k1.trans k2)) (hoy.keep (k1.trans k2)) (fun b hb => (hLy b hb).keep (k1.trans k2)) hll (by omega) _ fun H3 k3 n3 => ⟨k3.nx, ?_⟩
 repeat (first | apply qN | refine qM rfl rfl ?_)
 refine wp_ret ?_
 exact ⟨_, _, rfl, hk H3 ((k1.trans k2).trans k3) (by omega)⟩
theorem c101 (H : AH) (x : AV) (l : List Int) (z : Int) (hx : Sl H x (ivs l)) (hlen : l.length ≤ 100000) (K : AV → AH → Prop) (hk : K (iv (if z ∈ l then (l.idxOf z : Int) else -1)) H) : Ca (ENV O) 101 [x, iv z] H K := by
 refine ca_intro (hq _ _ _ rfl) (fn := Tryz.f101) (by rfl) rfl ?_
 repeat (first | apply qN | refine qM rfl rfl ?_ | refine zq5 rfl rfl rfl rfl rfl ‹_› ?_ | apply qR | apply qS | apply qB)
 refine wp_loop (fun q T M H' => ∃ (i : Nat) (Y : List AV), q = l.length - i ∧ i ≤ l.length ∧ (∀ j, j < i → l[j]? ≠ some z) ∧ H' = H ∧ M = [] ∧ T = (x :: iv z :: lget Y 0 :: lget Y 1 :: lget Y 2 :: lget Y 3 :: lget Y 4 :: iv l.length :: iv (i : Nat) :: lget Y 5 :: lget Y 6 :: lget Y 7 :: lget Y 8 :: lget Y 9 :: lget Y 10 :: lget Y 11 :: lget Y 12 :: lget Y 13 :: lget Y 14 :: [])) l.length
   ⟨0, [_,_,_,_,_,_,_,_,_,_,_,_,_,_,_], rfl, Nat.zero_le _, fun j hj => absurd hj (Nat.not_lt_zero _), rfl, rfl, rfl⟩ ?_
 rintro q T M H' ⟨i, Y, hq1, hi, hne, rfl, rfl, rfl⟩
 repeat (first | apply qR | apply qS)
 refine wops_cons (wop_cmp rfl rfl rfl rfl rfl (fun h => ?_) (fun h => ?_))
 rotate_left
 · have h : ¬ ((i : Int) < l.length) := of_decide_eq_false h
   rw [if_neg (show ¬ z ∈ l from fun hz => by
     obtain ⟨j, hj⟩ := List.getElem?_of_mem hz
     exact hne j (by have := (List.getElem?_eq_some_iff.1 hj).1; omega) hj)] at hk
   repeat (first | apply qN | refine qM rfl rfl ?_ | refine qF rfl ?_ | apply qR | apply qS | apply qE)
   refine wp_ret ?_
   exact ⟨_, _, rfl, hk⟩
 have h : (i : Int) < l.length := of_decide_eq_true h
 obtain ⟨w, hw⟩ := l_some (show i < l.length by omega)
 repeat (first | apply qN | refine qM rfl rfl ?_ | refine qT rfl ?_ | apply qR | apply qS | apply qK | apply qB)
 refine wops_cons (o_indexI rfl rfl hx rfl hw fun p hp => ?_)
 repeat (first | refine zq6 rfl rfl ‹_› ?_)
 refine wops_cons (wop_cmp rfl rfl rfl rfl rfl (fun h => ?_) (fun h => ?_))
 · have h : z = w := by simpa using h
   subst h
   have hidx : l.idxOf z = i := by
     have hlt := (List.getElem?_eq_some_iff.1 hw).1
     have hmem : z ∈ l := List.mem_of_getElem? hw
     have hil : l.idxOf z < l.length := List.idxOf_lt_length_iff.2 hmem
     have h1 : l[l.idxOf z]? = some z := by rw [List.getElem?_eq_getElem hil, List.getElem_idxOf]
     have h2 : l.idxOf z ≤ i := by
       rcases Nat.lt_or_ge i (l.idxOf z) with h' | h'
       · exact absurd (List.getElem?_eq_some_iff.1 hw).2 (by have := List.not_of_lt_findIdx (p := (· == z)) (xs := l) (i := i) h'; simpa using this)
       · exact h'
     rcases Nat.lt_or_ge (l.idxOf z) i with h' | h'
     · exact absurd h1 (hne _ h')
     · omega
   rw [if_pos (List.mem_of_getElem? hw), hidx] at hk
   repeat (first | apply qN | refine qM rfl rfl ?_ | refine qT rfl ?_ | apply qR | apply qS)
   refine wp_ret ?_
   exact ⟨_, _, rfl, hk⟩
 have hwz : z ≠ w := by simpa using h
 clear h
 repeat (first | apply qN | refine qM rfl rfl ?_ | refine zq4 rfl rfl rfl rfl (inc (by omega)) ?_ | refine qF rfl ?_ | apply qR | apply qK)
 refine ⟨l.length - (i + 1), by omega, i + 1, [_,_,_,_,_,_,_,_,_,_,_,_,_,_,_], rfl, by omega, fun j hj => ?_, rfl, rfl, rfl⟩
 by_cases e : j = i
 · subst e; rw [hw]; exact fun e => hwz (Option.some.inj e).symm
 · exact hne j (by omega)
theorem c85 (H : AH) (x : AV) (l : List Int) (z : Int) (hx : Sl H x (ivs l)) (hlen : l.length ≤ 100000) (K : AV → AH → Prop) (hk : K (.v (.bool (decide (z ∈ l)))) H) : Ca (ENV O) 85 [x, iv z] H K := by
 refine ca_intro (hq _ _ _ rfl) (fn := Tryz.f85) (by rfl) rfl ?_
 repeat (first | apply qN | refine qM rfl rfl ?_ | apply qR | apply qS)
 refine wops_cons (wop_callF rfl rfl rfl (fn := Tryz.f101) (by rfl) ?_)
 refine c101 hq H x l z hx hlen _ ⟨Nat.le_refl _, ?_⟩
 by_cases hz : z ∈ l
 · rw [if_pos hz]
   rw [decide_eq_true hz] at hk
   refine wops_cons (wop_bin (op := .geq) (v := .bool true) rfl rfl rfl rfl ?_ ?_)
   · show some (Value.bool (decide ((l.idxOf z : Int) ≥ 0))) = _
     rw [decide_eq_true (by omega)]
   repeat (first | apply qN | refine qM rfl rfl ?_)
   refine wp_ret ?_
   exact ⟨_, _, rfl, hk⟩
 · rw [if_neg hz]
   rw [decide_eq_false hz] at hk
   refine wops_cons (wop_bin (op := .geq) (v := .bool false) rfl rfl rfl rfl rfl ?_)
   repeat (first | apply qN | refine qM rfl rfl ?_)
   refine wp_ret ?_
   exact ⟨_, _, rfl, hk⟩
end Go.Ev
