/- Part of an evaluator of calls that is proved sound, and of what it gives about this program. No condition of its own. -/
import Derived.Test.YtcbmpnddhnkfnaaGreatDoorEwXg
set_option linter.unusedVariables false
set_option linter.unusedSimpArgs false
set_option linter.unusedSectionVars false
set_option maxRecDepth 100000
set_option maxHeartbeats 4000000
namespace Go.Ev
open Go.Proofs
theorem freeL_in {m : Mc} {n : Nat} {l : List Int} {i : Nat} {z : Int} (h : z ∈ freeL m n l i) : z ∉ l ∧ never m (l ++ [z]) n := by
 unfold freeL at h
 obtain ⟨k, hk, rfl⟩ := List.mem_map.1 h
 simpa using (List.mem_filter.1 hk).2
theorem freeL_inc (m : Mc) (n : Nat) (l : List Int) (i : Nat) : (freeL m n l i).Pairwise (· < ·) := by
 unfold freeL
 rw [List.pairwise_map]
 exact (List.pairwise_lt_range.sublist List.filter_sublist).imp fun h => Int.ofNat_lt.2 h
section
variable {O : CallF} {T : List AV} {H H0 : AH} {ops : Array Oper} {o : Oper} {i : Nat} {π : List Stp}
end
variable {O : CallF} (hq : Quiet O)
include hq
end Go.Ev
namespace Go.Ev
open Go.Proofs
theorem upB_assoc (a b c : List Int) : upB (upB a b) c = upB a (upB b c) := by
 unfold upB
 by_cases h1 : a.length < b.length
 · rw [if_pos h1]
   by_cases h2 : b.length < c.length
   · rw [if_pos h2, if_pos (by omega)]
   · rw [if_neg h2, if_pos h1]
 · rw [if_neg h1]
   by_cases h2 : b.length < c.length
   · rw [if_pos h2]
   · rw [if_neg h2, if_neg h1, if_neg (by omega)]
theorem upB_nil (b : List Int) : upB [] b = b := by
 unfold upB
 split
 · rfl
 · next h => exact (List.eq_nil_of_length_eq_zero (by simpa using h)).symm
def bstX (w : Int → List Int → List Int) : Nat → List Int → List Int → List Int
 | 0 => fun load _ => load
 | k + 1 => fun load slots => rnd (fun b l s => upB b (bstX w k l s)) w load load slots
theorem rnd_up {w : Int → List Int → List Int} {load b : List Int} {e : List Int → List Int → List Int → List Int} {f : List Int → List Int → List Int} : ∀ (slots c : List Int), (∀ s t, (s :: t) <:+ slots → ∀ b, e b (load ++ [s]) (w s t) = upB b (f (load ++ [s]) (w s t))) → rnd e w load (upB b c) slots = upB b (rnd (fun b l s => upB b (f l s)) w load c slots)
 | [], c, _ => rfl
 | s :: t, c, h => by
   show rnd e w load (e (upB b c) (load ++ [s]) (w s t)) t = upB b (rnd _ w load (upB c (f (load ++ [s]) (w s t))) t)
   rw [h s t (List.suffix_refl _), upB_assoc]
   exact rnd_up t _ fun s' t' h' => h s' t' (h'.trans (List.suffix_cons _ _))
theorem ext_eq {w : Int → List Int → List Int} (hw : ∀ s t, (w s t).length ≤ t.length) : ∀ (k : Nat) (best load slots : List Int), slots.length ≤ k → ext w k best load slots = upB best (bstX w k load slots)
 | 0, best, load, slots, h => by
   have e : slots = [] := List.eq_nil_of_length_eq_zero (by omega)
   subst e
   rfl
 | k + 1, best, load, slots, h => by
   show rnd (ext w k) w load (upB best load) slots = upB best (rnd _ w load load slots)
   refine rnd_up slots load fun s t hs b => ext_eq hw k b _ _ ?_
   have := hw s t
   have := hs.length_le
   simp only [List.length_cons] at this
   omega
theorem never_two {m : Mc} {n : Nat} {s z : Int} (hV : Vld m [s] n) (hz : 0 ≤ z ∧ z < ((4 * n : Nat) : Int)) (hev : m.ring = true → n % 2 = 0) (hn : never m [s] n) : never m [s, z] n ↔ ∀ j, ¬ meetAt m n z.toNat s.toNat j := by
 have := never_snoc hV hz hev hn
 simpa using this
theorem never_one {m : Mc} {n : Nat} {s : Int} (hV : Vld m [] n) (hs : 0 ≤ s ∧ s < ((4 * n : Nat) : Int)) (hev : m.ring = true → n % 2 = 0) : never m [s] n :=
 (never_snoc hV hs hev (never_nil m n)).2 fun z hz => by cases hz
end Go.Ev
namespace Go.Ev
open Go.Proofs
variable {O : CallF} (hq : Quiet O)
include hq
theorem cFreeG (H : AH) (a x y : AV) (m : Mc) (l : List Int) (n : Nat) (ha : a.cells = mc m x) (hx : Sl H x (ivs m.sw)) (ho : Old H x) (hyG : Gr H 3 y (ivs l)) (h6 : Vld m l n) (hl10 : l.length ≤ 67) (hnev : never m l n) (hr : H.next + 200000000 < 2 ^ 39)
   (K : AV → AH → Prop) (hk : ∀ H' r fr, Keeps H H' → H'.next ≤ H.next + 100000000 → Gr H' 3 r (ivs fr) → fr = freeL m n l (4 * n) → K (.tup [r, iv 0]) H') : Ca (ENV O) 39 [a, y] H K := by
 refine ca_intro (hq _ _ _ rfl) (fn := Tryz.f39) (by rfl) rfl ?_
 have hg := h6.hg
 have hn6 := h6.hn
 have hsw := h6.hsw
 have hky : Ky H y l := hyG.ky
 repeat (first | apply qR | apply qS)
 refine wops_cons (o_boxM rfl rfl ha (by omega) fun H1 n1 k1 b1 => ?_)
 repeat (first | apply qN | refine qM rfl rfl ?_ | refine zqb rfl rfl rfl ‹_› ?_ | apply qR | apply qS)
 refine wops_cons (wop_callF rfl rfl rfl (fn := Tryz.f35) (by rfl) ?_)
 have hy1 := hky.keep k1
 refine c35 hq H1 _ x y m l n _ rfl (hx.keep ho k1) (ho.keep k1) hy1.sl hy1.old hy1.cap hy1.lk h6.good (by omega) _ (fun H2 k p k2 n2 f1 => (mtF_not f1 (hnev _)).elim) (fun H2 k2 n2 f1 => ⟨k2.nx, ?_⟩)
 have k02 := k1.trans k2
 have b2 := b1.keep (by omega) k2
 have hp1 := b2.p1
 rw [hg] at hp1
 repeat (first | apply qN | refine qM rfl rfl ?_ | apply qR | apply qS)
 refine wops_cons (wop_bin (op := .neq) (v := .bool false) rfl rfl rfl rfl rfl ?_)
 repeat (first | apply qN | refine qM rfl rfl ?_ | refine zqa rfl rfl rfl ?_ | refine zq6 rfl rfl ‹_› ?_ | refine qF rfl ?_ | apply qR | apply qS | apply qK)
 refine wops_cons (wop_bin (op := .mul) (v := .int .i64 ((4 * n : Nat) : Int)) rfl rfl rfl rfl ?_ ?_)
 · rw [mul4 (by omega)]; congr 2
 clear hp1
 repeat (first | apply qN | refine qM rfl rfl ?_ | apply qB)
 refine wp_loop (fun q T M H' => ∃ (i : Nat) (Y : List AV) (r : AV) (fr : List Int), q = 4 * n - i ∧ i ≤ 4 * n ∧ Keeps H H' ∧ H.next < H'.next ∧ H'.next ≤ H.next + 1000000 + i * 1000000 ∧ Bx H' H.next 24 m x ∧ Gr H' 3 r (ivs fr) ∧ (∀ b, r.own = some b → H.next < b) ∧ fr = freeL m n l i ∧ M = [] ∧ T = (lget Y 0 :: y :: .ptr H.next 0 :: lget Y 1 :: lget Y 2 :: lget Y 3 :: lget Y 4 :: r :: lget Y 5 :: lget Y 6 :: lget Y 7 :: lget Y 8 :: lget Y 9 :: lget Y 10 :: lget Y 11 :: lget Y 12 :: lget Y 13 :: iv (4 * n : Nat) :: iv (i : Nat) :: lget Y 14 :: lget Y 15 :: lget Y 16 :: lget Y 17 :: lget Y 18 :: lget Y 19 :: lget Y 20 :: lget Y 21 :: lget Y 22 :: lget Y 23 :: lget Y 24 :: lget Y 25 :: lget Y 26 :: lget Y 27 :: lget Y 28 :: lget Y 29 :: lget Y 30 :: lget Y 31 :: lget Y 32 :: lget Y 33 :: lget Y 34 :: [])) (4 * n)
   ⟨0, [_,_,_,_,_,_,_,_,_,_,_,_,_,_,_,_,_,_,_,_,_,_,_,_,_,_,_,_,_,_,_,_,_,_,_], .v (.slice none 0 0), [], rfl, Nat.zero_le _, k02, by have := k2.nx; omega, by omega, b2, .inl ⟨rfl, rfl⟩, (fun b hb => by cases hb), rfl, rfl, rfl⟩ ?_
 rintro q T M H4 ⟨i, Y, r, fr, hq1, hi, k4, h4n, n4, b4, hG, hro, hfr, rfl, rfl⟩
 have hy4 := hky.keep k4
 have hB4 : ∀ b, (AV.ptr H.next 0).own = some b → Lk H4 b := b4.lk h4n (hx.keep ho k4)
 repeat (first | apply qR | apply qS)
 refine wops_cons (wop_cmp rfl rfl rfl rfl rfl (fun h => ?_) (fun h => ?_))
 rotate_left
 · have h : ¬ ((i : Int) < (4 * n : Nat)) := of_decide_eq_false h
   repeat (first | apply qN | refine qM rfl rfl ?_ | refine qF rfl ?_ | apply qR | apply qS | apply qE)
   refine wp_ret ?_
   exact ⟨_, _, rfl, hk H4 r fr k4 (by omega) hG (by rw [hfr, show i = 4 * n by omega])⟩
 have h : (i : Int) < (4 * n : Nat) := of_decide_eq_true h
 have hsb : 0 ≤ (i : Int) ∧ (i : Int) < ((4 * n : Nat) : Int) := ⟨by omega, h⟩
 clear h
 repeat (first | apply qN | refine qM rfl rfl ?_ | refine qT rfl ?_ | apply qR | apply qS | apply qK | apply qB)
 refine Wp.mono (Q := fun x' T' M' H' => x' = .normal ∧ M' = [] ∧ Keeps H4 H' ∧ H'.next ≤ H4.next + 900000 ∧ ∃ (Y : List AV) (c : Bool), T' = (lget Y 0 :: y :: .ptr H.next 0 :: lget Y 1 :: lget Y 2 :: lget Y 3 :: lget Y 4 :: r :: iv (i : Nat) :: lget Y 5 :: lget Y 6 :: lget Y 7 :: lget Y 8 :: lget Y 9 :: lget Y 10 :: lget Y 11 :: lget Y 12 :: iv (4 * n : Nat) :: iv (i : Nat) :: lget Y 13 :: lget Y 14 :: lget Y 15 :: lget Y 16 :: lget Y 17 :: lget Y 18 :: lget Y 19 :: lget Y 20 :: lget Y 21 :: lget Y 22 :: lget Y 23 :: lget Y 24 :: lget Y 25 :: lget Y 26 :: .v (.bool c) :: lget Y 27 :: lget Y 28 :: lget Y 29 :: lget Y 30 :: lget Y 31 :: lget Y 32 :: []) ∧ (c = true ↔ (i : Int) ∉ l ∧ never m (l ++ [(i : Int)]) n)) (wp_drawK rfl ?_) ?_
 · repeat (first | refine k_move rfl rfl rfl ?_)
   refine k_call rfl rfl rfl (fun b h => by cases h) (wop_callF rfl rfl rfl (fn := Tryz.f85) (by rfl) ?_)
   refine c85 hq H4 y l i hy4.sl (by omega) _ ⟨Nat.le_refl _, Keeps.refl _, ?_⟩
   by_cases hin : (i : Int) ∈ l
   · rw [decide_eq_true hin]
     refine k_not rfl rfl rfl rfl ?_
     repeat (first | refine k_skip rfl rfl ?_ | refine k_move rfl rfl rfl ?_)
     refine k_loudSkip rfl rfl (Keeps.refl _) ?_
     refine k_alcSkip rfl rfl ?_
     refine k_loudSkip rfl rfl (Keeps.refl _) ?_
     refine k_loudSkip rfl rfl (Keeps.refl _) ?_
     repeat (first | refine k_nil ?_ | refine k_pick rfl rfl rfl rfl ?_)
     exact ⟨rfl, rfl, Keeps.refl _, by omega, [_,_,_,_,_,_,_,_,_,_,_,_,_,_,_,_,_,_,_,_,_,_,_,_,_,_,_,_,_,_,_,_,_], false, rfl, ⟨(fun h => by cases h), fun h => absurd hin h.1⟩⟩
   rw [decide_eq_false hin]
   refine k_not rfl rfl rfl rfl ?_
   repeat (first | refine k_move rfl rfl rfl ?_ | refine k_load4 rfl rfl rfl rfl ‹_› ‹_› ?_)
   refine k_call rfl rfl rfl (fun b h => by cases h) (wop_callF rfl rfl rfl (fn := Tryz.f92) (by rfl) ?_)
   refine cCloneG hq H4 y l (hyG.frame k4.nx fun b hb => k4.get b (hyG.old b hb)) (by omega) (by omega) _ fun H5 r5 k5 n5 hA5 hn5 => ⟨k5.nx, k5, ?_⟩
   have r39 : H5.next < 2 ^ 39 := by omega
   refine k_build1 rfl rfl rfl rfl r39 ?_
   refine WK.mem (fun H6 => Keeps H4 H6 ∧ H6.next = H5.next + 1 ∧ Ap H6 r5 l ∧ H6.get H5.next = some (.cells [iv (i : Int)] 3 0)) ⟨k5.add _ r39, rfl, hA5.keep ((Keeps.refl H5).add _ r39), get_add_eq r39⟩ ?_
   rintro H6 ⟨k6, n6, hA6, g6⟩
   refine k_loud rfl rfl (o_append1A (H0 := H4) (l := l) (z := (i : Int)) rfl rfl rfl rfl rfl (by omega) (by omega) rfl g6 hA6 hn5 k6 fun r7 H7 hA7 _ k7 n7 _ => ⟨k7, ?_⟩)
   have h6s := h6.snoc hsb hin
   have hky7 := hA7.ky
   refine k_call rfl rfl rfl (fun b h => by cases h) (wop_callF rfl rfl rfl (fn := Tryz.f89) (by rfl) ?_)
   have k47 := k4.trans k7
   refine c89 hq H7 _ x r7 m (l ++ [(i : Int)]) n _ rfl (hx.keep ho k47) (ho.keep k47) hky7.sl hky7.old hky7.lk h6s.good (by omega) _ (fun H8 k p k8 n8 f1 => ⟨k8.nx, k7.trans k8, ?_⟩) (fun H8 k8 n8 f1 => ⟨k8.nx, k7.trans k8, ?_⟩)
   · repeat (first | refine k_nil ?_ | refine k_pick rfl rfl rfl rfl ?_)
     exact ⟨rfl, rfl, k7.trans k8, by omega, [_,_,_,_,_,_,_,_,_,_,_,_,_,_,_,_,_,_,_,_,_,_,_,_,_,_,_,_,_,_,_,_,_], false, rfl, ⟨(fun h => by cases h), fun h => (mtF_not f1 (h.2 _)).elim⟩⟩
   · repeat (first | refine k_nil ?_ | refine k_pick rfl rfl rfl rfl ?_)
     exact ⟨rfl, rfl, k7.trans k8, by omega, [_,_,_,_,_,_,_,_,_,_,_,_,_,_,_,_,_,_,_,_,_,_,_,_,_,_,_,_,_,_,_,_,_], true, rfl, ⟨fun _ => ⟨hin, f1⟩, fun _ => rfl⟩⟩
 rintro x' T' M' H5 ⟨rfl, rfl, k5, n5, Y2, c, rfl, hc⟩
 have k05 := k4.trans k5
 have h5n := k5.nx
 have hb5 : H5.next ≤ H.next + 1000000 + (i + 1) * 1000000 := bndF n5 n4
 have hb6 : H.next < H5.next := Nat.lt_of_lt_of_le h4n h5n
 have hfl : fr.length ≤ i := by rw [hfr]; exact freeL_len _ _ _ _
 have b5 := b4.keep h4n k5
 have hG5 := hG.frame k5.nx fun b hb => k5.get b (hG.old b hb)
 skip
 refine wp_cond rfl (fun h => ?_) (fun h => ?_)
 · have hc1 := hc.1 h
   have r5 : H5.next < 2 ^ 39 := by omega
   repeat (first | refine qM rfl rfl ?_ | apply qR)
   refine wops_cons (o_build1 rfl rfl rfl r5 ?_)
   have k6 := (Keeps.refl H5).add (.cells [iv (i : Int)] 3 0) r5
   have g6 : (H5.add (.cells [iv (i : Int)] 3 0)).get H5.next = some (.cells [iv (i : Int)] 3 0) := get_add_eq r5
   have n6 : (H5.add (.cells [iv (i : Int)] 3 0)).next = H5.next + 1 := rfl
   have hG6 := hG5.frame k6.nx fun b hb => k6.get b (hG5.old b hb)
   refine WOps.mem (fun H6 => Keeps H5 H6 ∧ H6.next = H5.next + 1 ∧ Gr H6 3 r (ivs fr) ∧ H6.get H5.next = some (.cells [iv (i : Int)] 3 0)) ⟨k6, n6, hG6, g6⟩ ?_
   clear k6 g6 n6 hG6
   rintro H6 ⟨k6, n6, hG6, g6⟩
   refine wops_cons (o_append (cs := ivs fr) (v := iv (i : Int)) rfl rfl rfl rfl rfl (by rw [ivs_length]; omega) (by omega) rfl g6 rfl hG6 fun r7 H7 e7 n7 gl7 g7 g7' hG7 => ?_)
   have k56 := k05.trans k6
   repeat (first | apply qN | refine qM rfl rfl ?_ | refine zq4 rfl rfl rfl rfl (inc (by omega)) ?_ | apply qR)
   refine ⟨4 * n - (i + 1), by omega, i + 1, [_,_,_,_,_,_,_,_,_,_,_,_,_,_,_,_,_,_,_,_,_,_,_,_,_,_,_,_,_,_,_,_,_,_,_], r7, fr ++ [(i : Int)], rfl, by omega, ⟨by omega, gl7.trans k56.gl, fun b hb => ?_⟩, by omega, by omega, ⟨b5.lt, ?_⟩, by rw [ivs_snoc]; exact hG7, fun b hb => ?_, by rw [hfr, freeL_succ, if_pos hc1], rfl, rfl⟩
   · rw [g7 b (by omega) (fun e => by have := hro b e; omega)]; exact k56.get b hb
   · rw [g7 H.next (by omega) (fun e => by have := hro _ e; omega)]
     exact (k6.get _ (by omega)).trans b5.g
   · rw [e7] at hb; cases hb; omega
 · repeat (first | apply qN | refine qM rfl rfl ?_ | refine zq4 rfl rfl rfl rfl (inc (by omega)) ?_ | apply qR | apply qK)
   exact ⟨4 * n - (i + 1), by omega, i + 1, [_,_,_,_,_,_,_,_,_,_,_,_,_,_,_,_,_,_,_,_,_,_,_,_,_,_,_,_,_,_,_,_,_,_,_], r, fr, rfl, by omega, k05, hb6, hb5, b5, hG5, hro, by rw [freeL_succ, if_neg (fun e => by rw [hc.2 e] at h; cases h), List.append_nil]; exact hfr, rfl, rfl⟩
theorem c39m (H : AH) (a x y : AV) (m : Mc) (l : List Int) (n : Nat) (ha : a.cells = mc m x) (hx : Sl H x (ivs m.sw)) (ho : Old H x) (hy : Ky H y l) (hV : Vld m l n) (hnev : ¬ never m l n) (hr : H.next + 10000000 < 2 ^ 39)
   (K : AV → AH → Prop) (hk : ∀ (H' : AH), Keeps H H' → H'.next ≤ H.next + 1000000 → K (.tup [.v (.slice none 0 0), iv 16]) H') : Ca (ENV O) 39 [a, y] H K := by
 refine ca_intro (hq _ _ _ rfl) (fn := Tryz.f39) (by rfl) rfl ?_
 repeat (first | apply qR | apply qS)
 refine wops_cons (o_boxM rfl rfl ha (by omega) fun H1 n1 k1 b1 => ?_)
 repeat (first | apply qN | refine qM rfl rfl ?_ | refine zqb rfl rfl rfl ‹_› ?_ | apply qR | apply qS)
 refine wops_cons (wop_callF rfl rfl rfl (fn := Tryz.f35) (by rfl) ?_)
 have hy1 := hy.keep k1
 refine c35 hq H1 _ x y m l n _ rfl (hx.keep ho k1) (ho.keep k1) hy1.sl hy1.old hy1.cap hy1.lk hV.good (by omega) _ (fun H2 k p k2 n2 f1 => ⟨k2.nx, ?_⟩) (fun H2 k2 n2 f1 => (hnev f1).elim)
 repeat (first | apply qN | refine qM rfl rfl ?_ | apply qR | apply qS)
 refine wops_cons (wop_bin (op := .neq) (v := .bool true) rfl rfl rfl rfl (by simp [binI]) ?_)
 repeat (first | apply qN | refine qM rfl rfl ?_ | refine qT rfl ?_ | apply qR | apply qS)
 refine wp_ret ?_
 exact ⟨_, _, rfl, hk H2 (k1.trans k2) (by omega)⟩
end Go.Ev
