/- Part of an evaluator of calls that is proved sound, and of what it gives about this program. No condition of its own. -/
import Derived.Test.YtcbmpnddhnkfnaaGreatDoorEvKf
set_option linter.unusedVariables false
set_option linter.unusedSimpArgs false
set_option linter.unusedSectionVars false
set_option maxRecDepth 100000
set_option maxHeartbeats 4000000
namespace Go.Ev
open Go.Proofs
def bvs (n : Nat) (V : Nat → Bool) : List AV := (List.range n).map fun y => .v (.bool (V y))
theorem bvs_length (n : Nat) (V : Nat → Bool) : (bvs n V).length = n := by simp [bvs]
theorem bvs_get {n i : Nat} {V : Nat → Bool} (h : i < n) : (bvs n V)[i]? = some (.v (.bool (V i))) := by simp [bvs, h]
theorem bvs_rep (n : Nat) : List.replicate n (AV.v (.bool false)) = bvs n fun _ => false := by
 unfold bvs
 rw [List.map_const', List.length_range]
theorem bvs_set {n k : Nat} {V : Nat → Bool} : (bvs n V).set k (.v (.bool true)) = bvs n fun y => V y || decide (y = k) := by
 refine List.ext_getElem? fun j => ?_
 rw [List.getElem?_set]
 by_cases hj : j < n
 · by_cases e : k = j
   · subst e; simp [bvs, hj]
   · have e2 : ¬ j = k := fun h => e h.symm
     simp [bvs, hj, e, e2]
 · have h1 : (bvs n V)[j]? = none := List.getElem?_eq_none (by rw [bvs_length]; omega)
   have h2 : (bvs n fun y => V y || decide (y = k))[j]? = none := List.getElem?_eq_none (by rw [bvs_length]; omega)
   rw [h1, h2]
   by_cases e : k = j
   · subst e; simp [bvs, hj]
   · simp [e]
section
variable {f : Nat → Nat} {n : Nat}
theorem Pm.vis_it (h : Pm f n) {i : Nat} (hi : i < n) (hv : vis f n i i = false) (k : Nat) : vis f n i (it f k i) = false := by
 cases hc : vis f n i (it f k i) with
 | false => rfl
 | true =>
   obtain ⟨t, ht, hm⟩ := vis_iff.1 hc
   have h1 : it f k i ∈ orb f n i := (h.mem_orb hi).2 ⟨k, rfl⟩
   have h2 := h.orb_symm hi h1
   have h3 := h.orb_trans (by omega) hm h2
   rw [vis_iff.2 ⟨t, ht, h3⟩] at hv
   cases hv
theorem orb_take_succ {i k : Nat} (hk : k < per f n i) : (orb f n i).take (k + 1) = (orb f n i).take k ++ [it f k i] := by
 rw [List.take_add_one, orb_get hk]; rfl
theorem orb_take_all (i : Nat) : (orb f n i).take (per f n i) = orb f n i := List.take_of_length_le (by rw [orb_length]; exact Nat.le_refl _)
theorem orb_take_len {i k : Nat} (hk : k ≤ per f n i) : ((orb f n i).take k).length = k := by rw [List.length_take, orb_length]; omega
end
theorem CycR.low {H : AH} {lo lo' : Nat} {s : AV} {cyc : List AV} {os : List (List Nat)} (h : CycR H lo s cyc os) (hl : lo' ≤ lo) : CycR H lo' s cyc os :=
 ⟨h.1, fun j c o hc ho => ⟨(h.2 j c o hc ho).1, fun b hb => by have := (h.2 j c o hc ho).2 b hb; exact ⟨by omega, this.2⟩⟩⟩
variable {O : CallF} (hq : Quiet O)
include hq
theorem cRefCyc (H : AH) (p : AV) (l : List Int) (hp : Sl H p (ivs l)) (hpo : Old H p) (hl : l.length ≤ 256) (hok : OkPq l) (hr : H.next + 300000 < 2 ^ 39) (K : AV → AH → Prop)
   (hk : ∀ H' s cyc, Keeps H H' → H'.next ≤ H.next + 140000 → Gr H' 22 s cyc → CycR H' H.next s cyc (cycs (fOf l) l.length l.length) → K s H') : Ca (ENV O) 24 [p] H K := by
 refine ca_intro (hq _ _ _ rfl) (fn := Tryz.f24) (by rfl) rfl ?_
 have hpm := hok.pm
 have hlf : ∀ y, y < l.length → l[y]? = some ((fOf l y : Nat) : Int) := fun y hy => hok.f_get hy
 generalize fOf l = f at hpm hlf hk
 have r1 : H.next < 2 ^ 39 := by omega
 repeat (first | apply qN | refine qM rfl rfl ?_ | refine zq5 rfl rfl rfl rfl rfl ‹_› ?_ | apply qR | apply qS)
 refine wops_cons (o_make (n := l.length) rfl rfl rfl rfl (by omega) r1 ?_)
 refine WOps.mem (fun H3 => Keeps H H3 ∧ H3.next = H.next + 1 ∧ H3.get H.next = some (.cells (bvs l.length fun _ => false) 4 0)) ⟨(Keeps.refl H).add _ r1, rfl, by rw [get_add_eq r1, bvs_rep]⟩ ?_
 rintro H3 ⟨k3, n3, g3⟩
 have hp3 := hp.keep hpo k3
 repeat (first | apply qN | refine qM rfl rfl ?_ | apply qR | apply qS | apply qB)
 refine wp_loop (fun q T M H' => ∃ (i : Nat) (s : AV) (cyc : List AV) (V : Nat → Bool) (Y : List AV), q = l.length - i ∧ i ≤ l.length ∧ Keeps H H' ∧ H.next + 1 ≤ H'.next ∧ H'.next ≤ H.next + 1 + i * 515 ∧ H'.get H.next = some (.cells (bvs l.length V) 4 0) ∧ (∀ y : Nat, y < l.length → V y = vis f l.length i y) ∧ Gr H' 22 s cyc ∧ (∀ b, s.own = some b → H.next + 1 ≤ b) ∧ CycR H' (H.next + 1) s cyc (cycs f l.length i) ∧
     M = [] ∧ T = (p :: lget Y 0 :: lget Y 1 :: s :: .slc H.next 0 l.length l.length :: iv (i : Nat) :: lget Y 2 :: lget Y 3 :: lget Y 4 :: lget Y 5 :: lget Y 6 :: lget Y 7 :: lget Y 8 :: lget Y 9 :: lget Y 10 :: lget Y 11 :: lget Y 12 :: lget Y 13 :: lget Y 14 :: lget Y 15 :: lget Y 16 :: lget Y 17 :: lget Y 18 :: lget Y 19 :: lget Y 20 :: lget Y 21 :: lget Y 22 :: lget Y 23 :: lget Y 24 :: lget Y 25 :: lget Y 26 :: lget Y 27 :: lget Y 28 :: lget Y 29 :: lget Y 30 :: lget Y 31 :: lget Y 32 :: lget Y 33 :: lget Y 34 :: lget Y 35 :: lget Y 36 :: lget Y 37 :: [])) l.length
   ⟨0, .v (.slice none 0 0), [], fun _ => false, [_,_,_,_,_,_,_,_,_,_,_,_,_,_,_,_,_,_,_,_,_,_,_,_,_,_,_,_,_,_,_,_,_,_,_,_,_,_], rfl, Nat.zero_le _, k3, by omega, by omega, g3, fun y hy => by simp [vis], .inl ⟨rfl, rfl⟩, (fun b hb => by cases hb), ⟨rfl, (fun j c o hj => by simp at hj)⟩, rfl, rfl⟩ ?_
 rintro q T M H4 ⟨i, s, cyc, V, Y, hq2, hi, k4, nlo, nhi, gm, hS, hG, hso, hcy, rfl, rfl⟩
 have hmul : i * 515 ≤ 256 * 515 := Nat.mul_le_mul_right _ (by omega)
 have r4 : H4.next + 1000 < 2 ^ 39 := by omega
 have hp4 := hp.keep hpo k4
 repeat (first | refine qM rfl rfl ?_ | refine zq5 rfl rfl rfl rfl rfl ‹_› ?_ | apply qR | apply qS)
 refine wops_cons (wop_cmp rfl rfl rfl rfl rfl (fun h => ?_) (fun h => ?_))
 rotate_left
 · have h : ¬ ((i : Int) < (l.length : Nat)) := of_decide_eq_false h
   have e : i = l.length := by omega
   subst e
   repeat (first | apply qN | refine qM rfl rfl ?_ | refine qF rfl ?_ | apply qR | apply qS | apply qE)
   refine wp_ret ?_
   exact ⟨_, _, rfl, hk H4 s cyc k4 (by omega) hG (hcy.low (by omega))⟩
 have h' : (i : Int) < (l.length : Nat) := of_decide_eq_true h
 have hi' : i < l.length := by omega
 clear h
 have hcyl : cyc.length ≤ i := by
   rw [hcy.1]; unfold cycs; rw [List.length_map]; exact Nat.le_trans (List.length_filter_le _ _) (by simp)
 cases hv : vis f l.length i i with
 | true =>
   have hbt : At H4 (.ptr H.next i) (.v (.bool true)) := at_ptr r1 gm (by rw [bvs_get hi', hS i hi', hv])
   repeat (first | apply qN | refine qM rfl rfl ?_ | refine qT rfl ?_ | apply qR | apply qS | apply qK | apply qB)
   refine wp_loop (fun q T M H' => ∃ (Y : List AV), q = 0 ∧ H' = H4 ∧ M = [] ∧ T = (p :: lget Y 0 :: lget Y 1 :: s :: .slc H.next 0 l.length l.length :: iv (i : Nat) :: .v (.slice none 0 0) :: iv (i : Nat) :: lget Y 2 :: lget Y 3 :: lget Y 4 :: lget Y 5 :: lget Y 6 :: lget Y 7 :: lget Y 8 :: lget Y 9 :: lget Y 10 :: lget Y 11 :: lget Y 12 :: lget Y 13 :: lget Y 14 :: lget Y 15 :: lget Y 16 :: lget Y 17 :: lget Y 18 :: lget Y 19 :: lget Y 20 :: lget Y 21 :: lget Y 22 :: lget Y 23 :: lget Y 24 :: lget Y 25 :: lget Y 26 :: lget Y 27 :: lget Y 28 :: lget Y 29 :: lget Y 30 :: lget Y 31 :: lget Y 32 :: lget Y 33 :: lget Y 34 :: lget Y 35 :: [])) 0
     ⟨[_,_,_,_,_,_,_,_,_,_,_,_,_,_,_,_,_,_,_,_,_,_,_,_,_,_,_,_,_,_,_,_,_,_,_,_], rfl, rfl, rfl, rfl⟩ ?_
   rintro q T M H5 ⟨Y, hq3, rfl, rfl, rfl⟩
   repeat (first | refine qM rfl rfl ?_ | apply qR | apply qS)
   refine wops_cons (o_indexOwn rfl rfl rfl rfl hi' ?_)
   repeat (first | apply qN | refine qM rfl rfl ?_ | refine zq6 rfl rfl ‹_› ?_ | refine zq8 rfl rfl rfl ?_ | refine qF rfl ?_ | apply qR | apply qS | apply qE)
   refine wops_cons (o_len (l := []) rfl rfl rfl rfl rfl (by exact ⟨rfl, .inl rfl⟩) ?_)
   refine wops_cons (wop_bin (op := .gtr) (v := .bool false) rfl rfl rfl rfl rfl ?_)
   repeat (first | apply qN | refine qM rfl rfl ?_ | refine zq4 rfl rfl rfl rfl (inc (by omega)) ?_ | refine qF rfl ?_ | apply qR | apply qK)
   refine ⟨l.length - (i + 1), by omega, i + 1, s, cyc, V, [_,_,_,_,_,_,_,_,_,_,_,_,_,_,_,_,_,_,_,_,_,_,_,_,_,_,_,_,_,_,_,_,_,_,_,_,_,_], rfl, by omega, k4, nlo, by omega, gm, fun y hy => ?_, hG, hso, ?_, rfl, rfl⟩
   · rw [hpm.vis_skip hi' hv]; exact hS y hy
   · rw [cycs_succ, if_pos hv, List.append_nil]; exact hcy
 | false =>
 have hpn := (hpm.per_spec hi').2.1
 have hpp : 0 < per f l.length i := per_pos _ _ _
 repeat (first | apply qN | refine qM rfl rfl ?_ | refine qT rfl ?_ | apply qR | apply qS | apply qK | apply qB)
 refine wp_loop (fun q T M H' => ∃ (k : Nat) (c : AV) (V : Nat → Bool) (Y : List AV), q = per f l.length i - k ∧ k ≤ per f l.length i ∧ H4.next ≤ H'.next ∧ H'.next ≤ H4.next + 2 * k ∧ H'.gl = H4.gl ∧ (∀ b, b < H4.next → b ≠ H.next → H'.get b = H4.get b) ∧ H'.get H.next = some (.cells (bvs l.length V) 4 0) ∧ (∀ y : Nat, y < l.length → V y = (vis f l.length i y || ((orb f l.length i).take k).contains y)) ∧ Gr H' 3 c (nvs ((orb f l.length i).take k)) ∧ (∀ b, c.own = some b → H4.next ≤ b) ∧
     M = [] ∧ T = (p :: lget Y 0 :: lget Y 1 :: s :: .slc H.next 0 l.length l.length :: iv (i : Nat) :: c :: iv (it f k i : Nat) :: lget Y 2 :: lget Y 3 :: lget Y 4 :: lget Y 5 :: lget Y 6 :: lget Y 7 :: lget Y 8 :: lget Y 9 :: lget Y 10 :: lget Y 11 :: lget Y 12 :: lget Y 13 :: lget Y 14 :: lget Y 15 :: lget Y 16 :: lget Y 17 :: lget Y 18 :: lget Y 19 :: lget Y 20 :: lget Y 21 :: lget Y 22 :: lget Y 23 :: lget Y 24 :: lget Y 25 :: lget Y 26 :: lget Y 27 :: lget Y 28 :: lget Y 29 :: lget Y 30 :: lget Y 31 :: lget Y 32 :: lget Y 33 :: lget Y 34 :: lget Y 35 :: [])) (per f l.length i)
   ⟨0, .v (.slice none 0 0), V, [_,_,_,_,_,_,_,_,_,_,_,_,_,_,_,_,_,_,_,_,_,_,_,_,_,_,_,_,_,_,_,_,_,_,_,_], rfl, Nat.zero_le _, Nat.le_refl _, Nat.le_refl _, rfl, fun _ _ _ => rfl, gm, fun y hy => by rw [hS y hy]; simp, .inl ⟨rfl, rfl⟩, (fun b hb => by cases hb), rfl, rfl⟩ ?_
 clear hS gm V
 rintro q T M H5 ⟨k, c, V, Y, hq3, hkp, m1, m2, gl5, g5, gm, hS, hGc, hco, rfl, rfl⟩
 have hitl := hpm.it_lt hi' k
 have kk5 : Keeps H H5 := ⟨by omega, gl5.trans k4.gl, fun b hb => (g5 b (by omega) (by omega)).trans (k4.get b hb)⟩
 have hp5 := hp.keep hpo kk5
 by_cases hend : k = per f l.length i
 · subst hend
   have e1 := (hpm.per_spec hi').1
   rw [orb_take_all] at hS hGc
   rw [e1]
   have hbt : At H5 (.ptr H.next i) (.v (.bool true)) := at_ptr r1 gm (by rw [bvs_get hi', hS i hi']; simp [hpm.self_orb hi'])
   repeat (first | refine qM rfl rfl ?_ | apply qR | apply qS)
   refine wops_cons (o_indexOwn rfl rfl rfl rfl hi' ?_)
   repeat (first | apply qN | refine qM rfl rfl ?_ | refine zq6 rfl rfl ‹_› ?_ | refine zq8 rfl rfl rfl ?_ | refine qF rfl ?_ | apply qR | apply qS | apply qE)
   refine wops_cons (o_len rfl rfl rfl rfl rfl hGc.sl ?_)
   have hol : (nvs (orb f l.length i)).length = per f l.length i := by rw [nvs, ivs_length, List.length_map, orb_length]
   rw [hol]
   refine wops_cons (wop_bin (op := .gtr) (v := .bool true) rfl rfl rfl rfl (by simp [binI]; omega) ?_)
   have G5 : Gr H5 22 s cyc := hG.frame m1 fun b hb => g5 b (hG.old b hb) (by have := hso b hb; omega)
   have r5 : H5.next < 2 ^ 39 := by omega
   repeat (first | apply qN | refine qM rfl rfl ?_ | refine qT rfl ?_ | apply qR)
   refine wops_cons (o_build1 rfl rfl hGc.sl.one r5 ?_)
   have G6 := G5.frame (H' := H5.add (.cells [c] 22 0)) (Nat.le_succ _) fun b hb => get_add_ne r5 (by have := G5.old b hb; omega)
   refine wops_cons (o_append rfl rfl rfl rfl rfl (by omega) (by show H5.next + 1 < _; omega) rfl (get_add_eq r5) hGc.sl.one G6 fun r7 H7 er n7 gl7 b7 _ G7 => ?_)
   have n7 : H7.next = H5.next + 1 + 1 := n7
   have hg7' : ∀ b, b < H5.next → s.own ≠ some b → H7.get b = H5.get b := fun b hb1 hb2 => (b7 b (by show b ≠ H5.next + 1; omega) hb2).trans (get_add_ne r5 (by omega))
   have hg7 : ∀ b, b < H4.next → b ≠ H.next → s.own ≠ some b → H7.get b = H4.get b := fun b hb1 hb2 hb3 => (hg7' b (by omega) hb3).trans (g5 b hb1 hb2)
   have hsold : ∀ b, s.own = some b → b < H4.next := fun b hb => hG.old b hb
   have hgl7 : H7.gl = H.gl := gl7.trans kk5.gl
   have hro : ∀ b, r7.own = some b → b = H5.next + 1 := fun b hb => by subst er; cases hb; rfl
   repeat (first | apply qN | refine qM rfl rfl ?_ | refine zq4 rfl rfl rfl rfl (inc (by omega)) ?_ | apply qR)
   refine ⟨l.length - (i + 1), by omega, i + 1, r7, cyc ++ [c], V, [_,_,_,_,_,_,_,_,_,_,_,_,_,_,_,_,_,_,_,_,_,_,_,_,_,_,_,_,_,_,_,_,_,_,_,_,_,_], rfl, by omega, ⟨by omega, hgl7, fun b hb => ?_⟩, by omega, by omega, ?_, fun y hy => ?_, G7, fun b hb => ?_, ⟨?_, fun j c' o hj hoj => ?_⟩, rfl, rfl⟩
   · rw [hg7 b (by omega) (by omega) (fun e => by have := hso b e; omega)]
     exact k4.get b hb
   · rw [hg7' _ (by omega) (fun e => by have := hso _ e; omega)]; exact gm
   · rw [vis_succ]; exact hS y hy
   · have := hro b hb; omega
   · rw [cycs_succ, if_neg (by simp [hv]), List.length_append, List.length_append, hcy.1]; rfl
   · rw [cycs_succ, if_neg (by simp [hv])] at hoj
     rcases Nat.lt_trichotomy j cyc.length with hlt | heq | hgt'
     · rw [List.getElem?_append_left hlt] at hj
       rw [List.getElem?_append_left (by rw [← hcy.1]; exact hlt)] at hoj
       obtain ⟨h1, h2⟩ := hcy.2 j c' o hj hoj
       refine ⟨h1.frame (hgl7.trans k4.gl.symm) fun b hb => ?_, fun b hb => ?_⟩
       · have := h2 b hb; exact hg7 b (by omega) (by omega) this.2.2
       · have := h2 b hb; exact ⟨this.1, by omega, fun e => by have := hro b e; omega⟩
     · subst heq
       rw [List.getElem?_append_right (Nat.le_refl _), Nat.sub_self] at hj
       rw [hcy.1, List.getElem?_append_right (Nat.le_refl _), Nat.sub_self] at hoj
       simp at hj hoj
       subst hj hoj
       refine ⟨hGc.sl.frame gl7 fun b hb => ?_, fun b hb => ?_⟩
       · exact hg7' b (hGc.old b hb) (fun e => by have := hso b e; have := hsold b e; have := hco b hb; omega)
       · have h1 := hco b hb
         have h2 := hGc.old b hb
         exact ⟨by omega, by omega, fun e => by have := hro b e; omega⟩
     · rw [List.getElem?_eq_none (by rw [List.length_append, List.length_singleton]; omega)] at hj
       cases hj
 have hklt : k < per f l.length i := by omega
 have hSf : V (it f k i) = false := by rw [hS _ hitl, hpm.vis_it hi' hv k, hpm.orb_take hi' hklt]; rfl
 have hbt : At H5 (.ptr H.next (it f k i)) (.v (.bool false)) := at_ptr r1 gm (by rw [bvs_get hitl, hSf])
 repeat (first | refine qM rfl rfl ?_ | apply qR | apply qS)
 refine wops_cons (o_indexOwn rfl rfl rfl rfl hitl ?_)
 repeat (first | apply qN | refine qM rfl rfl ?_ | refine zq6 rfl rfl ‹_› ?_ | refine zq8 rfl rfl rfl ?_ | refine qT rfl ?_ | apply qR | apply qS | apply qK | apply qB)
 refine wops_cons (o_indexOwn rfl rfl rfl rfl hitl ?_)
 refine wops_cons (o_store rfl rfl rfl gm (by rw [bvs_length]; exact hitl) rfl ?_)
 refine WOps.mem (fun H6 => H6.next = H5.next ∧ H6.gl = H5.gl ∧ (∀ b, b ≠ H.next → H6.get b = H5.get b) ∧ H6.get H.next = some (.cells (bvs l.length fun y => V y || decide (y = it f k i)) 4 0)) ⟨rfl, rfl, fun b hb => get_set_ne r1 hb, by rw [get_set_eq r1]; exact congrArg (fun z => some (AB.cells z 4 0)) bvs_set⟩ ?_
 rintro H6 ⟨n6, gl6, g6, g6m⟩
 have hGc6 : Gr H6 3 c (nvs ((orb f l.length i).take k)) := hGc.frame (by omega) fun b hb => g6 b (by have := hco b hb; omega)
 have r6 : H6.next < 2 ^ 39 := by omega
 repeat (first | apply qN | refine qM rfl rfl ?_ | apply qR)
 refine wops_cons (o_build1 rfl rfl rfl r6 ?_)
 have G7 := hGc6.frame (H' := H6.add (.cells [iv (it f k i : Nat)] 3 0)) (Nat.le_succ _) fun b hb => get_add_ne r6 (by have := hGc6.old b hb; omega)
 refine wops_cons (o_append rfl rfl rfl rfl rfl (by rw [nvs, ivs_length, List.length_map, orb_take_len (by omega)]; omega) (by show H6.next + 1 < _; omega) rfl (get_add_eq r6) rfl G7 fun r8 H8 er n8 gl8 b8 _ G8 => ?_)
 have n8 : H8.next = H6.next + 1 + 1 := n8
 have hg8 : ∀ b, b < H6.next → c.own ≠ some b → H8.get b = H6.get b := fun b hb1 hb2 => (b8 b (by show b ≠ H6.next + 1; omega) hb2).trans (get_add_ne r6 (by omega))
 have hro : ∀ b, r8.own = some b → b = H6.next + 1 := fun b hb => by subst er; cases hb; rfl
 have hp8 : Sl H8 p (ivs l) := hp5.frame (gl8.trans gl6) fun b hb => (hg8 b (by have := hpo b hb; omega) (fun e => by have := hco b e; have := hpo b hb; omega)).trans (g6 b (by have := hpo b hb; omega))
 repeat (first | apply qN | refine qM rfl rfl ?_ | apply qR)
 refine wops_cons (o_indexI rfl rfl hp8 rfl (hlf _ hitl) fun pp hpp => ?_)
 repeat (first | apply qN | refine qM rfl rfl ?_ | refine zq6 rfl rfl ‹_› ?_)
 refine ⟨per f l.length i - (k + 1), by omega, k + 1, r8, fun y => V y || decide (y = it f k i), [_,_,_,_,_,_,_,_,_,_,_,_,_,_,_,_,_,_,_,_,_,_,_,_,_,_,_,_,_,_,_,_,_,_,_,_], rfl, by omega, by omega, by omega, gl8.trans (gl6.trans gl5), fun b hb1 hb2 => ?_, ?_, fun y hy => ?_, ?_, fun b hb => ?_, rfl, rfl⟩
 · rw [hg8 b (by omega) (fun e => by have := hco b e; omega), g6 b hb2]; exact g5 b hb1 hb2
 · rw [hg8 _ (by omega) (fun e => by have := hco _ e; omega)]; exact g6m
 · show (V y || decide (y = it f k i)) = _
   rw [hS y hy, orb_take_succ hklt, Bool.or_assoc]
   congr 1
   by_cases e : y = it f k i
   · subst e; simp
   · simp [e]
 · rw [orb_take_succ hklt, nvs_snoc]; exact G8
 · have := hro b hb; omega
end Go.Ev
namespace Go.Ev
open Go.Proofs
def statJ (ops : Array Oper) (π : List Stp) (j : Nat) : Bool := (mobsOf π).all fun i => (match ops.toList[i]? with | some o => !looksB o | none => false) || waitsB ops j i
def WDC (E : Env) (ops : Array Oper) (H0 : AH) (π0 : List Stp) (B : Nat → Prop) : List Stp → List AV → AH → (List AV → AH → Prop) → Prop
 | [], T, H, K => K T H
 | .mob i :: π, T, H, K => i ∈ mobsOf π0 ∧ (∀ o b, ops.toList[i]? = some o → rdA T o = some b → B b) ∧ WDr E ops H0 [.mob i] T H (fun T' H' => H' = H ∧ WDC E ops H0 π0 B π T' H K)
 | .loud i :: π, T, H, K => WDr E ops H0 [.loud i] T H (fun T' H' => (statJ ops π0 i = true ∨ ∀ b, B b → sameBlk (H'.get b) (H0.get b) = true) ∧ WDC E ops H0 π0 B π T' H' K)
 | .alc _ :: _, _, _, _ => False
section
variable {E : Env} {g : FuncId} {rd : Bool} {T : List AV} {M : List Nat} {H H0 : AH} {Q : QX} {ops : Array Oper}
theorem wdc_ev {π0 : List Stp} {B : Nat → Prop} {K : List AV → AH → Prop} : ∀ {π : List Stp} {T : List AV} {H : AH}, WDC E ops H0 π0 B π T H K → ∃ n T' H' L Hs, evDraw E.P E.F (E.evCall n) ops H0 π T H = some (T', H', L, Hs) ∧ K T' H' ∧ (∀ q ∈ Hs, statJ ops π0 q.1 = true ∨ ∀ b, B b → sameBlk (q.2.get b) (H0.get b) = true) ∧
   (∀ p ∈ L, p.1 ∈ mobsOf π0 ∧ (∃ o, ops.toList[p.1]? = some o ∧ (looksB o = false → p.2 = none)) ∧ ∀ b, p.2 = some b → B b)
 | [], T, H, h => ⟨0, T, H, [], [], rfl, h, fun _ h => by simp at h, fun _ h => by simp at h⟩
 | .mob i :: π, T, H, ⟨hi, hb, o, r, h1, h2, _, h3⟩ => by
   obtain ⟨n, T', H', L, Hs, k1, k2, k3, k4⟩ := wdc_ev h3
   rcases h2 with ⟨h2, rfl⟩ | ⟨h2, h4⟩
   · refine ⟨n, T', H', L, Hs, ?_, k2, k3, k4⟩
     simp only [evDraw, opT h1, h2]
     exact k1
   · refine ⟨n, T', H', (i, rdA T o) :: L, Hs, ?_, k2, k3, fun p hp => ?_⟩
     · simp only [evDraw, opT h1, h2, h4, k1]
     · rcases List.mem_cons.1 hp with rfl | hp
       · exact ⟨hi, ⟨o, h1, fun h => rdA_none h⟩, fun b hb' => hb o b h1 hb'⟩
       · exact k4 p hp
 | .loud i :: π, T, H, ⟨o, h1, n, r, H1, h2, h5, h3⟩ => by
   obtain ⟨m, T', H', L, Hs, k1, k2, k3, k4⟩ := wdc_ev h3
   refine ⟨n + m, T', H', L, (i, H1) :: Hs, ?_, k2, fun q hq => ?_, k4⟩
   · simp only [evDraw, opT h1]
     rw [evOp_le (evCall_le (Nat.le_add_right n m)) h2]
     simp only
     rw [evDraw_le (evCall_le (Nat.le_add_left m n)) k1]
   · rcases List.mem_cons.1 hq with rfl | hq
     · exact h5
     · exact k3 q hq
 | .alc _ :: _, _, _, h => h.elim
theorem wp_drawC (B : Nat → Prop) {id : Nat} {π : List Stp} (hp : E.pl.get (planKey g id) = some π) (h : WDC E ops H π B π T H fun T' H' => Q .normal T' M H') : Wp E g rd (.region id ops true) T M H Q := by
 obtain ⟨n, T', H', L, Hs, k1, k2, k3, k4⟩ := wdc_ev h
 refine ⟨n + 1, _, T', M, H', ?_, k2⟩
 show Ev.ev E.P E.F E.O E.pl (n + 1) g rd (.region id ops true) T M H = _
 rw [ev_draw, hp]
 simp only
 unfold evRegion
 rw [show evDraw E.P E.F (Ev.evCall E.P E.F E.O E.pl n) ops H π T H = _ from k1]
 have : (Hs.all fun q => keptB ops H L q.1 q.2) = true := by
   rw [List.all_eq_true]
   intro q hq
   unfold keptB
   rw [List.all_eq_true]
   intro p hp
   obtain ⟨h0, ⟨o, h1, h2⟩, h3⟩ := k4 p hp
   cases hb : p.2 with
   | none => rfl
   | some b =>
     rcases k3 q hq with hst | hst
     · have hst := List.all_eq_true.1 hst p.1 h0
       rw [h1] at hst
       cases hl : looksB o with
       | false => rw [h2 hl] at hb; cases hb
       | true =>
         simp only [hl, Bool.not_true, Bool.false_or] at hst
         simp [hst]
     · simp [hst b (h3 b hb)]
 simp only [this, if_true]
variable {π0 π : List Stp} {B : Nat → Prop} {i : Nat} {K : List AV → AH → Prop}
theorem wc_nil (h : K T H) : WDC E ops H0 π0 B [] T H K := h
theorem wc_mob (hi : i ∈ mobsOf π0) (h : WDr E ops H0 [.mob i] T H (fun T' H' => H' = H ∧ WDC E ops H0 π0 B π T' H K)) (hb : ∀ o b, ops.toList[i]? = some o → rdA T o = some b → B b) : WDC E ops H0 π0 B (.mob i :: π) T H K := ⟨hi, hb, h⟩
theorem wc_loud (h : WDr E ops H0 [.loud i] T H (fun T' H' => (statJ ops π0 i = true ∨ ∀ b, B b → sameBlk (H'.get b) (H0.get b) = true) ∧ WDC E ops H0 π0 B π T' H' K)) : WDC E ops H0 π0 B (.loud i :: π) T H K := h
end
section
variable {O : CallF} {T : List AV} {H H0 : AH} {ops : Array Oper} {o : Oper} {i : Nat} {π0 π : List Stp} {K : List AV → AH → Prop}
def AnyB : Nat → Prop := fun _ => True
theorem wc_move {x : Operand} (hi : i ∈ mobsOf π0) (h1 : ops.toList[i]? = some o) (ho : o.op = .move x) (hg : wantedA o ops T = true) (hk : WDC (ENV O) ops H0 π0 AnyB π (putA T o.dst (av T x)) H K) : WDC (ENV O) ops H0 π0 AnyB (.mob i :: π) T H K :=
 wc_mob hi (wd_move h1 ho hg ⟨rfl, hk⟩) (fun _ _ _ _ => trivial)
theorem wc_index {t e : TypeId} {x y : Operand} {j : Nat} {l : List AV} {v : AV} (hi : i ∈ mobsOf π0) (h1 : ops.toList[i]? = some o) (ho : o.op = .indexAddr t x y) (hg : wantedA o ops T = true) [hu : TyS t e] [hs : Cell e] (hx : Sl H0 (av T x) l) (hy : av T y = iv j) (hl : l[j]? = some v)
   (hk : ∀ p, At H0 p v → WDC (ENV O) ops H0 π0 AnyB π (putA T o.dst p) H K) : WDC (ENV O) ops H0 π0 AnyB (.mob i :: π) T H K :=
 wc_mob hi (d_index h1 ho hg hx hy hl fun p hp => ⟨rfl, hk p hp⟩) (fun _ _ _ _ => trivial)
theorem wc_load {t : TypeId} {x : Operand} {v : AV} (hi : i ∈ mobsOf π0) (h1 : ops.toList[i]? = some o) (ho : o.op = .load t x) (hg : wantedA o ops T = true) [ha : Cell t] (hx : At H0 (av T x) v) (hk : WDC (ENV O) ops H0 π0 AnyB π (putA T o.dst v) H K) : WDC (ENV O) ops H0 π0 AnyB (.mob i :: π) T H K :=
 wc_mob hi (d_load h1 ho hg hx ⟨rfl, hk⟩) (fun _ _ _ _ => trivial)
theorem wc_bin {op : BinOp} {t yt : TypeId} {x y : Operand} {k : IntKind} {a b : Int} {v : Value} (hi : i ∈ mobsOf π0) (h1 : ops.toList[i]? = some o) (ho : o.op = .binOp op t x y yt) (hg : wantedA o ops T = true) (hx : av T x = .v (.int k a)) (hy : av T y = .v (.int k b)) (hv : binI op k k a b = some v) (hk : WDC (ENV O) ops H0 π0 AnyB π (putA T o.dst (.v v)) H K) : WDC (ENV O) ops H0 π0 AnyB (.mob i :: π) T H K :=
 wc_mob hi (wd_bin h1 ho hg hx hy hv ⟨rfl, hk⟩) (fun _ _ _ _ => trivial)
end
section
variable {O : CallF} {T : List AV} {H H0 : AH} {ops : Array Oper} {o : Oper} {i : Nat} {π0 π : List Stp} {K : List AV → AH → Prop}
theorem wc_rem {t yt : TypeId} {x y : Operand} {k : IntKind} {a b : Int} (hi : i ∈ mobsOf π0) (h1 : ops.toList[i]? = some o) (ho : o.op = .binOp .rem t x y yt) (hg : wantedA o ops T = true) (hx : av T x = .v (.int k a)) (hy : av T y = .v (.int k b)) (hb : b ≠ 0) (hk : WDC (ENV O) ops H0 π0 AnyB π (putA T o.dst (.v (.int k (a.tmod b)))) H K) : WDC (ENV O) ops H0 π0 AnyB (.mob i :: π) T H K :=
 wc_mob hi (wd_rem h1 ho hg hx hy hb ⟨rfl, hk⟩) (fun _ _ _ _ => trivial)
end
end Go.Ev
namespace Go.Ev
open Go.Proofs
section
variable {O : CallF} {T : List AV} {H H0 : AH} {ops : Array Oper} {o : Oper} {i : Nat} {π0 π : List Stp} {K : List AV → AH → Prop}
theorem wc_indexOwn {t e : TypeId} {x y : Operand} {j : Nat} {b n cap : Nat} (hi : i ∈ mobsOf π0) (h1 : ops.toList[i]? = some o) (ho : o.op = .indexAddr t x y) (hg : wantedA o ops T = true) [hu : TyS t e] [hs : Cell e] (hx : av T x = .slc b 0 n cap) (hy : av T y = iv j) (hl : j < n)
   (hk : WDC (ENV O) ops H0 π0 AnyB π (putA T o.dst (.ptr b j)) H K) : WDC (ENV O) ops H0 π0 AnyB (.mob i :: π) T H K :=
 wc_mob hi (d_indexOwn h1 ho hg hx hy hl ⟨rfl, hk⟩) (fun _ _ _ _ => trivial)
end
variable {O : CallF} (hq : Quiet O)
include hq
theorem cRefPow (H : AH) (x : AV) (l : List Int) (k : Int) (hx : Sl H x (ivs l)) (ho : Old H x) (hl : l.length ≤ 256) (hok : OkPq l) (hr : H.next + 400000 < 2 ^ 39) (K : AV → AH → Prop)
   (hk : ∀ H' c, Keeps H H' → H'.next ≤ H.next + 150000 → Sl H' c (ivs (powL' l k)) → Old H' c → K c H') : Ca (ENV O) 87 [x, iv k] H K := by
 refine ca_intro (hq _ _ _ rfl) (fn := Tryz.f87) (by rfl) rfl ?_
 have r0 : H.next < 2 ^ 39 := by omega
 repeat (first | apply qN | refine qM rfl rfl ?_ | refine zq5 rfl rfl rfl rfl rfl ‹_› ?_ | apply qR | apply qS)
 refine wops_cons (o_make rfl rfl rfl rfl (by omega) r0 ?_)
 refine WOps.mem (fun H2 => Keeps H H2 ∧ H2.next = H.next + 1 ∧ H2.get H.next = some (.cells (List.replicate l.length (iv 0)) 3 0)) ⟨(Keeps.refl H).add _ r0, rfl, get_add_eq r0⟩ ?_
 rintro H2 ⟨k2, n2, g2⟩
 have hx2 := hx.keep ho k2
 repeat (first | apply qN | refine qM rfl rfl ?_ | apply qR | apply qS)
 refine wops_cons (wop_callF rfl rfl rfl (fn := Tryz.f24) (by rfl) ?_)
 refine cRefCyc hq H2 x l hx2 (ho.keep k2) hl hok (by omega) _ fun H3 s cyc k3 n3 hG hcy => ⟨k3.nx, ?_⟩
 have hpm := hok.pm
 have hpw : powL' l k = (List.range l.length).map fun x => ((it (fOf l) (stp k (per (fOf l) l.length x)) x : Nat) : Int) := rfl
 generalize fOf l = f at hpm hcy hpw
 generalize hn : l.length = n at hl hpm hcy hpw g2 ⊢
 generalize hb : H.next = b at r0 n2 g2 n3 ⊢
 have g3 : H3.get b = some (.cells (List.replicate n (iv 0)) 3 0) := (k3.get b (by omega)).trans g2
 have hbn : b < H2.next := by omega
 have m3 := k3.nx
 have k3' := k2.trans k3
 have hsown : ∀ c, s.own = some c → c ≠ b := fun c hc e => by
   subst e
   obtain ⟨cs', g, h1⟩ := hG.own_cells hc
   rw [g3] at h1; cases h1
 repeat (first | apply qN | refine qM rfl rfl ?_ | apply qR | apply qS | apply qB)
 refine wp_loop (fun q T M H' => ∃ (i : Nat) (Y : List AV) (cs : List AV), q = (cycs f n n).length - i ∧ i ≤ (cycs f n n).length ∧ H'.next = H3.next ∧ H'.gl = H3.gl ∧ (∀ c, c ≠ b → H'.get c = H3.get c) ∧ H'.get b = some (.cells cs 3 0) ∧ cs.length = n ∧ (∀ (j y : Nat) (o : List Nat), j < i → (cycs f n n)[j]? = some o → y ∈ o → cs[y]? = some (iv (it f (stp k (per f n y)) y : Nat))) ∧ M = [] ∧
     T = (x :: iv k :: lget Y 0 :: lget Y 1 :: lget Y 2 :: .slc b 0 n n :: s :: iv (i : Nat) :: lget Y 3 :: lget Y 4 :: lget Y 5 :: lget Y 6 :: lget Y 7 :: lget Y 8 :: lget Y 9 :: lget Y 10 :: lget Y 11 :: lget Y 12 :: lget Y 13 :: lget Y 14 :: lget Y 15 :: lget Y 16 :: lget Y 17 :: lget Y 18 :: lget Y 19 :: lget Y 20 :: lget Y 21 :: lget Y 22 :: lget Y 23 :: lget Y 24 :: lget Y 25 :: lget Y 26 :: lget Y 27 :: lget Y 28 :: lget Y 29 :: lget Y 30 :: lget Y 31 :: lget Y 32 :: lget Y 33 :: lget Y 34 :: lget Y 35 :: lget Y 36 :: lget Y 37 :: lget Y 38 :: lget Y 39 :: lget Y 40 :: lget Y 41 :: lget Y 42 :: lget Y 43 :: lget Y 44 :: lget Y 45 :: lget Y 46 :: lget Y 47 :: lget Y 48 :: lget Y 49 :: lget Y 50 :: lget Y 51 :: lget Y 52 :: lget Y 53 :: lget Y 54 :: [])) (cycs f n n).length
   ⟨0, [_,_,_,_,_,_,_,_,_,_,_,_,_,_,_,_,_,_,_,_,_,_,_,_,_,_,_,_,_,_,_,_,_,_,_,_,_,_,_,_,_,_,_,_,_,_,_,_,_,_,_,_,_,_,_], _, rfl, Nat.zero_le _, rfl, rfl, fun _ _ => rfl, g3, by simp, fun j y o h => absurd h (by omega), rfl, rfl⟩ ?_
 rintro q T M H' ⟨i, Y, cs, hq1, hi, hn', hgl', hg', hgb, hcs, hdone, rfl, rfl⟩
 have hKH : Keeps H H' := ⟨by have := k3'.nx; omega, hgl'.trans k3'.gl, fun c hc => (hg' c (by omega)).trans (k3'.get c hc)⟩
 have hcl : (cycs f n n).length ≤ n := by unfold cycs; rw [List.length_map]; exact Nat.le_trans (List.length_filter_le _ _) (by simp)
 have hSl : Sl H' s cyc := hG.sl.frame hgl' fun c hc => hg' c (hsown c hc)
 repeat (first | refine qM rfl rfl ?_ | apply qR | apply qS)
 refine wops_cons (o_lenN rfl rfl rfl rfl rfl hSl hcy.1 ?_)
 refine wops_cons (wop_cmp rfl rfl rfl rfl rfl (fun h => ?_) (fun h => ?_))
 rotate_left
 · have h : ¬ ((i : Int) < (cycs f n n).length) := of_decide_eq_false h
   have e : i = (cycs f n n).length := by omega
   repeat (first | apply qN | refine qM rfl rfl ?_ | refine qF rfl ?_ | apply qR | apply qS | apply qE)
   refine wp_ret ?_
   refine ⟨_, _, rfl, ?_⟩
   have hpl : (powL' l k).length = n := by rw [hpw]; simp
   refine hk H' _ hKH (by omega) (sl_cells r0 hgb (by rw [ivs_length, hpl]) fun j v hv => ?_) (fun c hc => by cases hc; omega)
   have hj : j < n := by
     have := (List.getElem?_eq_some_iff.1 hv).1
     rw [ivs_length, hpl] at this
     exact this
   obtain ⟨o, ho, hjo⟩ := hpm.cycs_all hj
   obtain ⟨p, hp⟩ := List.mem_iff_getElem?.1 ho
   rw [hdone p j o (by have := (List.getElem?_eq_some_iff.1 hp).1; omega) hp hjo]
   rw [← hv, hpw]
   simp [ivs, hj]
 have h : (i : Int) < (cycs f n n).length := of_decide_eq_true h
 obtain ⟨o, hoi⟩ : ∃ o, (cycs f n n)[i]? = some o := ⟨_, List.getElem?_eq_getElem (by omega)⟩
 obtain ⟨c, hci⟩ : ∃ c, cyc[i]? = some c := ⟨_, List.getElem?_eq_getElem (by rw [hcy.1]; omega)⟩
 obtain ⟨hc1, hc2⟩ := hcy.2 i c o hci hoi
 obtain ⟨t, ht, rfl⟩ := cycs_mem (List.mem_of_getElem? hoi)
 have hcb : ∀ d, c.own = some d → d ≠ b := fun d hd => by have := hc2 d hd; omega
 have hcS : True ∧ Sl H' c (nvs (orb f n t)) := ⟨trivial, hc1.frame hgl' fun d hd => hg' d (hcb d hd)⟩
 have hpp := per_pos f n t
 have hpn := (hpm.per_spec ht).2.1
 have hlo : (nvs (orb f n t)).length = per f n t := by rw [nvs_length, orb_length]
 repeat (first | apply qN | refine qM rfl rfl ?_ | refine qT rfl ?_ | apply qR | apply qS | apply qK | apply qB)
 refine wops_cons (o_index rfl rfl hSl rfl hci fun pt hpt => ?_)
 repeat (first | refine zq6 rfl rfl ‹_› ?_)
 refine wops_cons (o_lenN rfl rfl rfl rfl rfl hcS.2 hlo ?_)
 repeat (first | apply qN | refine qM rfl rfl ?_ | apply qR | apply qS)
 refine wops_cons (wop_rem rfl rfl rfl rfl (by omega) ?_)
 repeat (first | refine qM rfl rfl ?_)
 have hrg := tmod_range k hpp
 obtain ⟨hst, hstl⟩ := stp_cast k hpp
 refine wops_cons (wop_bin (op := .add) (v := .int .i64 (k.tmod (per f n t) + per f n t)) rfl rfl rfl rfl ?_ ?_)
 · show some (Value.int .i64 (IntKind.i64.wrap (k.tmod (per f n t) + per f n t))) = _
   rw [wrap_id (by omega) (by omega)]
 repeat (first | refine qM rfl rfl ?_)
 refine wops_cons (wop_rem rfl rfl rfl rfl (by omega) ?_)
 rw [hst]
 repeat (first | apply qN | refine qM rfl rfl ?_ | apply qR | apply qS | apply qB)
 refine wp_loop (fun q2 T M H2' => ∃ (j : Nat) (Y : List AV) (cs : List AV), q2 = per f n t - j ∧ j ≤ per f n t ∧ H2'.next = H3.next ∧ H2'.gl = H3.gl ∧ (∀ c, c ≠ b → H2'.get c = H3.get c) ∧ H2'.get b = some (.cells cs 3 0) ∧ cs.length = n ∧ (∀ (j y : Nat) (o : List Nat), j < i → (cycs f n n)[j]? = some o → y ∈ o → cs[y]? = some (iv (it f (stp k (per f n y)) y : Nat))) ∧
     (∀ j' y : Nat, j' < j → y = it f j' t → cs[y]? = some (iv (it f (stp k (per f n y)) y : Nat))) ∧ M = [] ∧
     T = (x :: iv k :: lget Y 0 :: lget Y 1 :: lget Y 2 :: .slc b 0 n n :: s :: iv (i : Nat) :: iv (per f n t : Nat) :: iv (stp k (per f n t) : Nat) :: iv (j : Nat) :: lget Y 3 :: lget Y 4 :: lget Y 5 :: lget Y 6 :: lget Y 7 :: lget Y 8 :: lget Y 9 :: lget Y 10 :: lget Y 11 :: lget Y 12 :: lget Y 13 :: lget Y 14 :: lget Y 15 :: lget Y 16 :: lget Y 17 :: lget Y 18 :: lget Y 19 :: lget Y 20 :: lget Y 21 :: lget Y 22 :: lget Y 23 :: lget Y 24 :: lget Y 25 :: lget Y 26 :: lget Y 27 :: lget Y 28 :: lget Y 29 :: lget Y 30 :: lget Y 31 :: lget Y 32 :: lget Y 33 :: lget Y 34 :: lget Y 35 :: lget Y 36 :: lget Y 37 :: lget Y 38 :: lget Y 39 :: lget Y 40 :: lget Y 41 :: lget Y 42 :: lget Y 43 :: lget Y 44 :: lget Y 45 :: lget Y 46 :: lget Y 47 :: lget Y 48 :: lget Y 49 :: lget Y 50 :: lget Y 51 :: [])) (per f n t)
   ⟨0, [_,_,_,_,_,_,_,_,_,_,_,_,_,_,_,_,_,_,_,_,_,_,_,_,_,_,_,_,_,_,_,_,_,_,_,_,_,_,_,_,_,_,_,_,_,_,_,_,_,_,_,_], cs, rfl, Nat.zero_le _, hn', hgl', hg', hgb, hcs, hdone, fun j' y h => absurd h (by omega), rfl, rfl⟩ ?_
 clear hgb hcs hdone hg' hgl' hn' hKH hSl hcS
 rintro q2 T M H' ⟨j, Y, cs, hq2, hj, hn', hgl', hg', hgb, hcs, hdone, hdone2, rfl, rfl⟩
 have hSl : Sl H' s cyc := hG.sl.frame hgl' fun c hc => hg' c (hsown c hc)
 have hcS : True ∧ Sl H' c (nvs (orb f n t)) := ⟨trivial, hc1.frame hgl' fun d hd => hg' d (hcb d hd)⟩
 repeat (first | refine qM rfl rfl ?_ | apply qR | apply qS)
 refine wops_cons (wop_cmp rfl rfl rfl rfl rfl (fun h => ?_) (fun h => ?_))
 rotate_left
 · have h : ¬ ((j : Int) < per f n t) := of_decide_eq_false h
   have e : j = per f n t := by omega
   repeat (first | apply qN | refine qM rfl rfl ?_ | refine zq4 rfl rfl rfl rfl (inc (by omega)) ?_ | refine qF rfl ?_ | apply qR | apply qE)
   refine ⟨(cycs f n n).length - (i + 1), by omega, i + 1, [_,_,_,_,_,_,_,_,_,_,_,_,_,_,_,_,_,_,_,_,_,_,_,_,_,_,_,_,_,_,_,_,_,_,_,_,_,_,_,_,_,_,_,_,_,_,_,_,_,_,_,_,_,_,_], cs, rfl, by omega, hn', hgl', hg', hgb, hcs, fun j' y o hj' hoj hy => ?_, rfl, rfl⟩
   by_cases ej : j' = i
   · subst ej
     rw [hoi] at hoj
     cases hoj
     obtain ⟨m, hm, hmy⟩ := List.mem_map.1 hy
     exact hdone2 m y (by have := List.mem_range.1 hm; omega) hmy.symm
   · exact hdone j' y o (by omega) hoj hy
 have h : (j : Int) < per f n t := of_decide_eq_true h
 have hjp : j < per f n t := by omega
 have hitn := hpm.it_lt ht j
 have hmod : (j + stp k (per f n t)) % per f n t < per f n t := Nat.mod_lt _ hpp
 repeat (first | apply qN | refine qT rfl ?_ | apply qS | apply qK | apply qB)
 refine wp_drawC AnyB rfl ?_
 repeat (first | refine wc_move (by decide) rfl rfl rfl ?_)
 refine wc_index (by decide) rfl rfl rfl hSl rfl hci fun p hp => ?_
 refine wc_load (by decide) rfl rfl rfl hp ?_
 repeat (first | refine wc_move (by decide) rfl rfl rfl ?_)
 refine wc_index (by decide) rfl rfl rfl hcS.2 rfl (nvs_get (orb_get hjp)) fun p hp => ?_
 refine wc_load (by decide) rfl rfl rfl hp ?_
 repeat (first | refine wc_move (by decide) rfl rfl rfl ?_)
 refine wc_index (by decide) rfl rfl rfl hSl rfl hci fun p hp => ?_
 refine wc_load (by decide) rfl rfl rfl hp ?_
 repeat (first | refine wc_move (by decide) rfl rfl rfl ?_)
 refine wc_bin (op := .add) (v := .int .i64 ((j + stp k (per f n t) : Nat) : Int)) (by decide) rfl rfl rfl rfl rfl ?_ ?_
 · show some (Value.int .i64 (IntKind.i64.wrap ((j : Int) + (stp k (per f n t) : Nat)))) = _
   rw [wrap_id (by omega) (by omega)]; rfl
 repeat (first | refine wc_move (by decide) rfl rfl rfl ?_)
 refine wc_rem (by decide) rfl rfl rfl rfl rfl (by omega) ?_
 rw [show (((j + stp k (per f n t) : Nat) : Int)).tmod (per f n t : Nat) = (((j + stp k (per f n t)) % per f n t : Nat) : Int) from rfl]
 refine wc_index (by decide) rfl rfl rfl hcS.2 rfl (nvs_get (orb_get hmod)) fun p hp => ?_
 refine wc_load (by decide) rfl rfl rfl hp ?_
 refine wc_indexOwn (by decide) rfl rfl rfl rfl rfl hitn ?_
 refine wc_loud (wd_loud rfl rfl (o_store rfl rfl rfl hgb (by omega) rfl ⟨.inl (by kernel_rfl), ?_⟩))
 refine wc_nil ?_
 repeat (first | apply qN | refine qM rfl rfl ?_ | refine zq4 rfl rfl rfl rfl (inc (by omega)) ?_ | apply qR)
 have hval : ∀ y, y = it f j t → it f ((j + stp k (per f n t)) % per f n t) t = it f (stp k (per f n y)) y := fun y hy => by
   subst hy
   rw [hpm.it_mod ht, hpm.per_it ht, ← it_add, Nat.add_comm]
 have hset : ∀ y v, cs[y]? = some (iv (it f (stp k (per f n y)) y : Nat)) → v = it f j t → (cs.set v (iv (it f ((j + stp k (per f n t)) % per f n t) t : Nat)))[y]? = some (iv (it f (stp k (per f n y)) y : Nat)) := fun y v hy hv => by
   by_cases e : y = v
   · subst e
     rw [List.getElem?_set_self (by have := (List.getElem?_eq_some_iff.1 hy).1; omega), hval y hv]
   · rw [List.getElem?_set_ne (Ne.symm e)]; exact hy
 refine ⟨per f n t - (j + 1), by omega, j + 1, [_,_,_,_,_,_,_,_,_,_,_,_,_,_,_,_,_,_,_,_,_,_,_,_,_,_,_,_,_,_,_,_,_,_,_,_,_,_,_,_,_,_,_,_,_,_,_,_,_,_,_,_], cs.set (it f j t) (iv (it f ((j + stp k (per f n t)) % per f n t) t : Nat)), rfl, by omega, hn', hgl', fun d hd => (get_set_ne r0 hd).trans (hg' d hd), get_set_eq r0, by simpa using hcs, fun j' y o hj' hoj hy => hset y _ (hdone j' y o hj' hoj hy) rfl, fun j' y hj' hy => ?_, rfl, rfl⟩
 by_cases e : j' = j
 · subst e
   subst hy
   rw [List.getElem?_set_self (by omega), hval _ rfl]
 · exact hset y _ (hdone2 j' y (by omega) hy) rfl
end Go.Ev
