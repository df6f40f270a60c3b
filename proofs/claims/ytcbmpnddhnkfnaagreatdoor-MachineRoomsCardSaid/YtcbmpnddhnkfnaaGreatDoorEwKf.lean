/- Part of an evaluator of calls that is proved sound, and of what it gives about this program. No condition of its own. -/
import Derived.Test.YtcbmpnddhnkfnaaGreatDoorEwKa
import Derived.Test.YtcbmpnddhnkfnaaGreatDoorEwIb
set_option linter.unusedVariables false
set_option linter.unusedSimpArgs false
set_option linter.unusedSectionVars false
set_option maxRecDepth 100000
set_option maxHeartbeats 4000000
set_option maxHeartbeats 8000000
namespace Go.Ev
open Go.Proofs
theorem tmod_range (k : Int) {p : Nat} (hp : 0 < p) : -(p : Int) < k.tmod p ∧ k.tmod p < p := by
 have h1 := Int.lt_tmod_of_pos k (show (0 : Int) < p by omega)
 have h2 := Int.tmod_lt_of_pos k (show (0 : Int) < p by omega)
 omega
variable {O : CallF} (hq : Quiet O)
include hq
end Go.Ev
namespace Go.Ev
open Go.Proofs
section
variable {f : Nat → Nat} {n : Nat}
def sts (f : Nat → Nat) (n : Nat) : List Nat := (List.range n).filter fun s => !vis f n s s
theorem cycs_sts : cycs f n n = (sts f n).map (orb f n) := rfl
theorem sts_lt : (sts f n).Pairwise (· < ·) := List.pairwise_lt_range.filter _
theorem sts_mem {s : Nat} (h : s ∈ sts f n) : s < n ∧ vis f n s s = false := by
 have := List.mem_filter.1 h
 exact ⟨List.mem_range.1 this.1, by simpa using this.2⟩
theorem Pm.orb_symm (h : Pm f n) {s x : Nat} (hs : s < n) (hx : x ∈ orb f n s) : s ∈ orb f n x := by
 obtain ⟨k, rfl⟩ := (h.mem_orb hs).1 hx
 refine (h.mem_orb (h.it_lt hs k)).2 ⟨per f n s * (k + 1) - k, ?_⟩
 have hp := per_pos f n s
 have h1 : k ≤ per f n s * (k + 1) := Nat.le_trans (Nat.le_succ k) (Nat.le_mul_of_pos_left _ hp)
 rw [← it_add, Nat.sub_add_cancel h1, h.it_mul hs]
theorem Pm.orb_lt (h : Pm f n) {s x : Nat} (hs : s < n) (hx : x ∈ orb f n s) : x < n := by
 obtain ⟨k, rfl⟩ := (h.mem_orb hs).1 hx
 exact h.it_lt hs k
theorem Pm.orb_apart (h : Pm f n) {s t x : Nat} (hs : s < n) (ht : t < n) (hst : s < t) (hv : vis f n t t = false) (h1 : x ∈ orb f n s) (h2 : x ∈ orb f n t) : False := by
 have hx := h.orb_lt ht h2
 have h3 := h.orb_symm ht h2
 have h4 := h.orb_trans hs h1 h3
 have : vis f n t t = true := vis_iff.2 ⟨s, hst, h4⟩
 rw [hv] at this; cases this
theorem Pm.it_ne (h : Pm f n) {s i j : Nat} (hs : s < n) (hij : i < j) (hj : j < per f n s) : it f i s ≠ it f j s := fun e => by
 have e2 : it f i (it f (j - i) s) = it f i s := by rw [← it_add, Nat.add_sub_cancel' (Nat.le_of_lt hij)]; exact e.symm
 have := h.it_inj (h.it_lt hs _) hs i e2
 exact (h.per_spec hs).2.2 (j - i) (by omega) (by omega) this
theorem Pm.orb_nodup (h : Pm f n) {s : Nat} (hs : s < n) : (orb f n s).Nodup := by
 unfold orb
 rw [List.nodup_iff_pairwise_ne, List.pairwise_map, List.pairwise_iff_getElem]
 intro i j hi hj hij
 simp only [List.getElem_range]
 simp only [List.length_range] at hj
 exact h.it_ne hs hij hj
theorem Pm.sum_le (h : Pm f n) : ((cycs f n n).map List.length).sum ≤ n := by
 rw [← List.length_flatten]
 have hnd : (cycs f n n).flatten.Nodup := by
   rw [List.nodup_iff_pairwise_ne, List.pairwise_flatten]
   refine ⟨fun o ho => ?_, ?_⟩
   · obtain ⟨s, hs, rfl⟩ := cycs_mem ho
     exact List.nodup_iff_pairwise_ne.1 (h.orb_nodup hs)
   · rw [cycs_sts, List.pairwise_map, List.pairwise_iff_getElem]
     intro i j hi hj hij x hx y hy e
     subst e
     have h1 := sts_mem (List.getElem_mem hi)
     have h2 := sts_mem (List.getElem_mem hj)
     exact h.orb_apart h1.1 h2.1 (List.pairwise_iff_getElem.1 sts_lt i j hi hj hij) h2.2 hx hy
 have hsub : (cycs f n n).flatten ⊆ List.range n := fun y hy => by
   obtain ⟨o, ho, hyo⟩ := List.mem_flatten.1 hy
   obtain ⟨s, hs, rfl⟩ := cycs_mem ho
   exact List.mem_range.2 (h.orb_lt hs hyo)
 have := hnd.length_le_of_subset hsub
 simpa using this
def lcmL (l : List Nat) : Nat := l.foldl Nat.lcm 1
theorem foldl_lcm_dvd {l : List Nat} {a i : Nat} : l.foldl Nat.lcm a ∣ i ↔ a ∣ i ∧ ∀ m ∈ l, m ∣ i := by
 induction l generalizing a with
 | nil => simp
 | cons x l ih =>
   rw [List.foldl_cons, ih]
   constructor
   · rintro ⟨h1, h2⟩
     exact ⟨Nat.dvd_trans (Nat.dvd_lcm_left a x) h1, fun m hm => by
       rcases List.mem_cons.1 hm with rfl | hm
       · exact Nat.dvd_trans (Nat.dvd_lcm_right a m) h1
       · exact h2 m hm⟩
   · rintro ⟨h1, h2⟩
     exact ⟨Nat.lcm_dvd h1 (h2 x (by simp)), fun m hm => h2 m (by simp [hm])⟩
theorem lcmL_dvd {l : List Nat} {i : Nat} : lcmL l ∣ i ↔ ∀ m ∈ l, m ∣ i := by
 unfold lcmL; rw [foldl_lcm_dvd]; simp
def perd (f : Nat → Nat) (n : Nat) : Nat := lcmL ((cycs f n n).map List.length)
theorem Pm.it_id (h : Pm f n) {x i : Nat} (hx : x < n) : it f i x = x ↔ per f n x ∣ i := by
 constructor
 · intro e
   rw [← h.it_mod hx] at e
   refine Nat.dvd_of_mod_eq_zero ?_
   rcases Nat.eq_zero_or_pos (i % per f n x) with h0 | h0
   · exact h0
   · exact ((h.per_spec hx).2.2 _ h0 (Nat.mod_lt _ (per_pos f n x)) e).elim
 · rintro ⟨k, rfl⟩
   exact h.it_mul hx k
theorem Pm.round (h : Pm f n) {i : Nat} : (∀ x, x < n → it f i x = x) ↔ perd f n ∣ i := by
 unfold perd
 rw [lcmL_dvd]
 constructor
 · intro hx m hm
   obtain ⟨o, ho, rfl⟩ := List.mem_map.1 hm
   obtain ⟨s, hs, rfl⟩ := cycs_mem ho
   rw [orb_length]
   exact (h.it_id hs).1 (hx s hs)
 · intro hm x hx
   obtain ⟨o, ho, hxo⟩ := h.cycs_all hx
   obtain ⟨s, hs, rfl⟩ := cycs_mem ho
   obtain ⟨k, rfl⟩ := (h.mem_orb hs).1 hxo
   have := hm (orb f n s).length (List.mem_map.2 ⟨_, ho, rfl⟩)
   rw [orb_length] at this
   exact (h.it_id hx).2 (by rw [h.per_it hs]; exact this)
end
def lcmT : Nat → List Nat
 | 0 => [1]
 | 1 => [1]
 | 2 => [1, 2]
 | 3 => [1, 2, 3]
 | 4 => [1, 2, 3, 4]
 | 5 => [1, 2, 3, 4, 5, 6]
 | 6 => [1, 2, 3, 4, 5, 6]
 | 7 => [1, 2, 3, 4, 5, 6, 7, 10, 12]
 | 8 => [1, 2, 3, 4, 5, 6, 7, 8, 10, 12, 15]
 | 9 => [1, 2, 3, 4, 5, 6, 7, 8, 9, 10, 12, 14, 15, 20]
 | 10 => [1, 2, 3, 4, 5, 6, 7, 8, 9, 10, 12, 14, 15, 20, 21, 30]
 | 11 => [1, 2, 3, 4, 5, 6, 7, 8, 9, 10, 11, 12, 14, 15, 18, 20, 21, 24, 28, 30]
 | _ => [1, 2, 3, 4, 5, 6, 7, 8, 9, 10, 11, 12, 14, 15, 18, 20, 21, 24, 28, 30, 35, 42, 60]
theorem lcmT_step : ((List.range 13).all fun s => (lcmT s).all fun v => (List.range 13).all fun m => m == 0 || Nat.blt 12 (s + m) || (lcmT (s + m)).contains (Nat.lcm v m)) = true := by decide +kernel
theorem lcmT_le : ((List.range 13).all fun s => (lcmT s).all fun v => Nat.ble 1 v && Nat.ble v 60) = true := by decide +kernel
theorem lcmT_foldl : ∀ (l : List Nat) (s v : Nat), v ∈ lcmT s → (∀ m ∈ l, 0 < m) → s + l.sum ≤ 12 → l.foldl Nat.lcm v ∈ lcmT (s + l.sum)
 | [], s, v, hv, _, _ => by simpa using hv
 | m :: l, s, v, hv, hp, hs => by
   rw [List.foldl_cons]
   rw [List.sum_cons] at hs ⊢
   have hm := hp m (by simp)
   have h1 := lcmT_step
   rw [List.all_eq_true] at h1
   have h2 := h1 s (List.mem_range.2 (by omega))
   rw [List.all_eq_true] at h2
   have h3 := h2 v hv
   rw [List.all_eq_true] at h3
   have h4 := h3 m (List.mem_range.2 (by omega))
   have e1 : (m == 0) = false := by simp; omega
   have e2 : Nat.blt 12 (s + m) = false := by
     cases h : Nat.blt 12 (s + m) with
     | false => rfl
     | true => have : 12 < s + m := Nat.le_of_ble_eq_true h; omega
   rw [e1, e2] at h4
   simp only [Bool.false_or] at h4
   have := lcmT_foldl l (s + m) (Nat.lcm v m) (List.contains_iff_mem.1 h4) (fun m hm => hp m (by simp [hm])) (by omega)
   rwa [Nat.add_assoc] at this
theorem lcmL_le {l : List Nat} (hp : ∀ m ∈ l, 0 < m) (hs : l.sum ≤ 12) : 1 ≤ lcmL l ∧ lcmL l ≤ 60 := by
 have h := lcmT_foldl l 0 1 (by simp [lcmT]) hp (by omega)
 have h1 := lcmT_le
 rw [List.all_eq_true] at h1
 have h2 := h1 (0 + l.sum) (List.mem_range.2 (by omega))
 rw [List.all_eq_true] at h2
 have h3 := h2 _ h
 rw [Bool.and_eq_true] at h3
 exact ⟨Nat.le_of_ble_eq_true h3.1, Nat.le_of_ble_eq_true h3.2⟩
theorem sum_take_le (l : List Nat) (i : Nat) : (l.take i).sum ≤ l.sum := by
 have := congrArg List.sum (List.take_append_drop i l)
 rw [List.sum_append] at this
 omega
def lens (f : Nat → Nat) (n : Nat) : List Nat := (cycs f n n).map List.length
theorem lens_pos {f : Nat → Nat} {n : Nat} : ∀ m ∈ lens f n, 0 < m := fun m hm => by
 obtain ⟨o, ho, rfl⟩ := List.mem_map.1 hm
 obtain ⟨s, hs, rfl⟩ := cycs_mem ho
 rw [orb_length]; exact per_pos f n s
theorem Pm.lcm_take {f : Nat → Nat} {n : Nat} (h : Pm f n) (hn : n ≤ 12) (i : Nat) : 1 ≤ lcmL ((lens f n).take i) ∧ lcmL ((lens f n).take i) ≤ 60 :=
 lcmL_le (fun m hm => lens_pos m (List.mem_of_mem_take hm)) (by
   have h1 := sum_take_le (lens f n) i
   have h2 := h.sum_le
   have h2 : (lens f n).sum ≤ n := h2
   omega)
theorem stp_emod (k : Int) {p : Nat} (hp : 0 < p) : ((stp k p : Nat) : Int) = k % (p : Int) := by
 have h1 := tmod_range k hp
 have h0 : 0 ≤ (k.tmod p + p).tmod p := Int.tmod_nonneg _ (by omega)
 unfold stp
 rw [Int.toNat_of_nonneg h0, Int.tmod_eq_emod_of_nonneg (by omega), Int.add_emod_right]
 have h2 : (k.tmod p) % (p : Int) = k % p := by
   have e : k = p * (k.tdiv p) + k.tmod p := (Int.mul_tdiv_add_tmod k p).symm
   conv => rhs; rw [e]
   rw [Int.add_comm, Int.add_mul_emod_self_left]
 exact h2
theorem powL_length (l : List Int) (k : Int) : (powL' l k).length = l.length := by simp [powL']
theorem powL_get {l : List Int} {k : Int} {x : Nat} (hx : x < l.length) : (powL' l k)[x]? = some ((it (fOf l) (stp k (per (fOf l) l.length x)) x : Nat) : Int) := by
 simp [powL', hx]
end Go.Ev
namespace Go.Ev
open Go.Proofs
theorem o_build2 {O : CallF} {T : List AV} {H : AH} {ops : Array Oper} {o : Oper} {K : AV → AH → Prop} {t e : TypeId} {x y : Operand} {z0 : Value} (ho : o.op = .buildSlice t 2 #[(0, x), (1, y)]) (hg : wantedA o ops T = true) [hu : TyS t e] [hs : Cell e] [hz : Zero e z0] (h1 : (av T x).one = true) (h2 : (av T y).one = true) (hr : H.next < 2 ^ 39)
   (hk : K (.slc H.next 0 2 2) (H.add (.cells [av T x, av T y] e 0))) : WOp (ENV O) ops o T H K := by
 refine wop_val (by rw [ho]; rfl) hg (r := .slc H.next 0 2 2) (H' := H.add (.cells [av T x, av T y] e 0)) ?_ (Nat.le_succ _) hk
 have hlt : Nat.blt H.next (2 ^ 39) = true := Nat.ble_eq_true_of_le hr
 unfold opEval; rw [ho]
 simp only [ENV, buildSliceA, hu.u, hs.s, hz.z, hz.c]
 rw [if_pos (by decide)]
 simp [fillA, cells_one h1, cells_one h2, wr, newA, hlt]
 rw [List.drop_eq_nil_of_le (by simp)]
theorem pow_now {P l : List Int} (h : OkPq P) (hl : InR P.length l) (k : Nat) : (l.map fun z => (powL' P (k : Int)).getD z.toNat 0) = nowL P l k := by
 rw [now_map P l k]
 refine List.map_congr_left fun z hz => ?_
 have hzb := hl z hz
 have hx : z.toNat < P.length := by omega
 have e1 : (nowL P [z] k).getD 0 0 = ((it (fOf P) k z.toNat : Nat) : Int) := by
   induction k with
   | zero => show z = ((z.toNat : Nat) : Int); omega
   | succ k ih =>
     have h1 : (nowL P [z] k).length = 1 := now_length P [z] k
     obtain ⟨w, hw⟩ := List.length_eq_one_iff.1 h1
     rw [hw] at ih
     have ih : w = ((it (fOf P) k z.toNat : Nat) : Int) := ih
     show (thr P (nowL P [z] k)).getD 0 0 = _
     rw [hw]
     show P.getD w.toNat 0 = _
     rw [ih, Int.toNat_natCast, List.getD_eq_getElem?_getD, h.f_get (h.pm.it_lt hx k)]
     rfl
 rw [e1, List.getD_eq_getElem?_getD, powL_get hx]
 show ((it (fOf P) (stp (k : Int) (per (fOf P) P.length z.toNat)) z.toNat : Nat) : Int) = _
 have h1 : stp (k : Int) (per (fOf P) P.length z.toNat) = k % per (fOf P) P.length z.toNat := by
   have : ((stp (k : Int) (per (fOf P) P.length z.toNat) : Nat) : Int) = ((k % per (fOf P) P.length z.toNat : Nat) : Int) := by rw [stp_emod k (per_pos _ _ _)]; rfl
   exact Int.ofNat.inj this
 rw [h1, h.pm.it_mod hx]
variable {O : CallF} (hq : Quiet O)
include hq
end Go.Ev
namespace Go.Ev
open Go.Proofs
theorem ldE_zero {m : Mc} : ∀ {s l : List Int}, ldE m s l = 0 ↔ (∀ z ∈ l, 0 ≤ z ∧ z ≤ 4 * m.g - 1) ∧ l.Nodup ∧ ∀ z ∈ l, z ∉ s
 | s, [] => by simp [ldE]
 | s, z :: l => by
   rw [ldE_cons]
   by_cases h1 : inB z 0 (4 * m.g - 1) = false
   · rw [if_pos h1]
     constructor
     · intro h; cases h
     · rintro ⟨h2, _⟩
       have := h2 z (by simp)
       simp only [inB, decide_eq_false_iff_not] at h1
       exact absurd this h1
   · rw [if_neg h1]
     have h1' : 0 ≤ z ∧ z ≤ 4 * m.g - 1 := by
       have : inB z 0 (4 * m.g - 1) = true := by simpa using h1
       exact of_decide_eq_true this
     by_cases h2 : s.contains z = true
     · rw [if_pos h2]
       constructor
       · intro h; cases h
       · rintro ⟨_, _, h3⟩
         exact absurd (List.contains_iff_mem.1 h2) (h3 z (by simp))
     · rw [if_neg h2, ldE_zero]
       have h2' : z ∉ s := fun h => h2 (List.contains_iff_mem.2 h)
       constructor
       · rintro ⟨h3, h4, h5⟩
         refine ⟨fun y hy => ?_, List.nodup_cons.2 ⟨fun hz => ?_, h4⟩, fun y hy => ?_⟩
         · rcases List.mem_cons.1 hy with rfl | hy
           · exact h1'
           · exact h3 y hy
         · exact h5 z hz (by simp)
         · rcases List.mem_cons.1 hy with rfl | hy
           · exact h2'
           · exact fun h => h5 y hy (by simp [h])
       · rintro ⟨h3, h4, h5⟩
         obtain ⟨h6, h7⟩ := List.nodup_cons.1 h4
         refine ⟨fun y hy => h3 y (by simp [hy]), h7, fun y hy hm => ?_⟩
         rcases List.mem_append.1 hm with h | h
         · exact h5 y (by simp [hy]) h
         · rw [List.mem_singleton.1 h] at hy; exact h6 hy
theorem lE_zero {m : Mc} {l : List Int} {n : Nat} (hg : m.g = n) : lE m l = 0 ↔ l.length ≤ 4 * n ∧ InR (4 * n) l ∧ l.Nodup := by
 unfold lE
 by_cases h : 4 * m.g < l.length
 · rw [if_pos h]
   constructor
   · intro e; cases e
   · rintro ⟨h1, _⟩; omega
 · rw [if_neg h, ldE_zero]
   constructor
   · rintro ⟨h1, h2, _⟩
     exact ⟨by omega, fun z hz => by have := h1 z hz; omega, h2⟩
   · rintro ⟨_, h1, h2⟩
     exact ⟨fun z hz => by have := h1 z hz; omega, h2, fun z _ => by simp⟩
theorem thr_nodup {n : Nat} {P l : List Int} (h : InR n P) (hn : P.length = n) (hP : p240 P = idL n) (hl : InR n l) (hd : l.Nodup) : (thr P l).Nodup := by
 unfold thr
 rw [List.nodup_iff_pairwise_ne, List.pairwise_map]
 refine (List.nodup_iff_pairwise_ne.1 hd).imp_of_mem fun ha hb hne e => hne (thr_inj h hn hP (hl _ ha) (hl _ hb) e)
theorem now_nodup {n : Nat} {P l : List Int} (h : InR n P) (hn : P.length = n) (hP : p240 P = idL n) (hl : InR n l) (hd : l.Nodup) : ∀ k, (nowL P l k).Nodup
 | 0 => hd
 | k + 1 => thr_nodup h hn hP (now_in h hn hl k) (now_nodup h hn hP hl hd k)
structure Six (m : Mc) (l : List Int) (n : Nat) : Prop where
 hg : m.g = n
 hn1 : 1 ≤ n
 hn : n ≤ 6
 hm0 : mE m = 0
 hsw : m.sw.length ≤ 19
 hll : l.length ≤ 6
 hle : l.length ≤ 4 * n
 hl : InR (4 * n) l
 hd : l.Nodup
 hP : InR (4 * n) (permL m n)
 hPl : (permL m n).length = 4 * n
 hpp : p240 (permL m n) = idL (4 * n)
theorem Six.cE {m : Mc} {l : List Int} {n : Nat} (h : Six m l n) : cE m l = 0 := by
 unfold Go.Ev.cE
 rw [if_neg (by simp [h.hm0])]
 exact (lE_zero h.hg).2 ⟨h.hle, h.hl, h.hd⟩
theorem Six.good {m : Mc} {l : List Int} {n : Nat} (h : Six m l n) : GoodL m l n 240 :=
 ⟨h.hg, h.hn1, by have := h.hn; omega, h.hm0, by have := h.hsw; omega, by have := h.hll; omega, h.cE, h.hl, h.hP, by decide, now_240 h.hP h.hPl h.hpp h.hl, by decide⟩
theorem Six.now {m : Mc} {l : List Int} {n : Nat} (h : Six m l n) (k : Nat) : Six m (nowL (permL m n) l k) n :=
 { h with hll := by rw [now_length]; exact h.hll, hle := by rw [now_length]; exact h.hle, hl := now_in h.hP h.hPl h.hl k, hd := now_nodup h.hP h.hPl h.hpp h.hl h.hd k }
theorem Six.tail {m : Mc} {l : List Int} {n : Nat} {z : Int} (h : Six m (z :: l) n) : Six m l n :=
 { h with hll := by have := h.hll; rw [List.length_cons] at this; omega, hle := by have := h.hle; rw [List.length_cons] at this; omega, hl := fun y hy => h.hl y (by simp [hy]), hd := (List.nodup_cons.1 h.hd).2 }
theorem Six.lE {m : Mc} {l : List Int} {n : Nat} (h : Six m l n) : lE m l = 0 := (lE_zero h.hg).2 ⟨h.hle, h.hl, h.hd⟩
theorem mE_ring {m : Mc} {n : Nat} (hg : m.g = n) (h : mE m = 0) : m.ring = true → n % 2 = 0 := by
 intro hr
 unfold mE at h
 split at h
 · cases h
 split at h
 · cases h
 rename_i h2
 have h3 : ¬ m.g.tmod 2 = 1 := fun e => h2 ⟨hr, e⟩
 rw [hg, tm (by omega)] at h3
 omega
end Go.Ev
namespace Go.Ev
open Go.Proofs
theorem first_sl {H : AH} {x : Value} {l : List AV} (h : Sl H (.v x) l) : lenA (.v x) = some l.length ∧ firstA 1 l.length (.v x) H = some l := by
 cases x with
 | slice a n cap =>
   obtain ⟨hn, h⟩ := h
   subst hn
   refine ⟨rfl, ?_⟩
   rcases h with rfl | ⟨b, off, vs, rfl, hgl, hv⟩
   · cases a with
     | none => rfl
     | some a => rfl
   · cases l with
     | nil => rfl
     | cons z l =>
       have hle : off + (l.length + 1) ≤ vs.length := by
         obtain ⟨w, hw⟩ : ∃ w, (z :: l)[l.length]? = some w := ⟨_, List.getElem?_eq_getElem (by simp)⟩
         obtain ⟨u, hu, _⟩ := hv _ _ hw
         have := (List.getElem?_eq_some_iff.1 hu).1
         omega
       unfold firstA
       simp only [List.length_cons, Nat.mul_one, show Nat.beq (l.length + 1) 0 = false from rfl, hgl]
       rw [if_pos (Nat.ble_eq_true_of_le hle)]
       congr 1
       apply List.ext_getElem?
       intro j
       rw [List.getElem?_map, List.getElem?_take, List.getElem?_drop]
       rcases Nat.lt_or_ge j (l.length + 1) with hj | hj
       · rw [if_pos hj]
         obtain ⟨w, hw⟩ : ∃ w, (z :: l)[j]? = some w := ⟨_, List.getElem?_eq_getElem (by simpa using hj)⟩
         obtain ⟨u, hu, rfl⟩ := hv _ _ hw
         rw [hu, hw]; rfl
       · rw [if_neg (by omega), List.getElem?_eq_none (by simpa using hj)]; rfl
 | _ => exact h.elim
theorem wop_appendE {E : Env} {T : List AV} {H : AH} {ops : Array Oper} {o : Oper} {K : AV → AH → Prop} {c : Call} {t xt e e' e0 : TypeId} {s x : Operand} {i : TypeInfo} {z : Value} {new : List AV} {b n g : Nat} (ho : o.op = .call c) (hg : wantedA o ops T = true) (hc : c.callee = .builtin .append) (hargs : c.args.toList = [s, x]) (ht : c.argTypes[0]? = some t) (hxt : c.argTypes[1]? = some xt)
   (hu : runPure E.P (underlying t) = some (.slice e)) (hux : runPure E.P (underlying xt) = some (.slice e')) (hi : runPure E.P (typeInfo e) = some i) (hs : runPure E.P (sizeOf e) = some 1) (hz : runPure E.P (zeroValue e) = some z) (hz0 : z.cells.size = 1) (hb : i.bytes ≤ 2 ^ 8)
   (hlen : n ≤ 2 ^ 30) (hr : H.next < 2 ^ 39) (hsx : av T s = .slc b 0 0 0) (hgb : H.get b = some (.cells [] e0 g)) (hn : lenA (av T x) = some n) (hf : firstA 1 n (av T x) H = some new) (h1 : new.all AV.one = true) (hnl : new.length = n)
   (hk0 : n = 0 → K (.slc b 0 0 0) (H.set b (some (.cells [] e0 g)))) (hk : 0 < n → K (.slu H.next 0 n 1) (H.add (.cells new e 1))) : WOp E ops o T H K := by
 have hlt : Nat.blt H.next (2 ^ 39) = true := Nat.ble_eq_true_of_le hr
 have e1 : Nat.ble ((0 + n) * i.bytes) (2 ^ 40) = true := Nat.ble_eq_true_of_le (by
   rw [Nat.zero_add]
   have := Nat.mul_le_mul hlen hb
   exact Nat.le_trans this (by decide))
 have e2 : Nat.ble (0 + n) (2 ^ 40) = true := Nat.ble_eq_true_of_le (by rw [Nat.zero_add]; exact Nat.le_trans hlen (by decide))
 have hf' : firstA (0 + 1) n (av T x) H = some new := hf
 have hall : (new.all AV.one && Nat.beq new.length (n * (0 + 1))) = true := by rw [h1, hnl]; simp
 rcases Nat.eq_zero_or_pos n with h0 | h0
 · subst h0
   have : new = [] := List.eq_nil_of_length_eq_zero hnl
   subst this
   refine wop_val (by rw [ho]; simp only [still, hc]) hg (r := .slc b 0 0 0) (H' := H.set b (some (.cells [] e0 g))) ?_ (Nat.le_refl _) (hk0 rfl)
   unfold opEval; rw [ho]
   simp only [oCall, hc, oBuiltin, hargs, appendA, ht, hxt, hu, hux, isIntD, hi, hs, hz, hz0, hn]
   rw [if_pos (by decide), hf']
   simp only
   rw [if_pos (by decide)]
   simp only [hsx]
   rw [if_pos (by decide)]
   simp only [storeA, hgb]
   rw [if_pos (by decide)]
   rfl
 · refine wop_val (by rw [ho]; simp only [still, hc]) hg (r := .slu H.next 0 n 1) (H' := H.add (.cells new e 1)) ?_ (Nat.le_succ _) (hk h0)
   unfold opEval; rw [ho]
   simp only [oCall, hc, oBuiltin, hargs, appendA, ht, hxt, hu, hux, isIntD, hi, hs, hz, hz0, hn]
   rw [if_pos (by decide), hf']
   simp only
   rw [if_pos hall]
   simp only [hsx]
   rw [if_neg (by intro h; have := Nat.le_of_ble_eq_true h; omega)]
   simp only [hgb]
   rw [if_pos (by rw [e1, e2]; simp)]
   simp only [newU, hlt, if_true, Option.map_some, Nat.zero_add]
   simp
theorem ivs_one (l : List Int) : (ivs l).all AV.one = true := by
 rw [List.all_eq_true]
 intro v hv
 obtain ⟨w, _, rfl⟩ := List.mem_map.1 hv
 rfl
structure Ky (H : AH) (v : AV) (l : List Int) : Prop where
 sl : Sl H v (ivs l)
 old : Old H v
 cap : CapOk v
 lk : ∀ b, v.own = some b → Lk H b
theorem Ky.keep {H H' : AH} {v : AV} {l : List Int} (h : Ky H v l) (k : Keeps H H') : Ky H' v l := ⟨h.sl.keep h.old k, h.old.keep k, h.cap, fun b hb => (h.lk b hb).keep k⟩
theorem Nw.ky {H : AH} {v : AV} {l : List Int} (h : Nw H v l) : Ky H v l := ⟨h.sl, h.old, h.cap, h.lk⟩
section
variable {O : CallF} {T : List AV} {H H0 : AH} {ops : Array Oper} {o : Oper} {i : Nat} {π : List Stp}
theorem o_build0 {K : AV → AH → Prop} {t e : TypeId} {z0 : Value} (ho : o.op = .buildSlice t 0 #[]) (hg : wantedA o ops T = true) [hu : TyS t e] [hs : Cell e] [hz : Zero e z0] (hr : H.next < 2 ^ 39)
   (hk : K (.slc H.next 0 0 0) (H.add (.cells [] e 0))) : WOp (ENV O) ops o T H K := by
 refine wop_val (by rw [ho]; rfl) hg (r := .slc H.next 0 0 0) (H' := H.add (.cells [] e 0)) ?_ (Nat.le_succ _) hk
 have hlt : Nat.blt H.next (2 ^ 39) = true := Nat.ble_eq_true_of_le hr
 unfold opEval; rw [ho]
 simp only [ENV, buildSliceA, hu.u, hs.s, hz.z, hz.c]
 rw [if_pos (by decide)]
 simp [fillA, newA, hlt]
end
end Go.Ev
