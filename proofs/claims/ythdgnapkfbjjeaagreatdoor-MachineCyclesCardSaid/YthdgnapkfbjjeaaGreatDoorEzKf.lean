/- Part of an evaluator of calls that is proved sound, and of what it gives about this program. No condition of its own. -/
import Derived.Test.YthdgnapkfbjjeaaGreatDoorEzKa
import Derived.Test.YthdgnapkfbjjeaaGreatDoorEyIb
set_option linter.unusedVariables false
set_option linter.unusedSimpArgs false
set_option linter.unusedSectionVars false
set_option maxRecDepth 100000
set_option maxHeartbeats 4000000
set_option maxHeartbeats 8000000
namespace Go.Ev
open Go.Proofs
theorem o_lenN {O : CallF} {T : List AV} {H : AH} {ops : Array Oper} {o : Oper} {K : AV → AH → Prop} {c : Call} {t e : TypeId} {x : Operand} {l : List AV} {m : Nat} (ho : o.op = .call c) (hg : wantedA o ops T = true) (hc : c.callee = .builtin .len) (hargs : c.args.toList = [x]) (ht : c.argTypes.toList = [t]) [hu : TyS t e] (hx : Sl H (av T x) l) (hm : l.length = m)
   (hk : K (iv m) H) : WOp (ENV O) ops o T H K := o_len ho hg hc hargs ht hx (by rw [hm]; exact hk)
theorem tmod_range (k : Int) {p : Nat} (hp : 0 < p) : -(p : Int) < k.tmod p ∧ k.tmod p < p := by
 have h1 := Int.lt_tmod_of_pos k (show (0 : Int) < p by omega)
 have h2 := Int.tmod_lt_of_pos k (show (0 : Int) < p by omega)
 omega
theorem nvs_get {l : List Nat} {j y : Nat} (h : l[j]? = some y) : (nvs l)[j]? = some (iv (y : Int)) := by simp [nvs, ivs, h]
variable {O : CallF} (hq : Quiet O)
include hq
end Go.Ev
namespace Go.Ev
open Go.Proofs
section
variable {f : Nat → Nat} {n : Nat}
def sts (f : Nat → Nat) (n : Nat) : List Nat := (List.range n).filter fun s => !vis f n s s
theorem cycs_sts : cycs f n n = (sts f n).map (orb f n) := rfl
theorem sts_lt : (sts f n).Pairwise (· < ·) := List.pairwise_lt_range.filter _
theorem sts_mem {s : Nat} (h : s ∈ sts f n) : s < n ∧ vis f n s s = false := by
 have := List.mem_filter.1 h
 exact ⟨List.mem_range.1 this.1, by simpa using this.2⟩
theorem Pm.orb_symm (h : Pm f n) {s x : Nat} (hs : s < n) (hx : x ∈ orb f n s) : s ∈ orb f n x := by
 obtain ⟨k, rfl⟩ := (h.mem_orb hs).1 hx
 refine (h.mem_orb (h.it_lt hs k)).2 ⟨per f n s * (k + 1) - k, ?_⟩
 have hp := per_pos f n s
 have h1 : k ≤ per f n s * (k + 1) := Nat.le_trans (Nat.le_succ k) (Nat.le_mul_of_pos_left _ hp)
 rw [← it_add, Nat.sub_add_cancel h1, h.it_mul hs]
theorem Pm.orb_lt (h : Pm f n) {s x : Nat} (hs : s < n) (hx : x ∈ orb f n s) : x < n := by
 obtain ⟨k, rfl⟩ := (h.mem_orb hs).1 hx
 exact h.it_lt hs k
theorem Pm.orb_ge (h : Pm f n) {s x : Nat} (hs : s < n) (hv : vis f n s s = false) (hx : x ∈ orb f n s) : s ≤ x := by
 rcases Nat.lt_or_ge x s with hlt | hge
 · have : vis f n s s = true := vis_iff.2 ⟨x, hlt, h.orb_symm hs hx⟩
   rw [hv] at this; cases this
 · exact hge
theorem Pm.orb_apart (h : Pm f n) {s t x : Nat} (hs : s < n) (ht : t < n) (hst : s < t) (hv : vis f n t t = false) (h1 : x ∈ orb f n s) (h2 : x ∈ orb f n t) : False := by
 have hx := h.orb_lt ht h2
 have h3 := h.orb_symm ht h2
 have h4 := h.orb_trans hs h1 h3
 have : vis f n t t = true := vis_iff.2 ⟨s, hst, h4⟩
 rw [hv] at this; cases this
theorem Pm.it_ne (h : Pm f n) {s i j : Nat} (hs : s < n) (hij : i < j) (hj : j < per f n s) : it f i s ≠ it f j s := fun e => by
 have e2 : it f i (it f (j - i) s) = it f i s := by rw [← it_add, Nat.add_sub_cancel' (Nat.le_of_lt hij)]; exact e.symm
 have := h.it_inj (h.it_lt hs _) hs i e2
 exact (h.per_spec hs).2.2 (j - i) (by omega) (by omega) this
theorem Pm.orb_nodup (h : Pm f n) {s : Nat} (hs : s < n) : (orb f n s).Nodup := by
 unfold orb
 rw [List.nodup_iff_pairwise_ne, List.pairwise_map, List.pairwise_iff_getElem]
 intro i j hi hj hij
 simp only [List.getElem_range]
 simp only [List.length_range] at hj
 exact h.it_ne hs hij hj
def seenL (l : List (List Nat)) (y : Nat) : Bool := l.any fun o => o.contains y
theorem seenL_iff {l : List (List Nat)} {y : Nat} : seenL l y = true ↔ ∃ o ∈ l, y ∈ o := by
 simp [seenL]
theorem Pm.cyc_at (h : Pm f n) {i : Nat} {o : List Nat} (ho : (cycs f n n)[i]? = some o) : ∃ s, s < n ∧ o = orb f n s ∧ (∀ j' s', j' < i → (sts f n)[j']? = some s' → s' < s) ∧ (sts f n)[i]? = some s ∧
   (∀ x ∈ o, s ≤ x ∧ x < n ∧ seenL ((cycs f n n).take i) x = false) := by
 rw [cycs_sts, List.getElem?_map, Option.map_eq_some_iff] at ho
 obtain ⟨s, hs, rfl⟩ := ho
 obtain ⟨hsn, hsv⟩ := sts_mem (List.mem_of_getElem? hs)
 have hord : ∀ j' s', j' < i → (sts f n)[j']? = some s' → s' < s := fun j' s' hj hs' => by
   obtain ⟨h1, e1⟩ := List.getElem?_eq_some_iff.1 hs'
   obtain ⟨h2, e2⟩ := List.getElem?_eq_some_iff.1 hs
   rw [← e1, ← e2]
   exact List.pairwise_iff_getElem.1 sts_lt j' i h1 h2 hj
 refine ⟨s, hsn, rfl, hord, hs, fun x hx => ⟨h.orb_ge hsn hsv hx, h.orb_lt hsn hx, ?_⟩⟩
 cases hc : seenL ((cycs f n n).take i) x with
 | false => rfl
 | true =>
   obtain ⟨o, ho, hxo⟩ := seenL_iff.1 hc
   rw [cycs_sts, ← List.map_take] at ho
   obtain ⟨t, ht, rfl⟩ := List.mem_map.1 ho
   obtain ⟨j, hj⟩ := List.mem_iff_getElem?.1 ht
   rw [List.getElem?_take] at hj
   split at hj
   · rename_i hji
     exact (h.orb_apart (sts_mem (List.mem_of_getElem? hj)).1 hsn (hord j t hji hj) hsv hxo hx).elim
   · cases hj
theorem Pm.orb_take (h : Pm f n) {s j : Nat} (hs : s < n) (hj : j < per f n s) : ((orb f n s).take j).contains (it f j s) = false := by
 cases hc : ((orb f n s).take j).contains (it f j s) with
 | false => rfl
 | true =>
   have hm := List.contains_iff_mem.1 hc
   obtain ⟨i, hi⟩ := List.mem_iff_getElem?.1 hm
   rw [List.getElem?_take] at hi
   split at hi
   · rename_i hij
     rw [orb_get (by omega)] at hi
     exact (h.it_ne hs hij hj (Option.some.inj hi)).elim
   · cases hi
theorem Pm.orb_next (h : Pm f n) {s j : Nat} (hs : s < n) (hj : j < per f n s) : (orb f n s)[(j + 1) % per f n s]? = some (f (it f j s)) := by
 rw [orb_get (Nat.mod_lt _ (per_pos f n s)), h.it_mod hs]
 rfl
theorem Pm.sum_le (h : Pm f n) : ((cycs f n n).map List.length).sum ≤ n := by
 rw [← List.length_flatten]
 have hnd : (cycs f n n).flatten.Nodup := by
   rw [List.nodup_iff_pairwise_ne, List.pairwise_flatten]
   refine ⟨fun o ho => ?_, ?_⟩
   · obtain ⟨s, hs, rfl⟩ := cycs_mem ho
     exact List.nodup_iff_pairwise_ne.1 (h.orb_nodup hs)
   · rw [cycs_sts, List.pairwise_map, List.pairwise_iff_getElem]
     intro i j hi hj hij x hx y hy e
     subst e
     have h1 := sts_mem (List.getElem_mem hi)
     have h2 := sts_mem (List.getElem_mem hj)
     exact h.orb_apart h1.1 h2.1 (List.pairwise_iff_getElem.1 sts_lt i j hi hj hij) h2.2 hx hy
 have hsub : (cycs f n n).flatten ⊆ List.range n := fun y hy => by
   obtain ⟨o, ho, hyo⟩ := List.mem_flatten.1 hy
   obtain ⟨s, hs, rfl⟩ := cycs_mem ho
   exact List.mem_range.2 (h.orb_lt hs hyo)
 have := hnd.length_le_of_subset hsub
 simpa using this
def lcmL (l : List Nat) : Nat := l.foldl Nat.lcm 1
theorem foldl_lcm_dvd {l : List Nat} {a i : Nat} : l.foldl Nat.lcm a ∣ i ↔ a ∣ i ∧ ∀ m ∈ l, m ∣ i := by
 induction l generalizing a with
 | nil => simp
 | cons x l ih =>
   rw [List.foldl_cons, ih]
   constructor
   · rintro ⟨h1, h2⟩
     exact ⟨Nat.dvd_trans (Nat.dvd_lcm_left a x) h1, fun m hm => by
       rcases List.mem_cons.1 hm with rfl | hm
       · exact Nat.dvd_trans (Nat.dvd_lcm_right a m) h1
       · exact h2 m hm⟩
   · rintro ⟨h1, h2⟩
     exact ⟨Nat.lcm_dvd h1 (h2 x (by simp)), fun m hm => h2 m (by simp [hm])⟩
theorem lcmL_dvd {l : List Nat} {i : Nat} : lcmL l ∣ i ↔ ∀ m ∈ l, m ∣ i := by
 unfold lcmL; rw [foldl_lcm_dvd]; simp
def perd (f : Nat → Nat) (n : Nat) : Nat := lcmL ((cycs f n n).map List.length)
theorem Pm.it_id (h : Pm f n) {x i : Nat} (hx : x < n) : it f i x = x ↔ per f n x ∣ i := by
 constructor
 · intro e
   rw [← h.it_mod hx] at e
   refine Nat.dvd_of_mod_eq_zero ?_
   rcases Nat.eq_zero_or_pos (i % per f n x) with h0 | h0
   · exact h0
   · exact ((h.per_spec hx).2.2 _ h0 (Nat.mod_lt _ (per_pos f n x)) e).elim
 · rintro ⟨k, rfl⟩
   exact h.it_mul hx k
theorem Pm.round (h : Pm f n) {i : Nat} : (∀ x, x < n → it f i x = x) ↔ perd f n ∣ i := by
 unfold perd
 rw [lcmL_dvd]
 constructor
 · intro hx m hm
   obtain ⟨o, ho, rfl⟩ := List.mem_map.1 hm
   obtain ⟨s, hs, rfl⟩ := cycs_mem ho
   rw [orb_length]
   exact (h.it_id hs).1 (hx s hs)
 · intro hm x hx
   obtain ⟨o, ho, hxo⟩ := h.cycs_all hx
   obtain ⟨s, hs, rfl⟩ := cycs_mem ho
   obtain ⟨k, rfl⟩ := (h.mem_orb hs).1 hxo
   have := hm (orb f n s).length (List.mem_map.2 ⟨_, ho, rfl⟩)
   rw [orb_length] at this
   exact (h.it_id hx).2 (by rw [h.per_it hs]; exact this)
end
def lcmT : Nat → List Nat
 | 0 => [1]
 | 1 => [1]
 | 2 => [1, 2]
 | 3 => [1, 2, 3]
 | 4 => [1, 2, 3, 4]
 | 5 => [1, 2, 3, 4, 5, 6]
 | 6 => [1, 2, 3, 4, 5, 6]
 | 7 => [1, 2, 3, 4, 5, 6, 7, 10, 12]
 | 8 => [1, 2, 3, 4, 5, 6, 7, 8, 10, 12, 15]
 | 9 => [1, 2, 3, 4, 5, 6, 7, 8, 9, 10, 12, 14, 15, 20]
 | 10 => [1, 2, 3, 4, 5, 6, 7, 8, 9, 10, 12, 14, 15, 20, 21, 30]
 | 11 => [1, 2, 3, 4, 5, 6, 7, 8, 9, 10, 11, 12, 14, 15, 18, 20, 21, 24, 28, 30]
 | _ => [1, 2, 3, 4, 5, 6, 7, 8, 9, 10, 11, 12, 14, 15, 18, 20, 21, 24, 28, 30, 35, 42, 60]
theorem lcmT_step : ((List.range 13).all fun s => (lcmT s).all fun v => (List.range 13).all fun m => m == 0 || Nat.blt 12 (s + m) || (lcmT (s + m)).contains (Nat.lcm v m)) = true := by decide +kernel
theorem lcmT_le : ((List.range 13).all fun s => (lcmT s).all fun v => Nat.ble 1 v && Nat.ble v 60) = true := by decide +kernel
theorem lcmT_foldl : ∀ (l : List Nat) (s v : Nat), v ∈ lcmT s → (∀ m ∈ l, 0 < m) → s + l.sum ≤ 12 → l.foldl Nat.lcm v ∈ lcmT (s + l.sum)
 | [], s, v, hv, _, _ => by simpa using hv
 | m :: l, s, v, hv, hp, hs => by
   rw [List.foldl_cons]
   rw [List.sum_cons] at hs ⊢
   have hm := hp m (by simp)
   have h1 := lcmT_step
   rw [List.all_eq_true] at h1
   have h2 := h1 s (List.mem_range.2 (by omega))
   rw [List.all_eq_true] at h2
   have h3 := h2 v hv
   rw [List.all_eq_true] at h3
   have h4 := h3 m (List.mem_range.2 (by omega))
   have e1 : (m == 0) = false := by simp; omega
   have e2 : Nat.blt 12 (s + m) = false := by
     cases h : Nat.blt 12 (s + m) with
     | false => rfl
     | true => have : 12 < s + m := Nat.le_of_ble_eq_true h; omega
   rw [e1, e2] at h4
   simp only [Bool.false_or] at h4
   have := lcmT_foldl l (s + m) (Nat.lcm v m) (List.contains_iff_mem.1 h4) (fun m hm => hp m (by simp [hm])) (by omega)
   rwa [Nat.add_assoc] at this
theorem lcmL_le {l : List Nat} (hp : ∀ m ∈ l, 0 < m) (hs : l.sum ≤ 12) : 1 ≤ lcmL l ∧ lcmL l ≤ 60 := by
 have h := lcmT_foldl l 0 1 (by simp [lcmT]) hp (by omega)
 have h1 := lcmT_le
 rw [List.all_eq_true] at h1
 have h2 := h1 (0 + l.sum) (List.mem_range.2 (by omega))
 rw [List.all_eq_true] at h2
 have h3 := h2 _ h
 rw [Bool.and_eq_true] at h3
 exact ⟨Nat.le_of_ble_eq_true h3.1, Nat.le_of_ble_eq_true h3.2⟩
theorem sum_take_le (l : List Nat) (i : Nat) : (l.take i).sum ≤ l.sum := by
 have := congrArg List.sum (List.take_append_drop i l)
 rw [List.sum_append] at this
 omega
def lens (f : Nat → Nat) (n : Nat) : List Nat := (cycs f n n).map List.length
theorem lens_pos {f : Nat → Nat} {n : Nat} : ∀ m ∈ lens f n, 0 < m := fun m hm => by
 obtain ⟨o, ho, rfl⟩ := List.mem_map.1 hm
 obtain ⟨s, hs, rfl⟩ := cycs_mem ho
 rw [orb_length]; exact per_pos f n s
theorem Pm.lcm_take {f : Nat → Nat} {n : Nat} (h : Pm f n) (hn : n ≤ 12) (i : Nat) : 1 ≤ lcmL ((lens f n).take i) ∧ lcmL ((lens f n).take i) ≤ 60 :=
 lcmL_le (fun m hm => lens_pos m (List.mem_of_mem_take hm)) (by
   have h1 := sum_take_le (lens f n) i
   have h2 := h.sum_le
   have h2 : (lens f n).sum ≤ n := h2
   omega)
theorem lcmL_succ {l : List Nat} {i m : Nat} (h : l[i]? = some m) : lcmL (l.take (i + 1)) = Nat.lcm (lcmL (l.take i)) m := by
 unfold lcmL
 rw [List.take_add_one, h, List.foldl_append]
 rfl
end Go.Ev
namespace Go.Ev
open Go.Proofs
structure Six (m : Mc) (l : List Int) (n : Nat) : Prop where
 hg : m.g = n
 hn1 : 1 ≤ n
 hn : n ≤ 6
 hm0 : mE m = 0
 hsw : m.sw.length ≤ 19
 hll : l.length ≤ 6
 hle : l.length ≤ 4 * n
 hl : InR (4 * n) l
 hd : l.Nodup
 hP : InR (4 * n) (permL m n)
 hPl : (permL m n).length = 4 * n
 hpp : p240 (permL m n) = idL (4 * n)
theorem Six.tail {m : Mc} {l : List Int} {n : Nat} {z : Int} (h : Six m (z :: l) n) : Six m l n :=
 { h with hll := by have := h.hll; rw [List.length_cons] at this; omega, hle := by have := h.hle; rw [List.length_cons] at this; omega, hl := fun y hy => h.hl y (by simp [hy]), hd := (List.nodup_cons.1 h.hd).2 }
theorem mE_ring {m : Mc} {n : Nat} (hg : m.g = n) (h : mE m = 0) : m.ring = true → n % 2 = 0 := by
 intro hr
 unfold mE at h
 split at h
 · cases h
 split at h
 · cases h
 rename_i h2
 have h3 : ¬ m.g.tmod 2 = 1 := fun e => h2 ⟨hr, e⟩
 rw [hg, tm (by omega)] at h3
 omega
end Go.Ev
namespace Go.Ev
open Go.Proofs
structure Ky (H : AH) (v : AV) (l : List Int) : Prop where
 sl : Sl H v (ivs l)
 old : Old H v
 cap : CapOk v
 lk : ∀ b, v.own = some b → Lk H b
theorem Ky.keep {H H' : AH} {v : AV} {l : List Int} (h : Ky H v l) (k : Keeps H H') : Ky H' v l := ⟨h.sl.keep h.old k, h.old.keep k, h.cap, fun b hb => (h.lk b hb).keep k⟩
theorem Nw.ky {H : AH} {v : AV} {l : List Int} (h : Nw H v l) : Ky H v l := ⟨h.sl, h.old, h.cap, h.lk⟩
section
variable {O : CallF} {T : List AV} {H H0 : AH} {ops : Array Oper} {o : Oper} {i : Nat} {π : List Stp}
end
end Go.Ev
