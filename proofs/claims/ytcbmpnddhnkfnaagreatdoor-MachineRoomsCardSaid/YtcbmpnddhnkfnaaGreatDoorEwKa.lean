/- Part of an evaluator of calls that is proved sound, and of what it gives about this program. No condition of its own. -/
import Derived.Test.YtcbmpnddhnkfnaaGreatDoorEwJa
set_option linter.unusedVariables false
set_option linter.unusedSimpArgs false
set_option linter.unusedSectionVars false
set_option maxRecDepth 100000
set_option maxHeartbeats 4000000
namespace Go.Ev
open Go.Proofs
instance : TyS 86 4 := ⟨by kernel_rfl⟩
instance : Cell 86 := ⟨by kernel_rfl, by kernel_rfl⟩
instance : Zero 86 (.slice none 0 0) := ⟨by kernel_rfl, rfl, by kernel_rfl, by kernel_rfl⟩
def OkPq (l : List Int) : Prop := (∀ (i : Nat) (z : Int), l[i]? = some z → 0 ≤ z ∧ z < l.length) ∧ ∀ (k i : Nat) (z : Int), k < i → l[k]? = some z → l[i]? ≠ some z
def rangeI (n : Nat) : List Int := (List.range n).map fun (i : Nat) => (i : Int)
theorem mem_rangeI {n : Nat} {z : Int} : z ∈ rangeI n ↔ 0 ≤ z ∧ z < n := by
 unfold rangeI
 rw [List.mem_map]
 constructor
 · rintro ⟨i, hi, rfl⟩
   rw [List.mem_range] at hi
   omega
 · rintro ⟨h1, h2⟩
   exact ⟨z.toNat, List.mem_range.2 (by omega), by omega⟩
theorem length_rangeI (n : Nat) : (rangeI n).length = n := by simp [rangeI]
theorem OkPq.nodup {l : List Int} (h : OkPq l) : l.Nodup := by
 rw [List.nodup_iff_pairwise_ne, List.pairwise_iff_getElem]
 intro i j hi hj hij e
 exact h.2 i j l[i] hij (List.getElem?_eq_getElem hi) (by rw [e]; exact List.getElem?_eq_getElem hj)
theorem OkPq.mem {l : List Int} (h : OkPq l) {z : Int} (hz : z ∈ l) : 0 ≤ z ∧ z < l.length := by
 obtain ⟨i, hi⟩ := List.mem_iff_getElem?.1 hz
 exact h.1 i z hi
theorem OkPq.all {l : List Int} (h : OkPq l) {i : Nat} (hi : i < l.length) : (i : Int) ∈ l := by
 rcases Classical.em ((i : Int) ∈ l) with h' | h'
 · exact h'
 · have hs : l ⊆ (rangeI l.length).erase (i : Int) := fun z hz => by
     rw [List.mem_erase_of_ne (fun e => h' (by rw [← e]; exact hz)), mem_rangeI]
     exact h.mem hz
   have := h.nodup.length_le_of_subset hs
   rw [List.length_erase_of_mem (mem_rangeI.2 (by omega)), length_rangeI] at this
   omega
variable {O : CallF} (hq : Quiet O)
include hq
end Go.Ev
namespace Go.Ev
open Go.Proofs
theorem sl_cells {H : AH} {b n cap : Nat} {cs l : List AV} {e : TypeId} {g : Nat} (h39 : b < 2 ^ 39) (hg : H.get b = some (.cells cs e g)) (hn : n = l.length) (h : ∀ (j : Nat) (v : AV), l[j]? = some v → cs[j]? = some v) : Sl H (.slc b 0 n cap) l :=
 ⟨hn, h39, cs, e, g, hg, fun j v hv => by rw [Nat.zero_add]; exact h j v hv⟩
theorem keeps_append {H0 H H1 : AH} {s : AV} (h : Keeps H0 H) (hn : H1.next = H.next + 1) (hgl : H1.gl = H.gl) (hb : ∀ b, b ≠ H.next → s.own ≠ some b → H1.get b = H.get b) (hs : ∀ b, s.own = some b → H0.next ≤ b) : Keeps H0 H1 :=
 ⟨by have := h.nx; omega, hgl.trans h.gl, fun b hlt => (hb b (by have := h.nx; omega) (fun e => by have := hs b e; omega)).trans (h.get b hlt)⟩
def it (f : Nat → Nat) : Nat → Nat → Nat
 | 0, x => x
 | k + 1, x => f (it f k x)
theorem it_add (f : Nat → Nat) (a b x : Nat) : it f (a + b) x = it f a (it f b x) := by
 induction a with
 | zero => rw [Nat.zero_add]; rfl
 | succ a ih => rw [Nat.succ_add]; exact congrArg f ih
structure Pm (f : Nat → Nat) (n : Nat) : Prop where
 lt : ∀ x, x < n → f x < n
 inj : ∀ x y, x < n → y < n → f x = f y → x = y
section
variable {f : Nat → Nat} {n : Nat}
theorem Pm.it_lt (h : Pm f n) {x : Nat} (hx : x < n) (k : Nat) : it f k x < n := by
 induction k with
 | zero => exact hx
 | succ k ih => exact h.lt _ ih
theorem Pm.it_inj (h : Pm f n) {x y : Nat} (hx : x < n) (hy : y < n) (k : Nat) (e : it f k x = it f k y) : x = y := by
 induction k with
 | zero => exact e
 | succ k ih => exact ih (h.inj _ _ (h.it_lt hx k) (h.it_lt hy k) e)
theorem Pm.back (h : Pm f n) {x : Nat} (hx : x < n) : ∃ k, k < n ∧ it f (k + 1) x = x := by
 rcases Classical.em (∃ k, k < n ∧ it f (k + 1) x = x) with h' | h'
 · exact h'
 · have hne : ∀ i j, i < j → j ≤ n → it f i x ≠ it f j x := fun i j hij hj e => by
     have e2 : it f i (it f (j - i) x) = it f i x := by rw [← it_add, Nat.add_sub_cancel' (Nat.le_of_lt hij)]; exact e.symm
     have := h.it_inj (h.it_lt hx _) hx i e2
     exact h' ⟨j - i - 1, by omega, by rw [show j - i - 1 + 1 = j - i by omega]; exact this⟩
   have hnd : ((List.range (n + 1)).map fun k => it f k x).Nodup := by
     rw [List.nodup_iff_pairwise_ne, List.pairwise_map, List.pairwise_iff_getElem]
     intro i j hi hj hij
     simp only [List.getElem_range]
     simp only [List.length_range] at hj
     exact hne i j hij (by omega)
   have hsub : ((List.range (n + 1)).map fun k => it f k x) ⊆ List.range n := fun y hy => by
     obtain ⟨k, _, rfl⟩ := List.mem_map.1 hy
     exact List.mem_range.2 (h.it_lt hx k)
   have := hnd.length_le_of_subset hsub
   simp at this
   omega
def per (f : Nat → Nat) (n x : Nat) : Nat := ((List.range n).find? fun k => it f (k + 1) x == x).getD 0 + 1
theorem Pm.per_spec (h : Pm f n) {x : Nat} (hx : x < n) : it f (per f n x) x = x ∧ per f n x ≤ n ∧ ∀ j, 0 < j → j < per f n x → it f j x ≠ x := by
 unfold per
 cases hf : (List.range n).find? fun k => it f (k + 1) x == x with
 | none =>
   obtain ⟨k, hk, e⟩ := h.back hx
   have := List.find?_eq_none.1 hf k (List.mem_range.2 hk)
   simp [e] at this
 | some k =>
   have h1 := List.find?_some hf
   have h2 := List.mem_of_find?_eq_some hf
   refine ⟨eq_of_beq h1, by rw [Option.getD_some]; exact Nat.succ_le_of_lt (List.mem_range.1 h2), fun j hj hjk e => ?_⟩
   rw [Option.getD_some] at hjk
   obtain ⟨_, i, hi, hik, hlt⟩ := List.find?_eq_some_iff_getElem.1 hf
   rw [List.getElem_range] at hik
   subst hik
   have := hlt (j - 1) (by omega)
   rw [List.getElem_range, show j - 1 + 1 = j by omega, e] at this
   simp at this
theorem per_pos (f : Nat → Nat) (n x : Nat) : 0 < per f n x := Nat.succ_pos _
theorem Pm.it_mul (h : Pm f n) {x : Nat} (hx : x < n) (k : Nat) : it f (per f n x * k) x = x := by
 induction k with
 | zero => rfl
 | succ k ih => rw [Nat.mul_succ, it_add, (h.per_spec hx).1, ih]
theorem Pm.it_mod (h : Pm f n) {x : Nat} (hx : x < n) (m : Nat) : it f (m % per f n x) x = it f m x := by
 conv => rhs; rw [← Nat.mod_add_div m (per f n x), it_add, h.it_mul hx]
theorem Pm.per_it (h : Pm f n) {x : Nat} (hx : x < n) (i : Nat) : per f n (it f i x) = per f n x := by
 have hy := h.it_lt hx i
 obtain ⟨a1, _, a3⟩ := h.per_spec hx
 obtain ⟨b1, _, b3⟩ := h.per_spec hy
 have e1 : it f (per f n x) (it f i x) = it f i x := by rw [← it_add, Nat.add_comm, it_add, a1]
 have e2 : it f (per f n (it f i x)) x = x := by
   refine h.it_inj (h.it_lt hx _) hx i ?_
   rw [← it_add, Nat.add_comm, it_add]; exact b1
 rcases Nat.lt_trichotomy (per f n (it f i x)) (per f n x) with h1 | h1 | h1
 · exact absurd e2 (a3 _ (per_pos _ _ _) h1)
 · exact h1
 · exact absurd e1 (b3 _ (per_pos _ _ _) h1)
def orb (f : Nat → Nat) (n s : Nat) : List Nat := (List.range (per f n s)).map fun k => it f k s
theorem orb_length (f : Nat → Nat) (n s : Nat) : (orb f n s).length = per f n s := by simp [orb]
theorem Pm.mem_orb (h : Pm f n) {s x : Nat} (hs : s < n) : x ∈ orb f n s ↔ ∃ k, it f k s = x := by
 unfold orb
 rw [List.mem_map]
 constructor
 · rintro ⟨k, _, e⟩; exact ⟨k, e⟩
 · rintro ⟨k, e⟩
   exact ⟨k % per f n s, List.mem_range.2 (Nat.mod_lt _ (per_pos _ _ _)), by rw [h.it_mod hs, e]⟩
theorem Pm.self_orb (h : Pm f n) {s : Nat} (hs : s < n) : s ∈ orb f n s := (h.mem_orb hs).2 ⟨0, rfl⟩
theorem Pm.orb_trans (h : Pm f n) {s x y : Nat} (hs : s < n) (hx : x ∈ orb f n s) (hy : y ∈ orb f n x) : y ∈ orb f n s := by
 obtain ⟨k, rfl⟩ := (h.mem_orb hs).1 hx
 obtain ⟨j, rfl⟩ := (h.mem_orb (h.it_lt hs k)).1 hy
 exact (h.mem_orb hs).2 ⟨j + k, it_add _ _ _ _⟩
def vis (f : Nat → Nat) (n i x : Nat) : Bool := (List.range i).any fun t => (orb f n t).contains x
theorem vis_iff {i x : Nat} : vis f n i x = true ↔ ∃ t, t < i ∧ x ∈ orb f n t := by
 simp [vis, List.any_eq_true]
theorem vis_succ (i x : Nat) : vis f n (i + 1) x = (vis f n i x || (orb f n i).contains x) := by
 simp [vis, List.range_succ, List.any_append]
theorem Pm.vis_skip (h : Pm f n) {i x : Nat} (hi : i < n) (hv : vis f n i i = true) : vis f n (i + 1) x = vis f n i x := by
 rw [vis_succ]
 obtain ⟨t, ht, hit⟩ := vis_iff.1 hv
 cases hc : (orb f n i).contains x with
 | false => rw [Bool.or_false]
 | true =>
   have hx : x ∈ orb f n i := by simpa using hc
   rw [Bool.or_true]
   exact (vis_iff.2 ⟨t, ht, h.orb_trans (by omega) hit hx⟩).symm
def cycs (f : Nat → Nat) (n i : Nat) : List (List Nat) := ((List.range i).filter fun s => !vis f n s s).map (orb f n)
theorem cycs_succ (i : Nat) : cycs f n (i + 1) = cycs f n i ++ if vis f n i i = true then [] else [orb f n i] := by
 unfold cycs
 rw [List.range_succ, List.filter_append, List.map_append]
 congr 1
 cases h : vis f n i i <;> simp [h]
theorem Pm.cycs_all (h : Pm f n) {x : Nat} (hx : x < n) : ∃ o ∈ cycs f n n, x ∈ o := by
 have key : ∀ i, i ≤ n → ∀ x, vis f n i x = true → ∃ o ∈ cycs f n i, x ∈ o := by
   intro i
   induction i with
   | zero => intro _ x hv; simp [vis] at hv
   | succ i ih =>
     intro hi x hv
     rw [cycs_succ]
     cases hvi : vis f n i i with
     | true =>
       rw [h.vis_skip (by omega) hvi] at hv
       obtain ⟨o, ho, hxo⟩ := ih (by omega) x hv
       exact ⟨o, by simpa using ho, hxo⟩
     | false =>
       rw [vis_succ] at hv
       rcases Bool.or_eq_true _ _ ▸ hv with hv | hv
       · obtain ⟨o, ho, hxo⟩ := ih (by omega) x hv
         exact ⟨o, List.mem_append_left _ ho, hxo⟩
       · exact ⟨orb f n i, List.mem_append_right _ (by simp), by simpa using hv⟩
 exact key n (Nat.le_refl _) x (vis_iff.2 ⟨x, hx, h.self_orb hx⟩)
theorem cycs_mem {i : Nat} {o : List Nat} (h : o ∈ cycs f n i) : ∃ s, s < i ∧ o = orb f n s := by
 unfold cycs at h
 obtain ⟨s, hs, rfl⟩ := List.mem_map.1 h
 exact ⟨s, List.mem_range.1 (List.mem_filter.1 hs).1, rfl⟩
end
def fOf (l : List Int) : Nat → Nat := fun x => (l.getD x 0).toNat
theorem OkPq.f_get {l : List Int} (h : OkPq l) {x : Nat} (hx : x < l.length) : l[x]? = some ((fOf l x : Nat) : Int) := by
 obtain ⟨z, hz⟩ := l_some hx
 have := h.1 x z hz
 rw [hz]
 simp only [fOf, List.getD, hz, Option.getD_some]
 congr 1
 omega
theorem OkPq.pm {l : List Int} (h : OkPq l) : Pm (fOf l) l.length := by
 refine ⟨fun x hx => ?_, fun x y hx hy e => ?_⟩
 · have := h.1 x _ (h.f_get hx); omega
 · have h1 := h.f_get hx
   have h2 := h.f_get hy
   rw [e] at h1
   rcases Nat.lt_trichotomy x y with hlt | heq | hlt
   · exact absurd h2 (h.2 x y _ hlt h1)
   · exact heq
   · exact absurd h1 (h.2 y x _ hlt h2)
def stp (k : Int) (m : Nat) : Nat := ((k.tmod m + m).tmod m).toNat
def powL' (l : List Int) (k : Int) : List Int := (List.range l.length).map fun x => ((it (fOf l) (stp k (per (fOf l) l.length x)) x : Nat) : Int)
end Go.Ev
