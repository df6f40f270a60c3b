/- Part of an evaluator of calls that is proved sound, and of what it gives about this program. No condition of its own. -/
import Derived.Test.YthiodbpknjfnkaaGreatDoorEvHi
set_option linter.unusedVariables false
set_option linter.unusedSimpArgs false
set_option maxRecDepth 100000
namespace Go.Ev

/-! ### Cycles, rounds and orders (pure) -/

section
variable {f : Nat → Nat} {n : Nat}

/-- Where the cycles begin. -/
def sts (f : Nat → Nat) (n : Nat) : List Nat := (List.range n).filter fun s => !vis f n s s

theorem cycs_sts : cycs f n n = (sts f n).map (orb f n) := rfl

theorem sts_lt : (sts f n).Pairwise (· < ·) := List.pairwise_lt_range.filter _

theorem sts_mem {s : Nat} (h : s ∈ sts f n) : s < n ∧ vis f n s s = false := by
  have := List.mem_filter.1 h
  exact ⟨List.mem_range.1 this.1, by simpa using this.2⟩

theorem Pm.orb_symm (h : Pm f n) {s x : Nat} (hs : s < n) (hx : x ∈ orb f n s) : s ∈ orb f n x := by
  obtain ⟨k, rfl⟩ := (h.mem_orb hs).1 hx
  refine (h.mem_orb (h.it_lt hs k)).2 ⟨per f n s * (k + 1) - k, ?_⟩
  have hp := per_pos f n s
  have h1 : k ≤ per f n s * (k + 1) := Nat.le_trans (Nat.le_succ k) (Nat.le_mul_of_pos_left _ hp)
  rw [← it_add, Nat.sub_add_cancel h1, h.it_mul hs]

theorem Pm.orb_lt (h : Pm f n) {s x : Nat} (hs : s < n) (hx : x ∈ orb f n s) : x < n := by
  obtain ⟨k, rfl⟩ := (h.mem_orb hs).1 hx
  exact h.it_lt hs k

theorem Pm.orb_ge (h : Pm f n) {s x : Nat} (hs : s < n) (hv : vis f n s s = false) (hx : x ∈ orb f n s) : s ≤ x := by
  rcases Nat.lt_or_ge x s with hlt | hge
  · have : vis f n s s = true := vis_iff.2 ⟨x, hlt, h.orb_symm hs hx⟩
    rw [hv] at this; cases this
  · exact hge

theorem Pm.orb_apart (h : Pm f n) {s t x : Nat} (hs : s < n) (ht : t < n) (hst : s < t) (hv : vis f n t t = false) (h1 : x ∈ orb f n s) (h2 : x ∈ orb f n t) : False := by
  have hx := h.orb_lt ht h2
  have h3 := h.orb_symm ht h2
  have h4 := h.orb_trans hs h1 h3
  have : vis f n t t = true := vis_iff.2 ⟨s, hst, h4⟩
  rw [hv] at this; cases this

theorem Pm.it_ne (h : Pm f n) {s i j : Nat} (hs : s < n) (hij : i < j) (hj : j < per f n s) : it f i s ≠ it f j s := fun e => by
  have e2 : it f i (it f (j - i) s) = it f i s := by rw [← it_add, Nat.add_sub_cancel' (Nat.le_of_lt hij)]; exact e.symm
  have := h.it_inj (h.it_lt hs _) hs i e2
  exact (h.per_spec hs).2.2 (j - i) (by omega) (by omega) this

theorem Pm.orb_nodup (h : Pm f n) {s : Nat} (hs : s < n) : (orb f n s).Nodup := by
  unfold orb
  rw [List.nodup_iff_pairwise_ne, List.pairwise_map, List.pairwise_iff_getElem]
  intro i j hi hj hij
  simp only [List.getElem_range]
  simp only [List.length_range] at hj
  exact h.it_ne hs hij hj

/-- Seen in one of the lists. -/
def seenL (l : List (List Nat)) (y : Nat) : Bool := l.any fun o => o.contains y

theorem seenL_iff {l : List (List Nat)} {y : Nat} : seenL l y = true ↔ ∃ o ∈ l, y ∈ o := by
  simp [seenL]

/-- What holds of the cycle i. -/
theorem Pm.cyc_at (h : Pm f n) {i : Nat} {o : List Nat} (ho : (cycs f n n)[i]? = some o) : ∃ s, s < n ∧ o = orb f n s ∧ (∀ j' s', j' < i → (sts f n)[j']? = some s' → s' < s) ∧ (sts f n)[i]? = some s ∧
    (∀ x ∈ o, s ≤ x ∧ x < n ∧ seenL ((cycs f n n).take i) x = false) := by
  rw [cycs_sts, List.getElem?_map, Option.map_eq_some_iff] at ho
  obtain ⟨s, hs, rfl⟩ := ho
  obtain ⟨hsn, hsv⟩ := sts_mem (List.mem_of_getElem? hs)
  have hord : ∀ j' s', j' < i → (sts f n)[j']? = some s' → s' < s := fun j' s' hj hs' => by
    obtain ⟨h1, e1⟩ := List.getElem?_eq_some_iff.1 hs'
    obtain ⟨h2, e2⟩ := List.getElem?_eq_some_iff.1 hs
    rw [← e1, ← e2]
    exact List.pairwise_iff_getElem.1 sts_lt j' i h1 h2 hj
  refine ⟨s, hsn, rfl, hord, hs, fun x hx => ⟨h.orb_ge hsn hsv hx, h.orb_lt hsn hx, ?_⟩⟩
  cases hc : seenL ((cycs f n n).take i) x with
  | false => rfl
  | true =>
    obtain ⟨o, ho, hxo⟩ := seenL_iff.1 hc
    rw [cycs_sts, ← List.map_take] at ho
    obtain ⟨t, ht, rfl⟩ := List.mem_map.1 ho
    obtain ⟨j, hj⟩ := List.mem_iff_getElem?.1 ht
    rw [List.getElem?_take] at hj
    split at hj
    · rename_i hji
      exact (h.orb_apart (sts_mem (List.mem_of_getElem? hj)).1 hsn (hord j t hji hj) hsv hxo hx).elim
    · cases hj

theorem Pm.seen_all (h : Pm f n) {y : Nat} (hy : y < n) : seenL (cycs f n n) y = true := by
  obtain ⟨o, ho, hyo⟩ := h.cycs_all hy
  exact seenL_iff.2 ⟨o, ho, hyo⟩

/-- Within a cycle: the place j is not among those before it. -/
theorem Pm.orb_take (h : Pm f n) {s j : Nat} (hs : s < n) (hj : j < per f n s) : ((orb f n s).take j).contains (it f j s) = false := by
  cases hc : ((orb f n s).take j).contains (it f j s) with
  | false => rfl
  | true =>
    have hm := List.contains_iff_mem.1 hc
    obtain ⟨i, hi⟩ := List.mem_iff_getElem?.1 hm
    rw [List.getElem?_take] at hi
    split at hi
    · rename_i hij
      rw [orb_get (by omega)] at hi
      exact (h.it_ne hs hij hj (Option.some.inj hi)).elim
    · cases hi

/-- The next place round a cycle. -/
theorem Pm.orb_next (h : Pm f n) {s j : Nat} (hs : s < n) (hj : j < per f n s) : (orb f n s)[(j + 1) % per f n s]? = some (f (it f j s)) := by
  rw [orb_get (Nat.mod_lt _ (per_pos f n s)), h.it_mod hs]
  rfl

/-- The sum of the lengths. -/
theorem Pm.sum_le (h : Pm f n) : ((cycs f n n).map List.length).sum ≤ n := by
  rw [← List.length_flatten]
  have hnd : (cycs f n n).flatten.Nodup := by
    rw [List.nodup_iff_pairwise_ne, List.pairwise_flatten]
    refine ⟨fun o ho => ?_, ?_⟩
    · obtain ⟨s, hs, rfl⟩ := cycs_mem ho
      exact List.nodup_iff_pairwise_ne.1 (h.orb_nodup hs)
    · rw [cycs_sts, List.pairwise_map, List.pairwise_iff_getElem]
      intro i j hi hj hij x hx y hy e
      subst e
      have h1 := sts_mem (List.getElem_mem hi)
      have h2 := sts_mem (List.getElem_mem hj)
      exact h.orb_apart h1.1 h2.1 (List.pairwise_iff_getElem.1 sts_lt i j hi hj hij) h2.2 hx hy
  have hsub : (cycs f n n).flatten ⊆ List.range n := fun y hy => by
    obtain ⟨o, ho, hyo⟩ := List.mem_flatten.1 hy
    obtain ⟨s, hs, rfl⟩ := cycs_mem ho
    exact List.mem_range.2 (h.orb_lt hs hyo)
  have := hnd.length_le_of_subset hsub
  simpa using this

/-- The least common multiple of the lengths, one after another. -/
def lcmL (l : List Nat) : Nat := l.foldl Nat.lcm 1

theorem foldl_lcm_dvd {l : List Nat} {a i : Nat} : l.foldl Nat.lcm a ∣ i ↔ a ∣ i ∧ ∀ m ∈ l, m ∣ i := by
  induction l generalizing a with
  | nil => simp
  | cons x l ih =>
    rw [List.foldl_cons, ih]
    constructor
    · rintro ⟨h1, h2⟩
      exact ⟨Nat.dvd_trans (Nat.dvd_lcm_left a x) h1, fun m hm => by
        rcases List.mem_cons.1 hm with rfl | hm
        · exact Nat.dvd_trans (Nat.dvd_lcm_right a m) h1
        · exact h2 m hm⟩
    · rintro ⟨h1, h2⟩
      exact ⟨Nat.lcm_dvd h1 (h2 x (by simp)), fun m hm => h2 m (by simp [hm])⟩

theorem lcmL_dvd {l : List Nat} {i : Nat} : lcmL l ∣ i ↔ ∀ m ∈ l, m ∣ i := by
  unfold lcmL; rw [foldl_lcm_dvd]; simp

/-- The period. -/
def perd (f : Nat → Nat) (n : Nat) : Nat := lcmL ((cycs f n n).map List.length)

theorem Pm.it_id (h : Pm f n) {x i : Nat} (hx : x < n) : it f i x = x ↔ per f n x ∣ i := by
  constructor
  · intro e
    rw [← h.it_mod hx] at e
    refine Nat.dvd_of_mod_eq_zero ?_
    rcases Nat.eq_zero_or_pos (i % per f n x) with h0 | h0
    · exact h0
    · exact ((h.per_spec hx).2.2 _ h0 (Nat.mod_lt _ (per_pos f n x)) e).elim
  · rintro ⟨k, rfl⟩
    exact h.it_mul hx k

theorem Pm.round (h : Pm f n) {i : Nat} : (∀ x, x < n → it f i x = x) ↔ perd f n ∣ i := by
  unfold perd
  rw [lcmL_dvd]
  constructor
  · intro hx m hm
    obtain ⟨o, ho, rfl⟩ := List.mem_map.1 hm
    obtain ⟨s, hs, rfl⟩ := cycs_mem ho
    rw [orb_length]
    exact (h.it_id hs).1 (hx s hs)
  · intro hm x hx
    obtain ⟨o, ho, hxo⟩ := h.cycs_all hx
    obtain ⟨s, hs, rfl⟩ := cycs_mem ho
    obtain ⟨k, rfl⟩ := (h.mem_orb hs).1 hxo
    have := hm (orb f n s).length (List.mem_map.2 ⟨_, ho, rfl⟩)
    rw [orb_length] at this
    exact (h.it_id hx).2 (by rw [h.per_it hs]; exact this)
end

/-! ### How great the least common multiple of lengths with a sum up to 12 can be -/

/-- The least common multiples of lengths whose sum is at most s. -/
def lcmT : Nat → List Nat
  | 0 => [1]
  | 1 => [1]
  | 2 => [1, 2]
  | 3 => [1, 2, 3]
  | 4 => [1, 2, 3, 4]
  | 5 => [1, 2, 3, 4, 5, 6]
  | 6 => [1, 2, 3, 4, 5, 6]
  | 7 => [1, 2, 3, 4, 5, 6, 7, 10, 12]
  | 8 => [1, 2, 3, 4, 5, 6, 7, 8, 10, 12, 15]
  | 9 => [1, 2, 3, 4, 5, 6, 7, 8, 9, 10, 12, 14, 15, 20]
  | 10 => [1, 2, 3, 4, 5, 6, 7, 8, 9, 10, 12, 14, 15, 20, 21, 30]
  | 11 => [1, 2, 3, 4, 5, 6, 7, 8, 9, 10, 11, 12, 14, 15, 18, 20, 21, 24, 28, 30]
  | _ => [1, 2, 3, 4, 5, 6, 7, 8, 9, 10, 11, 12, 14, 15, 18, 20, 21, 24, 28, 30, 35, 42, 60]

theorem lcmT_step : ((List.range 13).all fun s => (lcmT s).all fun v => (List.range 13).all fun m => m == 0 || Nat.blt 12 (s + m) || (lcmT (s + m)).contains (Nat.lcm v m)) = true := by decide +kernel
theorem lcmT_le : ((List.range 13).all fun s => (lcmT s).all fun v => Nat.ble 1 v && Nat.ble v 60) = true := by decide +kernel

theorem lcmT_foldl : ∀ (l : List Nat) (s v : Nat), v ∈ lcmT s → (∀ m ∈ l, 0 < m) → s + l.sum ≤ 12 → l.foldl Nat.lcm v ∈ lcmT (s + l.sum)
  | [], s, v, hv, _, _ => by simpa using hv
  | m :: l, s, v, hv, hp, hs => by
    rw [List.foldl_cons]
    rw [List.sum_cons] at hs ⊢
    have hm := hp m (by simp)
    have h1 := lcmT_step
    rw [List.all_eq_true] at h1
    have h2 := h1 s (List.mem_range.2 (by omega))
    rw [List.all_eq_true] at h2
    have h3 := h2 v hv
    rw [List.all_eq_true] at h3
    have h4 := h3 m (List.mem_range.2 (by omega))
    have e1 : (m == 0) = false := by simp; omega
    have e2 : Nat.blt 12 (s + m) = false := by
      cases h : Nat.blt 12 (s + m) with
      | false => rfl
      | true => have : 12 < s + m := Nat.le_of_ble_eq_true h; omega
    rw [e1, e2] at h4
    simp only [Bool.false_or] at h4
    have := lcmT_foldl l (s + m) (Nat.lcm v m) (List.contains_iff_mem.1 h4) (fun m hm => hp m (by simp [hm])) (by omega)
    rwa [Nat.add_assoc] at this

theorem lcmL_le {l : List Nat} (hp : ∀ m ∈ l, 0 < m) (hs : l.sum ≤ 12) : 1 ≤ lcmL l ∧ lcmL l ≤ 60 := by
  have h := lcmT_foldl l 0 1 (by simp [lcmT]) hp (by omega)
  have h1 := lcmT_le
  rw [List.all_eq_true] at h1
  have h2 := h1 (0 + l.sum) (List.mem_range.2 (by omega))
  rw [List.all_eq_true] at h2
  have h3 := h2 _ h
  rw [Bool.and_eq_true] at h3
  exact ⟨Nat.le_of_ble_eq_true h3.1, Nat.le_of_ble_eq_true h3.2⟩

theorem sum_take_le (l : List Nat) (i : Nat) : (l.take i).sum ≤ l.sum := by
  have := congrArg List.sum (List.take_append_drop i l)
  rw [List.sum_append] at this
  omega

/-- The lengths of the cycles. -/
def lens (f : Nat → Nat) (n : Nat) : List Nat := (cycs f n n).map List.length

theorem lens_pos {f : Nat → Nat} {n : Nat} : ∀ m ∈ lens f n, 0 < m := fun m hm => by
  obtain ⟨o, ho, rfl⟩ := List.mem_map.1 hm
  obtain ⟨s, hs, rfl⟩ := cycs_mem ho
  rw [orb_length]; exact per_pos f n s

theorem Pm.lcm_take {f : Nat → Nat} {n : Nat} (h : Pm f n) (hn : n ≤ 12) (i : Nat) : 1 ≤ lcmL ((lens f n).take i) ∧ lcmL ((lens f n).take i) ≤ 60 :=
  lcmL_le (fun m hm => lens_pos m (List.mem_of_mem_take hm)) (by
    have h1 := sum_take_le (lens f n) i
    have h2 := h.sum_le
    have h2 : (lens f n).sum ≤ n := h2
    omega)

theorem lcmL_succ {l : List Nat} {i m : Nat} (h : l[i]? = some m) : lcmL (l.take (i + 1)) = Nat.lcm (lcmL (l.take i)) m := by
  unfold lcmL
  rw [List.take_add_one, h, List.foldl_append]
  rfl

/-! ### Powers -/

theorem stp_emod (k : Int) {p : Nat} (hp : 0 < p) : ((stp k p : Nat) : Int) = k % (p : Int) := by
  have h1 := tmod_range k hp
  have h0 : 0 ≤ (k.tmod p + p).tmod p := Int.tmod_nonneg _ (by omega)
  unfold stp
  rw [Int.toNat_of_nonneg h0, Int.tmod_eq_emod_of_nonneg (by omega), Int.add_emod_right]
  have h2 : (k.tmod p) % (p : Int) = k % p := by
    have e : k = p * (k.tdiv p) + k.tmod p := (Int.mul_tdiv_add_tmod k p).symm
    conv => rhs; rw [e]
    rw [Int.add_comm, Int.add_mul_emod_self_left]
  exact h2

theorem stp_lt (k : Int) {p : Nat} (hp : 0 < p) : stp k p < p := by
  have := stp_emod k hp
  have h1 := Int.emod_lt_of_pos k (show (0 : Int) < p by omega)
  omega

theorem stp_add (k m : Int) {p : Nat} (hp : 0 < p) : (stp m p + stp k p) % p = stp (k + m) p := by
  have h1 := stp_emod k hp
  have h2 := stp_emod m hp
  have h3 := stp_emod (k + m) hp
  have : (((stp m p + stp k p) % p : Nat) : Int) = ((stp (k + m) p : Nat) : Int) := by
    rw [h3, Int.natCast_emod, Int.natCast_add, h1, h2, ← Int.add_emod, Int.add_comm]
  exact Int.ofNat.inj this

theorem powL_length (l : List Int) (k : Int) : (powL' l k).length = l.length := by simp [powL']

theorem powL_get {l : List Int} {k : Int} {x : Nat} (hx : x < l.length) : (powL' l k)[x]? = some ((it (fOf l) (stp k (per (fOf l) l.length x)) x : Nat) : Int) := by
  simp [powL', hx]

theorem OkP.pow_ok {l : List Int} (h : OkP l) (k : Int) : OkP (powL' l k) := by
  have hp := h.pm
  refine ⟨fun i z hz => ?_, fun i j z hij h1 h2 => ?_⟩
  · have hi : i < l.length := by have := (List.getElem?_eq_some_iff.1 hz).1; rwa [powL_length] at this
    rw [powL_get hi] at hz
    cases hz
    have := hp.it_lt hi (stp k (per (fOf l) l.length i))
    rw [powL_length]
    omega
  · have hi : i < l.length := by have := (List.getElem?_eq_some_iff.1 h1).1; rwa [powL_length] at this
    have hj : j < l.length := by have := (List.getElem?_eq_some_iff.1 h2).1; rwa [powL_length] at this
    rw [powL_get hi] at h1
    rw [powL_get hj] at h2
    rw [← h2] at h1
    have e : it (fOf l) (stp k (per (fOf l) l.length i)) i = it (fOf l) (stp k (per (fOf l) l.length j)) j := by
      have := Option.some.inj h1; omega
    have e2 : per (fOf l) l.length i = per (fOf l) l.length j := by
      rw [← hp.per_it hi (stp k (per (fOf l) l.length i)), e, hp.per_it hj]
    rw [e2] at e
    have := hp.it_inj hi hj _ e
    omega

theorem fOf_pow {l : List Int} {k : Int} {x : Nat} (hx : x < l.length) : fOf (powL' l k) x = it (fOf l) (stp k (per (fOf l) l.length x)) x := by
  unfold fOf
  rw [List.getD_eq_getElem?_getD, powL_get hx]
  rfl

theorem compL_get2 {l m : List Int} {i : Nat} {z y : Int} (hz : l[i]? = some z) (hy : m[z.toNat]? = some y) : (compL l m)[i]? = some y := by
  simp [compL, hz, List.getD, hy]

theorem OkP.pow_add {l : List Int} (h : OkP l) (k m : Int) : compL (powL' l k) (powL' l m) = powL' l (k + m) := by
  have hp := h.pm
  apply List.ext_getElem?
  intro x
  rcases Nat.lt_or_ge x l.length with hx | hx
  · have hy := hp.it_lt hx (stp k (per (fOf l) l.length x))
    rw [powL_get hx]
    refine compL_get2 (powL_get hx) (y := _) ?_
    rw [Int.toNat_natCast, powL_get hy]
    rw [hp.per_it hx, ← it_add, ← hp.it_mod hx, stp_add k m (per_pos _ _ _)]
  · rw [List.getElem?_eq_none (by simp [compL, powL_length]; omega), List.getElem?_eq_none (by rw [powL_length]; omega)]

theorem stp_one_it {f : Nat → Nat} {n x : Nat} (h : Pm f n) (hx : x < n) : it f (stp 1 (per f n x)) x = f x := by
  have h1 : stp 1 (per f n x) = 1 % per f n x := by
    have : ((stp 1 (per f n x) : Nat) : Int) = ((1 % per f n x : Nat) : Int) := by rw [stp_emod 1 (per_pos f n x)]; rfl
    exact Int.ofNat.inj this
  rw [h1, h.it_mod hx]
  rfl

theorem OkP.pow_one {l : List Int} (h : OkP l) : powL' l 1 = l := by
  apply List.ext_getElem?
  intro x
  rcases Nat.lt_or_ge x l.length with hx | hx
  · rw [powL_get hx, stp_one_it h.pm hx, h.f_get hx]
  · rw [List.getElem?_eq_none (by rw [powL_length]; omega), List.getElem?_eq_none hx]

theorem OkP.pow_zero {l : List Int} (h : OkP l) : powL' l 0 = rangeI l.length := by
  apply List.ext_getElem?
  intro x
  rcases Nat.lt_or_ge x l.length with hx | hx
  · have e : stp 0 (per (fOf l) l.length x) = 0 := by
      have := stp_emod 0 (per_pos (fOf l) l.length x)
      simp at this
      omega
    rw [powL_get hx, e]
    simp [rangeI, hx]
    rfl
  · rw [List.getElem?_eq_none (by rw [powL_length]; omega), List.getElem?_eq_none (by simp [rangeI]; omega)]

theorem OkP.comp_inv {l : List Int} (h : OkP l) : compL l (powL' l (-1)) = rangeI l.length := by
  have := h.pow_add 1 (-1)
  rw [h.pow_one] at this
  rw [this]
  exact h.pow_zero

/-- Step by step. -/
def itL (l : List Int) (i : Nat) : List Int := (List.range l.length).map fun x => ((it (fOf l) i x : Nat) : Int)

theorem itL_length (l : List Int) (i : Nat) : (itL l i).length = l.length := by simp [itL]
theorem itL_get {l : List Int} {i x : Nat} (hx : x < l.length) : (itL l i)[x]? = some ((it (fOf l) i x : Nat) : Int) := by simp [itL, hx]

theorem OkP.itL_succ {l : List Int} (h : OkP l) (i : Nat) : compL (itL l i) l = itL l (i + 1) := by
  have hp := h.pm
  apply List.ext_getElem?
  intro x
  rcases Nat.lt_or_ge x l.length with hx | hx
  · rw [itL_get hx]
    refine compL_get2 (itL_get hx) ?_
    rw [Int.toNat_natCast, h.f_get (hp.it_lt hx i)]
    rfl
  · rw [List.getElem?_eq_none (by simp [compL, itL_length]; omega), List.getElem?_eq_none (by rw [itL_length]; omega)]

theorem OkP.itL_round {l : List Int} (h : OkP l) (i : Nat) : itL l i = rangeI l.length ↔ perd (fOf l) l.length ∣ i := by
  rw [← h.pm.round]
  constructor
  · intro e x hx
    have h1 : (itL l i)[x]? = (rangeI l.length)[x]? := by rw [e]
    rw [itL_get hx] at h1
    simp [rangeI, hx] at h1
    omega
  · intro hx
    unfold itL rangeI
    apply List.map_congr_left
    intro x hxm
    rw [hx x (List.mem_range.1 hxm)]

theorem itL_mem {l : List Int} (h : OkP l) (i : Nat) : ∀ z ∈ itL l i, 0 ≤ z ∧ z < l.length := fun z hz => by
  obtain ⟨x, hx, rfl⟩ := List.mem_map.1 hz
  have := h.pm.it_lt (List.mem_range.1 hx) i
  omega

theorem itL_zero (l : List Int) : itL l 0 = rangeI l.length := rfl
end Go.Ev
namespace Go.Ev

/-! ### A permutation under other names (pure) -/

section
variable {f f' be : Nat → Nat} {n : Nat}

theorem perm_of_nodup {l m : List Nat} (h1 : l.Nodup) (h2 : m.Nodup) (h : ∀ x, x ∈ l ↔ x ∈ m) : l.Perm m := by
  rw [List.perm_iff_count]
  intro x
  have e1 := List.nodup_iff_count.1 h1 x
  have e2 := List.nodup_iff_count.1 h2 x
  by_cases hx : x ∈ l
  · have := List.count_pos_iff.2 hx
    have := List.count_pos_iff.2 ((h x).1 hx)
    omega
  · rw [List.count_eq_zero.2 hx, List.count_eq_zero.2 fun h' => hx ((h x).2 h')]

theorem Pm.flat_nodup (h : Pm f n) : (cycs f n n).flatten.Nodup := by
  rw [List.nodup_iff_pairwise_ne, List.pairwise_flatten]
  refine ⟨fun o ho => ?_, ?_⟩
  · obtain ⟨s, hs, rfl⟩ := cycs_mem ho
    exact List.nodup_iff_pairwise_ne.1 (h.orb_nodup hs)
  · rw [cycs_sts, List.pairwise_map]
    refine List.Pairwise.imp_of_mem ?_ sts_lt
    intro s t hs ht hst x hx y hy e
    subst e
    exact h.orb_apart (sts_mem hs).1 (sts_mem ht).1 hst (sts_mem ht).2 hx hy

theorem Pm.flat_mem (h : Pm f n) (x : Nat) : x ∈ (cycs f n n).flatten ↔ x ∈ List.range n := by
  rw [List.mem_range, List.mem_flatten]
  constructor
  · rintro ⟨o, ho, hx⟩
    obtain ⟨s, hs, rfl⟩ := cycs_mem ho
    exact h.orb_lt hs hx
  · intro hx
    obtain ⟨o, ho, hxo⟩ := h.cycs_all hx
    exact ⟨o, ho, hxo⟩

theorem Pm.count_orb (h : Pm f n) {s L : Nat} (hs : s < n) : (orb f n s).countP (fun x => per f n x == L) = if per f n s = L then L else 0 := by
  have he : ∀ x ∈ orb f n s, (per f n x == L) = decide (per f n s = L) := fun x hx => by
    obtain ⟨k, rfl⟩ := (h.mem_orb hs).1 hx
    rw [h.per_it hs]
    rfl
  rw [List.countP_congr (q := fun _ => decide (per f n s = L)) (fun x hx => by rw [he x hx])]
  by_cases e : per f n s = L
  · simp [e, orb_length]
  · simp [e]

/-- So many elements have a cycle of the length L. -/
theorem Pm.count_len (h : Pm f n) (L : Nat) : (List.range n).countP (fun x => per f n x == L) = L * (lens f n).count L := by
  have hp := perm_of_nodup h.flat_nodup List.nodup_range h.flat_mem
  rw [← hp.countP_eq]
  have hc : ∀ (l : List Nat), (∀ s ∈ l, s < n) → (l.map (orb f n)).flatten.countP (fun x => per f n x == L) = L * ((l.map (orb f n)).map List.length).count L := by
    intro l
    induction l with
    | nil => intro _; simp
    | cons s l ih =>
      intro hl
      rw [List.map_cons, List.flatten_cons, List.countP_append, ih fun t ht => hl t (by simp [ht]), h.count_orb (hl s (by simp)), List.map_cons, List.count_cons, orb_length]
      by_cases e : per f n s = L
      · simp [e, Nat.mul_add, Nat.add_comm]
      · simp [e]
  unfold lens
  rw [cycs_sts]
  exact hc _ fun s hs => (sts_mem hs).1

/-- f' is f, with the names that be gives. -/
structure Conj (f f' be : Nat → Nat) (n : Nat) : Prop where
  pf : Pm f n
  pf' : Pm f' n
  lt : ∀ x, x < n → be x < n
  inj : ∀ x y, x < n → y < n → be x = be y → x = y
  eq : ∀ x, x < n → f' (be x) = be (f x)

theorem Conj.it (h : Conj f f' be n) (i : Nat) {x : Nat} (hx : x < n) : Go.Ev.it f' i (be x) = be (Go.Ev.it f i x) := by
  induction i with
  | zero => rfl
  | succ i ih =>
    show f' (Go.Ev.it f' i (be x)) = be (f (Go.Ev.it f i x))
    rw [ih, h.eq _ (h.pf.it_lt hx i)]

theorem Conj.per (h : Conj f f' be n) {x : Nat} (hx : x < n) : Go.Ev.per f' n (be x) = Go.Ev.per f n x := by
  have hd : ∀ i, Go.Ev.per f' n (be x) ∣ i ↔ Go.Ev.per f n x ∣ i := fun i => by
    rw [← h.pf'.it_id (h.lt x hx), ← h.pf.it_id hx, h.it i hx]
    exact ⟨fun e => h.inj _ _ (h.pf.it_lt hx i) hx e, fun e => by rw [e]⟩
  exact Nat.dvd_antisymm ((hd _).2 (Nat.dvd_refl _)) ((hd _).1 (Nat.dvd_refl _))

theorem nodup_map {l : List Nat} (hn : l.Nodup) (hi : ∀ x ∈ l, ∀ y ∈ l, be x = be y → x = y) : (l.map be).Nodup := by
  rw [List.nodup_iff_pairwise_ne, List.pairwise_map]
  exact List.Pairwise.imp_of_mem (fun {a b} ha hb hab e => hab (hi a ha b hb e)) (List.nodup_iff_pairwise_ne.1 hn)

theorem Conj.range (h : Conj f f' be n) : ((List.range n).map be).Perm (List.range n) := by
  have hnd : ((List.range n).map be).Nodup := nodup_map List.nodup_range fun x hx y hy e => h.inj x y (List.mem_range.1 hx) (List.mem_range.1 hy) e
  have hsub : (List.range n).map be ⊆ List.range n := fun y hy => by
    obtain ⟨x, hx, rfl⟩ := List.mem_map.1 hy
    exact List.mem_range.2 (h.lt x (List.mem_range.1 hx))
  refine perm_of_nodup hnd List.nodup_range fun y => ⟨fun hy => hsub hy, fun hy => ?_⟩
  rcases Classical.em (y ∈ (List.range n).map be) with h' | h'
  · exact h'
  · have hs : (List.range n).map be ⊆ (List.range n).erase y := fun z hz => by
      rw [List.mem_erase_of_ne (fun e => h' (by rw [← e]; exact hz))]
      exact hsub hz
    have := hnd.length_le_of_subset hs
    rw [List.length_erase_of_mem hy, List.length_map, List.length_range] at this
    have := List.mem_range.1 hy
    omega

theorem Conj.count (h : Conj f f' be n) {L : Nat} (hL : 0 < L) : (lens f' n).count L = (lens f n).count L := by
  have h1 := h.pf.count_len L
  have h2 := h.pf'.count_len L
  rw [← h.range.countP_eq, List.countP_map, List.countP_congr (q := fun x => Go.Ev.per f n x == L) (fun x hx => by
    show (Go.Ev.per f' n (be x) == L) = true ↔ _
    rw [h.per (List.mem_range.1 hx)]), h1] at h2
  exact (Nat.eq_of_mul_eq_mul_left hL h2).symm

theorem Conj.perd (h : Conj f f' be n) : Go.Ev.perd f' n = Go.Ev.perd f n := by
  have hr : ∀ i, Go.Ev.perd f' n ∣ i ↔ Go.Ev.perd f n ∣ i := fun i => by
    rw [← h.pf'.round, ← h.pf.round]
    constructor
    · intro h1 x hx
      have := h1 (be x) (h.lt x hx)
      rw [h.it i hx] at this
      exact h.inj _ _ (h.pf.it_lt hx i) hx this
    · intro h1 y hy
      obtain ⟨x, hx, rfl⟩ := List.mem_map.1 (h.range.mem_iff.2 (List.mem_range.2 hy))
      have hx := List.mem_range.1 hx
      rw [h.it i hx, h1 x hx]
  exact Nat.dvd_antisymm ((hr _).2 (Nat.dvd_refl _)) ((hr _).1 (Nat.dvd_refl _))

/-- Lists of positive numbers with as many of each are of one length. -/
theorem length_of_count : ∀ {l m : List Nat}, (∀ x, l.count x = m.count x) → l.length = m.length := fun h => (List.perm_iff_count.2 h).length_eq
theorem Conj.perm (h : Conj f f' be n) : (lens f' n).Perm (lens f n) := by
  rw [List.perm_iff_count]
  intro L
  rcases Nat.eq_zero_or_pos L with rfl | hL
  · rw [List.count_eq_zero.2 (fun hm => absurd (lens_pos 0 hm) (by omega)), List.count_eq_zero.2 (fun hm => absurd (lens_pos 0 hm) (by omega))]
  · exact h.count hL
end
end Go.Ev
namespace Go.Ev

theorem fOf_lt {l : List Int} (h : OkP l) {x : Nat} (hx : x < l.length) : fOf l x < l.length := h.pm.lt x hx
theorem fOf_inj {l : List Int} (h : OkP l) {x y : Nat} (hx : x < l.length) (hy : y < l.length) (e : fOf l x = fOf l y) : x = y := h.pm.inj x y hx hy e

theorem compL_length (l m : List Int) : (compL l m).length = l.length := by simp [compL]
theorem compL_f {l m : List Int} (hl : OkP l) (hm : OkP m) (e : l.length = m.length) {x : Nat} (hx : x < l.length) : (compL l m)[x]? = some ((fOf m (fOf l x) : Nat) : Int) :=
  compL_get2 (hl.f_get hx) (by rw [Int.toNat_natCast]; exact hm.f_get (by rw [← e]; exact fOf_lt hl hx))
theorem fOf_comp {l m : List Int} (hl : OkP l) (hm : OkP m) (e : l.length = m.length) {x : Nat} (hx : x < l.length) : fOf (compL l m) x = fOf m (fOf l x) := by
  show ((compL l m).getD x 0).toNat = _
  rw [List.getD_eq_getElem?_getD, compL_f hl hm e hx]
  rfl
theorem OkP.comp {l m : List Int} (hl : OkP l) (hm : OkP m) (e : l.length = m.length) : OkP (compL l m) := by
  refine okP_of (fun z hz => ?_) ?_
  · obtain ⟨x, hx⟩ := List.mem_iff_getElem?.1 hz
    have hxl : x < l.length := by have := (List.getElem?_eq_some_iff.1 hx).1; rwa [compL_length] at this
    rw [compL_f hl hm e hxl] at hx
    cases hx
    have := fOf_lt hm (show fOf l x < m.length by rw [← e]; exact fOf_lt hl hxl)
    rw [compL_length]
    omega
  · rw [List.nodup_iff_pairwise_ne, List.pairwise_iff_getElem]
    intro i j hi hj hij he
    rw [compL_length] at hi hj
    have h1 := compL_f hl hm e hi
    have h2 := compL_f hl hm e hj
    have h3 : (compL l m)[i]? = (compL l m)[j]? := by rw [List.getElem?_eq_getElem (by rw [compL_length]; exact hi), List.getElem?_eq_getElem (by rw [compL_length]; exact hj), he]
    rw [h1, h2] at h3
    have h4 : fOf m (fOf l i) = fOf m (fOf l j) := by have := Option.some.inj h3; omega
    have h5 := fOf_inj hm (by rw [← e]; exact fOf_lt hl hi) (by rw [← e]; exact fOf_lt hl hj) h4
    have := fOf_inj hl hi hj h5
    omega

/-- The permutation l, with the names that m gives. -/
noncomputable def renL (l m : List Int) : List Int := compL (compL (powL' m (-1)) l) m

theorem inv_f {m : List Int} (hm : OkP m) {x : Nat} (hx : x < m.length) : fOf (powL' m (-1)) (fOf m x) = x := by
  have h := hm.comp_inv
  have h1 := compL_f hm (hm.pow_ok (-1)) (powL_length _ _).symm hx
  rw [h] at h1
  simp [rangeI, hx] at h1
  omega

theorem half_length {l m : List Int} (_ : OkP l) (_ : OkP m) (e : m.length = l.length) : (compL (powL' m (-1)) l).length = l.length := by rw [compL_length, powL_length]; exact e

section
variable {l m : List Int} (hl : OkP l) (hm : OkP m) (e : m.length = l.length)
include hl hm e
theorem half_ok : OkP (compL (powL' m (-1)) l) := (hm.pow_ok (-1)).comp hl (by rw [powL_length]; exact e)
theorem ren_ok : OkP (renL l m) := (half_ok hl hm e).comp hm (by rw [half_length hl hm e]; exact e.symm)
theorem ren_length : (renL l m).length = l.length := by unfold renL; rw [compL_length]; exact half_length hl hm e
theorem ren_conj : Conj (fOf l) (fOf (renL l m)) (fOf m) l.length := {
  pf := hl.pm
  pf' := by have := (ren_ok hl hm e).pm; rwa [ren_length hl hm e] at this
  lt := fun x hx => by have := fOf_lt hm (show x < m.length by omega); omega
  inj := fun x y hx hy h => fOf_inj hm (by omega) (by omega) h
  eq := fun x hx => by
    have h1 := fOf_lt hm (show x < m.length by omega)
    unfold renL
    rw [fOf_comp (half_ok hl hm e) hm (by rw [half_length hl hm e]; exact e.symm) (by rw [half_length hl hm e]; omega),
      fOf_comp (hm.pow_ok (-1)) hl (by rw [powL_length]; exact e) (by rw [powL_length]; omega), inv_f hm (by omega)] }
end

theorem OkP.pow_it {l : List Int} (h : OkP l) (i : Nat) : powL' l (i : Int) = itL l i := by
  apply List.ext_getElem?
  intro x
  rcases Nat.lt_or_ge x l.length with hx | hx
  · rw [powL_get hx, itL_get hx]
    have hs : stp (i : Int) (per (fOf l) l.length x) = i % per (fOf l) l.length x := by
      have := stp_emod (i : Int) (per_pos (fOf l) l.length x)
      omega
    rw [hs, h.pm.it_mod hx]
  · rw [List.getElem?_eq_none (by rw [powL_length]; omega), List.getElem?_eq_none (by rw [itL_length]; omega)]

theorem per_dvd {f : Nat → Nat} {n x : Nat} (h : Pm f n) (hx : x < n) : per f n x ∣ perd f n := by
  rw [← h.it_id hx]
  exact h.round.2 (Nat.dvd_refl _) x hx

/-- The power by the remainder on division by the period. -/
theorem OkP.pow_rem {l : List Int} (h : OkP l) (k : Int) (hP : 0 < perd (fOf l) l.length) : powL' l ((k.tmod (perd (fOf l) l.length) + perd (fOf l) l.length).tmod (perd (fOf l) l.length)) = powL' l k := by
  apply List.ext_getElem?
  intro x
  rcases Nat.lt_or_ge x l.length with hx | hx
  · rw [powL_get hx, powL_get hx]
    have hp := per_pos (fOf l) l.length x
    obtain ⟨c, hc⟩ := per_dvd h.pm hx
    have hs : stp ((k.tmod (perd (fOf l) l.length) + perd (fOf l) l.length).tmod (perd (fOf l) l.length)) (per (fOf l) l.length x) = stp k (per (fOf l) l.length x) := by
      have hX : (k.tmod (perd (fOf l) l.length) + perd (fOf l) l.length).tmod (perd (fOf l) l.length) = k % ((perd (fOf l) l.length : Nat) : Int) := (stp_cast k hP).1.trans (stp_emod k hP)
      rw [hX]
      have h1 := stp_emod (k % ((perd (fOf l) l.length : Nat) : Int)) hp
      have h2 := stp_emod k hp
      have h5 : k % ((perd (fOf l) l.length : Nat) : Int) % ((per (fOf l) l.length x : Nat) : Int) = k % ((per (fOf l) l.length x : Nat) : Int) := by
        rw [hc]
        push_cast
        exact Int.emod_emod_of_dvd k (Int.dvd_mul_right _ _)
      rw [h5] at h1
      omega
    rw [hs]
  · rw [List.getElem?_eq_none (by rw [powL_length]; omega), List.getElem?_eq_none (by rw [powL_length]; omega)]
end Go.Ev
