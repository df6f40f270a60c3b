/- Part of an evaluator of calls that is proved sound, and of what it gives about this program. No condition of its own. -/
import Derived.Test.YthiodbpknjfnkaaGreatDoorEvHe
set_option linter.unusedVariables false
set_option linter.unusedSimpArgs false
set_option maxRecDepth 100000
set_option maxHeartbeats 4000000
namespace Go.Ev

/-! ### Powers and cycles of a permutation -/

/-- f, k times. -/
def it (f : Nat → Nat) : Nat → Nat → Nat
  | 0, x => x
  | k + 1, x => f (it f k x)

theorem it_add (f : Nat → Nat) (a b x : Nat) : it f (a + b) x = it f a (it f b x) := by
  induction a with
  | zero => rw [Nat.zero_add]; rfl
  | succ a ih => rw [Nat.succ_add]; exact congrArg f ih

/-- A permutation of the numbers below n. -/
structure Pm (f : Nat → Nat) (n : Nat) : Prop where
  lt : ∀ x, x < n → f x < n
  inj : ∀ x y, x < n → y < n → f x = f y → x = y

section
variable {f : Nat → Nat} {n : Nat}

theorem Pm.it_lt (h : Pm f n) {x : Nat} (hx : x < n) (k : Nat) : it f k x < n := by
  induction k with
  | zero => exact hx
  | succ k ih => exact h.lt _ ih

theorem Pm.it_inj (h : Pm f n) {x y : Nat} (hx : x < n) (hy : y < n) (k : Nat) (e : it f k x = it f k y) : x = y := by
  induction k with
  | zero => exact e
  | succ k ih => exact ih (h.inj _ _ (h.it_lt hx k) (h.it_lt hy k) e)

theorem Pm.back (h : Pm f n) {x : Nat} (hx : x < n) : ∃ k, k < n ∧ it f (k + 1) x = x := by
  rcases Classical.em (∃ k, k < n ∧ it f (k + 1) x = x) with h' | h'
  · exact h'
  · have hne : ∀ i j, i < j → j ≤ n → it f i x ≠ it f j x := fun i j hij hj e => by
      have e2 : it f i (it f (j - i) x) = it f i x := by rw [← it_add, Nat.add_sub_cancel' (Nat.le_of_lt hij)]; exact e.symm
      have := h.it_inj (h.it_lt hx _) hx i e2
      exact h' ⟨j - i - 1, by omega, by rw [show j - i - 1 + 1 = j - i by omega]; exact this⟩
    have hnd : ((List.range (n + 1)).map fun k => it f k x).Nodup := by
      rw [List.nodup_iff_pairwise_ne, List.pairwise_map, List.pairwise_iff_getElem]
      intro i j hi hj hij
      simp only [List.getElem_range]
      simp only [List.length_range] at hj
      exact hne i j hij (by omega)
    have hsub : ((List.range (n + 1)).map fun k => it f k x) ⊆ List.range n := fun y hy => by
      obtain ⟨k, _, rfl⟩ := List.mem_map.1 hy
      exact List.mem_range.2 (h.it_lt hx k)
    have := hnd.length_le_of_subset hsub
    simp at this
    omega

/-- The length of the cycle of x. -/
def per (f : Nat → Nat) (n x : Nat) : Nat := ((List.range n).find? fun k => it f (k + 1) x == x).getD 0 + 1

theorem Pm.per_spec (h : Pm f n) {x : Nat} (hx : x < n) : it f (per f n x) x = x ∧ per f n x ≤ n ∧ ∀ j, 0 < j → j < per f n x → it f j x ≠ x := by
  unfold per
  cases hf : (List.range n).find? fun k => it f (k + 1) x == x with
  | none =>
    obtain ⟨k, hk, e⟩ := h.back hx
    have := List.find?_eq_none.1 hf k (List.mem_range.2 hk)
    simp [e] at this
  | some k =>
    have h1 := List.find?_some hf
    have h2 := List.mem_of_find?_eq_some hf
    refine ⟨eq_of_beq h1, by rw [Option.getD_some]; exact Nat.succ_le_of_lt (List.mem_range.1 h2), fun j hj hjk e => ?_⟩
    rw [Option.getD_some] at hjk
    obtain ⟨_, i, hi, hik, hlt⟩ := List.find?_eq_some_iff_getElem.1 hf
    rw [List.getElem_range] at hik
    subst hik
    have := hlt (j - 1) (by omega)
    rw [List.getElem_range, show j - 1 + 1 = j by omega, e] at this
    simp at this

theorem per_pos (f : Nat → Nat) (n x : Nat) : 0 < per f n x := Nat.succ_pos _

theorem Pm.it_mul (h : Pm f n) {x : Nat} (hx : x < n) (k : Nat) : it f (per f n x * k) x = x := by
  induction k with
  | zero => rfl
  | succ k ih => rw [Nat.mul_succ, it_add, (h.per_spec hx).1, ih]

theorem Pm.it_mod (h : Pm f n) {x : Nat} (hx : x < n) (m : Nat) : it f (m % per f n x) x = it f m x := by
  conv => rhs; rw [← Nat.mod_add_div m (per f n x), it_add, h.it_mul hx]

theorem Pm.per_it (h : Pm f n) {x : Nat} (hx : x < n) (i : Nat) : per f n (it f i x) = per f n x := by
  have hy := h.it_lt hx i
  obtain ⟨a1, _, a3⟩ := h.per_spec hx
  obtain ⟨b1, _, b3⟩ := h.per_spec hy
  have e1 : it f (per f n x) (it f i x) = it f i x := by rw [← it_add, Nat.add_comm, it_add, a1]
  have e2 : it f (per f n (it f i x)) x = x := by
    refine h.it_inj (h.it_lt hx _) hx i ?_
    rw [← it_add, Nat.add_comm, it_add]; exact b1
  rcases Nat.lt_trichotomy (per f n (it f i x)) (per f n x) with h1 | h1 | h1
  · exact absurd e2 (a3 _ (per_pos _ _ _) h1)
  · exact h1
  · exact absurd e1 (b3 _ (per_pos _ _ _) h1)

/-- The cycle of s. -/
def orb (f : Nat → Nat) (n s : Nat) : List Nat := (List.range (per f n s)).map fun k => it f k s

theorem orb_length (f : Nat → Nat) (n s : Nat) : (orb f n s).length = per f n s := by simp [orb]

theorem orb_get {s k : Nat} (hk : k < per f n s) : (orb f n s)[k]? = some (it f k s) := by simp [orb, hk]

theorem Pm.mem_orb (h : Pm f n) {s x : Nat} (hs : s < n) : x ∈ orb f n s ↔ ∃ k, it f k s = x := by
  unfold orb
  rw [List.mem_map]
  constructor
  · rintro ⟨k, _, e⟩; exact ⟨k, e⟩
  · rintro ⟨k, e⟩
    exact ⟨k % per f n s, List.mem_range.2 (Nat.mod_lt _ (per_pos _ _ _)), by rw [h.it_mod hs, e]⟩

theorem Pm.self_orb (h : Pm f n) {s : Nat} (hs : s < n) : s ∈ orb f n s := (h.mem_orb hs).2 ⟨0, rfl⟩

theorem Pm.orb_trans (h : Pm f n) {s x y : Nat} (hs : s < n) (hx : x ∈ orb f n s) (hy : y ∈ orb f n x) : y ∈ orb f n s := by
  obtain ⟨k, rfl⟩ := (h.mem_orb hs).1 hx
  obtain ⟨j, rfl⟩ := (h.mem_orb (h.it_lt hs k)).1 hy
  exact (h.mem_orb hs).2 ⟨j + k, it_add _ _ _ _⟩

/-- Has the cycle of a number below i this number? -/
def vis (f : Nat → Nat) (n i x : Nat) : Bool := (List.range i).any fun t => (orb f n t).contains x

theorem vis_iff {i x : Nat} : vis f n i x = true ↔ ∃ t, t < i ∧ x ∈ orb f n t := by
  simp [vis, List.any_eq_true]

theorem vis_succ (i x : Nat) : vis f n (i + 1) x = (vis f n i x || (orb f n i).contains x) := by
  simp [vis, List.range_succ, List.any_append]

theorem Pm.vis_skip (h : Pm f n) {i x : Nat} (hi : i < n) (hv : vis f n i i = true) : vis f n (i + 1) x = vis f n i x := by
  rw [vis_succ]
  obtain ⟨t, ht, hit⟩ := vis_iff.1 hv
  cases hc : (orb f n i).contains x with
  | false => rw [Bool.or_false]
  | true =>
    have hx : x ∈ orb f n i := by simpa using hc
    rw [Bool.or_true]
    exact (vis_iff.2 ⟨t, ht, h.orb_trans (by omega) hit hx⟩).symm

/-- The cycles, by their least numbers. -/
def cycs (f : Nat → Nat) (n i : Nat) : List (List Nat) := ((List.range i).filter fun s => !vis f n s s).map (orb f n)

theorem cycs_succ (i : Nat) : cycs f n (i + 1) = cycs f n i ++ if vis f n i i = true then [] else [orb f n i] := by
  unfold cycs
  rw [List.range_succ, List.filter_append, List.map_append]
  congr 1
  cases h : vis f n i i <;> simp [h]

/-- Each number is in a cycle. -/
theorem Pm.cycs_all (h : Pm f n) {x : Nat} (hx : x < n) : ∃ o ∈ cycs f n n, x ∈ o := by
  have key : ∀ i, i ≤ n → ∀ x, vis f n i x = true → ∃ o ∈ cycs f n i, x ∈ o := by
    intro i
    induction i with
    | zero => intro _ x hv; simp [vis] at hv
    | succ i ih =>
      intro hi x hv
      rw [cycs_succ]
      cases hvi : vis f n i i with
      | true =>
        rw [h.vis_skip (by omega) hvi] at hv
        obtain ⟨o, ho, hxo⟩ := ih (by omega) x hv
        exact ⟨o, by simpa using ho, hxo⟩
      | false =>
        rw [vis_succ] at hv
        rcases Bool.or_eq_true _ _ ▸ hv with hv | hv
        · obtain ⟨o, ho, hxo⟩ := ih (by omega) x hv
          exact ⟨o, List.mem_append_left _ ho, hxo⟩
        · exact ⟨orb f n i, List.mem_append_right _ (by simp), by simpa using hv⟩
  exact key n (Nat.le_refl _) x (vis_iff.2 ⟨x, hx, h.self_orb hx⟩)

theorem cycs_mem {i : Nat} {o : List Nat} (h : o ∈ cycs f n i) : ∃ s, s < i ∧ o = orb f n s := by
  unfold cycs at h
  obtain ⟨s, hs, rfl⟩ := List.mem_map.1 h
  exact ⟨s, List.mem_range.1 (List.mem_filter.1 hs).1, rfl⟩

end

/-! ### A list as a permutation -/

/-- Where a list leads. -/
def fOf (l : List Int) : Nat → Nat := fun x => (l.getD x 0).toNat

theorem OkP.f_get {l : List Int} (h : OkP l) {x : Nat} (hx : x < l.length) : l[x]? = some ((fOf l x : Nat) : Int) := by
  obtain ⟨z, hz⟩ := l_some hx
  have := h.1 x z hz
  rw [hz]
  simp only [fOf, List.getD, hz, Option.getD_some]
  congr 1
  omega

theorem OkP.pm {l : List Int} (h : OkP l) : Pm (fOf l) l.length := by
  refine ⟨fun x hx => ?_, fun x y hx hy e => ?_⟩
  · have := h.1 x _ (h.f_get hx); omega
  · have h1 := h.f_get hx
    have h2 := h.f_get hy
    rw [e] at h1
    rcases Nat.lt_trichotomy x y with hlt | heq | hlt
    · exact absurd h2 (h.2 x y _ hlt h1)
    · exact heq
    · exact absurd h1 (h.2 y x _ hlt h2)

/-- How many steps along a cycle of length m the power k is. -/
def stp (k : Int) (m : Nat) : Nat := ((k.tmod m + m).tmod m).toNat

/-- The power k of a list. -/
def powL' (l : List Int) (k : Int) : List Int := (List.range l.length).map fun x => ((it (fOf l) (stp k (per (fOf l) l.length x)) x : Nat) : Int)

theorem stp_neg1 {m : Nat} (h : 0 < m) : stp (-1) m = m - 1 := by
  unfold stp
  by_cases h1 : m = 1
  · subst h1; rfl
  · have e : Int.tmod (-1) m = -1 := by
      rw [Int.neg_tmod, Int.tmod_eq_of_lt (by omega) (by omega)]
    rw [e, Int.tmod_eq_of_lt (by omega) (by omega)]
    omega

theorem pow_neg1 {l : List Int} (h : OkP l) : powL' l (-1) = invL l := by
  unfold powL' invL rangeI
  rw [List.map_map]
  apply List.map_congr_left
  intro x hx
  have hx := List.mem_range.1 hx
  have hp := h.pm
  have h1 := (hp.per_spec hx).1
  have h0 := per_pos (fOf l) l.length x
  rw [stp_neg1 h0]
  have hy := hp.it_lt hx (per (fOf l) l.length x - 1)
  have e : fOf l (it (fOf l) (per (fOf l) l.length x - 1) x) = x := by
    show it (fOf l) (per (fOf l) l.length x - 1 + 1) x = x
    rw [show per (fOf l) l.length x - 1 + 1 = per (fOf l) l.length x by omega, h1]
  generalize it (fOf l) (per (fOf l) l.length x - 1) x = y at hy e
  have hg := h.f_get hy
  rw [e] at hg
  obtain ⟨hy', hg⟩ := List.getElem?_eq_some_iff.1 hg
  show ((y : Nat) : Int) = ((l.idxOf ((x : Nat) : Int) : Nat) : Int)
  rw [← hg, h.nodup.idxOf_getElem]

end Go.Ev
namespace Go.Ev
open Go.Proofs

theorem Sl.one {H : AH} {x : AV} {l : List AV} (h : Sl H x l) : x.one = true := by
  unfold Sl at h
  split at h
  · rfl
  · rfl
  · rfl
  · exact h.elim

def nvs (l : List Nat) : List AV := ivs (l.map fun (x : Nat) => (x : Int))
theorem nvs_length (l : List Nat) : (nvs l).length = l.length := by simp [nvs, ivs]
theorem nvs_snoc (l : List Nat) (x : Nat) : nvs (l ++ [x]) = nvs l ++ [iv x] := by simp [nvs, ivs]

theorem at_ptr {H : AH} {b : Nat} {cs : List AV} {e : TypeId} {g i : Nat} {v : AV} (h39 : b < 2 ^ 39) (h : H.get b = some (.cells cs e g)) (hv : cs[i]? = some v) : At H (.ptr b i) v := ⟨h39, cs, e, g, h, hv⟩

theorem takeMarks_ok : ∀ {M : List Nat} {H : AH}, M.Nodup → (∀ b ∈ M, H.get b = some .dfd ∧ b < 2 ^ 39) → ∃ H', takeMarks M H = some H' ∧ H'.next = H.next ∧ H'.gl = H.gl ∧ ∀ b, b ∉ M → H'.get b = H.get b
  | [], H, _, _ => ⟨H, rfl, rfl, rfl, fun _ _ => rfl⟩
  | b :: M, H, hn, h => by
    obtain ⟨h1, h2⟩ := h b (by simp)
    obtain ⟨hb, hn⟩ := List.nodup_cons.1 hn
    obtain ⟨H', k1, k2, k3, k4⟩ := takeMarks_ok (M := M) (H := H.set b (some .shut)) hn fun c hc => by
      rw [AH.get_set _ _ _ _ h2, if_neg (fun e => hb (by rw [← e]; exact hc))]
      exact h c (by simp [hc])
    refine ⟨H', ?_, k2, k3, fun c hc => ?_⟩
    · unfold takeMarks; rw [h1]; exact k1
    · rw [k4 c (fun e => hc (by simp [e])), AH.get_set _ _ _ _ h2, if_neg (fun e => hc (by simp [e]))]

/-- Where a range over a cycle's places stands. -/
structure Rd (H0 : AH) (vb cb n : Nat) (V : Nat → Bool) (L : AB) (dn : List Nat) (H : AH) : Prop where
  nx1 : H0.next + 2 ≤ H.next
  nx2 : H.next ≤ H0.next + 2 + 2 * dn.length
  gl : H.gl = H0.gl
  get : ∀ b, b < H0.next → b ≠ vb → b ≠ cb → H.get b = H0.get b
  dfd : H.get H0.next = some .dfd
  lp : H.get (H0.next + 1) = some L
  vs : ∃ vs, H.get vb = some (.cells vs 4 0) ∧ vs.length = n ∧ ∀ y, y < n → vs[y]? = some (.v (.bool (V y || dn.contains y)))
  c : ∃ c, H.get cb = some (.cells [c] 22 0) ∧ Gr H 3 c (nvs dn) ∧ ∀ b, c.own = some b → H0.next + 2 ≤ b

variable {O : CallF} (hq : Quiet O)
include hq

theorem c106 (H : AH) (x : AV) (s : Int) (h1 : x.one = true) (hr : H.next + 2 < 2 ^ 39) (K : AV → AH → Prop) (hk : K (.fn (.func 80) [] [.ptr (H.next + 1) 0, .ptr H.next 0]) ((H.add (.cells [x] 22 0)).add (.cells [iv s] 3 0))) : Ca (ENV O) 49 [x, iv s] H K := by
  refine ca_intro (hq _ _ _ rfl) (fn := Tryz.f49) (by rfl) rfl ?_
  repeat (first | refine wops_nil ?_ | refine wops_cons (wop_skip' rfl rfl ?_) | refine wops_cons (wop_move rfl rfl ?_) | refine wops_cons (wop_assign rfl rfl ?_) | refine wops_cons (wop_bin (op := .add) rfl rfl rfl rfl (inc (by omega)) ?_) | refine wops_cons (o_lenI rfl rfl rfl rfl rfl (by assumption) ?_) | refine wops_cons (o_load rfl rfl (by assumption) ?_) | refine wops_cons (wop_pick rfl rfl rfl ?_) | refine wops_cons (wop_not rfl rfl rfl ?_) | refine wops_cons (wop_extract rfl rfl rfl rfl ?_) | refine mobs_move rfl rfl rfl ?_ | refine m_load rfl rfl rfl (by assumption) ?_ | refine mobs_nil ?_ | refine wd_nil ?_ | refine wd_skip rfl rfl ?_ | refine wd_loudSkip rfl rfl ?_ | refine wd_move rfl rfl rfl ?_ | refine wd_assign rfl rfl rfl ?_ | refine wd_pick rfl rfl rfl rfl ?_ | refine d_load rfl rfl rfl (by assumption) ?_ | refine d_lenI rfl rfl rfl rfl rfl rfl (by assumption) ?_ | refine wp_condT rfl ?_ | refine wp_condF rfl ?_ | refine wp_region ?_ | refine wp_seq ?_ | refine wp_skip ?_ | refine wp_exit ?_ | refine wp_block ?_)
  refine wops_cons (o_box rfl rfl h1 (by omega) ?_)
  refine wops_cons (o_box rfl rfl rfl (by show H.next + 1 < _; omega) ?_)
  repeat (first | refine wops_nil ?_ | refine wops_cons (wop_skip' rfl rfl ?_) | refine wops_cons (wop_move rfl rfl ?_) | refine wops_cons (wop_assign rfl rfl ?_) | refine wops_cons (wop_bin (op := .add) rfl rfl rfl rfl (inc (by omega)) ?_) | refine wops_cons (o_lenI rfl rfl rfl rfl rfl (by assumption) ?_) | refine wops_cons (o_load rfl rfl (by assumption) ?_) | refine wops_cons (wop_pick rfl rfl rfl ?_) | refine wops_cons (wop_not rfl rfl rfl ?_) | refine wops_cons (wop_extract rfl rfl rfl rfl ?_) | refine mobs_move rfl rfl rfl ?_ | refine m_load rfl rfl rfl (by assumption) ?_ | refine mobs_nil ?_ | refine wd_nil ?_ | refine wd_skip rfl rfl ?_ | refine wd_loudSkip rfl rfl ?_ | refine wd_move rfl rfl rfl ?_ | refine wd_assign rfl rfl rfl ?_ | refine wd_pick rfl rfl rfl rfl ?_ | refine d_load rfl rfl rfl (by assumption) ?_ | refine d_lenI rfl rfl rfl rfl rfl rfl (by assumption) ?_ | refine wp_condT rfl ?_ | refine wp_condF rfl ?_ | refine wp_region ?_ | refine wp_seq ?_ | refine wp_skip ?_ | refine wp_exit ?_ | refine wp_block ?_)
  refine wops_cons (wop_makeFunc rfl rfl ?_)
  repeat (first | refine wops_nil ?_ | refine wops_cons (wop_skip' rfl rfl ?_) | refine wops_cons (wop_move rfl rfl ?_) | refine wops_cons (wop_assign rfl rfl ?_) | refine wops_cons (wop_bin (op := .add) rfl rfl rfl rfl (inc (by omega)) ?_) | refine wops_cons (o_lenI rfl rfl rfl rfl rfl (by assumption) ?_) | refine wops_cons (o_load rfl rfl (by assumption) ?_) | refine wops_cons (wop_pick rfl rfl rfl ?_) | refine wops_cons (wop_not rfl rfl rfl ?_) | refine wops_cons (wop_extract rfl rfl rfl rfl ?_) | refine mobs_move rfl rfl rfl ?_ | refine m_load rfl rfl rfl (by assumption) ?_ | refine mobs_nil ?_ | refine wd_nil ?_ | refine wd_skip rfl rfl ?_ | refine wd_loudSkip rfl rfl ?_ | refine wd_move rfl rfl rfl ?_ | refine wd_assign rfl rfl rfl ?_ | refine wd_pick rfl rfl rfl rfl ?_ | refine d_load rfl rfl rfl (by assumption) ?_ | refine d_lenI rfl rfl rfl rfl rfl rfl (by assumption) ?_ | refine wp_condT rfl ?_ | refine wp_condF rfl ?_ | refine wp_region ?_ | refine wp_seq ?_ | refine wp_skip ?_ | refine wp_exit ?_ | refine wp_block ?_)
  refine wp_ret ?_
  exact ⟨_, _, rfl, hk⟩

theorem c152 (n s lb sb pb : Nat) (f : Nat → Nat) (hp : Pm f n) (hs : s < n) (x : AV) (l : List Int) (hl : ∀ y, y < n → l[y]? = some ((f y : Nat) : Int)) (R : List Nat → AH → Prop)
    (hm : ∀ dn H, R dn H → At H (.ptr sb 0) (iv s) ∧ At H (.ptr pb 0) x ∧ Sl H x (ivs l))
    (hy : ∀ (dn : List Nat) (H : AH) (y : Nat), dn.length < n → y < n → R dn H → ∀ K : AV → AH → Prop, (∀ H', R (dn ++ [y]) H' → H.next ≤ H'.next → K (.v (.bool true)) H') → Yl (ENV O) lb [iv y] H K)
    (H : AH) (h0 : R [] H) (K : AV → AH → Prop) (hk : ∀ r H', R (orb f n s) H' → K r H') : Ca (ENV O) 80 [.yl lb, .ptr sb 0, .ptr pb 0] H K := by
  refine ca_intro (hq _ _ _ rfl) (fn := Tryz.f80) (by rfl) rfl ?_
  obtain ⟨m1, m2, m3⟩ := hm _ _ h0
  repeat (first | refine wops_nil ?_ | refine wops_cons (wop_skip' rfl rfl ?_) | refine wops_cons (wop_move rfl rfl ?_) | refine wops_cons (wop_assign rfl rfl ?_) | refine wops_cons (wop_bin (op := .add) rfl rfl rfl rfl (inc (by omega)) ?_) | refine wops_cons (o_lenI rfl rfl rfl rfl rfl (by assumption) ?_) | refine wops_cons (o_load rfl rfl (by assumption) ?_) | refine wops_cons (wop_pick rfl rfl rfl ?_) | refine wops_cons (wop_not rfl rfl rfl ?_) | refine wops_cons (wop_extract rfl rfl rfl rfl ?_) | refine mobs_move rfl rfl rfl ?_ | refine m_load rfl rfl rfl (by assumption) ?_ | refine mobs_nil ?_ | refine wd_nil ?_ | refine wd_skip rfl rfl ?_ | refine wd_loudSkip rfl rfl ?_ | refine wd_move rfl rfl rfl ?_ | refine wd_assign rfl rfl rfl ?_ | refine wd_pick rfl rfl rfl rfl ?_ | refine d_load rfl rfl rfl (by assumption) ?_ | refine d_lenI rfl rfl rfl rfl rfl rfl (by assumption) ?_ | refine wp_condT rfl ?_ | refine wp_condF rfl ?_ | refine wp_region ?_ | refine wp_seq ?_ | refine wp_skip ?_ | refine wp_exit ?_ | refine wp_block ?_)
  have hpn := (hp.per_spec hs).2.1
  refine wp_loop (fun k T M H' => ∃ (i : Nat) (Y : List AV), k = per f n s - i ∧ i < per f n s ∧ R ((List.range i).map fun k => it f k s) H' ∧ M = [] ∧ T = (.yl lb :: .ptr sb 0 :: .ptr pb 0 :: lget Y 0 :: iv (it f i s : Nat) :: lget Y 1 :: lget Y 2 :: lget Y 3 :: lget Y 4 :: lget Y 5 :: lget Y 6 :: lget Y 7 :: lget Y 8 :: lget Y 9 :: lget Y 10 :: lget Y 11 :: [])) (per f n s)
    ⟨0, (_ :: _ :: _ :: _ :: _ :: _ :: _ :: _ :: _ :: _ :: _ :: _ :: []), rfl, per_pos _ _ _, h0, rfl, rfl⟩ ?_
  rintro k T M H' ⟨i, Y, hk1, hi, hR, rfl, rfl⟩
  repeat (first | refine wops_nil ?_ | refine wops_cons (wop_skip' rfl rfl ?_) | refine wops_cons (wop_move rfl rfl ?_) | refine wops_cons (wop_assign rfl rfl ?_) | refine wops_cons (wop_bin (op := .add) rfl rfl rfl rfl (inc (by omega)) ?_) | refine wops_cons (o_lenI rfl rfl rfl rfl rfl (by assumption) ?_) | refine wops_cons (o_load rfl rfl (by assumption) ?_) | refine wops_cons (wop_pick rfl rfl rfl ?_) | refine wops_cons (wop_not rfl rfl rfl ?_) | refine wops_cons (wop_extract rfl rfl rfl rfl ?_) | refine mobs_move rfl rfl rfl ?_ | refine m_load rfl rfl rfl (by assumption) ?_ | refine mobs_nil ?_ | refine wd_nil ?_ | refine wd_skip rfl rfl ?_ | refine wd_loudSkip rfl rfl ?_ | refine wd_move rfl rfl rfl ?_ | refine wd_assign rfl rfl rfl ?_ | refine wd_pick rfl rfl rfl rfl ?_ | refine d_load rfl rfl rfl (by assumption) ?_ | refine d_lenI rfl rfl rfl rfl rfl rfl (by assumption) ?_ | refine wp_condT rfl ?_ | refine wp_condF rfl ?_ | refine wp_region ?_ | refine wp_seq ?_ | refine wp_skip ?_ | refine wp_exit ?_ | refine wp_block ?_)
  refine wops_cons (wop_yield rfl rfl rfl rfl ?_)
  refine hy _ H' (it f i s) (by rw [List.length_map, List.length_range]; omega) (hp.it_lt hs i) hR _ fun H2 hR2 hn2 => ⟨hn2, ?_⟩
  have e0 : ((List.range i).map fun k => it f k s) ++ [it f i s] = (List.range (i + 1)).map fun k => it f k s := by rw [List.range_succ, List.map_append]; rfl
  rw [e0] at hR2
  obtain ⟨m1, m2, m3⟩ := hm _ _ hR2
  repeat (first | refine wops_nil ?_ | refine wops_cons (wop_skip' rfl rfl ?_) | refine wops_cons (wop_move rfl rfl ?_) | refine wops_cons (wop_assign rfl rfl ?_) | refine wops_cons (wop_bin (op := .add) rfl rfl rfl rfl (inc (by omega)) ?_) | refine wops_cons (o_lenI rfl rfl rfl rfl rfl (by assumption) ?_) | refine wops_cons (o_load rfl rfl (by assumption) ?_) | refine wops_cons (wop_pick rfl rfl rfl ?_) | refine wops_cons (wop_not rfl rfl rfl ?_) | refine wops_cons (wop_extract rfl rfl rfl rfl ?_) | refine mobs_move rfl rfl rfl ?_ | refine m_load rfl rfl rfl (by assumption) ?_ | refine mobs_nil ?_ | refine wd_nil ?_ | refine wd_skip rfl rfl ?_ | refine wd_loudSkip rfl rfl ?_ | refine wd_move rfl rfl rfl ?_ | refine wd_assign rfl rfl rfl ?_ | refine wd_pick rfl rfl rfl rfl ?_ | refine d_load rfl rfl rfl (by assumption) ?_ | refine d_lenI rfl rfl rfl rfl rfl rfl (by assumption) ?_ | refine wp_condT rfl ?_ | refine wp_condF rfl ?_ | refine wp_region ?_ | refine wp_seq ?_ | refine wp_skip ?_ | refine wp_exit ?_ | refine wp_block ?_)
  refine wops_cons (o_indexI rfl rfl m3 rfl (hl _ (hp.it_lt hs i)) fun pp hpp => ?_)
  repeat (first | refine wops_nil ?_ | refine wops_cons (wop_skip' rfl rfl ?_) | refine wops_cons (wop_move rfl rfl ?_) | refine wops_cons (wop_assign rfl rfl ?_) | refine wops_cons (wop_bin (op := .add) rfl rfl rfl rfl (inc (by omega)) ?_) | refine wops_cons (o_lenI rfl rfl rfl rfl rfl (by assumption) ?_) | refine wops_cons (o_load rfl rfl (by assumption) ?_) | refine wops_cons (wop_pick rfl rfl rfl ?_) | refine wops_cons (wop_not rfl rfl rfl ?_) | refine wops_cons (wop_extract rfl rfl rfl rfl ?_) | refine mobs_move rfl rfl rfl ?_ | refine m_load rfl rfl rfl (by assumption) ?_ | refine mobs_nil ?_ | refine wd_nil ?_ | refine wd_skip rfl rfl ?_ | refine wd_loudSkip rfl rfl ?_ | refine wd_move rfl rfl rfl ?_ | refine wd_assign rfl rfl rfl ?_ | refine wd_pick rfl rfl rfl rfl ?_ | refine d_load rfl rfl rfl (by assumption) ?_ | refine d_lenI rfl rfl rfl rfl rfl rfl (by assumption) ?_ | refine wp_condT rfl ?_ | refine wp_condF rfl ?_ | refine wp_region ?_ | refine wp_seq ?_ | refine wp_skip ?_ | refine wp_exit ?_ | refine wp_block ?_)
  refine wops_cons (wop_cmp rfl rfl rfl rfl rfl (fun h => ?_) (fun h => ?_))
  · have e : f (it f i s) = s := by have : ((f (it f i s) : Nat) : Int) = s := by simpa using h
                                    omega
    have e2 : i + 1 = per f n s := by
      rcases Nat.lt_or_ge (i + 1) (per f n s) with h' | h'
      · exact absurd e ((hp.per_spec hs).2.2 (i + 1) (by omega) h')
      · omega
    repeat (first | refine wops_nil ?_ | refine wops_cons (wop_skip' rfl rfl ?_) | refine wops_cons (wop_move rfl rfl ?_) | refine wops_cons (wop_assign rfl rfl ?_) | refine wops_cons (wop_bin (op := .add) rfl rfl rfl rfl (inc (by omega)) ?_) | refine wops_cons (o_lenI rfl rfl rfl rfl rfl (by assumption) ?_) | refine wops_cons (o_load rfl rfl (by assumption) ?_) | refine wops_cons (wop_pick rfl rfl rfl ?_) | refine wops_cons (wop_not rfl rfl rfl ?_) | refine wops_cons (wop_extract rfl rfl rfl rfl ?_) | refine mobs_move rfl rfl rfl ?_ | refine m_load rfl rfl rfl (by assumption) ?_ | refine mobs_nil ?_ | refine wd_nil ?_ | refine wd_skip rfl rfl ?_ | refine wd_loudSkip rfl rfl ?_ | refine wd_move rfl rfl rfl ?_ | refine wd_assign rfl rfl rfl ?_ | refine wd_pick rfl rfl rfl rfl ?_ | refine d_load rfl rfl rfl (by assumption) ?_ | refine d_lenI rfl rfl rfl rfl rfl rfl (by assumption) ?_ | refine wp_condT rfl ?_ | refine wp_condF rfl ?_ | refine wp_region ?_ | refine wp_seq ?_ | refine wp_skip ?_ | refine wp_exit ?_ | refine wp_block ?_)
    refine wp_ret ?_
    refine ⟨_, _, rfl, hk _ _ ?_⟩
    rw [e2] at hR2
    exact hR2
  have e : f (it f i s) ≠ s := by have : ((f (it f i s) : Nat) : Int) ≠ s := by simpa using h
                                  omega
  have e2 : i + 1 ≠ per f n s := fun e2 => e (by have := (hp.per_spec hs).1; rw [← e2] at this; exact this)
  repeat (first | refine wops_nil ?_ | refine wops_cons (wop_skip' rfl rfl ?_) | refine wops_cons (wop_move rfl rfl ?_) | refine wops_cons (wop_assign rfl rfl ?_) | refine wops_cons (wop_bin (op := .add) rfl rfl rfl rfl (inc (by omega)) ?_) | refine wops_cons (o_lenI rfl rfl rfl rfl rfl (by assumption) ?_) | refine wops_cons (o_load rfl rfl (by assumption) ?_) | refine wops_cons (wop_pick rfl rfl rfl ?_) | refine wops_cons (wop_not rfl rfl rfl ?_) | refine wops_cons (wop_extract rfl rfl rfl rfl ?_) | refine mobs_move rfl rfl rfl ?_ | refine m_load rfl rfl rfl (by assumption) ?_ | refine mobs_nil ?_ | refine wd_nil ?_ | refine wd_skip rfl rfl ?_ | refine wd_loudSkip rfl rfl ?_ | refine wd_move rfl rfl rfl ?_ | refine wd_assign rfl rfl rfl ?_ | refine wd_pick rfl rfl rfl rfl ?_ | refine d_load rfl rfl rfl (by assumption) ?_ | refine d_lenI rfl rfl rfl rfl rfl rfl (by assumption) ?_ | refine wp_condT rfl ?_ | refine wp_condF rfl ?_ | refine wp_region ?_ | refine wp_seq ?_ | refine wp_skip ?_ | refine wp_exit ?_ | refine wp_block ?_)
  exact ⟨per f n s - (i + 1), by omega, i + 1, (_ :: _ :: _ :: _ :: _ :: _ :: _ :: _ :: _ :: _ :: _ :: _ :: []), rfl, by omega, hR2, rfl, rfl⟩
end Go.Ev
namespace Go.Ev
open Go.Proofs

theorem Wp.mem {E : Env} {g : FuncId} {rd : Bool} {T : List AV} {M : List Nat} {H : AH} {Q : QX} {c : Code} (P : AH → Prop) (h : P H) (hw : ∀ H, P H → Wp E g rd c T M H Q) : Wp E g rd c T M H Q := hw H h

theorem get_set_ne {H : AH} {b c : Nat} {x : Option AB} (h39 : b < 2 ^ 39) (h : c ≠ b) : (H.set b x).get c = H.get c := by rw [AH.get_set _ _ _ _ h39, if_neg h]
theorem get_set_eq {H : AH} {b : Nat} {x : Option AB} (h39 : b < 2 ^ 39) : (H.set b x).get b = x := by rw [AH.get_set _ _ _ _ h39, if_pos rfl]
theorem get_add_ne {H : AH} {c : Nat} {x : AB} (h39 : H.next < 2 ^ 39) (h : c ≠ H.next) : (H.add x).get c = H.get c := by rw [AH.get_add _ _ _ h39, if_neg h]
theorem get_add_eq {H : AH} {x : AB} (h39 : H.next < 2 ^ 39) : (H.add x).get H.next = some x := by rw [AH.get_add _ _ _ h39, if_pos rfl]

/-- What a round's body finds, and what it leaves. -/
structure RdA (H0 : AH) (vb cb n : Nat) (V : Nat → Bool) (dn : List Nat) (vs : List AV) (c : AV) (H : AH) : Prop where
  nx1 : H0.next + 2 ≤ H.next
  nx2 : H.next ≤ H0.next + 2 + 2 * dn.length
  gl : H.gl = H0.gl
  get : ∀ b, b < H0.next → b ≠ vb → b ≠ cb → H.get b = H0.get b
  gv : H.get vb = some (.cells vs 4 0)
  lv : vs.length = n
  pv : ∀ y, y < n → vs[y]? = some (.v (.bool (V y || dn.contains y)))
  gc : H.get cb = some (.cells [c] 22 0)
  Gc : Gr H 3 c (nvs dn)
  oc : ∀ b, c.own = some b → H0.next + 2 ≤ b

structure RdB (Ha : AH) (vb cb : Nat) (dn : List Nat) (vs : List AV) (c : AV) (y : Nat) (H : AH) : Prop where
  nx1 : Ha.next ≤ H.next
  nx2 : H.next ≤ Ha.next + 2
  gl : H.gl = Ha.gl
  get : ∀ b, b < Ha.next → b ≠ vb → b ≠ cb → c.own ≠ some b → H.get b = Ha.get b
  gv : H.get vb = some (.cells (vs.set y (.v (.bool true))) 4 0)
  cc : ∃ r, H.get cb = some (.cells [r] 22 0) ∧ Gr H 3 r (nvs (dn ++ [y])) ∧ ∀ b, r.own = some b → Ha.next ≤ b

theorem yl51 {O : CallF} {H0 Hm : AH} {vb cb n : Nat} {V : Nat → Bool} {T T1 : List AV} {ps : Array Tmp} {asg bo : Code} {dn : List Nat} {y : Nat} {K : AV → AH → Prop} (hR : Rd H0 vb cb n V (.lp .ready none 20 T ps asg bo) dn Hm) (hv : vb < H0.next) (hc : cb < H0.next) (hvc : vb ≠ cb) (hr : H0.next + 2 * n + 4 < 2 ^ 39) (hdn : dn.length < n) (hl : 1 = ps.size) (hp1 : plansC Tryz.prog TPl 20 asg = true) (hp2 : plansC Tryz.prog TPl 20 bo = true)
    (hk : ∀ H', Rd H0 vb cb n V (.lp .ready none 20 T ps asg bo) (dn ++ [y]) H' → Hm.next ≤ H'.next → K (.v (.bool true)) H')
    (hasg : ∀ H, Wp (ENV O) 20 true asg (setArgs ps.toList [iv y] T) [] H fun x T' M' H' => x = .normal ∧ H' = H ∧ M' = [] ∧ T' = T1)
    (hbo : ∀ Ha vs c, RdA H0 vb cb n V dn vs c Ha → Wp (ENV O) 20 true bo T1 [] Ha fun x _ _ H3 => jumpOf x = none ∧ RdB Ha vb cb dn vs c y H3) : Yl (ENV O) (H0.next + 1) [iv y] Hm K := by
  refine yl_intro hR.lp hl hp1 hp2 ((hasg Hm).mono ?_)
  rintro x T' M' H' ⟨rfl, rfl, rfl, rfl⟩
  refine ⟨rfl, _, _, _, _, _, _, hR.lp, ?_⟩
  obtain ⟨vs, gv, lv, pv⟩ := hR.vs
  obtain ⟨c, gc, Gc, oc⟩ := hR.c
  have h39 : H0.next + 1 < 2 ^ 39 := by omega
  have n1 := hR.nx1
  have n2 := hR.nx2
  have hcl : ∀ b, c.own = some b → b ≠ H0.next + 1 := fun b hb e => by have := oc b hb; omega
  refine (hbo (H'.set (H0.next + 1) (some (.lp .busy none 20 T ps asg bo))) vs c ⟨n1, n2, hR.gl, fun b hb1 hb2 hb3 => ?_, ?_, lv, pv, ?_, ?_, oc⟩).mono ?_
  · rw [get_set_ne h39 (by omega)]; exact hR.get b hb1 hb2 hb3
  · rw [get_set_ne h39 (by omega)]; exact gv
  · rw [get_set_ne h39 (by omega)]; exact gc
  · exact Gc.frame (Nat.le_refl _) fun b hb => get_set_ne h39 (hcl b hb)
  rintro x _ _ H3 ⟨hx, hB⟩
  have m1 := hB.nx1
  have m2 := hB.nx2
  have m1 : H'.next ≤ H3.next := m1
  have m2 : H3.next ≤ H'.next + 2 := m2
  have hbget : ∀ b, b < H'.next → b ≠ vb → b ≠ cb → c.own ≠ some b → b ≠ H0.next + 1 → H3.get b = H'.get b := fun b h1 h2 h3 h4 h5 => (hB.get b h1 h2 h3 h4).trans (get_set_ne h39 h5)
  refine ⟨.busy, none, 20, T, ps, asg, bo, ?_, ?_⟩
  · rw [hB.get _ (by show H0.next + 1 < H'.next; omega) (by omega) (by omega) (fun e => hcl _ e rfl), get_set_eq h39]
  rw [hx]
  refine hk _ ⟨?_, ?_, ?_, fun b hb1 hb2 hb3 => ?_, ?_, ?_, ⟨vs.set y (.v (.bool true)), ?_, ?_, fun z hz => ?_⟩, ?_⟩ ?_
  · show H0.next + 2 ≤ H3.next; omega
  · show H3.next ≤ _; rw [List.length_append, List.length_singleton]; omega
  · exact hB.gl.trans hR.gl
  · rw [get_set_ne h39 (by omega), hbget b (by omega) hb2 hb3 (fun e => by have := oc b e; omega) (by omega)]
    exact hR.get b hb1 hb2 hb3
  · rw [get_set_ne h39 (by omega), hbget H0.next (by omega) (by omega) (by omega) (fun e => by have := oc _ e; omega) (by omega)]
    exact hR.dfd
  · rw [get_set_eq h39]; rfl
  · rw [get_set_ne h39 (by omega)]; exact hB.gv
  · rw [List.length_set]; exact lv
  · by_cases e : z = y
    · subst e
      rw [List.getElem?_set_self (by omega)]
      simp
    · rw [List.getElem?_set_ne (Ne.symm e), pv z hz]
      simp [e]
  · obtain ⟨r, k1, k2, k3⟩ := hB.cc
    have hrl : ∀ b, r.own = some b → b ≠ H0.next + 1 := fun b hb e => by
      have : H'.next ≤ b := k3 b hb
      omega
    exact ⟨r, by rw [get_set_ne h39 (by omega)]; exact k1, k2.frame (Nat.le_refl _) fun b hb => get_set_ne h39 (hrl b hb), fun b hb => by
      have : H'.next ≤ b := k3 b hb
      omega⟩
  · exact m1

theorem rng51 {O : CallF} (hq : Quiet O) {H0 : AH} {vb cb n s sb pb : Nat} {V : Nat → Bool} {f : Nat → Nat} {T : List AV} {ps : Array Tmp} {asg bo : Code} {K : AV → AH → Prop} {x : AV} {l : List Int} (hp : Pm f n) (hs : s < n) (hl : ∀ y, y < n → l[y]? = some ((f y : Nat) : Int))
    (hv : vb < H0.next) (hc : cb < H0.next) (hvc : vb ≠ cb) (hr : H0.next + 2 * n + 4 < 2 ^ 39) (hx : Sl H0 x (ivs l)) (hxo : ∀ b, x.own = some b → b < H0.next ∧ b ≠ vb ∧ b ≠ cb)
    (h1 : H0.get sb = some (.cells [iv s] 3 0)) (h2 : H0.get pb = some (.cells [x] 22 0)) (hsb : sb < H0.next ∧ sb ≠ vb ∧ sb ≠ cb) (hpb : pb < H0.next ∧ pb ≠ vb ∧ pb ≠ cb)
    (gv : ∃ vs, H0.get vb = some (.cells vs 4 0) ∧ vs.length = n ∧ ∀ y, y < n → vs[y]? = some (.v (.bool (V y)))) (gc : H0.get cb = some (.cells [.v (.slice none 0 0)] 22 0))
    (hy : ∀ (dn : List Nat) (H : AH) (y : Nat), dn.length < n → y < n → Rd H0 vb cb n V (.lp .ready none 20 T ps asg bo) dn H → ∀ K : AV → AH → Prop, (∀ H', Rd H0 vb cb n V (.lp .ready none 20 T ps asg bo) (dn ++ [y]) H' → H.next ≤ H'.next → K (.v (.bool true)) H') → Yl (ENV O) (H0.next + 1) [iv y] H K)
    (hk : ∀ r H', Rd H0 vb cb n V (.lp .ready none 20 T ps asg bo) (orb f n s) H' → K r H') : Ca (ENV O) 80 [.yl (H0.next + 1), .ptr sb 0, .ptr pb 0] ((H0.add .dfd).add (.lp .ready none 20 T ps asg bo)) K := by
  have h39 : H0.next < 2 ^ 39 := by omega
  have h39' : (H0.add .dfd).next < 2 ^ 39 := by show H0.next + 1 < _; omega
  have hg : ∀ b, b < H0.next → ((H0.add .dfd).add (.lp .ready none 20 T ps asg bo)).get b = H0.get b := fun b hb => by
    rw [get_add_ne h39' (by show b ≠ H0.next + 1; omega), get_add_ne h39 (by omega)]
  refine c152 hq n s (H0.next + 1) sb pb f hp hs x l hl (Rd H0 vb cb n V (.lp .ready none 20 T ps asg bo)) (fun dn H h => ⟨?_, ?_, ?_⟩) hy _ ?_ K hk
  · exact at_ptr (by omega) ((h.get sb hsb.1 hsb.2.1 hsb.2.2).trans h1) rfl
  · exact at_ptr (by omega) ((h.get pb hpb.1 hpb.2.1 hpb.2.2).trans h2) rfl
  · exact hx.frame h.gl fun b hb => h.get b (hxo b hb).1 (hxo b hb).2.1 (hxo b hb).2.2
  · refine ⟨Nat.le_refl _, Nat.le_refl _, rfl, fun b hb _ _ => hg b hb, ?_, ?_, ?_, ?_⟩
    · rw [get_add_ne h39' (by show H0.next ≠ H0.next + 1; omega), get_add_eq h39]
    · exact get_add_eq h39'
    · obtain ⟨vs, k1, k2, k3⟩ := gv
      exact ⟨vs, (hg vb hv).trans k1, k2, fun y hy => by rw [k3 y hy]; simp⟩
    · exact ⟨_, (hg cb hc).trans gc, .inl ⟨rfl, rfl⟩, fun b hb => by cases hb⟩
end Go.Ev
