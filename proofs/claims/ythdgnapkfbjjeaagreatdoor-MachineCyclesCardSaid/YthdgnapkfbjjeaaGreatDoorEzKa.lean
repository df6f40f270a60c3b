/- Part of an evaluator of calls that is proved sound, and of what it gives about this program. No condition of its own. -/
import Derived.Test.YthdgnapkfbjjeaaGreatDoorEyJa
set_option linter.unusedVariables false
set_option linter.unusedSimpArgs false
set_option linter.unusedSectionVars false
set_option maxRecDepth 100000
set_option maxHeartbeats 4000000
namespace Go.Ev
open Go.Proofs
instance : TyS 86 4 := ⟨by kernel_rfl⟩
instance : Cell 86 := ⟨by kernel_rfl, by kernel_rfl⟩
instance : Zero 86 (.slice none 0 0) := ⟨by kernel_rfl, rfl, by kernel_rfl, by kernel_rfl⟩
def OkPq (l : List Int) : Prop := (∀ (i : Nat) (z : Int), l[i]? = some z → 0 ≤ z ∧ z < l.length) ∧ ∀ (k i : Nat) (z : Int), k < i → l[k]? = some z → l[i]? ≠ some z
open Classical in
noncomputable def permE (l : List Int) : Int := if 256 < l.length then 5 else if OkPq l then 0 else 15
theorem permE_many {l : List Int} (h : 256 < l.length) : permE l = 5 := if_pos h
theorem permE_ok {l : List Int} (h : l.length ≤ 256) (h2 : OkPq l) : permE l = 0 := by unfold permE; rw [if_neg (by omega), if_pos h2]
theorem permE_bad {l : List Int} (h : l.length ≤ 256) (h2 : ¬ OkPq l) : permE l = 15 := by unfold permE; rw [if_neg (by omega), if_neg h2]
def rangeI (n : Nat) : List Int := (List.range n).map fun (i : Nat) => (i : Int)
theorem mem_rangeI {n : Nat} {z : Int} : z ∈ rangeI n ↔ 0 ≤ z ∧ z < n := by
 unfold rangeI
 rw [List.mem_map]
 constructor
 · rintro ⟨i, hi, rfl⟩
   rw [List.mem_range] at hi
   omega
 · rintro ⟨h1, h2⟩
   exact ⟨z.toNat, List.mem_range.2 (by omega), by omega⟩
theorem nodup_rangeI (n : Nat) : (rangeI n).Nodup := by
 unfold rangeI
 rw [List.nodup_iff_pairwise_ne, List.pairwise_iff_getElem]
 intro i j hi hj hij
 simp only [List.getElem_map, List.getElem_range]
 omega
theorem length_rangeI (n : Nat) : (rangeI n).length = n := by simp [rangeI]
theorem OkPq.nodup {l : List Int} (h : OkPq l) : l.Nodup := by
 rw [List.nodup_iff_pairwise_ne, List.pairwise_iff_getElem]
 intro i j hi hj hij e
 exact h.2 i j l[i] hij (List.getElem?_eq_getElem hi) (by rw [e]; exact List.getElem?_eq_getElem hj)
theorem OkPq.mem {l : List Int} (h : OkPq l) {z : Int} (hz : z ∈ l) : 0 ≤ z ∧ z < l.length := by
 obtain ⟨i, hi⟩ := List.mem_iff_getElem?.1 hz
 exact h.1 i z hi
theorem okP_of {l : List Int} (h1 : ∀ z ∈ l, 0 ≤ z ∧ z < l.length) (h2 : l.Nodup) : OkPq l := by
 refine ⟨fun i z hz => h1 z (List.mem_of_getElem? hz), fun k i z hki hk hi => ?_⟩
 rw [List.nodup_iff_pairwise_ne, List.pairwise_iff_getElem] at h2
 obtain ⟨hk1, hk2⟩ := List.getElem?_eq_some_iff.1 hk
 obtain ⟨hi1, hi2⟩ := List.getElem?_eq_some_iff.1 hi
 exact h2 k i hk1 hi1 hki (by rw [hk2, hi2])
theorem OkPq.all {l : List Int} (h : OkPq l) {i : Nat} (hi : i < l.length) : (i : Int) ∈ l := by
 rcases Classical.em ((i : Int) ∈ l) with h' | h'
 · exact h'
 · have hs : l ⊆ (rangeI l.length).erase (i : Int) := fun z hz => by
     rw [List.mem_erase_of_ne (fun e => h' (by rw [← e]; exact hz)), mem_rangeI]
     exact h.mem hz
   have := h.nodup.length_le_of_subset hs
   rw [List.length_erase_of_mem (mem_rangeI.2 (by omega)), length_rangeI] at this
   omega
theorem okP_count {l : List Int} : OkPq l ↔ ∀ i, i < l.length → l.count (i : Int) = 1 := by
 constructor
 · intro h i hi
   have h1 := List.nodup_iff_count.1 h.nodup (i : Int)
   have h2 := List.count_pos_iff.2 (h.all hi)
   omega
 · intro h
   have hr : ∀ z ∈ l, 0 ≤ z ∧ z < l.length := fun z hz => by
     rcases Classical.em (0 ≤ z ∧ z < l.length) with h' | h'
     · exact h'
     · have hs : rangeI l.length ⊆ l.erase z := fun y hy => by
         have hy' := mem_rangeI.1 hy
         rw [List.mem_erase_of_ne (fun e => h' (by rw [← e]; exact hy'))]
         have := h y.toNat (by omega)
         rw [show ((y.toNat : Nat) : Int) = y by omega] at this
         exact List.count_pos_iff.1 (by omega)
       have h1 := (nodup_rangeI l.length).length_le_of_subset hs
       have h2 := List.length_pos_of_mem hz
       rw [length_rangeI, List.length_erase_of_mem hz] at h1
       omega
   refine okP_of hr (List.nodup_iff_count.2 fun z => ?_)
   rcases Classical.em (z ∈ l) with hz | hz
   · have := hr z hz
     have h1 := h z.toNat (by omega)
     rw [show ((z.toNat : Nat) : Int) = z by omega] at h1
     omega
   · rw [List.count_eq_zero.2 hz]; omega
theorem count_take {l : List Int} {i : Nat} {z : Int} (h : l[i]? = some z) (y : Int) : (l.take (i + 1)).count y = (l.take i).count y + if z = y then 1 else 0 := by
 have hlt := (List.getElem?_eq_some_iff.1 h).1
 rw [List.take_add_one, h]
 simp only [List.count_append, Option.toList_some]
 rw [List.count_singleton]
 by_cases e : z = y <;> simp [e]
theorem u84 : runPure Tryz.prog (underlying 204) = some (.map 3 3) := by kernel_rfl
theorem u3 : runPure Tryz.prog (underlying 3) = some (.int .i64) := by kernel_rfl
theorem z3 : runPure Tryz.prog (zeroValue 3) = some (.int .i64 0) := by kernel_rfl
variable {O : CallF} (hq : Quiet O)
include hq
theorem c12 (H : AH) (x : AV) (l : List Int) (hx : Sl H x (ivs l)) (ho : Old H x) (hr : H.next < 2 ^ 39) (K : AV → AH → Prop) (hk : ∀ H', Keeps H H' → H'.next ≤ H.next + 1 → K (iv (permE l)) H') : Ca (ENV O) 130 [x] H K := by
 refine ca_intro (hq _ _ _ rfl) (fn := Tryz.f130) (by rfl) rfl ?_
 repeat (first | apply qN | refine qM rfl rfl ?_ | refine zq4 rfl rfl rfl rfl (inc (by omega)) ?_ | refine zq5 rfl rfl rfl rfl rfl ‹_› ?_ | refine zq6 rfl rfl ‹_› ?_ | refine qT rfl ?_ | refine qF rfl ?_ | apply qR | apply qS | apply qK | apply qE | apply qB)
 refine wops_cons (wop_cmp rfl rfl rfl rfl rfl (fun h => ?_) (fun h => ?_))
 · repeat (first | apply qN | refine qM rfl rfl ?_ | refine zq4 rfl rfl rfl rfl (inc (by omega)) ?_ | refine zq5 rfl rfl rfl rfl rfl ‹_› ?_ | refine zq6 rfl rfl ‹_› ?_ | refine qT rfl ?_ | refine qF rfl ?_ | apply qR | apply qS | apply qK | apply qE | apply qB)
   refine wp_ret ?_
   refine ⟨_, _, rfl, ?_⟩
   have h : ((l.length : Int) > 256) := of_decide_eq_true h
   have := hk H (Keeps.refl H) (Nat.le_succ _)
   rw [permE_many (by omega)] at this
   exact this
 have h256 : ¬ ((l.length : Int) > 256) := of_decide_eq_false h
 clear h
 have hlen : l.length ≤ 256 := by omega
 repeat (first | apply qN | refine qM rfl rfl ?_ | refine zq4 rfl rfl rfl rfl (inc (by omega)) ?_ | refine zq5 rfl rfl rfl rfl rfl ‹_› ?_ | refine zq6 rfl rfl ‹_› ?_ | refine qT rfl ?_ | refine qF rfl ?_ | apply qR | apply qS | apply qK | apply qE | apply qB)
 refine wops_cons (wop_makeMap rfl rfl hr ?_)
 have k0 := (Keeps.refl H).add (.map [] 0) hr
 have hx0 := hx.keep ho k0
 have g0 : (H.add (.map [] 0)).get H.next = some (.map [] 0) := by rw [AH.get_add _ _ _ hr, if_pos rfl]
 have n0 : (H.add (.map [] 0)).next = H.next + 1 := rfl
 generalize H.add (.map [] 0) = H0 at k0 hx0 g0 n0 ⊢
 repeat (first | apply qN | refine qM rfl rfl ?_ | refine zq4 rfl rfl rfl rfl (inc (by omega)) ?_ | refine zq5 rfl rfl rfl rfl rfl ‹_› ?_ | refine zq6 rfl rfl ‹_› ?_ | refine qT rfl ?_ | refine qF rfl ?_ | apply qR | apply qS | apply qK | apply qE | apply qB)
 refine wp_loop (fun k T M H' => ∃ (i : Nat) (Y : List AV) (es : List MapEntry) (cl : Nat) (f : Int → Option Int), k = l.length - i ∧ i ≤ l.length ∧ Keeps H H' ∧ H'.next = H.next + 1 ∧ Sl H' x (ivs l) ∧ H'.get H.next = some (.map es cl) ∧ Mi es f ∧ (∀ z, (f z).getD 0 = ((l.take i).count z : Int)) ∧ M = [] ∧ T = (x :: lget Y 0 :: iv 0 :: .mp H.next :: lget Y 1 :: lget Y 2 :: lget Y 3 :: lget Y 4 :: lget Y 5 :: lget Y 6 :: lget Y 7 :: x :: iv l.length :: iv (i : Nat) :: lget Y 8 :: lget Y 9 :: lget Y 10 :: lget Y 11 :: lget Y 12 :: lget Y 13 :: lget Y 14 :: lget Y 15 :: lget Y 16 :: lget Y 17 :: lget Y 18 :: lget Y 19 :: lget Y 20 :: lget Y 21 :: lget Y 22 :: lget Y 23 :: lget Y 24 :: lget Y 25 :: [])) l.length
   ⟨0, [_,_,_,_,_,_,_,_,_,_,_,_,_,_,_,_,_,_,_,_,_,_,_,_,_,_], [], 0, fun _ => none, rfl, Nat.zero_le _, k0, n0, hx0, g0, Mi.nil, fun z => by simp, rfl, rfl⟩ ?_
 rintro k T M H' ⟨i, Y, es, cl, f, hk1, hi, hK, hn, hxx, hm, hmi, hf, rfl, rfl⟩
 repeat (first | apply qN | refine qM rfl rfl ?_ | refine zq4 rfl rfl rfl rfl (inc (by omega)) ?_ | refine zq5 rfl rfl rfl rfl rfl ‹_› ?_ | refine zq6 rfl rfl ‹_› ?_ | refine qT rfl ?_ | refine qF rfl ?_ | apply qR | apply qS | apply qK | apply qE | apply qB)
 refine wops_cons (wop_cmp rfl rfl rfl rfl rfl (fun h => ?_) (fun h => ?_))
 rotate_left
 · have h : ¬ ((i : Int) < l.length) := of_decide_eq_false h
   have e : i = l.length := by omega
   subst e
   rw [List.take_length] at hf
   clear h hi hk1
   repeat (first | apply qN | refine qM rfl rfl ?_ | refine zq4 rfl rfl rfl rfl (inc (by omega)) ?_ | refine zq5 rfl rfl rfl rfl rfl ‹_› ?_ | refine zq6 rfl rfl ‹_› ?_ | refine qT rfl ?_ | refine qF rfl ?_ | apply qR | apply qS | apply qK | apply qE | apply qB)
   refine wp_loop (fun k T M H2 => ∃ (i : Nat) (Y : List AV), k = l.length - i ∧ i ≤ l.length ∧ (∀ j, j < i → l.count (j : Int) = 1) ∧ H2 = H' ∧ M = [] ∧ T = (x :: lget Y 0 :: iv 0 :: .mp H.next :: lget Y 1 :: lget Y 2 :: lget Y 3 :: lget Y 4 :: lget Y 5 :: lget Y 6 :: lget Y 7 :: lget Y 8 :: lget Y 9 :: lget Y 10 :: lget Y 11 :: lget Y 12 :: lget Y 13 :: lget Y 14 :: lget Y 15 :: lget Y 16 :: lget Y 17 :: lget Y 18 :: lget Y 19 :: iv l.length :: iv (i : Nat) :: lget Y 20 :: lget Y 21 :: lget Y 22 :: lget Y 23 :: lget Y 24 :: lget Y 25 :: lget Y 26 :: [])) l.length
     ⟨0, [_,_,_,_,_,_,_,_,_,_,_,_,_,_,_,_,_,_,_,_,_,_,_,_,_,_,_], rfl, Nat.zero_le _, fun j h => absurd h (by omega), rfl, rfl, rfl⟩ ?_
   rintro k2 T M H2 ⟨i, Y, hk2, hi, hcn, rfl, rfl, rfl⟩
   repeat (first | apply qN | refine qM rfl rfl ?_ | refine zq4 rfl rfl rfl rfl (inc (by omega)) ?_ | refine zq5 rfl rfl rfl rfl rfl ‹_› ?_ | refine zq6 rfl rfl ‹_› ?_ | refine qT rfl ?_ | refine qF rfl ?_ | apply qR | apply qS | apply qK | apply qE | apply qB)
   refine wops_cons (wop_cmp rfl rfl rfl rfl rfl (fun h => ?_) (fun h => ?_))
   rotate_left
   · have h : ¬ ((i : Int) < l.length) := of_decide_eq_false h
     have e : i = l.length := by omega
     subst e
     repeat (first | apply qN | refine qM rfl rfl ?_ | refine zq4 rfl rfl rfl rfl (inc (by omega)) ?_ | refine zq5 rfl rfl rfl rfl rfl ‹_› ?_ | refine zq6 rfl rfl ‹_› ?_ | refine qT rfl ?_ | refine qF rfl ?_ | apply qR | apply qS | apply qK | apply qE | apply qB)
     refine wp_ret ?_
     refine ⟨_, _, rfl, ?_⟩
     have := hk H2 hK (by omega)
     rw [permE_ok hlen (okP_count.2 hcn)] at this
     exact this
   have h : (i : Int) < l.length := of_decide_eq_true h
   repeat (first | apply qN | refine qM rfl rfl ?_ | refine zq4 rfl rfl rfl rfl (inc (by omega)) ?_ | refine zq5 rfl rfl rfl rfl rfl ‹_› ?_ | refine zq6 rfl rfl ‹_› ?_ | refine qT rfl ?_ | refine qF rfl ?_ | apply qR | apply qS | apply qK | apply qE | apply qB)
   refine wops_cons (wop_lookup rfl rfl u84 u3 z3 rfl rfl hm hmi ?_)
   refine wops_cons (wop_cmp rfl rfl rfl rfl rfl (fun h => ?_) (fun h => ?_))
   · have h : (f (i : Int)).getD 0 ≠ 1 := by simpa using h
     rw [hf] at h
     repeat (first | apply qN | refine qM rfl rfl ?_ | refine zq4 rfl rfl rfl rfl (inc (by omega)) ?_ | refine zq5 rfl rfl rfl rfl rfl ‹_› ?_ | refine zq6 rfl rfl ‹_› ?_ | refine qT rfl ?_ | refine qF rfl ?_ | apply qR | apply qS | apply qK | apply qE | apply qB)
     refine wp_ret ?_
     refine ⟨_, _, rfl, ?_⟩
     have := hk H2 hK (by omega)
     rw [permE_bad hlen (fun hok => h (by rw [okP_count.1 hok i (by omega)]; rfl))] at this
     exact this
   have h : (f (i : Int)).getD 0 = 1 := by simpa using h
   rw [hf] at h
   repeat (first | apply qN | refine qM rfl rfl ?_ | refine zq4 rfl rfl rfl rfl (inc (by omega)) ?_ | refine zq5 rfl rfl rfl rfl rfl ‹_› ?_ | refine zq6 rfl rfl ‹_› ?_ | refine qT rfl ?_ | refine qF rfl ?_ | apply qR | apply qS | apply qK | apply qE | apply qB)
   refine ⟨l.length - (i + 1), by omega, i + 1, [_,_,_,_,_,_,_,_,_,_,_,_,_,_,_,_,_,_,_,_,_,_,_,_,_,_,_], rfl, by omega, fun j hj => ?_, rfl, rfl, rfl⟩
   by_cases e : j = i
   · subst e; omega
   · exact hcn j (by omega)
 have h : (i : Int) < l.length := of_decide_eq_true h
 obtain ⟨z, hz⟩ := l_some (show i < l.length by omega)
 repeat (first | apply qN | refine qM rfl rfl ?_ | refine zq4 rfl rfl rfl rfl (inc (by omega)) ?_ | refine zq5 rfl rfl rfl rfl rfl ‹_› ?_ | refine zq6 rfl rfl ‹_› ?_ | refine qT rfl ?_ | refine qF rfl ?_ | apply qR | apply qS | apply qK | apply qE | apply qB)
 refine wops_cons (o_indexI rfl rfl hxx rfl hz fun p hp => ?_)
 repeat (first | apply qN | refine qM rfl rfl ?_ | refine zq4 rfl rfl rfl rfl (inc (by omega)) ?_ | refine zq5 rfl rfl rfl rfl rfl ‹_› ?_ | refine zq6 rfl rfl ‹_› ?_ | refine qT rfl ?_ | refine qF rfl ?_ | apply qR | apply qS | apply qK | apply qE | apply qB)
 refine wops_cons (wop_lookup rfl rfl u84 u3 z3 rfl rfl hm hmi ?_)
 have hc : (f z).getD 0 + 1 = (((l.take (i + 1)).count z : Nat) : Int) := by rw [hf z, count_take hz z, if_pos rfl]; rfl
 have hle : (l.take (i + 1)).count z ≤ 256 := Nat.le_trans (List.count_le_length) (by rw [List.length_take]; omega)
 refine wops_cons (wop_bin (op := .add) (v := .int .i64 (((l.take (i + 1)).count z : Nat) : Int)) rfl rfl rfl rfl ?_ ?_)
 · show some (Value.int .i64 (IntKind.i64.wrap ((f z).getD 0 + 1))) = _
   rw [hc, wrap_id (by omega) (by omega)]
 refine wops_cons (wop_mapUpdate rfl rfl u84 u3 rfl rfl rfl hm hmi fun es' cl' hmi' => ?_)
 have hK' := hK.set (some (.map es' cl')) (Nat.le_refl _) hr
 repeat (first | apply qN | refine qM rfl rfl ?_ | refine zq4 rfl rfl rfl rfl (inc (by omega)) ?_ | refine zq5 rfl rfl rfl rfl rfl ‹_› ?_ | refine zq6 rfl rfl ‹_› ?_ | refine qT rfl ?_ | refine qF rfl ?_ | apply qR | apply qS | apply qK | apply qE | apply qB)
 refine ⟨l.length - (i + 1), by omega, i + 1, [_,_,_,_,_,_,_,_,_,_,_,_,_,_,_,_,_,_,_,_,_,_,_,_,_,_], es', cl', _, rfl, by omega, hK', hn, hx.keep ho hK', by rw [AH.get_set _ _ _ _ hr, if_pos rfl], hmi', fun y => ?_, rfl, rfl⟩
 by_cases e : y = z
 · subst e; simp
 · show (if y = z then _ else f y).getD 0 = _
   rw [if_neg e, hf y, count_take hz y, if_neg (Ne.symm e)]; rfl
end Go.Ev
namespace Go.Ev
open Go.Proofs
theorem keeps_append {H0 H H1 : AH} {s : AV} (h : Keeps H0 H) (hn : H1.next = H.next + 1) (hgl : H1.gl = H.gl) (hb : ∀ b, b ≠ H.next → s.own ≠ some b → H1.get b = H.get b) (hs : ∀ b, s.own = some b → H0.next ≤ b) : Keeps H0 H1 :=
 ⟨by have := h.nx; omega, hgl.trans h.gl, fun b hlt => (hb b (by have := h.nx; omega) (fun e => by have := hs b e; omega)).trans (h.get b hlt)⟩
def it (f : Nat → Nat) : Nat → Nat → Nat
 | 0, x => x
 | k + 1, x => f (it f k x)
theorem it_add (f : Nat → Nat) (a b x : Nat) : it f (a + b) x = it f a (it f b x) := by
 induction a with
 | zero => rw [Nat.zero_add]; rfl
 | succ a ih => rw [Nat.succ_add]; exact congrArg f ih
structure Pm (f : Nat → Nat) (n : Nat) : Prop where
 lt : ∀ x, x < n → f x < n
 inj : ∀ x y, x < n → y < n → f x = f y → x = y
section
variable {f : Nat → Nat} {n : Nat}
theorem Pm.it_lt (h : Pm f n) {x : Nat} (hx : x < n) (k : Nat) : it f k x < n := by
 induction k with
 | zero => exact hx
 | succ k ih => exact h.lt _ ih
theorem Pm.it_inj (h : Pm f n) {x y : Nat} (hx : x < n) (hy : y < n) (k : Nat) (e : it f k x = it f k y) : x = y := by
 induction k with
 | zero => exact e
 | succ k ih => exact ih (h.inj _ _ (h.it_lt hx k) (h.it_lt hy k) e)
theorem Pm.back (h : Pm f n) {x : Nat} (hx : x < n) : ∃ k, k < n ∧ it f (k + 1) x = x := by
 rcases Classical.em (∃ k, k < n ∧ it f (k + 1) x = x) with h' | h'
 · exact h'
 · have hne : ∀ i j, i < j → j ≤ n → it f i x ≠ it f j x := fun i j hij hj e => by
     have e2 : it f i (it f (j - i) x) = it f i x := by rw [← it_add, Nat.add_sub_cancel' (Nat.le_of_lt hij)]; exact e.symm
     have := h.it_inj (h.it_lt hx _) hx i e2
     exact h' ⟨j - i - 1, by omega, by rw [show j - i - 1 + 1 = j - i by omega]; exact this⟩
   have hnd : ((List.range (n + 1)).map fun k => it f k x).Nodup := by
     rw [List.nodup_iff_pairwise_ne, List.pairwise_map, List.pairwise_iff_getElem]
     intro i j hi hj hij
     simp only [List.getElem_range]
     simp only [List.length_range] at hj
     exact hne i j hij (by omega)
   have hsub : ((List.range (n + 1)).map fun k => it f k x) ⊆ List.range n := fun y hy => by
     obtain ⟨k, _, rfl⟩ := List.mem_map.1 hy
     exact List.mem_range.2 (h.it_lt hx k)
   have := hnd.length_le_of_subset hsub
   simp at this
   omega
def per (f : Nat → Nat) (n x : Nat) : Nat := ((List.range n).find? fun k => it f (k + 1) x == x).getD 0 + 1
theorem Pm.per_spec (h : Pm f n) {x : Nat} (hx : x < n) : it f (per f n x) x = x ∧ per f n x ≤ n ∧ ∀ j, 0 < j → j < per f n x → it f j x ≠ x := by
 unfold per
 cases hf : (List.range n).find? fun k => it f (k + 1) x == x with
 | none =>
   obtain ⟨k, hk, e⟩ := h.back hx
   have := List.find?_eq_none.1 hf k (List.mem_range.2 hk)
   simp [e] at this
 | some k =>
   have h1 := List.find?_some hf
   have h2 := List.mem_of_find?_eq_some hf
   refine ⟨eq_of_beq h1, by rw [Option.getD_some]; exact Nat.succ_le_of_lt (List.mem_range.1 h2), fun j hj hjk e => ?_⟩
   rw [Option.getD_some] at hjk
   obtain ⟨_, i, hi, hik, hlt⟩ := List.find?_eq_some_iff_getElem.1 hf
   rw [List.getElem_range] at hik
   subst hik
   have := hlt (j - 1) (by omega)
   rw [List.getElem_range, show j - 1 + 1 = j by omega, e] at this
   simp at this
theorem per_pos (f : Nat → Nat) (n x : Nat) : 0 < per f n x := Nat.succ_pos _
theorem Pm.it_mul (h : Pm f n) {x : Nat} (hx : x < n) (k : Nat) : it f (per f n x * k) x = x := by
 induction k with
 | zero => rfl
 | succ k ih => rw [Nat.mul_succ, it_add, (h.per_spec hx).1, ih]
theorem Pm.it_mod (h : Pm f n) {x : Nat} (hx : x < n) (m : Nat) : it f (m % per f n x) x = it f m x := by
 conv => rhs; rw [← Nat.mod_add_div m (per f n x), it_add, h.it_mul hx]
theorem Pm.per_it (h : Pm f n) {x : Nat} (hx : x < n) (i : Nat) : per f n (it f i x) = per f n x := by
 have hy := h.it_lt hx i
 obtain ⟨a1, _, a3⟩ := h.per_spec hx
 obtain ⟨b1, _, b3⟩ := h.per_spec hy
 have e1 : it f (per f n x) (it f i x) = it f i x := by rw [← it_add, Nat.add_comm, it_add, a1]
 have e2 : it f (per f n (it f i x)) x = x := by
   refine h.it_inj (h.it_lt hx _) hx i ?_
   rw [← it_add, Nat.add_comm, it_add]; exact b1
 rcases Nat.lt_trichotomy (per f n (it f i x)) (per f n x) with h1 | h1 | h1
 · exact absurd e2 (a3 _ (per_pos _ _ _) h1)
 · exact h1
 · exact absurd e1 (b3 _ (per_pos _ _ _) h1)
def orb (f : Nat → Nat) (n s : Nat) : List Nat := (List.range (per f n s)).map fun k => it f k s
theorem orb_length (f : Nat → Nat) (n s : Nat) : (orb f n s).length = per f n s := by simp [orb]
theorem orb_get {s k : Nat} (hk : k < per f n s) : (orb f n s)[k]? = some (it f k s) := by simp [orb, hk]
theorem Pm.mem_orb (h : Pm f n) {s x : Nat} (hs : s < n) : x ∈ orb f n s ↔ ∃ k, it f k s = x := by
 unfold orb
 rw [List.mem_map]
 constructor
 · rintro ⟨k, _, e⟩; exact ⟨k, e⟩
 · rintro ⟨k, e⟩
   exact ⟨k % per f n s, List.mem_range.2 (Nat.mod_lt _ (per_pos _ _ _)), by rw [h.it_mod hs, e]⟩
theorem Pm.self_orb (h : Pm f n) {s : Nat} (hs : s < n) : s ∈ orb f n s := (h.mem_orb hs).2 ⟨0, rfl⟩
theorem Pm.orb_trans (h : Pm f n) {s x y : Nat} (hs : s < n) (hx : x ∈ orb f n s) (hy : y ∈ orb f n x) : y ∈ orb f n s := by
 obtain ⟨k, rfl⟩ := (h.mem_orb hs).1 hx
 obtain ⟨j, rfl⟩ := (h.mem_orb (h.it_lt hs k)).1 hy
 exact (h.mem_orb hs).2 ⟨j + k, it_add _ _ _ _⟩
def vis (f : Nat → Nat) (n i x : Nat) : Bool := (List.range i).any fun t => (orb f n t).contains x
theorem vis_iff {i x : Nat} : vis f n i x = true ↔ ∃ t, t < i ∧ x ∈ orb f n t := by
 simp [vis, List.any_eq_true]
theorem vis_succ (i x : Nat) : vis f n (i + 1) x = (vis f n i x || (orb f n i).contains x) := by
 simp [vis, List.range_succ, List.any_append]
theorem Pm.vis_skip (h : Pm f n) {i x : Nat} (hi : i < n) (hv : vis f n i i = true) : vis f n (i + 1) x = vis f n i x := by
 rw [vis_succ]
 obtain ⟨t, ht, hit⟩ := vis_iff.1 hv
 cases hc : (orb f n i).contains x with
 | false => rw [Bool.or_false]
 | true =>
   have hx : x ∈ orb f n i := by simpa using hc
   rw [Bool.or_true]
   exact (vis_iff.2 ⟨t, ht, h.orb_trans (by omega) hit hx⟩).symm
def cycs (f : Nat → Nat) (n i : Nat) : List (List Nat) := ((List.range i).filter fun s => !vis f n s s).map (orb f n)
theorem cycs_succ (i : Nat) : cycs f n (i + 1) = cycs f n i ++ if vis f n i i = true then [] else [orb f n i] := by
 unfold cycs
 rw [List.range_succ, List.filter_append, List.map_append]
 congr 1
 cases h : vis f n i i <;> simp [h]
theorem Pm.cycs_all (h : Pm f n) {x : Nat} (hx : x < n) : ∃ o ∈ cycs f n n, x ∈ o := by
 have key : ∀ i, i ≤ n → ∀ x, vis f n i x = true → ∃ o ∈ cycs f n i, x ∈ o := by
   intro i
   induction i with
   | zero => intro _ x hv; simp [vis] at hv
   | succ i ih =>
     intro hi x hv
     rw [cycs_succ]
     cases hvi : vis f n i i with
     | true =>
       rw [h.vis_skip (by omega) hvi] at hv
       obtain ⟨o, ho, hxo⟩ := ih (by omega) x hv
       exact ⟨o, by simpa using ho, hxo⟩
     | false =>
       rw [vis_succ] at hv
       rcases Bool.or_eq_true _ _ ▸ hv with hv | hv
       · obtain ⟨o, ho, hxo⟩ := ih (by omega) x hv
         exact ⟨o, List.mem_append_left _ ho, hxo⟩
       · exact ⟨orb f n i, List.mem_append_right _ (by simp), by simpa using hv⟩
 exact key n (Nat.le_refl _) x (vis_iff.2 ⟨x, hx, h.self_orb hx⟩)
theorem cycs_mem {i : Nat} {o : List Nat} (h : o ∈ cycs f n i) : ∃ s, s < i ∧ o = orb f n s := by
 unfold cycs at h
 obtain ⟨s, hs, rfl⟩ := List.mem_map.1 h
 exact ⟨s, List.mem_range.1 (List.mem_filter.1 hs).1, rfl⟩
end
def fOf (l : List Int) : Nat → Nat := fun x => (l.getD x 0).toNat
theorem OkPq.f_get {l : List Int} (h : OkPq l) {x : Nat} (hx : x < l.length) : l[x]? = some ((fOf l x : Nat) : Int) := by
 obtain ⟨z, hz⟩ := l_some hx
 have := h.1 x z hz
 rw [hz]
 simp only [fOf, List.getD, hz, Option.getD_some]
 congr 1
 omega
theorem OkPq.pm {l : List Int} (h : OkPq l) : Pm (fOf l) l.length := by
 refine ⟨fun x hx => ?_, fun x y hx hy e => ?_⟩
 · have := h.1 x _ (h.f_get hx); omega
 · have h1 := h.f_get hx
   have h2 := h.f_get hy
   rw [e] at h1
   rcases Nat.lt_trichotomy x y with hlt | heq | hlt
   · exact absurd h2 (h.2 x y _ hlt h1)
   · exact heq
   · exact absurd h1 (h.2 y x _ hlt h2)
end Go.Ev
namespace Go.Ev
open Go.Proofs
def nvs (l : List Nat) : List AV := ivs (l.map fun (x : Nat) => (x : Int))
theorem nvs_length (l : List Nat) : (nvs l).length = l.length := by simp [nvs, ivs]
theorem nvs_snoc (l : List Nat) (x : Nat) : nvs (l ++ [x]) = nvs l ++ [iv x] := by simp [nvs, ivs]
structure Rd (H0 : AH) (vb cb n : Nat) (V : Nat → Bool) (L : AB) (dn : List Nat) (H : AH) : Prop where
 nx1 : H0.next + 2 ≤ H.next
 nx2 : H.next ≤ H0.next + 2 + 2 * dn.length
 gl : H.gl = H0.gl
 get : ∀ b, b < H0.next → b ≠ vb → b ≠ cb → H.get b = H0.get b
 dfd : H.get H0.next = some .dfd
 lp : H.get (H0.next + 1) = some L
 vs : ∃ vs, H.get vb = some (.cells vs 4 0) ∧ vs.length = n ∧ ∀ y, y < n → vs[y]? = some (.v (.bool (V y || dn.contains y)))
 c : ∃ c, H.get cb = some (.cells [c] 22 0) ∧ Gr H 3 c (nvs dn) ∧ ∀ b, c.own = some b → H0.next + 2 ≤ b
variable {O : CallF} (hq : Quiet O)
include hq
theorem c106 (H : AH) (x : AV) (s : Int) (h1 : x.one = true) (hr : H.next + 2 < 2 ^ 39) (K : AV → AH → Prop) (hk : K (.fn (.func 186) [] [.ptr (H.next + 1) 0, .ptr H.next 0]) ((H.add (.cells [x] 22 0)).add (.cells [iv s] 3 0))) : Ca (ENV O) 162 [x, iv s] H K := by
 refine ca_intro (hq _ _ _ rfl) (fn := Tryz.f162) (by rfl) rfl ?_
 repeat (first | apply qN | refine qM rfl rfl ?_ | apply qR | apply qS)
 refine wops_cons (o_box rfl rfl h1 (by omega) ?_)
 refine wops_cons (o_box rfl rfl rfl (by show H.next + 1 < _; omega) ?_)
 repeat (first | apply qN | refine qM rfl rfl ?_ | apply qR | apply qS)
 refine wops_cons (wop_makeFunc rfl rfl ?_)
 repeat (first | apply qN | refine qM rfl rfl ?_ | apply qR | apply qS)
 refine wp_ret ?_
 exact ⟨_, _, rfl, hk⟩
theorem c152 (n s lb sb pb : Nat) (f : Nat → Nat) (hp : Pm f n) (hs : s < n) (x : AV) (l : List Int) (hl : ∀ y, y < n → l[y]? = some ((f y : Nat) : Int)) (R : List Nat → AH → Prop)
   (hm : ∀ dn H, R dn H → At H (.ptr sb 0) (iv s) ∧ At H (.ptr pb 0) x ∧ Sl H x (ivs l))
   (hy : ∀ (dn : List Nat) (H : AH) (y : Nat), dn.length < n → y < n → R dn H → ∀ K : AV → AH → Prop, (∀ H', R (dn ++ [y]) H' → H.next ≤ H'.next → K (.v (.bool true)) H') → Yl (ENV O) lb [iv y] H K)
   (H : AH) (h0 : R [] H) (K : AV → AH → Prop) (hk : ∀ r H', R (orb f n s) H' → K r H') : Ca (ENV O) 186 [.yl lb, .ptr sb 0, .ptr pb 0] H K := by
 refine ca_intro (hq _ _ _ rfl) (fn := Tryz.f186) (by rfl) rfl ?_
 obtain ⟨m1, m2, m3⟩ := hm _ _ h0
 repeat (first | apply qN | refine zq1 rfl rfl ?_ | refine qM rfl rfl ?_ | refine zq4 rfl rfl rfl rfl (inc (by omega)) ?_ | refine zqa rfl rfl rfl ?_ | refine zq5 rfl rfl rfl rfl rfl ‹_› ?_ | refine zq6 rfl rfl ‹_› ?_ | refine zqb rfl rfl rfl ‹_› ?_ | refine zq7 rfl rfl rfl ?_ | refine zq8 rfl rfl rfl ?_ | refine zq9 rfl rfl rfl rfl ?_ | refine qT rfl ?_ | refine qF rfl ?_ | apply qR | apply qS | apply qK | apply qE | apply qB)
 have hpn := (hp.per_spec hs).2.1
 refine wp_loop (fun k T M H' => ∃ (i : Nat) (Y : List AV), k = per f n s - i ∧ i < per f n s ∧ R ((List.range i).map fun k => it f k s) H' ∧ M = [] ∧ T = (.yl lb :: .ptr sb 0 :: .ptr pb 0 :: lget Y 0 :: iv (it f i s : Nat) :: lget Y 1 :: lget Y 2 :: lget Y 3 :: lget Y 4 :: lget Y 5 :: lget Y 6 :: lget Y 7 :: lget Y 8 :: lget Y 9 :: lget Y 10 :: lget Y 11 :: [])) (per f n s)
   ⟨0, [_,_,_,_,_,_,_,_,_,_,_,_], rfl, per_pos _ _ _, h0, rfl, rfl⟩ ?_
 rintro k T M H' ⟨i, Y, hk1, hi, hR, rfl, rfl⟩
 repeat (first | apply qN | refine zq1 rfl rfl ?_ | refine qM rfl rfl ?_ | refine zq4 rfl rfl rfl rfl (inc (by omega)) ?_ | refine zqa rfl rfl rfl ?_ | refine zq5 rfl rfl rfl rfl rfl ‹_› ?_ | refine zq6 rfl rfl ‹_› ?_ | refine zqb rfl rfl rfl ‹_› ?_ | refine zq7 rfl rfl rfl ?_ | refine zq8 rfl rfl rfl ?_ | refine zq9 rfl rfl rfl rfl ?_ | refine qT rfl ?_ | refine qF rfl ?_ | apply qR | apply qS | apply qK | apply qE | apply qB)
 refine wops_cons (wop_yield rfl rfl rfl rfl ?_)
 refine hy _ H' (it f i s) (by rw [List.length_map, List.length_range]; omega) (hp.it_lt hs i) hR _ fun H2 hR2 hn2 => ⟨hn2, ?_⟩
 have e0 : ((List.range i).map fun k => it f k s) ++ [it f i s] = (List.range (i + 1)).map fun k => it f k s := by rw [List.range_succ, List.map_append]; rfl
 rw [e0] at hR2
 obtain ⟨m1, m2, m3⟩ := hm _ _ hR2
 repeat (first | apply qN | refine zq1 rfl rfl ?_ | refine qM rfl rfl ?_ | refine zq4 rfl rfl rfl rfl (inc (by omega)) ?_ | refine zqa rfl rfl rfl ?_ | refine zq5 rfl rfl rfl rfl rfl ‹_› ?_ | refine zq6 rfl rfl ‹_› ?_ | refine zqb rfl rfl rfl ‹_› ?_ | refine zq7 rfl rfl rfl ?_ | refine zq8 rfl rfl rfl ?_ | refine zq9 rfl rfl rfl rfl ?_ | refine qT rfl ?_ | refine qF rfl ?_ | apply qR | apply qS | apply qK | apply qE | apply qB)
 refine wops_cons (o_indexI rfl rfl m3 rfl (hl _ (hp.it_lt hs i)) fun pp hpp => ?_)
 repeat (first | apply qN | refine zq1 rfl rfl ?_ | refine qM rfl rfl ?_ | refine zq4 rfl rfl rfl rfl (inc (by omega)) ?_ | refine zqa rfl rfl rfl ?_ | refine zq5 rfl rfl rfl rfl rfl ‹_› ?_ | refine zq6 rfl rfl ‹_› ?_ | refine zqb rfl rfl rfl ‹_› ?_ | refine zq7 rfl rfl rfl ?_ | refine zq8 rfl rfl rfl ?_ | refine zq9 rfl rfl rfl rfl ?_ | refine qT rfl ?_ | refine qF rfl ?_ | apply qR | apply qS | apply qK | apply qE | apply qB)
 refine wops_cons (wop_cmp rfl rfl rfl rfl rfl (fun h => ?_) (fun h => ?_))
 · have e : f (it f i s) = s := by have : ((f (it f i s) : Nat) : Int) = s := by simpa using h
                                   omega
   have e2 : i + 1 = per f n s := by
     rcases Nat.lt_or_ge (i + 1) (per f n s) with h' | h'
     · exact absurd e ((hp.per_spec hs).2.2 (i + 1) (by omega) h')
     · omega
   repeat (first | apply qN | refine zq1 rfl rfl ?_ | refine qM rfl rfl ?_ | refine zq4 rfl rfl rfl rfl (inc (by omega)) ?_ | refine zqa rfl rfl rfl ?_ | refine zq5 rfl rfl rfl rfl rfl ‹_› ?_ | refine zq6 rfl rfl ‹_› ?_ | refine zqb rfl rfl rfl ‹_› ?_ | refine zq7 rfl rfl rfl ?_ | refine zq8 rfl rfl rfl ?_ | refine zq9 rfl rfl rfl rfl ?_ | refine qT rfl ?_ | refine qF rfl ?_ | apply qR | apply qS | apply qK | apply qE | apply qB)
   refine wp_ret ?_
   refine ⟨_, _, rfl, hk _ _ ?_⟩
   rw [e2] at hR2
   exact hR2
 have e : f (it f i s) ≠ s := by have : ((f (it f i s) : Nat) : Int) ≠ s := by simpa using h
                                 omega
 have e2 : i + 1 ≠ per f n s := fun e2 => e (by have := (hp.per_spec hs).1; rw [← e2] at this; exact this)
 repeat (first | apply qN | refine zq1 rfl rfl ?_ | refine qM rfl rfl ?_ | refine zq4 rfl rfl rfl rfl (inc (by omega)) ?_ | refine zqa rfl rfl rfl ?_ | refine zq5 rfl rfl rfl rfl rfl ‹_› ?_ | refine zq6 rfl rfl ‹_› ?_ | refine zqb rfl rfl rfl ‹_› ?_ | refine zq7 rfl rfl rfl ?_ | refine zq8 rfl rfl rfl ?_ | refine zq9 rfl rfl rfl rfl ?_ | refine qT rfl ?_ | refine qF rfl ?_ | apply qR | apply qS | apply qK | apply qE | apply qB)
 exact ⟨per f n s - (i + 1), by omega, i + 1, [_,_,_,_,_,_,_,_,_,_,_,_], rfl, by omega, hR2, rfl, rfl⟩
end Go.Ev
namespace Go.Ev
open Go.Proofs
structure RdA (H0 : AH) (vb cb n : Nat) (V : Nat → Bool) (dn : List Nat) (vs : List AV) (c : AV) (H : AH) : Prop where
 nx1 : H0.next + 2 ≤ H.next
 nx2 : H.next ≤ H0.next + 2 + 2 * dn.length
 gl : H.gl = H0.gl
 get : ∀ b, b < H0.next → b ≠ vb → b ≠ cb → H.get b = H0.get b
 gv : H.get vb = some (.cells vs 4 0)
 lv : vs.length = n
 pv : ∀ y, y < n → vs[y]? = some (.v (.bool (V y || dn.contains y)))
 gc : H.get cb = some (.cells [c] 22 0)
 Gc : Gr H 3 c (nvs dn)
 oc : ∀ b, c.own = some b → H0.next + 2 ≤ b
structure RdB (Ha : AH) (vb cb : Nat) (dn : List Nat) (vs : List AV) (c : AV) (y : Nat) (H : AH) : Prop where
 nx1 : Ha.next ≤ H.next
 nx2 : H.next ≤ Ha.next + 2
 gl : H.gl = Ha.gl
 get : ∀ b, b < Ha.next → b ≠ vb → b ≠ cb → c.own ≠ some b → H.get b = Ha.get b
 gv : H.get vb = some (.cells (vs.set y (.v (.bool true))) 4 0)
 cc : ∃ r, H.get cb = some (.cells [r] 22 0) ∧ Gr H 3 r (nvs (dn ++ [y])) ∧ ∀ b, r.own = some b → Ha.next ≤ b
theorem yl51 {O : CallF} {H0 Hm : AH} {vb cb n : Nat} {V : Nat → Bool} {T T1 : List AV} {ps : Array Tmp} {asg bo : Code} {dn : List Nat} {y : Nat} {K : AV → AH → Prop} (hR : Rd H0 vb cb n V (.lp .ready none 132 T ps asg bo) dn Hm) (hv : vb < H0.next) (hc : cb < H0.next) (hvc : vb ≠ cb) (hr : H0.next + 2 * n + 4 < 2 ^ 39) (hdn : dn.length < n) (hl : 1 = ps.size) (hp1 : plansC Tryz.prog TPl 132 asg = true) (hp2 : plansC Tryz.prog TPl 132 bo = true)
   (hk : ∀ H', Rd H0 vb cb n V (.lp .ready none 132 T ps asg bo) (dn ++ [y]) H' → Hm.next ≤ H'.next → K (.v (.bool true)) H')
   (hasg : ∀ H, Wp (ENV O) 132 true asg (setArgs ps.toList [iv y] T) [] H fun x T' M' H' => x = .normal ∧ H' = H ∧ M' = [] ∧ T' = T1)
   (hbo : ∀ Ha vs c, RdA H0 vb cb n V dn vs c Ha → Wp (ENV O) 132 true bo T1 [] Ha fun x _ _ H3 => jumpOf x = none ∧ RdB Ha vb cb dn vs c y H3) : Yl (ENV O) (H0.next + 1) [iv y] Hm K := by
 refine yl_intro hR.lp hl hp1 hp2 ((hasg Hm).mono ?_)
 rintro x T' M' H' ⟨rfl, rfl, rfl, rfl⟩
 refine ⟨rfl, _, _, _, _, _, _, hR.lp, ?_⟩
 obtain ⟨vs, gv, lv, pv⟩ := hR.vs
 obtain ⟨c, gc, Gc, oc⟩ := hR.c
 have h39 : H0.next + 1 < 2 ^ 39 := by omega
 have n1 := hR.nx1
 have n2 := hR.nx2
 have hcl : ∀ b, c.own = some b → b ≠ H0.next + 1 := fun b hb e => by have := oc b hb; omega
 refine (hbo (H'.set (H0.next + 1) (some (.lp .busy none 132 T ps asg bo))) vs c ⟨n1, n2, hR.gl, fun b hb1 hb2 hb3 => ?_, ?_, lv, pv, ?_, ?_, oc⟩).mono ?_
 · rw [get_set_ne h39 (by omega)]; exact hR.get b hb1 hb2 hb3
 · rw [get_set_ne h39 (by omega)]; exact gv
 · rw [get_set_ne h39 (by omega)]; exact gc
 · exact Gc.frame (Nat.le_refl _) fun b hb => get_set_ne h39 (hcl b hb)
 rintro x _ _ H3 ⟨hx, hB⟩
 have m1 := hB.nx1
 have m2 := hB.nx2
 have m1 : H'.next ≤ H3.next := m1
 have m2 : H3.next ≤ H'.next + 2 := m2
 have hbget : ∀ b, b < H'.next → b ≠ vb → b ≠ cb → c.own ≠ some b → b ≠ H0.next + 1 → H3.get b = H'.get b := fun b h1 h2 h3 h4 h5 => (hB.get b h1 h2 h3 h4).trans (get_set_ne h39 h5)
 refine ⟨.busy, none, 132, T, ps, asg, bo, ?_, ?_⟩
 · rw [hB.get _ (by show H0.next + 1 < H'.next; omega) (by omega) (by omega) (fun e => hcl _ e rfl), get_set_eq h39]
 rw [hx]
 refine hk _ ⟨?_, ?_, ?_, fun b hb1 hb2 hb3 => ?_, ?_, ?_, ⟨vs.set y (.v (.bool true)), ?_, ?_, fun z hz => ?_⟩, ?_⟩ ?_
 · show H0.next + 2 ≤ H3.next; omega
 · show H3.next ≤ _; rw [List.length_append, List.length_singleton]; omega
 · exact hB.gl.trans hR.gl
 · rw [get_set_ne h39 (by omega), hbget b (by omega) hb2 hb3 (fun e => by have := oc b e; omega) (by omega)]
   exact hR.get b hb1 hb2 hb3
 · rw [get_set_ne h39 (by omega), hbget H0.next (by omega) (by omega) (by omega) (fun e => by have := oc _ e; omega) (by omega)]
   exact hR.dfd
 · rw [get_set_eq h39]; rfl
 · rw [get_set_ne h39 (by omega)]; exact hB.gv
 · rw [List.length_set]; exact lv
 · by_cases e : z = y
   · subst e
     rw [List.getElem?_set_self (by omega)]
     simp
   · rw [List.getElem?_set_ne (Ne.symm e), pv z hz]
     simp [e]
 · obtain ⟨r, k1, k2, k3⟩ := hB.cc
   have hrl : ∀ b, r.own = some b → b ≠ H0.next + 1 := fun b hb e => by
     have : H'.next ≤ b := k3 b hb
     omega
   exact ⟨r, by rw [get_set_ne h39 (by omega)]; exact k1, k2.frame (Nat.le_refl _) fun b hb => get_set_ne h39 (hrl b hb), fun b hb => by
     have : H'.next ≤ b := k3 b hb
     omega⟩
 · exact m1
theorem rng51 {O : CallF} (hq : Quiet O) {H0 : AH} {vb cb n s sb pb : Nat} {V : Nat → Bool} {f : Nat → Nat} {T : List AV} {ps : Array Tmp} {asg bo : Code} {K : AV → AH → Prop} {x : AV} {l : List Int} (hp : Pm f n) (hs : s < n) (hl : ∀ y, y < n → l[y]? = some ((f y : Nat) : Int))
   (hv : vb < H0.next) (hc : cb < H0.next) (hvc : vb ≠ cb) (hr : H0.next + 2 * n + 4 < 2 ^ 39) (hx : Sl H0 x (ivs l)) (hxo : ∀ b, x.own = some b → b < H0.next ∧ b ≠ vb ∧ b ≠ cb)
   (h1 : H0.get sb = some (.cells [iv s] 3 0)) (h2 : H0.get pb = some (.cells [x] 22 0)) (hsb : sb < H0.next ∧ sb ≠ vb ∧ sb ≠ cb) (hpb : pb < H0.next ∧ pb ≠ vb ∧ pb ≠ cb)
   (gv : ∃ vs, H0.get vb = some (.cells vs 4 0) ∧ vs.length = n ∧ ∀ y, y < n → vs[y]? = some (.v (.bool (V y)))) (gc : H0.get cb = some (.cells [.v (.slice none 0 0)] 22 0))
   (hy : ∀ (dn : List Nat) (H : AH) (y : Nat), dn.length < n → y < n → Rd H0 vb cb n V (.lp .ready none 132 T ps asg bo) dn H → ∀ K : AV → AH → Prop, (∀ H', Rd H0 vb cb n V (.lp .ready none 132 T ps asg bo) (dn ++ [y]) H' → H.next ≤ H'.next → K (.v (.bool true)) H') → Yl (ENV O) (H0.next + 1) [iv y] H K)
   (hk : ∀ r H', Rd H0 vb cb n V (.lp .ready none 132 T ps asg bo) (orb f n s) H' → K r H') : Ca (ENV O) 186 [.yl (H0.next + 1), .ptr sb 0, .ptr pb 0] ((H0.add .dfd).add (.lp .ready none 132 T ps asg bo)) K := by
 have h39 : H0.next < 2 ^ 39 := by omega
 have h39' : (H0.add .dfd).next < 2 ^ 39 := by show H0.next + 1 < _; omega
 have hg : ∀ b, b < H0.next → ((H0.add .dfd).add (.lp .ready none 132 T ps asg bo)).get b = H0.get b := fun b hb => by
   rw [get_add_ne h39' (by show b ≠ H0.next + 1; omega), get_add_ne h39 (by omega)]
 refine c152 hq n s (H0.next + 1) sb pb f hp hs x l hl (Rd H0 vb cb n V (.lp .ready none 132 T ps asg bo)) (fun dn H h => ⟨?_, ?_, ?_⟩) hy _ ?_ K hk
 · exact at_ptr (by omega) ((h.get sb hsb.1 hsb.2.1 hsb.2.2).trans h1) rfl
 · exact at_ptr (by omega) ((h.get pb hpb.1 hpb.2.1 hpb.2.2).trans h2) rfl
 · exact hx.frame h.gl fun b hb => h.get b (hxo b hb).1 (hxo b hb).2.1 (hxo b hb).2.2
 · refine ⟨Nat.le_refl _, Nat.le_refl _, rfl, fun b hb _ _ => hg b hb, ?_, ?_, ?_, ?_⟩
   · rw [get_add_ne h39' (by show H0.next ≠ H0.next + 1; omega), get_add_eq h39]
   · exact get_add_eq h39'
   · obtain ⟨vs, k1, k2, k3⟩ := gv
     exact ⟨vs, (hg vb hv).trans k1, k2, fun y hy => by rw [k3 y hy]; simp⟩
   · exact ⟨_, (hg cb hc).trans gc, .inl ⟨rfl, rfl⟩, fun b hb => by cases hb⟩
end Go.Ev
namespace Go.Ev
open Go.Proofs
def CycR (H : AH) (lo : Nat) (s : AV) (cyc : List AV) (os : List (List Nat)) : Prop :=
 cyc.length = os.length ∧ ∀ (j : Nat) (c : AV) (o : List Nat), cyc[j]? = some c → os[j]? = some o → Sl H c (nvs o) ∧ ∀ b, c.own = some b → lo ≤ b ∧ b < H.next ∧ s.own ≠ some b
theorem Gr.own_cells {H : AH} {e : TypeId} {s : AV} {cs : List AV} (h : Gr H e s cs) {b : Nat} (hb : s.own = some b) : ∃ cs' g, H.get b = some (.cells cs' e g) := by
 rcases h with ⟨rfl, _⟩ | ⟨b', _, _, rfl, hg⟩
 · cases hb
 · cases hb; exact ⟨_, _, hg⟩
variable {O : CallF} (hq : Quiet O)
include hq
theorem c106' (H : AH) (x : AV) (s : Int) (h1 : x.one = true) (hr : H.next + 2 < 2 ^ 39) (K : AV → AH → Prop) (hk : ∀ H' sb pb, pb = H.next → sb = H.next + 1 → H'.next = H.next + 2 → Keeps H H' → H'.get sb = some (.cells [iv s] 3 0) → H'.get pb = some (.cells [x] 22 0) → K (.fn (.func 186) [] [.ptr sb 0, .ptr pb 0]) H') : Ca (ENV O) 162 [x, iv s] H K := by
 refine c106 hq H x s h1 hr K ?_
 have h2 : (H.add (.cells [x] 22 0)).next < 2 ^ 39 := by show H.next + 1 < _; omega
 refine hk _ (H.next + 1) H.next rfl rfl rfl (((Keeps.refl H).add _ (by omega)).add _ h2) (get_add_eq h2) ?_
 rw [get_add_ne h2 (by show H.next ≠ H.next + 1; omega), get_add_eq (by omega)]
theorem c51 (H : AH) (x : AV) (l : List Int) (hx : Sl H x (ivs l)) (ho : Old H x) (hl : l.length ≤ 256) (hok : OkPq l) (hr : H.next + 200000 < 2 ^ 39) (K : AV → AH → Prop)
   (hk : ∀ H' s cyc, Keeps H H' → H'.next ≤ H.next + 140000 → Gr H' 22 s cyc → CycR H' H.next s cyc (cycs (fOf l) l.length l.length) → K s H') : Ca (ENV O) 132 [x] H K := by
 refine ca_intro (hq _ _ _ rfl) (fn := Tryz.f132) (by rfl) rfl ?_
 have hpm := hok.pm
 have hlf : ∀ y, y < l.length → l[y]? = some ((fOf l y : Nat) : Int) := fun y hy => hok.f_get hy
 generalize fOf l = f at hpm hlf hk ⊢
 repeat (first | apply qN | refine qM rfl rfl ?_ | refine zq4 rfl rfl rfl rfl (inc (by omega)) ?_ | refine zq5 rfl rfl rfl rfl rfl ‹_› ?_ | refine zq6 rfl rfl ‹_› ?_ | refine qT rfl ?_ | refine qF rfl ?_ | apply qR | apply qS | apply qK | apply qE | apply qB)
 have hr1 : H.next < 2 ^ 39 := by omega
 have hr2 : (H.add (.cells (List.replicate l.length (.v (.bool false))) 4 0)).next < 2 ^ 39 := by show H.next + 1 < _; omega
 refine wops_cons (o_make rfl rfl rfl rfl (by omega) hr1 ?_)
 refine wops_cons (o_alloc rfl rfl hr2 ?_)
 refine wops_cons (o_store rfl rfl rfl (get_add_eq (x := .cells [.v (.slice none 0 0)] 86 0) hr2) (Nat.succ_pos _) rfl ?_)
 have hx3 := hx.keep ho ((((Keeps.refl H).add (.cells (List.replicate l.length (.v (.bool false))) 4 0) hr1).add (.cells [.v (.slice none 0 0)] 86 0) hr2).set (some (.cells [.slc H.next 0 l.length l.length] 86 0)) (b := H.next + 1) (by omega) hr2)
 repeat (first | apply qN | refine qM rfl rfl ?_ | refine zq4 rfl rfl rfl rfl (inc (by omega)) ?_ | refine zq5 rfl rfl rfl rfl rfl ‹_› ?_ | refine zq6 rfl rfl ‹_› ?_ | refine qT rfl ?_ | refine qF rfl ?_ | apply qR | apply qS | apply qK | apply qE | apply qB)
 refine wp_loop (fun k T M H' => ∃ (i : Nat) (Y : List AV) (s : AV) (cyc vs : List AV), k = l.length - i ∧ i ≤ l.length ∧ Keeps H H' ∧ H'.next ≤ H.next + 2 + i * 519 ∧ H.next + 2 ≤ H'.next ∧ H'.get (H.next + 1) = some (.cells [.slc H.next 0 l.length l.length] 86 0) ∧
     H'.get H.next = some (.cells vs 4 0) ∧ vs.length = l.length ∧ (∀ y, y < l.length → vs[y]? = some (.v (.bool (vis f l.length i y)))) ∧ Gr H' 22 s cyc ∧ (∀ b, s.own = some b → H.next + 2 ≤ b) ∧ CycR H' (H.next + 2) s cyc (cycs f l.length i) ∧
     M.Nodup ∧ (∀ b ∈ M, H.next + 2 ≤ b ∧ b < H'.next ∧ H'.get b = some .dfd) ∧ T = (x :: lget Y 0 :: .v (.slice none 0 0) :: s :: .ptr (H.next + 1) 0 :: lget Y 1 :: lget Y 2 :: lget Y 3 :: lget Y 4 :: lget Y 5 :: lget Y 6 :: x :: iv l.length :: iv (i : Nat) :: lget Y 7 :: lget Y 8 :: lget Y 9 :: lget Y 10 :: lget Y 11 :: lget Y 12 :: lget Y 13 :: lget Y 14 :: lget Y 15 :: lget Y 16 :: lget Y 17 :: lget Y 18 :: lget Y 19 :: lget Y 20 :: lget Y 21 :: lget Y 22 :: lget Y 23 :: lget Y 24 :: lget Y 25 :: lget Y 26 :: lget Y 27 :: lget Y 28 :: lget Y 29 :: [])) l.length
   ⟨0, [_,_,_,_,_,_,_,_,_,_,_,_,_,_,_,_,_,_,_,_,_,_,_,_,_,_,_,_,_,_], .v (.slice none 0 0), [], List.replicate l.length (.v (.bool false)), rfl, Nat.zero_le _, (((Keeps.refl H).add _ hr1).add _ hr2).set _ (by show H.next ≤ H.next + 1; omega) hr2, by show H.next + 1 + 1 ≤ _; omega, by show H.next + 2 ≤ H.next + 1 + 1; omega, get_set_eq hr2,
     (get_set_ne hr2 (by show H.next ≠ H.next + 1; omega)).trans ((get_add_ne hr2 (by show H.next ≠ H.next + 1; omega)).trans (get_add_eq hr1)), by simp, fun y hy => by simp [hy, vis], .inl ⟨rfl, rfl⟩, (fun b hb => by cases hb), ⟨rfl, (fun j c o hj => by simp at hj)⟩, List.nodup_nil, (fun b hb => by simp at hb), rfl⟩ ?_
 rintro k T M H' ⟨i, Y, s, cyc, vs, hk1, hi, hK, hn1, hn2, hgt, hgv, hvl, hvs, hG, hso, hcy, hMn, hM, rfl⟩
 have hxx := hx.keep ho hK
 repeat (first | apply qN | refine qM rfl rfl ?_ | refine zq4 rfl rfl rfl rfl (inc (by omega)) ?_ | refine zq5 rfl rfl rfl rfl rfl ‹_› ?_ | refine zq6 rfl rfl ‹_› ?_ | refine qT rfl ?_ | refine qF rfl ?_ | apply qR | apply qS | apply qK | apply qE | apply qB)
 refine wops_cons (wop_cmp rfl rfl rfl rfl rfl (fun h => ?_) (fun h => ?_))
 rotate_left
 · have h : ¬ ((i : Int) < l.length) := of_decide_eq_false h
   have e : i = l.length := by omega
   subst e
   have hb : l.length * 519 ≤ 256 * 519 := Nat.mul_le_mul_right _ hl
   obtain ⟨H2, t1, t2, t3, t4⟩ := takeMarks_ok hMn fun b hb => ⟨(hM b hb).2.2, by have := (hM b hb).2.1; omega⟩
   repeat (first | apply qN | refine qM rfl rfl ?_ | refine zq4 rfl rfl rfl rfl (inc (by omega)) ?_ | refine zq5 rfl rfl rfl rfl rfl ‹_› ?_ | refine zq6 rfl rfl ‹_› ?_ | refine qT rfl ?_ | refine qF rfl ?_ | apply qR | apply qS | apply qK | apply qE | apply qB)
   refine wp_ret ?_
   refine ⟨s, H2, by unfold leaveM; rw [t1]; rfl, ?_⟩
   have hcm : ∀ b cs e g, H'.get b = some (.cells cs e g) → b ∉ M := fun b cs e g hb hbM => by rw [(hM b hbM).2.2] at hb; cases hb
   have hK2 : Keeps H H2 := ⟨by rw [t2]; exact hK.nx, t3.trans hK.gl, fun b hb => (t4 b (fun hbM => by have := (hM b hbM).1; omega)).trans (hK.get b hb)⟩
   have hslk : ∀ c lst, Sl H' c lst → Sl H2 c lst := fun c lst hc => hc.frame t3 fun b hb => by
     unfold Sl at hc
     split at hc
     · cases hb
     · obtain ⟨_, _, cs, e, g, h1, _⟩ := hc; cases hb; exact t4 _ (hcm _ _ _ _ h1)
     · obtain ⟨_, _, _, cs, e, g, h1, _⟩ := hc; cases hb; exact t4 _ (hcm _ _ _ _ h1)
     · exact hc.elim
   refine hk H2 s cyc hK2 (by omega) (hG.frame (by omega) fun b hb => ?_) ⟨hcy.1, fun j c o hj hoj => ?_⟩
   · obtain ⟨cs', g, h1⟩ := hG.own_cells hb
     exact t4 b (hcm _ _ _ _ h1)
   · obtain ⟨h1, h2⟩ := hcy.2 j c o hj hoj
     exact ⟨hslk _ _ h1, fun b hb => by have := h2 b hb; exact ⟨by omega, by omega, this.2.2⟩⟩
 have h : (i : Int) < l.length := of_decide_eq_true h
 have hi' : i < l.length := by omega
 have hmul : i * 519 ≤ 256 * 519 := Nat.mul_le_mul_right _ (by omega)
 have hH39 : H'.next + 1000 < 2 ^ 39 := by omega
 have a4 : At H' (.ptr (H.next + 1) 0) (.slc H.next 0 l.length l.length) := at_ptr hr2 hgt rfl
 have hvi := hvs i hi'
 have a5 : At H' (.ptr H.next i) (.v (.bool (vis f l.length i i))) := at_ptr hr1 hgv hvi
 repeat (first | apply qN | refine qM rfl rfl ?_ | refine zq4 rfl rfl rfl rfl (inc (by omega)) ?_ | refine zq5 rfl rfl rfl rfl rfl ‹_› ?_ | refine zq6 rfl rfl ‹_› ?_ | refine qT rfl ?_ | refine qF rfl ?_ | apply qR | apply qS | apply qK | apply qE | apply qB)
 refine wops_cons (o_indexOwn rfl rfl rfl rfl hi' ?_)
 cases hv : vis f l.length i i with
 | true =>
   rw [hv] at a5
   repeat (first | apply qN | refine qM rfl rfl ?_ | refine zq4 rfl rfl rfl rfl (inc (by omega)) ?_ | refine zq5 rfl rfl rfl rfl rfl ‹_› ?_ | refine zq6 rfl rfl ‹_› ?_ | refine qT rfl ?_ | refine qF rfl ?_ | apply qR | apply qS | apply qK | apply qE | apply qB)
   refine ⟨l.length - (i + 1), by omega, i + 1, [_,_,_,_,_,_,_,_,_,_,_,_,_,_,_,_,_,_,_,_,_,_,_,_,_,_,_,_,_,_], s, cyc, vs, rfl, by omega, hK, by omega, hn2, hgt, hgv, hvl, fun y hy => ?_, hG, hso, ?_, hMn, hM, rfl⟩
   · rw [hpm.vis_skip hi' hv]; exact hvs y hy
   · rw [cycs_succ, if_pos hv, List.append_nil]; exact hcy
 | false =>
 rw [hv] at a5
 repeat (first | apply qN | refine qM rfl rfl ?_ | refine zq4 rfl rfl rfl rfl (inc (by omega)) ?_ | refine zq5 rfl rfl rfl rfl rfl ‹_› ?_ | refine zq6 rfl rfl ‹_› ?_ | refine qT rfl ?_ | refine qF rfl ?_ | apply qR | apply qS | apply qK | apply qE | apply qB)
 refine wops_cons (o_alloc rfl rfl (by omega) ?_)
 have k1 := (Keeps.refl H').add (.cells [.v (.slice none 0 0)] 22 0) (by omega)
 have n1 : (H'.add (.cells [.v (.slice none 0 0)] 22 0)).next = H'.next + 1 := rfl
 have g1 : (H'.add (.cells [.v (.slice none 0 0)] 22 0)).get H'.next = some (.cells [.v (.slice none 0 0)] 22 0) := get_add_eq (by omega)
 generalize H'.add (.cells [.v (.slice none 0 0)] 22 0) = H1 at k1 n1 g1 ⊢
 repeat (first | apply qN | refine qM rfl rfl ?_ | refine zq4 rfl rfl rfl rfl (inc (by omega)) ?_ | refine zq5 rfl rfl rfl rfl rfl ‹_› ?_ | refine zq6 rfl rfl ‹_› ?_ | refine qT rfl ?_ | refine qF rfl ?_ | apply qR | apply qS | apply qK | apply qE | apply qB)
 refine wops_cons (wop_callF rfl rfl rfl (fn := Tryz.f162) (by rfl) ?_)
 refine c106' hq H1 x i hx.one (by omega) _ fun H0 sb pb epb esb n0 k0 gs gp => ⟨k0.nx, ?_⟩
 have k0' := k1.trans k0
 have hgc0 := (k0.get H'.next (by omega)).trans g1
 have hgv0 := (k0'.get H.next (by omega)).trans hgv
 have hpn := (hpm.per_spec hi').2.1
 repeat (first | apply qN | refine qM rfl rfl ?_ | refine zq4 rfl rfl rfl rfl (inc (by omega)) ?_ | refine zq5 rfl rfl rfl rfl rfl ‹_› ?_ | refine zq6 rfl rfl ‹_› ?_ | refine qT rfl ?_ | refine qF rfl ?_ | apply qR | apply qS | apply qK | apply qE | apply qB)
 refine wp_range rfl (by omega) (fn := Tryz.f186) (by rfl) ?_
 refine rng51 hq (vb := H.next) (cb := H'.next) (n := l.length) (s := i) (V := vis f l.length i) hpm hi' hlf (by omega) (by omega) (by omega) (by omega) (hxx.keep (ho.keep hK) k0') (fun b hb => by have := ho b hb; omega)
   gs gp (by omega) (by omega) ⟨vs, hgv0, hvl, hvs⟩ hgc0 ?_ ?_
 · intro dn Hm y hdn hy hR K' hk'
   apply yl51 hR (by omega) (by omega) (by omega) (by omega) hdn rfl rfl rfl hk'
   · intro H
     repeat (first | apply qN | refine qM rfl rfl ?_ | refine zq4 rfl rfl rfl rfl (inc (by omega)) ?_ | refine zq5 rfl rfl rfl rfl rfl ‹_› ?_ | refine zq6 rfl rfl ‹_› ?_ | refine qT rfl ?_ | refine qF rfl ?_ | apply qR | apply qS | apply qK | apply qE | apply qB)
     exact ⟨rfl, rfl, rfl, rfl⟩
   · intro Ha vs' c hA
     have gt : Ha.get (H.next + 1) = some (.cells [.slc H.next 0 l.length l.length] 86 0) := (hA.get _ (by omega) (by omega) (by omega)).trans ((k0'.get _ (by omega)).trans hgt)
     have b1 : At Ha (.ptr (H.next + 1) 0) (.slc H.next 0 l.length l.length) := at_ptr hr2 gt rfl
     have m1 := hA.nx1
     have m2 := hA.nx2
     have hlvs := hA.lv
     repeat (first | apply qN | refine qM rfl rfl ?_ | refine zq4 rfl rfl rfl rfl (inc (by omega)) ?_ | refine zq5 rfl rfl rfl rfl rfl ‹_› ?_ | refine zq6 rfl rfl ‹_› ?_ | refine qT rfl ?_ | refine qF rfl ?_ | apply qR | apply qS | apply qK | apply qE | apply qB)
     refine wops_cons (o_indexOwn rfl rfl rfl rfl hy ?_)
     refine wops_cons (o_store rfl rfl rfl hA.gv (by omega) rfl ?_)
     have gcb : (Ha.set H.next (some (.cells (vs'.set y (.v (.bool true))) 4 0))).get H'.next = some (.cells [c] 22 0) := by rw [get_set_ne hr1 (by omega)]; exact hA.gc
     have Gc' : Gr (Ha.set H.next (some (.cells (vs'.set y (.v (.bool true))) 4 0))) 3 c (nvs dn) := hA.Gc.frame (Nat.le_refl _) fun b hb => get_set_ne hr1 (by have := hA.oc b hb; omega)
     have b2 : At (Ha.set H.next (some (.cells (vs'.set y (.v (.bool true))) 4 0))) (.ptr H'.next 0) c := at_ptr (by omega) gcb rfl
     have hgs : ∀ b, b ≠ H.next → (Ha.set H.next (some (.cells (vs'.set y (.v (.bool true))) 4 0))).get b = Ha.get b := fun b hb => get_set_ne hr1 hb
     have gvb : (Ha.set H.next (some (.cells (vs'.set y (.v (.bool true))) 4 0))).get H.next = some (.cells (vs'.set y (.v (.bool true))) 4 0) := get_set_eq hr1
     have ns : (Ha.set H.next (some (.cells (vs'.set y (.v (.bool true))) 4 0))).next = Ha.next := rfl
     have gls : (Ha.set H.next (some (.cells (vs'.set y (.v (.bool true))) 4 0))).gl = Ha.gl := rfl
     repeat (first | apply qN | refine qM rfl rfl ?_ | refine zq4 rfl rfl rfl rfl (inc (by omega)) ?_ | refine zq5 rfl rfl rfl rfl rfl ‹_› ?_ | refine zq6 rfl rfl ‹_› ?_ | refine qT rfl ?_ | refine qF rfl ?_ | apply qR | apply qS | apply qK | apply qE | apply qB)
     have hnn : dn.length < 257 := by omega
     refine wops_cons (o_build1 rfl rfl rfl (by show Ha.next < _; omega) ?_)
     have G5 := Gc'.frame (H' := (Ha.set H.next (some (.cells (vs'.set y (.v (.bool true))) 4 0))).add (.cells [iv y] 3 0)) (Nat.le_succ _) fun b hb => get_add_ne (by show Ha.next < _; omega) (by have := Gc'.old b hb; omega)
     refine wops_cons (o_append rfl rfl rfl rfl rfl (by rw [nvs_length]; omega) (by show Ha.next + 1 < _; omega) rfl (get_add_eq (by show Ha.next < _; omega)) rfl G5 fun r H6 er n6 gl6 b6 g6 G6 => ?_)
     have n6 : H6.next = Ha.next + 1 + 1 := n6
     have b6' : ∀ b, b < Ha.next → b ≠ H.next → c.own ≠ some b → H6.get b = Ha.get b := fun b hb1 hb2 hb3 => (b6 b (by show b ≠ Ha.next + 1; omega) hb3).trans ((get_add_ne (by show Ha.next < _; omega) (by show b ≠ Ha.next; omega)).trans (hgs b hb2))
     have hco : ∀ b, c.own = some b → H0.next + 2 ≤ b := hA.oc
     have gc6 : H6.get H'.next = some (.cells [c] 22 0) := (b6' _ (by omega) (by omega) (fun e => by have := hco _ e; omega)).trans hA.gc
     have gv6 : H6.get H.next = some (.cells (vs'.set y (.v (.bool true))) 4 0) := (b6 _ (by show H.next ≠ Ha.next + 1; omega) (fun e => by have := hco _ e; omega)).trans ((get_add_ne (by show Ha.next < _; omega) (by show H.next ≠ Ha.next; omega)).trans gvb)
     refine wops_cons (o_store rfl rfl rfl gc6 (Nat.succ_pos _) (by subst er; rfl) ?_)
     repeat (first | apply qN | refine qM rfl rfl ?_ | refine zq4 rfl rfl rfl rfl (inc (by omega)) ?_ | refine zq5 rfl rfl rfl rfl rfl ‹_› ?_ | refine zq6 rfl rfl ‹_› ?_ | refine qT rfl ?_ | refine qF rfl ?_ | apply qR | apply qS | apply qK | apply qE | apply qB)
     have hcb39 : H'.next < 2 ^ 39 := by omega
     have hro : ∀ b, r.own = some b → b = Ha.next + 1 := fun b hb => by subst er; cases hb; rfl
     refine ⟨rfl, ⟨by show Ha.next ≤ H6.next; omega, by show H6.next ≤ _; omega, gl6.trans gls, fun b hb1 hb2 hb3 hb4 => ?_, ?_, r, ?_, ?_, fun b hb => by have := hro b hb; omega⟩⟩
     · rw [get_set_ne hcb39 hb3]; exact b6' b hb1 hb2 hb4
     · rw [get_set_ne hcb39 (by omega)]; exact gv6
     · rw [get_set_eq hcb39]; rfl
     · rw [nvs_snoc]
       exact G6.frame (Nat.le_refl _) fun b hb => get_set_ne hcb39 (by have := hro b hb; omega)
 · intro r H2 hR
   refine ⟨hR.nx1, _, _, _, _, _, _, _, .normal, hR.lp, (fun e => by cases e), rfl, ?_⟩
   obtain ⟨vs2, gv2, lv2, pv2⟩ := hR.vs
   obtain ⟨c, gc2, Gc2, oc2⟩ := hR.c
   have m1 := hR.nx1
   have m2 := hR.nx2
   rw [orb_length] at m2
   have hL39 : H0.next + 1 < 2 ^ 39 := by omega
   have hcl : ∀ b, c.own = some b → b ≠ H0.next + 1 := fun b hb e => by have := oc2 b hb; omega
   refine Wp.mem (fun H3 => H3.next = H2.next ∧ H3.gl = H2.gl ∧ ∀ b, b ≠ H0.next + 1 → H3.get b = H2.get b) ⟨rfl, rfl, fun b hb => get_set_ne hL39 hb⟩ ?_
   rintro H3 ⟨n3, gl3, g3⟩
   have gc3 : H3.get H'.next = some (.cells [c] 22 0) := (g3 _ (by omega)).trans gc2
   have Gc3 : Gr H3 3 c (nvs (orb f l.length i)) := Gc2.frame (by omega) fun b hb => g3 b (hcl b hb)
   have b3 : At H3 (.ptr H'.next 0) c := at_ptr (by omega) gc3 rfl
   have hg3 : ∀ b, b < H'.next → b ≠ H.next → H3.get b = H'.get b := fun b hb1 hb2 => (g3 b (by omega)).trans ((hR.get b (by omega) hb2 (by omega)).trans (k0'.get b hb1))
   have G3 : Gr H3 22 s cyc := hG.frame (by omega) fun b hb => hg3 b (hG.old b hb) (by have := hso b hb; omega)
   repeat (first | apply qN | refine qM rfl rfl ?_ | refine zq4 rfl rfl rfl rfl (inc (by omega)) ?_ | refine zq5 rfl rfl rfl rfl rfl ‹_› ?_ | refine zq6 rfl rfl ‹_› ?_ | refine qT rfl ?_ | refine qF rfl ?_ | apply qR | apply qS | apply qK | apply qE | apply qB)
   refine wops_cons (o_build1 rfl rfl Gc3.sl.one (by omega) ?_)
   have G4 := G3.frame (H' := H3.add (.cells [c] 22 0)) (Nat.le_succ _) fun b hb => get_add_ne (by omega) (by have := G3.old b hb; omega)
   have hcyl : cyc.length ≤ i := by
     rw [hcy.1]; unfold cycs; rw [List.length_map]; exact Nat.le_trans (List.length_filter_le _ _) (by simp)
   refine wops_cons (o_append rfl rfl rfl rfl rfl (by omega) (by show H3.next + 1 < _; omega) rfl (get_add_eq (by omega)) Gc3.sl.one G4 fun r5 H5 er n5 gl5 b5 g5 G5 => ?_)
   have n5 : H5.next = H3.next + 1 + 1 := n5
   have hg5' : ∀ b, b < H3.next → s.own ≠ some b → H5.get b = H3.get b := fun b hb1 hb2 => (b5 b (by show b ≠ H3.next + 1; omega) hb2).trans (get_add_ne (by omega) (by omega))
   have hg5 : ∀ b, b < H'.next → b ≠ H.next → s.own ≠ some b → H5.get b = H'.get b := fun b hb1 hb2 hb3 => (hg5' b (by omega) hb3).trans (hg3 b hb1 hb2)
   have hsold : ∀ b, s.own = some b → b < H'.next := fun b hb => hG.old b hb
   have hgl5 : H5.gl = H.gl := gl5.trans (gl3.trans (hR.gl.trans (k0'.gl.trans hK.gl)))
   have hro : ∀ b, r5.own = some b → b = H3.next + 1 := fun b hb => by subst er; cases hb; rfl
   repeat (first | apply qN | refine qM rfl rfl ?_ | refine zq4 rfl rfl rfl rfl (inc (by omega)) ?_ | refine zq5 rfl rfl rfl rfl rfl ‹_› ?_ | refine zq6 rfl rfl ‹_› ?_ | refine qT rfl ?_ | refine qF rfl ?_ | apply qR | apply qS | apply qK | apply qE | apply qB)
   refine ⟨l.length - (i + 1), by omega, i + 1, [_,_,_,_,_,_,_,_,_,_,_,_,_,_,_,_,_,_,_,_,_,_,_,_,_,_,_,_,_,_], r5, cyc ++ [c], vs2, rfl, by omega, ⟨by omega, hgl5, fun b hb => ?_⟩, by omega, by omega, ?_, ?_, lv2, fun y hy => ?_, G5, fun b hb => ?_, ⟨?_, fun j c' o hj hoj => ?_⟩, ?_, fun b hb => ?_, rfl⟩
   · rw [hg5 b (by omega) (by omega) (fun e => by have := hso b e; omega)]
     exact hK.get b hb
   · rw [hg5 _ (by omega) (by omega) (fun e => by have := hso _ e; omega)]; exact hgt
   · rw [hg5' _ (by omega) (fun e => by have := hso _ e; omega), g3 _ (by omega)]; exact gv2
   · rw [vis_succ]; exact pv2 y hy
   · have := hro b hb; omega
   · rw [cycs_succ, if_neg (by simp [hv]), List.length_append, List.length_append, hcy.1]; rfl
   · rw [cycs_succ, if_neg (by simp [hv])] at hoj
     rcases Nat.lt_trichotomy j cyc.length with hlt | heq | hgt'
     · rw [List.getElem?_append_left hlt] at hj
       rw [List.getElem?_append_left (by rw [← hcy.1]; exact hlt)] at hoj
       obtain ⟨h1, h2⟩ := hcy.2 j c' o hj hoj
       refine ⟨h1.frame (hgl5.trans hK.gl.symm) fun b hb => ?_, fun b hb => ?_⟩
       · have := h2 b hb; exact hg5 b (by omega) (by omega) this.2.2
       · have := h2 b hb; exact ⟨this.1, by omega, fun e => by have := hro b e; omega⟩
     · subst heq
       rw [List.getElem?_append_right (Nat.le_refl _), Nat.sub_self] at hj
       rw [hcy.1, List.getElem?_append_right (Nat.le_refl _), Nat.sub_self] at hoj
       simp at hj hoj
       subst hj hoj
       have hco : ∀ b, c.own = some b → H0.next + 2 ≤ b ∧ b < H3.next := fun b hb => ⟨oc2 b hb, Gc3.old b hb⟩
       refine ⟨Gc3.sl.frame gl5 fun b hb => ?_, fun b hb => ?_⟩
       · have := hco b hb; exact hg5' b this.2 (fun e => by have := hsold b e; omega)
       · have := hco b hb; exact ⟨by omega, by omega, fun e => by have := hro b e; omega⟩
     · rw [List.getElem?_eq_none (by rw [List.length_append, List.length_singleton]; omega)] at hj
       cases hj
   · refine List.nodup_cons.2 ⟨fun hb => ?_, hMn⟩
     have := hM _ hb
     omega
   · rcases List.mem_cons.1 hb with rfl | hb
     · exact ⟨by omega, by omega, by rw [hg5' _ (by omega) (fun e => by have := hsold _ e; omega), g3 _ (by omega)]; exact hR.dfd⟩
     · have h3 := hM b hb
       refine ⟨h3.1, by omega, ?_⟩
       rw [hg5 b h3.2.1 (by omega) (fun e => ?_)]
       · exact h3.2.2
       · obtain ⟨cs', g, h1⟩ := hG.own_cells e
         rw [h3.2.2] at h1; cases h1
end Go.Ev
