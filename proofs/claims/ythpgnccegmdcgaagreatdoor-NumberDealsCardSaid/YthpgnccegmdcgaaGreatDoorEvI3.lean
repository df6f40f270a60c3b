/- Part of an evaluator of calls that is proved sound, and of what it gives about this program. No condition of its own. -/
import Derived.Test.YthpgnccegmdcgaaGreatDoorEvHf
import Derived.Test.YthpgnccegmdcgaaGreatDoorEvI2
set_option linter.unusedVariables false
set_option linter.unusedSimpArgs false
set_option maxRecDepth 100000
namespace Go.Ev

/-! ### Drawn orders -/

/-- The numbers of a draw: after i steps. -/
def drawX (key : Int) : Nat → Int
  | 0 => key
  | i + 1 => (drawX key i * 39373).tmod 2147483647

/-- The place of element i. -/
def drawK (key : Int) (i : Nat) : Nat := ((drawX key (i + 1)).tmod ((i : Int) + 1)).toNat

/-- The order of n elements. -/
def drawL (key : Int) : Nat → List Int
  | 0 => []
  | i + 1 => (drawL key i).take (drawK key i) ++ (i : Int) :: (drawL key i).drop (drawK key i)

theorem drawX_range {key : Int} (h : 1 ≤ key ∧ key ≤ 2147483646) (i : Nat) : 0 ≤ drawX key i ∧ drawX key i ≤ 2147483646 := by
  induction i with
  | zero => show 0 ≤ key ∧ key ≤ _; omega
  | succ i ih =>
    have h1 := Int.tmod_nonneg 2147483647 (show 0 ≤ drawX key i * 39373 by omega)
    have h2 := Int.tmod_lt_of_pos (drawX key i * 39373) (show (0 : Int) < 2147483647 by decide)
    show 0 ≤ (drawX key i * 39373).tmod 2147483647 ∧ (drawX key i * 39373).tmod 2147483647 ≤ _
    omega

theorem drawK_le {key : Int} (h : 1 ≤ key ∧ key ≤ 2147483646) (i : Nat) : (drawX key (i + 1)).tmod ((i : Int) + 1) = (drawK key i : Int) ∧ drawK key i ≤ i := by
  have h1 := Int.tmod_nonneg ((i : Int) + 1) (drawX_range h (i + 1)).1
  have h2 := Int.tmod_lt_of_pos (drawX key (i + 1)) (show (0 : Int) < (i : Int) + 1 by omega)
  unfold drawK
  omega

theorem drawL_length (key : Int) (n : Nat) : (drawL key n).length = n := by
  induction n with
  | zero => rfl
  | succ n ih =>
    unfold drawL
    rw [List.length_append, List.length_cons, List.length_take, List.length_drop, ih]
    omega

theorem drawL_mem {key : Int} {n : Nat} {z : Int} : z ∈ drawL key n ↔ 0 ≤ z ∧ z < n := by
  induction n with
  | zero => simp [drawL]
  | succ n ih =>
    unfold drawL
    have e : z ∈ (drawL key n).take (drawK key n) ++ (n : Int) :: (drawL key n).drop (drawK key n) ↔ z = n ∨ z ∈ drawL key n := by
      rw [List.mem_append, List.mem_cons]
      constructor
      · rintro (h | h | h)
        · exact .inr (List.mem_of_mem_take h)
        · exact .inl h
        · exact .inr (List.mem_of_mem_drop h)
      · rintro (h | h)
        · exact .inr (.inl h)
        · rw [← List.take_append_drop (drawK key n) (drawL key n), List.mem_append] at h
          rcases h with h | h
          · exact .inl h
          · exact .inr (.inr h)
    rw [e, ih]
    omega

theorem drawL_nodup (key : Int) (n : Nat) : (drawL key n).Nodup := by
  induction n with
  | zero => exact List.nodup_nil
  | succ n ih =>
    unfold drawL
    have hn : (n : Int) ∉ drawL key n := fun h => by have := drawL_mem.1 h; omega
    rw [← List.take_append_drop (drawK key n) (drawL key n), List.nodup_append] at ih
    obtain ⟨h1, h2, h3⟩ := ih
    rw [List.nodup_append]
    refine ⟨h1, List.nodup_cons.2 ⟨fun h => hn (List.mem_of_mem_drop h), h2⟩, fun a ha b hb => ?_⟩
    rcases List.mem_cons.1 hb with rfl | hb
    · exact fun e => hn (e ▸ List.mem_of_mem_take ha)
    · exact h3 a ha b hb

theorem drawL_ok (key : Int) (n : Nat) : OkP (drawL key n) :=
  okP_of (fun z hz => by rw [drawL_length]; exact drawL_mem.1 hz) (drawL_nodup key n)

/-- What is left of it without the last element. -/
theorem drawL_fewer (key : Int) (n : Nat) : (drawL key (n + 1)).filter (fun z => z != (n : Int)) = drawL key n := by
  have h : ∀ l : List Int, (∀ z ∈ l, z ≠ (n : Int)) → l.filter (fun z => z != (n : Int)) = l := fun l hl => by
    rw [List.filter_eq_self]
    intro z hz
    simpa using hl z hz
  have hn : ∀ z ∈ drawL key n, z ≠ (n : Int) := fun z hz => by have := drawL_mem.1 hz; omega
  show ((drawL key n).take (drawK key n) ++ (n : Int) :: (drawL key n).drop (drawK key n)).filter _ = _
  rw [List.filter_append, List.filter_cons, if_neg (by simp), h _ fun z hz => hn z (List.mem_of_mem_take hz), h _ fun z hz => hn z (List.mem_of_mem_drop hz), List.take_append_drop]

end Go.Ev
namespace Go.Ev

/-! ### Sums; the largest remainders -/

theorem sumL_def (l : List Int) : sumL l = l.foldl (· + ·) 0 := rfl
theorem foldl_add (l : List Int) (a : Int) : l.foldl (· + ·) a = a + sumL l := by
  unfold sumL
  induction l generalizing a with
  | nil => simp
  | cons x l ih => simp only [List.foldl_cons]; rw [ih, ih (0 + x)]; omega
theorem sumL_nil : sumL [] = 0 := rfl
theorem sumL_cons (x : Int) (l : List Int) : sumL (x :: l) = x + sumL l := by
  rw [sumL_def, List.foldl_cons, foldl_add]; omega
theorem sumL_append (l m : List Int) : sumL (l ++ m) = sumL l + sumL m := by
  induction l with
  | nil => simp [sumL_nil]
  | cons x l ih => rw [List.cons_append, sumL_cons, sumL_cons, ih]; omega

theorem sumL_nonneg {l : List Int} (h : ∀ z ∈ l, 0 ≤ z) : 0 ≤ sumL l := by
  induction l with
  | nil => exact Int.le_refl _
  | cons x l ih => rw [sumL_cons]; have := h x (by simp); have := ih fun z hz => h z (by simp [hz]); omega

theorem sumL_le {l : List Int} {B : Int} (h : ∀ z ∈ l, z ≤ B) : sumL l ≤ l.length * B := by
  induction l with
  | nil => simp [sumL_nil]
  | cons x l ih =>
    rw [sumL_cons, List.length_cons]
    have h1 := h x (by simp)
    have h2 := ih fun z hz => h z (by simp [hz])
    have : ((l.length + 1 : Nat) : Int) * B = l.length * B + B := by rw [Int.natCast_add, Int.add_mul]; simp
    omega

/-- Quotients and remainders of all. -/
theorem quo_rem_sum {total sum : Int} (l : List Int) : sumL (l.map fun w => (total * w).tdiv sum) * sum + sumL (l.map fun w => (total * w).tmod sum) = total * sumL l := by
  induction l with
  | nil => simp [sumL_nil]
  | cons x l ih =>
    simp only [List.map_cons, sumL_cons]
    have h := Int.tdiv_mul_add_tmod (total * x) sum
    rw [Int.add_mul, Int.mul_add]
    omega

theorem take_sum_le {l : List Int} (h : ∀ z ∈ l, 0 ≤ z) (i : Nat) : sumL (l.take i) ≤ sumL l := by
  have := sumL_append (l.take i) (l.drop i)
  rw [List.take_append_drop] at this
  have := sumL_nonneg (l := l.drop i) fun z hz => h z (List.mem_of_mem_drop hz)
  omega
end Go.Ev
namespace Go.Ev

/-- Quotients and remainders of the shares. -/
def quoL (total sum : Int) (l : List Int) : List Int := l.map fun w => (total * w).tdiv sum
def remL (total sum : Int) (l : List Int) : List Int := l.map fun w => (total * w).tmod sum

/-- Before: the place with the greater remainder. -/
def ltR (rem : List Int) (a b : Int) : Bool := decide (rem.getD b.toNat 0 < rem.getD a.toNat 0)

/-- The places in the order in which they are served. -/
def orderR (rem : List Int) : List Int := (sortR (ltR rem) (rangeI rem.length)).reverse

/-- One more for each place of a list. -/
def bump (s : List Int) (ps : List Int) : List Int := ps.foldl (fun s p => s.set p.toNat (s.getD p.toNat 0 + 1)) s

noncomputable def sharesL (total sum : Int) (l : List Int) : List Int := bump (quoL total sum l) ((orderR (remL total sum l)).take (total - sumL (quoL total sum l)).toNat)

theorem ivs_set (l : List Int) (i : Nat) (z : Int) : (ivs l).set i (iv z) = ivs (l.set i z) := by simp [ivs, List.map_set]
theorem ivs_rep (n : Nat) : List.replicate n (iv 0) = ivs (List.replicate n 0) := by simp [ivs]

theorem bump_length (s ps : List Int) : (bump s ps).length = s.length := by
  unfold bump
  induction ps generalizing s with
  | nil => rfl
  | cons p ps ih => simp only [List.foldl_cons]; rw [ih]; simp

theorem bump_snoc (s ps : List Int) (p : Int) : bump s (ps ++ [p]) = (bump s ps).set p.toNat ((bump s ps).getD p.toNat 0 + 1) := by
  unfold bump; simp

theorem bump_bound {s ps : List Int} {B : Int} (h : ∀ z ∈ s, 0 ≤ z ∧ z ≤ B) (hB : 0 ≤ B) : ∀ z ∈ bump s ps, 0 ≤ z ∧ z ≤ B + ps.length := by
  induction ps generalizing s B with
  | nil => intro z hz; have := h z hz; simpa using this
  | cons p ps ih =>
    intro z hz
    have h2 : ∀ y ∈ s.set p.toNat (s.getD p.toNat 0 + 1), 0 ≤ y ∧ y ≤ B + 1 := fun y hy => by
      rcases List.mem_or_eq_of_mem_set hy with h' | h'
      · have := h y h'; omega
      · subst h'
        have : 0 ≤ s.getD p.toNat 0 ∧ s.getD p.toNat 0 ≤ B := by
          rw [List.getD_eq_getElem?_getD]
          cases hg : s[p.toNat]? with
          | none => simpa using hB
          | some v => exact h v (List.mem_of_getElem? hg)
        omega
    have := ih h2 (by omega) z hz
    simp only [List.length_cons]
    omega

theorem orderR_mem {rem : List Int} {z : Int} : z ∈ orderR rem ↔ 0 ≤ z ∧ z < rem.length := by
  unfold orderR
  rw [List.mem_reverse, sortR_mem, mem_rangeI]

theorem orderR_length (rem : List Int) : (orderR rem).length = rem.length := by
  unfold orderR
  rw [List.length_reverse, sortR_length, length_rangeI]


/-! ### The order by remainders -/

/-- Not before, and not before: a strict weak order. -/
structure Swo (lt : Int → Int → Bool) : Prop where
  asym : ∀ a b, lt a b = true → lt b a = false
  ntr : ∀ a b c, lt a b = false → lt b c = false → lt a c = false

theorem insR_sorted {lt : Int → Int → Bool} (hl : Swo lt) {x : Int} {R : List Int} (h : R.Pairwise fun a b => lt a b = false) : (insR lt x R).Pairwise fun a b => lt a b = false := by
  induction R with
  | nil => simp [insR]
  | cons y R ih =>
    obtain ⟨h1, h2⟩ := List.pairwise_cons.1 h
    unfold insR
    split
    · rename_i hxy
      refine List.pairwise_cons.2 ⟨fun z hz => ?_, ih h2⟩
      have hz' : z = x ∨ z ∈ R := by
        clear ih h h1 h2
        induction R with
        | nil => simp [insR] at hz; exact .inl hz
        | cons u R ih =>
          unfold insR at hz
          split at hz
          · rcases List.mem_cons.1 hz with rfl | hz
            · exact .inr (by simp)
            · rcases ih hz with h | h
              · exact .inl h
              · exact .inr (by simp [h])
          · rcases List.mem_cons.1 hz with rfl | hz
            · exact .inl rfl
            · exact .inr hz
      rcases hz' with rfl | hz'
      · exact hl.asym _ _ hxy
      · exact h1 z hz'
    · rename_i hxy
      have hxy : lt x y = false := by simpa using hxy
      refine List.pairwise_cons.2 ⟨fun z hz => ?_, h⟩
      rcases List.mem_cons.1 hz with rfl | hz
      · exact hxy
      · exact hl.ntr _ _ _ hxy (h1 z hz)

theorem sortR_sorted {lt : Int → Int → Bool} (hl : Swo lt) (l : List Int) : (sortR lt l).Pairwise fun a b => lt a b = false := by
  have key : ∀ (l R : List Int), (R.Pairwise fun a b => lt a b = false) → (l.foldl (fun R x => insR lt x R) R).Pairwise fun a b => lt a b = false := by
    intro l
    induction l with
    | nil => intro R h; exact h
    | cons x l ih => intro R h; exact ih _ (insR_sorted hl h)
  exact key l [] List.Pairwise.nil

theorem sum_insR (lt : Int → Int → Bool) (f : Int → Int) (x : Int) (R : List Int) : sumL ((insR lt x R).map f) = f x + sumL (R.map f) := by
  induction R with
  | nil => simp [insR, sumL_cons, sumL_nil]
  | cons y R ih =>
    unfold insR
    split
    · simp only [List.map_cons, sumL_cons, ih]; omega
    · simp only [List.map_cons, sumL_cons]

theorem sum_sortR (lt : Int → Int → Bool) (f : Int → Int) (l : List Int) : sumL ((sortR lt l).map f) = sumL (l.map f) := by
  have key : ∀ (l R : List Int), sumL ((l.foldl (fun R x => insR lt x R) R).map f) = sumL (R.map f) + sumL (l.map f) := by
    intro l
    induction l with
    | nil => intro R; simp [sumL_nil]
    | cons x l ih => intro R; simp only [List.foldl_cons, ih, sum_insR, List.map_cons, sumL_cons]; omega
  unfold sortR
  rw [key]; simp [sumL_nil]

theorem ltR_swo (rem : List Int) : Swo (ltR rem) := by
  refine ⟨fun a b h => ?_, fun a b c h1 h2 => ?_⟩
  · unfold ltR at *
    have h := of_decide_eq_true h
    exact decide_eq_false (by omega)
  · unfold ltR at *
    have h1 := of_decide_eq_false h1
    have h2 := of_decide_eq_false h2
    exact decide_eq_false (by omega)

/-- In the order: those before have no lesser remainder. -/
theorem orderR_sorted (rem : List Int) : (orderR rem).Pairwise fun a b => rem.getD b.toNat 0 ≤ rem.getD a.toNat 0 := by
  unfold orderR
  rw [List.pairwise_reverse]
  refine List.Pairwise.imp_of_mem (fun _ _ h => ?_) (sortR_sorted (ltR_swo rem) (rangeI rem.length))
  unfold ltR at h
  have h := of_decide_eq_false h
  omega

theorem sumL_reverse (l : List Int) : sumL l.reverse = sumL l := by
  induction l with
  | nil => rfl
  | cons x l ih => rw [List.reverse_cons, sumL_append, ih, sumL_cons, sumL_cons, sumL_nil]; omega

theorem orderR_sum (rem : List Int) : sumL ((orderR rem).map fun p => rem.getD p.toNat 0) = sumL rem := by
  unfold orderR
  rw [List.map_reverse, sumL_reverse, sum_sortR]
  congr 1
  unfold rangeI
  rw [List.map_map]
  apply List.ext_getElem?
  intro i
  rw [List.getElem?_map]
  rcases Nat.lt_or_ge i rem.length with hi | hi
  · rw [List.getElem?_range hi]
    simp [hi]
  · rw [List.getElem?_eq_none (by simpa using hi), List.getElem?_eq_none (by omega)]
    rfl

/-- Those that are served have a remainder. -/
theorem served_pos {rem : List Int} {m : Nat} {sum : Int} (hs : 0 < sum) (h0 : ∀ z ∈ rem, 0 ≤ z ∧ z < sum) (hm : sumL rem = m * sum) {p : Int} (hp : p ∈ (orderR rem).take m) : 0 < rem.getD p.toNat 0 := by
  obtain ⟨j, hj⟩ := List.mem_iff_getElem?.1 hp
  rw [List.getElem?_take] at hj
  split at hj
  · rename_i hjm
    have hbd : ∀ q : Int, 0 ≤ rem.getD q.toNat 0 ∧ rem.getD q.toNat 0 ≤ sum - 1 := fun q => by
      rw [List.getD_eq_getElem?_getD]
      cases hg : rem[q.toNat]? with
      | none => simp; omega
      | some v => have := h0 v (List.mem_of_getElem? hg); simp; omega
    rcases Int.lt_or_le 0 (rem.getD p.toNat 0) with h | h
    · exact h
    · exfalso
      have hsum := orderR_sum rem
      rw [← List.take_append_drop j (orderR rem), List.map_append, sumL_append] at hsum
      have h1 : sumL (((orderR rem).take j).map fun p => rem.getD p.toNat 0) ≤ j * (sum - 1) := by
        have := sumL_le (l := ((orderR rem).take j).map fun p => rem.getD p.toNat 0) (B := sum - 1) fun z hz => by
          obtain ⟨q, _, rfl⟩ := List.mem_map.1 hz
          exact (hbd q).2
        refine Int.le_trans this (Int.mul_le_mul_of_nonneg_right ?_ (by omega))
        rw [List.length_map, List.length_take]
        omega
      have h2 : sumL (((orderR rem).drop j).map fun p => rem.getD p.toNat 0) ≤ 0 := by
        have := sumL_le (l := ((orderR rem).drop j).map fun p => rem.getD p.toNat 0) (B := 0) fun z hz => by
          obtain ⟨q, hq, rfl⟩ := List.mem_map.1 hz
          have hdj : (orderR rem).drop j = p :: (orderR rem).drop (j + 1) := by
            obtain ⟨hlt, he⟩ := List.getElem?_eq_some_iff.1 hj
            rw [List.drop_eq_getElem_cons hlt, he]
          have hpw := (List.Pairwise.sublist (List.drop_sublist j _) (orderR_sorted rem))
          rw [hdj] at hq hpw
          rcases List.mem_cons.1 hq with rfl | hq
          · exact h
          · exact Int.le_trans ((List.pairwise_cons.1 hpw).1 q hq) h
        simpa using this
      have h3 : (j : Int) * (sum - 1) ≤ j * sum := Int.mul_le_mul_of_nonneg_left (by omega) (by omega)
      have h4 : ((j : Int) + 1) * sum ≤ m * sum := Int.mul_le_mul_of_nonneg_right (by omega) (by omega)
      rw [Int.add_mul] at h4
      omega
  · cases hj
end Go.Ev
namespace Go.Ev

theorem sortR_nodup {lt : Int → Int → Bool} {l : List Int} (h : l.Nodup) : (sortR lt l).Nodup := by
  rw [List.nodup_iff_count] at h ⊢
  have ins : ∀ (a x : Int) (R : List Int), (insR lt x R).count a = (x :: R).count a := by
    intro a x R
    induction R with
    | nil => rfl
    | cons y R ih =>
      unfold insR
      split
      · simp only [List.count_cons, ih]; omega
      · rfl
  have key : ∀ (a : Int) (l R : List Int), (l.foldl (fun R x => insR lt x R) R).count a = R.count a + l.count a := by
    intro a l
    induction l with
    | nil => intro R; simp
    | cons x l ih => intro R; simp only [List.foldl_cons, ih, ins, List.count_cons]; omega
  intro a
  unfold sortR
  rw [key]
  simpa using h a

theorem orderR_nodup (rem : List Int) : (orderR rem).Nodup := by
  unfold orderR
  rw [List.nodup_iff_count]
  intro a
  rw [List.count_reverse]
  exact List.nodup_iff_count.1 (sortR_nodup (nodup_rangeI _)) a

/-- One more where the place is served. -/
theorem bump_get {s ps : List Int} (hn : ps.Nodup) (hr : ∀ p ∈ ps, 0 ≤ p ∧ p < s.length) {i : Nat} (hi : i < s.length) : (bump s ps).getD i 0 = s.getD i 0 + if (i : Int) ∈ ps then 1 else 0 := by
  induction ps generalizing s with
  | nil => simp [bump]
  | cons p ps ih =>
    obtain ⟨h1, h2⟩ := List.nodup_cons.1 hn
    have hp := hr p (by simp)
    have : bump s (p :: ps) = bump (s.set p.toNat (s.getD p.toNat 0 + 1)) ps := rfl
    rw [this, ih h2 (fun q hq => by rw [List.length_set]; exact hr q (by simp [hq])) (by rw [List.length_set]; exact hi)]
    by_cases e : p.toNat = i
    · have ep : p = (i : Int) := by omega
      subst ep
      have hnot : ¬ (i : Int) ∈ ps := h1
      simp [hnot, List.getD_eq_getElem?_getD, hi]
    · have ep : ¬ (i : Int) = p := by omega
      have : (s.set p.toNat (s.getD p.toNat 0 + 1)).getD i 0 = s.getD i 0 := by
        rw [List.getD_eq_getElem?_getD, List.getElem?_set_ne e, ← List.getD_eq_getElem?_getD]
      rw [this]
      simp [ep]

theorem sum_set {s : List Int} {i : Nat} {v : Int} (hi : i < s.length) : sumL (s.set i v) = sumL s - s.getD i 0 + v := by
  induction s generalizing i with
  | nil => simp at hi
  | cons x s ih =>
    cases i with
    | zero => simp [sumL_cons]; omega
    | succ i =>
      simp only [List.set_cons_succ, sumL_cons]
      rw [ih (by simpa using hi)]
      simp; omega

theorem bump_sum {s ps : List Int} (hr : ∀ p ∈ ps, 0 ≤ p ∧ p < s.length) : sumL (bump s ps) = sumL s + ps.length := by
  induction ps generalizing s with
  | nil => simp [bump]
  | cons p ps ih =>
    have hp := hr p (by simp)
    have : bump s (p :: ps) = bump (s.set p.toNat (s.getD p.toNat 0 + 1)) ps := rfl
    rw [this, ih fun q hq => by rw [List.length_set]; exact hr q (by simp [hq]), sum_set (by omega)]
    simp only [List.length_cons]
    omega

/-! ### The shares -/

section
variable {l : List Int} {total : Int}

structure Wts (l : List Int) (total : Int) : Prop where
  w0 : ∀ z ∈ l, 0 ≤ z
  t0 : 0 ≤ total
  s0 : 0 < sumL l

theorem Wts.quo_rem (h : Wts l total) {w : Int} (hw : w ∈ l) : 0 ≤ (total * w).tdiv (sumL l) ∧ 0 ≤ (total * w).tmod (sumL l) ∧ (total * w).tmod (sumL l) < sumL l ∧ (total * w).tdiv (sumL l) * sumL l + (total * w).tmod (sumL l) = total * w := by
  have h1 : 0 ≤ total * w := Int.mul_nonneg h.t0 (h.w0 w hw)
  exact ⟨Int.tdiv_nonneg h1 (Int.le_of_lt h.s0), Int.tmod_nonneg _ h1, Int.tmod_lt_of_pos _ h.s0, Int.tdiv_mul_add_tmod _ _⟩

theorem Wts.quo0 (h : Wts l total) : ∀ z ∈ quoL total (sumL l) l, 0 ≤ z := fun z hz => by
  obtain ⟨w, hw, rfl⟩ := List.mem_map.1 hz
  exact (h.quo_rem hw).1

theorem Wts.rem0 (h : Wts l total) : ∀ z ∈ remL total (sumL l) l, 0 ≤ z ∧ z < sumL l := fun z hz => by
  obtain ⟨w, hw, rfl⟩ := List.mem_map.1 hz
  exact ⟨(h.quo_rem hw).2.1, (h.quo_rem hw).2.2.1⟩

/-- What is left, and the remainders. -/
theorem Wts.left (h : Wts l total) : ∃ m : Nat, total - sumL (quoL total (sumL l) l) = m ∧ sumL (remL total (sumL l) l) = m * sumL l ∧ m ≤ l.length := by
  have e := quo_rem_sum (total := total) (sum := sumL l) l
  have hr0 : 0 ≤ sumL (remL total (sumL l) l) := sumL_nonneg fun z hz => (h.rem0 z hz).1
  have hr1 : sumL (remL total (sumL l) l) ≤ l.length * sumL l := by
    have := sumL_le (l := remL total (sumL l) l) (B := sumL l) fun z hz => Int.le_of_lt (h.rem0 z hz).2
    simpa [remL] using this
  have e : sumL (quoL total (sumL l) l) * sumL l + sumL (remL total (sumL l) l) = total * sumL l := e
  have e2 : (total - sumL (quoL total (sumL l) l)) * sumL l = sumL (remL total (sumL l) l) := by rw [Int.sub_mul]; omega
  have h0 : 0 ≤ total - sumL (quoL total (sumL l) l) := by
    rcases Int.lt_or_le (total - sumL (quoL total (sumL l) l)) 0 with hlt | hle
    · have := Int.mul_neg_of_neg_of_pos hlt h.s0
      omega
    · exact hle
  obtain ⟨m, hm⟩ := Int.eq_ofNat_of_zero_le h0
  refine ⟨m, hm, by rw [← e2, hm], ?_⟩
  rw [hm] at e2
  have : (m : Int) * sumL l ≤ l.length * sumL l := by rw [e2]; exact hr1
  have := Int.le_of_mul_le_mul_right this h.s0
  omega

theorem Wts.take (h : Wts l total) (i : Nat) : 0 ≤ total - sumL ((quoL total (sumL l) l).take i) := by
  obtain ⟨m, hm, _⟩ := h.left
  have := take_sum_le h.quo0 i
  omega

theorem Wts.quo_le (h : Wts l total) : ∀ z ∈ quoL total (sumL l) l, 0 ≤ z ∧ z ≤ total := fun z hz => by
  refine ⟨h.quo0 z hz, ?_⟩
  obtain ⟨i, hi⟩ := List.mem_iff_getElem?.1 hz
  have h1 := h.take (i + 1)
  rw [List.take_add_one, hi, sumL_append] at h1
  have h2 := sumL_nonneg (l := (quoL total (sumL l) l).take i) fun z hz => h.quo0 z (List.mem_of_mem_take hz)
  have h3 : sumL (some z).toList = z := by simp [sumL_cons, sumL_nil]
  omega

/-- A share: its quotient, or one more where there is a remainder. -/
theorem Wts.share (h : Wts l total) {i : Nat} {w : Int} (hi : l[i]? = some w) : ∃ s d, (sharesL total (sumL l) l)[i]? = some s ∧ s = (total * w).tdiv (sumL l) + d ∧ (d = 0 ∨ d = 1 ∧ 0 < (total * w).tmod (sumL l)) := by
  obtain ⟨m, hm, hrs, hml⟩ := h.left
  have hlt := (List.getElem?_eq_some_iff.1 hi).1
  have hql : (quoL total (sumL l) l).length = l.length := by simp [quoL]
  have hrl : (remL total (sumL l) l).length = l.length := by simp [remL]
  have hsl : (sharesL total (sumL l) l).length = l.length := by unfold sharesL; rw [bump_length, hql]
  obtain ⟨s, hs⟩ := l_some (l := sharesL total (sumL l) l) (show i < _ by omega)
  have hmt : (total - sumL (quoL total (sumL l) l)).toNat = m := by omega
  have hb := bump_get (s := quoL total (sumL l) l) (ps := (orderR (remL total (sumL l) l)).take m) ((orderR_nodup _).sublist (List.take_sublist _ _)) (fun p hp => by have := orderR_mem.1 (List.mem_of_mem_take hp); omega) (i := i) (by omega)
  have hb2 : (sharesL total (sumL l) l).getD i 0 = s := by rw [List.getD_eq_getElem?_getD, hs]; rfl
  unfold sharesL at hb2
  rw [hmt, hb] at hb2
  have hq : (quoL total (sumL l) l).getD i 0 = (total * w).tdiv (sumL l) := by rw [List.getD_eq_getElem?_getD]; simp [quoL, hi]
  have hr : (remL total (sumL l) l).getD i 0 = (total * w).tmod (sumL l) := by rw [List.getD_eq_getElem?_getD]; simp [remL, hi]
  rw [hq] at hb2
  by_cases hmem : (i : Int) ∈ (orderR (remL total (sumL l) l)).take m
  · rw [if_pos hmem] at hb2
    have := served_pos h.s0 h.rem0 hrs hmem
    rw [Int.toNat_natCast, hr] at this
    exact ⟨s, 1, hs, hb2.symm, .inr ⟨rfl, this⟩⟩
  · rw [if_neg hmem] at hb2
    exact ⟨s, 0, hs, hb2.symm, .inl rfl⟩

/-- A greater weight has no lesser share. -/
theorem Wts.share_mono (h : Wts l total) {i k : Nat} {w v s t : Int} (hi : l[i]? = some w) (hk : l[k]? = some v) (hwv : v < w) (hs : (sharesL total (sumL l) l)[i]? = some s) (ht : (sharesL total (sumL l) l)[k]? = some t) : t ≤ s := by
  obtain ⟨m, hm, hrs, hml⟩ := h.left
  have hli := (List.getElem?_eq_some_iff.1 hi).1
  have hlk := (List.getElem?_eq_some_iff.1 hk).1
  have hql : (quoL total (sumL l) l).length = l.length := by simp [quoL]
  have hrl : (remL total (sumL l) l).length = l.length := by simp [remL]
  have hmt : (total - sumL (quoL total (sumL l) l)).toNat = m := by omega
  have hps : ∀ p ∈ (orderR (remL total (sumL l) l)).take m, 0 ≤ p ∧ p < (quoL total (sumL l) l).length := fun p hp => by have := orderR_mem.1 (List.mem_of_mem_take hp); omega
  have hnd : ((orderR (remL total (sumL l) l)).take m).Nodup := (orderR_nodup _).sublist (List.take_sublist _ _)
  have bi := bump_get hnd hps (i := i) (by omega)
  have bk := bump_get hnd hps (i := k) (by omega)
  have ei : (sharesL total (sumL l) l).getD i 0 = s := by rw [List.getD_eq_getElem?_getD, hs]; rfl
  have ek : (sharesL total (sumL l) l).getD k 0 = t := by rw [List.getD_eq_getElem?_getD, ht]; rfl
  unfold sharesL at ei ek
  rw [hmt] at ei ek
  have qi : (quoL total (sumL l) l).getD i 0 = (total * w).tdiv (sumL l) := by rw [List.getD_eq_getElem?_getD]; simp [quoL, hi]
  have qk : (quoL total (sumL l) l).getD k 0 = (total * v).tdiv (sumL l) := by rw [List.getD_eq_getElem?_getD]; simp [quoL, hk]
  have ri : (remL total (sumL l) l).getD i 0 = (total * w).tmod (sumL l) := by rw [List.getD_eq_getElem?_getD]; simp [remL, hi]
  have rk : (remL total (sumL l) l).getD k 0 = (total * v).tmod (sumL l) := by rw [List.getD_eq_getElem?_getD]; simp [remL, hk]
  obtain ⟨a1, a2, a3, a4⟩ := h.quo_rem (List.mem_of_getElem? hi)
  obtain ⟨b1, b2, b3, b4⟩ := h.quo_rem (List.mem_of_getElem? hk)
  have hle : total * v ≤ total * w := Int.mul_le_mul_of_nonneg_left (Int.le_of_lt hwv) h.t0
  have hqle : (total * v).tdiv (sumL l) ≤ (total * w).tdiv (sumL l) := by
    rcases Int.lt_or_le ((total * w).tdiv (sumL l)) ((total * v).tdiv (sumL l)) with hlt | hle'
    · have := Int.mul_le_mul_of_nonneg_right (show (total * w).tdiv (sumL l) + 1 ≤ (total * v).tdiv (sumL l) by omega) (Int.le_of_lt h.s0)
      rw [Int.add_mul] at this
      omega
    · exact hle'
  rw [bi, qi] at ei
  rw [bk, qk] at ek
  by_cases hkm : (k : Int) ∈ (orderR (remL total (sumL l) l)).take m
  · rw [if_pos hkm] at ek
    by_cases him : (i : Int) ∈ (orderR (remL total (sumL l) l)).take m
    · rw [if_pos him] at ei; omega
    · rw [if_neg him] at ei
      rcases Int.lt_or_le ((total * v).tdiv (sumL l)) ((total * w).tdiv (sumL l)) with hlt | hge
      · omega
      · exfalso
        have eq : (total * v).tdiv (sumL l) = (total * w).tdiv (sumL l) := by omega
        have hpos := served_pos h.s0 h.rem0 hrs hkm
        rw [Int.toNat_natCast, rk] at hpos
        have ht0 : 0 < total := by
          rcases Int.lt_or_le 0 total with h' | h'
          · exact h'
          · have : total = 0 := by have := h.t0; omega
            subst this
            simp at hpos
        have hlt : total * v < total * w := Int.mul_lt_mul_of_pos_left hwv ht0
        have hr : (total * v).tmod (sumL l) < (total * w).tmod (sumL l) := by rw [eq] at b4; omega
        have hio : (i : Int) ∈ (orderR (remL total (sumL l) l)).drop m := by
          have : (i : Int) ∈ orderR (remL total (sumL l) l) := orderR_mem.2 (by omega)
          rw [← List.take_append_drop m (orderR (remL total (sumL l) l)), List.mem_append] at this
          exact this.resolve_left him
        have hso := orderR_sorted (remL total (sumL l) l)
        rw [← List.take_append_drop m (orderR (remL total (sumL l) l)), List.pairwise_append] at hso
        have := hso.2.2 _ hkm _ hio
        rw [Int.toNat_natCast, Int.toNat_natCast, ri, rk] at this
        omega
  · rw [if_neg hkm] at ek
    have : 0 ≤ (if (i : Int) ∈ (orderR (remL total (sumL l) l)).take m then (1 : Int) else 0) := by split <;> omega
    omega

theorem Wts.shares_sum (h : Wts l total) : sumL (sharesL total (sumL l) l) = total := by
  obtain ⟨m, hm, hrs, hml⟩ := h.left
  have hql : (quoL total (sumL l) l).length = l.length := by simp [quoL]
  have hrl : (remL total (sumL l) l).length = l.length := by simp [remL]
  unfold sharesL
  rw [bump_sum (fun p hp => by have := orderR_mem.1 (List.mem_of_mem_take hp); omega), List.length_take, orderR_length, hrl]
  omega

end
end Go.Ev
