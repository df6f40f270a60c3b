/- Part of an evaluator of calls that is proved sound, and of what it gives about this program. No condition of its own. -/
import Derived.Test.YthdgnapkfbjjeaaGreatDoorEzKf
import Derived.Test.YthdgnapkfbjjeaaGreatDoorEySa
import Derived.Test.YthdgnapkfbjjeaaGreatDoorExPc
import Derived.Test.YthdgnapkfbjjeaaGreatDoorEwVb
import Derived.Test.YthdgnapkfbjjeaaGreatDoorEyUb
set_option linter.unusedVariables false
set_option linter.unusedSimpArgs false
set_option linter.unusedSectionVars false
set_option maxRecDepth 100000
set_option maxHeartbeats 4000000
set_option maxRecDepth 1000000
namespace Go.Ev
def Rch (f : Nat → Nat) (x y : Nat) : Prop := ∃ k, it f k x = y
section
variable {f g : Nat → Nat} {n : Nat}
theorem Rch.refl (f : Nat → Nat) (x : Nat) : Rch f x x := ⟨0, rfl⟩
theorem Rch.trans {x y z : Nat} (h : Rch f x y) (k : Rch f y z) : Rch f x z := by
 obtain ⟨i, rfl⟩ := h
 obtain ⟨j, rfl⟩ := k
 exact ⟨j + i, it_add f j i x⟩
theorem Rch.step {x y : Nat} (h : Rch f x y) : Rch f x (f y) := by
 obtain ⟨i, rfl⟩ := h
 exact ⟨i + 1, rfl⟩
theorem Pm.rch_lt (h : Pm f n) {x y : Nat} (hx : x < n) (k : Rch f x y) : y < n := by
 obtain ⟨i, rfl⟩ := k
 exact h.it_lt hx i
theorem Pm.rch_symm (h : Pm f n) {x y : Nat} (hx : x < n) (k : Rch f x y) : Rch f y x := by
 obtain ⟨i, rfl⟩ := k
 have hp := per_pos f n x
 have e := (h.per_spec hx).1
 have hr : ∀ q, it f (per f n x * q) x = x := fun q => by
   induction q with
   | zero => rfl
   | succ q ih => rw [Nat.mul_succ, it_add, e, ih]
 refine ⟨per f n x * (i + 1) - i, ?_⟩
 rw [← it_add]
 have : i ≤ per f n x * (i + 1) := Nat.le_trans (Nat.le_succ i) (Nat.le_mul_of_pos_left _ hp)
 rw [Nat.sub_add_cancel this]
 exact hr _
theorem Pm.rch_orb (h : Pm f n) {x y : Nat} (hx : x < n) : y ∈ orb f n x ↔ Rch f x y := (h.mem_orb hx).trans ⟨fun ⟨k, hk⟩ => ⟨k, hk.symm ▸ rfl⟩, fun ⟨k, hk⟩ => ⟨k, hk ▸ rfl⟩⟩
theorem Pm.sts_iff (h : Pm f n) {s : Nat} : s ∈ sts f n ↔ s < n ∧ ∀ t, t < s → ¬ Rch f t s := by
 unfold sts
 rw [List.mem_filter, List.mem_range]
 constructor
 · rintro ⟨h1, h2⟩
   refine ⟨h1, fun t ht hr => ?_⟩
   have h2 : vis f n s s = false := by simpa using h2
   rw [vis_iff.2 ⟨t, ht, (h.rch_orb (by omega)).2 hr⟩] at h2
   cases h2
 · rintro ⟨h1, h2⟩
   refine ⟨h1, ?_⟩
   cases hv : vis f n s s with
   | false => rfl
   | true =>
     obtain ⟨t, ht, hm⟩ := vis_iff.1 hv
     exact absurd ((h.rch_orb (by omega)).1 hm) (h2 t ht)
theorem sts_nodup : (sts f n).Nodup := by
 unfold sts
 exact (List.nodup_range).filter _
theorem least_of (P : Nat → Prop) : ∀ x, P x → ∃ y, P y ∧ ∀ z, z < y → ¬ P z := fun x => by
 induction x using Nat.strongRecOn with
 | ind x ih =>
   intro hx
   by_cases h : ∃ z, z < x ∧ P z
   · obtain ⟨z, hz, hp⟩ := h
     exact ih z hz hp
   · exact ⟨x, hx, fun z hz hp => h ⟨z, hz, hp⟩⟩
open Classical in
theorem Pm.one_sts (h : Pm f n) {a : Nat} (ha : a < n) : ((sts f n).filter fun x => decide (Rch f a x)).length = 1 := by
 obtain ⟨A, hA, hmin⟩ := least_of (fun x => Rch f a x) a (Rch.refl f a)
 have hAn := h.rch_lt ha hA
 have e : ∀ x, x ∈ (sts f n).filter (fun x => decide (Rch f a x)) ↔ x = A := fun x => by
   rw [List.mem_filter, decide_eq_true_eq, h.sts_iff]
   constructor
   · rintro ⟨⟨h1, h2⟩, h3⟩
     rcases Nat.lt_trichotomy x A with hl | he | hl
     · exact absurd h3 (hmin x hl)
     · exact he
     · exact absurd ((h.rch_symm ha hA).trans h3) (h2 A hl)
   · rintro rfl
     exact ⟨⟨hAn, fun t ht hr => hmin t ht (hA.trans (h.rch_symm (by omega) hr))⟩, hA⟩
 have hn : ((sts f n).filter fun x => decide (Rch f a x)).Nodup := sts_nodup.filter _
 have h1 := hn.length_le_of_subset (l₂ := [A]) (fun x hx => by rw [(e x).1 hx]; simp)
 have h2 := List.length_pos_of_mem ((e A).2 rfl)
 simp at h1
 omega
open Classical in
theorem Pm.two_sts (h : Pm f n) {a b : Nat} (ha : a < n) (hb : b < n) (hab : ¬ Rch f a b) : ((sts f n).filter fun x => decide (Rch f a x ∨ Rch f b x)).length = 2 := by
 have e : ∀ l : List Nat, (l.filter fun x => decide (Rch f a x ∨ Rch f b x)).length = (l.filter fun x => decide (Rch f a x)).length + (l.filter fun x => decide (Rch f b x)).length := fun l => by
   induction l with
   | nil => rfl
   | cons x l ih =>
     by_cases h1 : Rch f a x
     · have h2 : ¬ Rch f b x := fun h2 => hab (h1.trans (h.rch_symm hb h2))
       rw [List.filter_cons_of_pos (by simp [h1]), List.filter_cons_of_pos (by simp [h1]), List.filter_cons_of_neg (by simp [h2]), List.length_cons, List.length_cons, ih]
       omega
     · by_cases h2 : Rch f b x
       · rw [List.filter_cons_of_pos (by simp [h2]), List.filter_cons_of_neg (by simp [h1]), List.filter_cons_of_pos (by simp [h2]), List.length_cons, List.length_cons, ih]
         omega
       · rw [List.filter_cons_of_neg (by simp [h1, h2]), List.filter_cons_of_neg (by simp [h1]), List.filter_cons_of_neg (by simp [h2]), ih]
 rw [e, h.one_sts ha, h.one_sts hb]
def Swp (f g : Nat → Nat) (n a b : Nat) : Prop := ∀ x, x < n → g x = if f x = a then b else if f x = b then a else f x
theorem Swp.symm {a b : Nat} (h : Swp f g n a b) : Swp f g n b a := fun x hx => by
 rw [h x hx]
 by_cases h1 : f x = a <;> by_cases h2 : f x = b
 · rw [if_pos h1, if_pos h2, ← h1, ← h2]
 · rw [if_pos h1, if_neg h2, if_pos h1]
 · rw [if_neg h1, if_pos h2, if_pos h2]
 · rw [if_neg h1, if_neg h2, if_neg h2, if_neg h1]
theorem Swp.back {a b : Nat} (h : Swp f g n a b) : Swp g f n a b := fun x hx => by
 rw [h x hx]
 by_cases h1 : f x = a
 · rw [if_pos h1]
   by_cases hab : b = a
   · rw [if_pos hab, hab]; exact h1
   · rw [if_neg hab, if_pos rfl]; exact h1
 · by_cases h2 : f x = b
   · rw [if_neg h1, if_pos h2, if_pos rfl]; exact h2
   · rw [if_neg h1, if_neg h2, if_neg h1, if_neg h2]
theorem Swp.pm {a b : Nat} (h : Swp f g n a b) (hf : Pm f n) (ha : a < n) (hb : b < n) : Pm g n := by
 refine ⟨fun x hx => ?_, fun x y hx hy e => ?_⟩
 · rw [h x hx]
   have := hf.lt x hx
   split
   · exact hb
   · split
     · exact ha
     · exact this
 · have e1 := h.back x hx
   have e2 := h.back y hy
   rw [e] at e1
   exact hf.inj x y hx hy (e1.trans e2.symm)
theorem Swp.out {a b : Nat} (h : Swp f g n a b) (hf : Pm f n) (ha : a < n) (hab : Rch f a b) {x : Nat} (hx : x < n) (hn : ¬ Rch f a x) : ∀ k, it g k x = it f k x
 | 0 => rfl
 | k + 1 => by
   show g (it g k x) = f (it f k x)
   rw [h.out hf ha hab hx hn k]
   have hk := hf.it_lt hx k
   have hno : ∀ y, Rch f a y → f (it f k x) ≠ y := fun y hy e => hn (hy.trans (hf.rch_symm hx ⟨k + 1, e⟩))
   rw [h _ hk, if_neg (hno a (Rch.refl f a)), if_neg (hno b hab)]
theorem Swp.arc {a b j : Nat} (h : Swp f g n a b) (hf : Pm f n) (ha : a < n) (hj : it f j a = b) (hmin : ∀ i, i < j → it f i a ≠ b) : (∀ i, i < j → it g i a = it f i a) ∧ (0 < j → it g j a = a) := by
 have hna : ∀ i, 0 < i → i < j → it f i a ≠ a := fun i h1 h2 e => by
   refine hmin (j - i) (by omega) ?_
   have : it f (j - i) (it f i a) = b := by rw [← it_add, Nat.sub_add_cancel (by omega), hj]
   rwa [e] at this
 have h1 : ∀ i, i < j → it g i a = it f i a := fun i => by
   induction i with
   | zero => exact fun _ => rfl
   | succ i ih =>
     intro hi
     show g (it g i a) = f (it f i a)
     have e1 : ¬ f (it f i a) = a := hna (i + 1) (by omega) hi
     have e2 : ¬ f (it f i a) = b := hmin (i + 1) hi
     rw [ih (by omega), h _ (hf.it_lt ha i), if_neg e1, if_neg e2]
 refine ⟨h1, fun h0 => ?_⟩
 obtain ⟨i, rfl⟩ : ∃ i, j = i + 1 := ⟨j - 1, by omega⟩
 show g (it g i a) = a
 rw [h1 i (by omega), h _ (hf.it_lt ha i)]
 have hj : f (it f i a) = b := hj
 rw [hj]
 split
 · rename_i e; exact e
 · rw [if_pos rfl]
theorem least_to {a b : Nat} (h : Rch f a b) : ∃ j, it f j a = b ∧ ∀ i, i < j → it f i a ≠ b := by
 obtain ⟨k, hk⟩ := h
 exact least_of (fun j => it f j a = b) k hk
theorem Swp.split {a b : Nat} (h : Swp f g n a b) (hf : Pm f n) (ha : a < n) (hne : a ≠ b) (hab : Rch f a b) : ¬ Rch g a b := by
 rintro ⟨k, hk⟩
 obtain ⟨j, hj, hmin⟩ := least_to hab
 have h0 : 0 < j := Nat.pos_of_ne_zero fun e => hne (by rw [e] at hj; exact hj)
 obtain ⟨h1, h2⟩ := h.arc hf ha hj hmin
 have hr : ∀ q, it g (j * q) a = a := fun q => by
   induction q with
   | zero => rfl
   | succ q ih => rw [Nat.mul_succ, it_add, h2 h0, ih]
 have e : it g (k % j) a = b := by
   rw [← Nat.mod_add_div k j, it_add, hr] at hk
   exact hk
 have hl := Nat.mod_lt k h0
 rw [h1 _ hl] at e
 exact hmin _ hl e
theorem Swp.join {a b : Nat} (h : Swp f g n a b) (hf : Pm f n) (ha : a < n) (hb : b < n) (hab : ¬ Rch f a b) : Rch g a b := by
 have hp := per_pos f n a
 obtain ⟨e, _, hlt⟩ := hf.per_spec ha
 have h1 : ∀ i, i < per f n a → it g i a = it f i a := fun i => by
   induction i with
   | zero => exact fun _ => rfl
   | succ i ih =>
     intro hi
     show g (it g i a) = f (it f i a)
     have e1 : ¬ f (it f i a) = a := hlt (i + 1) (by omega) hi
     have e2 : ¬ f (it f i a) = b := fun e => hab ⟨i + 1, e⟩
     rw [ih (by omega), h _ (hf.it_lt ha i), if_neg e1, if_neg e2]
 obtain ⟨i, hi⟩ : ∃ i, per f n a = i + 1 := ⟨per f n a - 1, by omega⟩
 refine ⟨i + 1, ?_⟩
 show g (it g i a) = b
 rw [h1 i (by omega), h _ (hf.it_lt ha i)]
 rw [hi] at e
 have e : f (it f i a) = a := e
 rw [if_pos e]
theorem Swp.both {a b : Nat} (h : Swp f g n a b) (hf : Pm f n) (ha : a < n) (hb : b < n) (hab : Rch f a b) {x : Nat} : Rch f a x ↔ Rch g a x ∨ Rch g b x := by
 constructor
 · rintro ⟨k, rfl⟩
   induction k with
   | zero => exact .inl (Rch.refl g a)
   | succ k ih =>
     have hk := hf.it_lt ha k
     have e := h _ hk
     show Rch g a (f (it f k a)) ∨ Rch g b (f (it f k a))
     by_cases h1 : f (it f k a) = a
     · rw [h1]; exact .inl (Rch.refl g a)
     · by_cases h2 : f (it f k a) = b
       · rw [h2]; exact .inr (Rch.refl g b)
       · rw [if_neg h1, if_neg h2] at e
         rw [← e]
         rcases ih with ih | ih
         · exact .inl ih.step
         · exact .inr ih.step
 · have hg := h.pm hf ha hb
   have go : ∀ c, Rch f a c → c < n → ∀ k, Rch f a (it g k c) := fun c hc hcn k => by
     induction k with
     | zero => exact hc
     | succ k ih =>
       show Rch f a (g (it g k c))
       rw [h _ (hg.it_lt hcn k)]
       split
       · exact hab
       · split
         · exact Rch.refl f a
         · exact ih.step
   rintro (⟨k, rfl⟩ | ⟨k, rfl⟩)
   · exact go a (Rch.refl f a) ha k
   · exact go b hab hb k
theorem filter_split (l : List Nat) (p : Nat → Bool) : l.length = (l.filter p).length + (l.filter fun x => !p x).length := by
 induction l with
 | nil => rfl
 | cons x l ih =>
   cases hp : p x <;> simp [List.filter_cons, hp, ih] <;> omega
open Classical in
theorem Swp.more {a b : Nat} (h : Swp f g n a b) (hf : Pm f n) (ha : a < n) (hb : b < n) (hne : a ≠ b) (hab : Rch f a b) : (sts g n).length = (sts f n).length + 1 := by
 have hg := h.pm hf ha hb
 have hns := h.split hf ha hne hab
 have e1 := filter_split (sts f n) fun x => decide (Rch f a x)
 have e2 := filter_split (sts g n) fun x => decide (Rch f a x)
 rw [hf.one_sts ha] at e1
 have e3 : ((sts g n).filter fun x => decide (Rch f a x)) = (sts g n).filter fun x => decide (Rch g a x ∨ Rch g b x) := List.filter_congr fun x _ => by
   by_cases hx : Rch f a x
   · rw [decide_eq_true hx, decide_eq_true ((h.both hf ha hb hab).1 hx)]
   · rw [decide_eq_false hx, decide_eq_false (fun e => hx ((h.both hf ha hb hab).2 e))]
 rw [e3, hg.two_sts ha hb hns] at e2
 have e4 : ((sts f n).filter fun x => !decide (Rch f a x)) = (sts g n).filter fun x => !decide (Rch f a x) := by
   unfold sts
   rw [List.filter_filter, List.filter_filter]
   refine List.filter_congr fun x hx => ?_
   have hxn := List.mem_range.1 hx
   by_cases hr : Rch f a x
   · simp [hr]
   · have key : x ∈ sts f n ↔ x ∈ sts g n := by
       rw [hf.sts_iff, hg.sts_iff]
       refine and_congr Iff.rfl (forall_congr' fun t => forall_congr' fun ht => not_congr ?_)
       by_cases hrt : Rch f a t
       · refine ⟨fun hts => absurd (hrt.trans hts) hr, fun hts => ?_⟩
         have : Rch g a x ∨ Rch g b x := by
           rcases (h.both hf ha hb hab).1 hrt with h1 | h1
           · exact .inl (h1.trans hts)
           · exact .inr (h1.trans hts)
         exact absurd ((h.both hf ha hb hab).2 this) hr
       · have := h.out hf ha hab (x := t) (by omega) hrt
         exact ⟨fun ⟨k, hk⟩ => ⟨k, by rw [this]; exact hk⟩, fun ⟨k, hk⟩ => ⟨k, by rw [← this]; exact hk⟩⟩
     unfold sts at key
     rw [List.mem_filter, List.mem_filter, List.mem_range] at key
     simp only [hxn, true_and] at key
     cases h1 : (!vis f n x x) <;> cases h2 : (!vis g n x x) <;> simp_all
 rw [e4] at e1
 omega
theorem Swp.count {a b : Nat} (h : Swp f g n a b) (hf : Pm f n) (ha : a < n) (hb : b < n) (hne : a ≠ b) : (cycs g n n).length = (cycs f n n).length + 1 ∨ (cycs g n n).length + 1 = (cycs f n n).length := by
 rw [cycs_sts, cycs_sts, List.length_map, List.length_map]
 by_cases hab : Rch f a b
 · exact .inl (h.more hf ha hb hne hab)
 · exact .inr (h.back.more (h.pm hf ha hb) ha hb hne (h.join hf ha hb hab)).symm
theorem Pm.all_one (h : Pm f n) (hn : 0 < n) (hall : ∀ x, x < n → Rch f 0 x) : (cycs f n n).length = 1 := by
 classical
 rw [cycs_sts, List.length_map]
 have e : ((sts f n).filter fun x => decide (Rch f 0 x)) = sts f n := List.filter_eq_self.2 fun x hx => decide_eq_true (hall x (h.sts_iff.1 hx).1)
 rw [← e]
 exact h.one_sts hn
theorem Pm.all_two (h : Pm f n) {c : Nat} (hn : 0 < n) (hc : c < n) (hno : ¬ Rch f 0 c) (hall : ∀ x, x < n → Rch f 0 x ∨ Rch f c x) : (cycs f n n).length = 2 := by
 classical
 rw [cycs_sts, List.length_map]
 have e : ((sts f n).filter fun x => decide (Rch f 0 x ∨ Rch f c x)) = sts f n := List.filter_eq_self.2 fun x hx => decide_eq_true (hall x (h.sts_iff.1 hx).1)
 rw [← e]
 exact h.two_sts hn hc hno
theorem Pm.sum_eq (h : Pm f n) : ((cycs f n n).map List.length).sum = n := by
 have h1 := h.sum_le
 have h2 : n ≤ ((cycs f n n).map List.length).sum := by
   have hs : List.range n ⊆ (cycs f n n).flatten := fun x hx => by
     obtain ⟨o, ho, hxo⟩ := h.cycs_all (List.mem_range.1 hx)
     exact List.mem_flatten.2 ⟨o, ho, hxo⟩
   have := (List.nodup_range (n := n)).length_le_of_subset hs
   rw [List.length_range, List.length_flatten] at this
   exact this
 omega
end
end Go.Ev
namespace Go.Ev
open Go.Proofs
theorem pv_inj {n p q : Nat} (hp : p < n) (hq : q < n) (h : pvN n p = pvN n q) : p = q := by
 rw [← nx_pv hp, ← nx_pv hq, h]
theorem oZ_swap {c c' : Nat → Bool} {n p y : Nat} (hp : p < n) (hy : y < 4 * n) (h1 : c' p = !c p) (h2 : ∀ q, q < n → q ≠ p → c' q = c q) :
   oZ c' n n y = if oZ c n n y = 4 * p then 4 * pvN n p + 2 else if oZ c n n y = 4 * pvN n p + 2 then 4 * p else oZ c n n y := by
 have hd : y / 4 < n := by omega
 have hnx := nx_lt hd
 by_cases h0 : y % 4 = 0
 · have ey : y = 4 * (y / 4) := by omega
   have e1 : ∀ d : Nat → Bool, oZ d n n y = if d (y / 4) = true then 4 * pvN n (y / 4) + 2 else y := fun d => by
     unfold oZ
     rw [if_pos h0]
     simp [hd]
   rw [e1, e1]
   by_cases hq : y / 4 = p
   · rw [hq, h1]
     cases c p <;> simp only [Bool.not_true, Bool.not_false, if_true, Bool.false_eq_true, if_false] <;> (repeat' split) <;> omega
   · rw [h2 _ hd hq]
     have hn : pvN n (y / 4) ≠ pvN n p := fun e => hq (pv_inj hd hp e)
     cases c (y / 4) <;> simp only [Bool.not_true, Bool.not_false, if_true, Bool.false_eq_true, if_false] <;> (repeat' split) <;> omega
 · by_cases h3 : y % 4 = 2
   · have e1 : ∀ d : Nat → Bool, oZ d n n y = if d (nxG n (y / 4)) = true then 4 * nxG n (y / 4) else y := fun d => by
       unfold oZ
       rw [if_neg h0, if_pos h3]
       simp [hnx]
     rw [e1, e1]
     have epv := pv_nx hd
     by_cases hq : nxG n (y / 4) = p
     · rw [hq, h1]
       rw [hq] at epv
       cases c p <;> simp only [Bool.not_true, Bool.not_false, if_true, Bool.false_eq_true, if_false] <;> (repeat' split) <;> omega
     · rw [h2 _ hnx hq]
       have hn : y / 4 ≠ pvN n p := fun e => hq (by rw [e, nx_pv hp])
       cases c (nxG n (y / 4)) <;> simp only [Bool.not_true, Bool.not_false, if_true, Bool.false_eq_true, if_false] <;> (repeat' split) <;> omega
   · have e1 : ∀ d : Nat → Bool, oZ d n n y = y := fun d => by
       unfold oZ
       rw [if_neg h0, if_neg h3]
     rw [e1, e1, if_neg (by omega), if_neg (by omega)]
theorem tZ_same {m m' : Mc} (ht : m'.t = m.t) (z : Nat) : tZ m' z = tZ m z := by
 unfold tZ dirE fwE
 rw [ht]
theorem swap_of {m m' : Mc} {n p : Nat} (hg : m.g = n) (hg' : m'.g = n) (hr : m'.ring = m.ring) (ht : m'.t = m.t) (hp1 : 1 ≤ p) (hp : p < n) (h1 : (p : Int) ∈ m'.sw ↔ ¬ (p : Int) ∈ m.sw) (h2 : ∀ q : Nat, q < n → q ≠ p → ((q : Int) ∈ m'.sw ↔ (q : Int) ∈ m.sw)) :
   Swp (fOf (permL m n)) (fOf (permL m' n)) (4 * n) (4 * p) (4 * pvN n p + 2) := fun x hx => by
 rw [permL_fOf hg hx, permL_fOf hg' hx]
 unfold pZ
 rw [tZ_same ht]
 have hfs : fsE m' = fsE m := by unfold fsE; rw [hr]
 have hle : fsE m ≤ p := by unfold fsE; split <;> omega
 refine oZ_swap hp (tZ_lt hx) ?_ fun q hq hne => ?_
 · unfold crB
   rw [hfs]
   by_cases hm : (p : Int) ∈ m.sw
   · have hm' : ¬ (p : Int) ∈ m'.sw := fun e => h1.1 e hm
     simp [hm, hm', hle]
   · have hm' := h1.2 hm
     simp [hm, hm', hle]
 · unfold crB
   rw [hfs]
   have := h2 q hq hne
   by_cases hm : (q : Int) ∈ m.sw
   · simp [hm, this.2 hm]
   · have hm' : ¬ (q : Int) ∈ m'.sw := fun e => hm (this.1 e)
     simp [hm, hm']
theorem paths_toggle {m m' : Mc} {n p : Nat} (hg : m.g = n) (hg' : m'.g = n) (hr : m'.ring = m.ring) (ht : m'.t = m.t) (hp1 : 1 ≤ p) (hp : p < n) (h1 : (p : Int) ∈ m'.sw ↔ ¬ (p : Int) ∈ m.sw) (h2 : ∀ q : Nat, q < n → q ≠ p → ((q : Int) ∈ m'.sw ↔ (q : Int) ∈ m.sw)) :
   (cycs (fOf (permL m' n)) (4 * n) (4 * n)).length = (cycs (fOf (permL m n)) (4 * n) (4 * n)).length + 1 ∨ (cycs (fOf (permL m' n)) (4 * n) (4 * n)).length + 1 = (cycs (fOf (permL m n)) (4 * n) (4 * n)).length := by
 have hpm : Pm (fOf (permL m n)) (4 * n) := by have := (permL_okP hg).pm; rw [permL_len hg] at this; exact this
 have hpv := pv_lt hp
 exact (swap_of hg hg' hr ht hp1 hp h1 h2).count hpm (by omega) (by omega) (by omega)
theorem perm_moves {m : Mc} {n z : Nat} (hg : m.g = n) (h : mE m = 0) (hz : z < 4 * n) : fOf (permL m n) z ≠ z := fun e => by
 have h4 := per_four hg h hz
 have hpm : Pm (fOf (permL m n)) (4 * n) := by have := (permL_okP hg).pm; rw [permL_len hg] at this; exact this
 have hp := per_pos (fOf (permL m n)) (4 * n) z
 have := (hpm.per_spec hz).2.2 1 (by omega) (by obtain ⟨k, hk⟩ := h4; omega)
 exact this e
def wk (P : List Int) : Nat → Nat → List Nat
 | 0, _ => []
 | k + 1, x => x :: wk P k (P.getD x 0).toNat
theorem wk_rch {P : List Int} : ∀ {k x y : Nat}, y ∈ wk P k x → Rch (fOf P) x y
 | 0, _, _, h => by simp [wk] at h
 | k + 1, x, y, h => by
   rcases List.mem_cons.1 h with rfl | h
   · exact Rch.refl _ _
   · exact (Rch.step (f := fOf P) (Rch.refl (fOf P) x)).trans (wk_rch h)
theorem wk_get {P : List Int} : ∀ {k i x : Nat}, i < k → (wk P k x)[i]? = some (it (fOf P) i x)
 | 0, _, _, h => by omega
 | k + 1, 0, x, _ => rfl
 | k + 1, i + 1, x, h => by
   show (wk P k (fOf P x))[i]? = _
   rw [wk_get (by omega)]
   show some (it (fOf P) i (it (fOf P) 1 x)) = _
   rw [← it_add]
theorem wk_all {P : List Int} {r x y : Nat} (hr : 0 < r) (hc : it (fOf P) r x = x) (h : Rch (fOf P) x y) : y ∈ wk P r x := by
 obtain ⟨k, rfl⟩ := h
 have hq : ∀ q, it (fOf P) (r * q) x = x := fun q => by
   induction q with
   | zero => rfl
   | succ q ih => rw [Nat.mul_succ, it_add, hc, ih]
 have hl := Nat.mod_lt k hr
 have e : it (fOf P) k x = it (fOf P) (k % r) x := by
   conv => lhs; rw [← Nat.mod_add_div k r, it_add, hq]
 rw [e]
 exact List.mem_of_getElem? (wk_get hl)
def rowB (P : List Int) (n : Nat) : Bool := (List.range (4 * n)).all fun y => (wk P (4 * n) 0).contains y
def ringB (P : List Int) (n c : Nat) : Bool := ((List.range (4 * n)).all fun y => (wk P (2 * n) 0).contains y || (wk P (2 * n) c).contains y) && !(wk P (2 * n) 0).contains c && (match (wk P (2 * n + 1) 0)[2 * n]? with | some y => Nat.beq y 0 | none => false)
def ringC (t : Int) : Nat := if t = 1 then 2 else 1
theorem rows_ok : ((List.range 17).all fun n => [1, -1].all fun t => rowB (permL ⟨false, n, t, []⟩ n) n) = true := by decide +kernel
theorem rings_ok : ((List.range 17).all fun n => Nat.beq n 0 || Nat.beq (n % 2) 1 || [1, -1].all fun t => ringB (permL ⟨true, n, t, []⟩ n) n (ringC t)) = true := by decide +kernel
theorem mE_t {m : Mc} (h : mE m = 0) : m.t = 1 ∨ m.t = -1 := by
 unfold mE at h
 split at h
 · cases h
 split at h
 · cases h
 split at h
 · cases h
 · rename_i h3
   by_cases h1 : m.t = 1
   · exact .inl h1
   · by_cases h2 : m.t = -1
     · exact .inr h2
     · exact absurd ⟨h1, h2⟩ h3
theorem row_one {m : Mc} {n : Nat} (hg : m.g = n) (hn1 : 1 ≤ n) (hn : n ≤ 16) (h : mE m = 0) (hs : m.sw = []) (hr : m.ring = false) : (cycs (fOf (permL m n)) (4 * n) (4 * n)).length = 1 := by
 obtain ⟨ring, g, t, sw⟩ := m
 simp only at hg hs hr
 subst hg hs hr
 have ht := mE_t h
 simp only at ht
 have hpm : Pm (fOf (permL ⟨false, n, t, []⟩ n)) (4 * n) := by have := (permL_okP (m := ⟨false, n, t, []⟩) (n := n) rfl).pm; rw [permL_len rfl] at this; exact this
 have h1 := List.all_eq_true.1 rows_ok n (List.mem_range.2 (by omega))
 have h2 := List.all_eq_true.1 h1 t (by rcases ht with rfl | rfl <;> simp)
 exact hpm.all_one (by omega) fun x hx => wk_rch (List.contains_iff_mem.1 (List.all_eq_true.1 h2 x (List.mem_range.2 hx)))
theorem ring_two {m : Mc} {n : Nat} (hg : m.g = n) (hn1 : 1 ≤ n) (hn : n ≤ 16) (hev : n % 2 = 0) (h : mE m = 0) (hs : m.sw = []) (hr : m.ring = true) : (cycs (fOf (permL m n)) (4 * n) (4 * n)).length = 2 := by
 obtain ⟨ring, g, t, sw⟩ := m
 simp only at hg hs hr
 subst hg hs hr
 have ht := mE_t h
 simp only at ht
 have hpm : Pm (fOf (permL ⟨true, n, t, []⟩ n)) (4 * n) := by have := (permL_okP (m := ⟨true, n, t, []⟩) (n := n) rfl).pm; rw [permL_len rfl] at this; exact this
 have h1 := List.all_eq_true.1 rings_ok n (List.mem_range.2 (by omega))
 have e0 : Nat.beq n 0 = false := by cases e : Nat.beq n 0 with
   | false => rfl
   | true => have := Nat.eq_of_beq_eq_true e; omega
 have e1 : Nat.beq (n % 2) 1 = false := by cases e : Nat.beq (n % 2) 1 with
   | false => rfl
   | true => have := Nat.eq_of_beq_eq_true e; omega
 rw [e0, e1, Bool.false_or, Bool.false_or] at h1
 have h2 := List.all_eq_true.1 h1 t (by rcases ht with rfl | rfl <;> simp)
 unfold ringB at h2
 simp only [Bool.and_eq_true] at h2
 obtain ⟨⟨h3, h4⟩, h5⟩ := h2
 rw [wk_get (by omega)] at h5
 have h5 : it (fOf (permL ⟨true, n, t, []⟩ n)) (2 * n) 0 = 0 := Nat.eq_of_beq_eq_true h5
 refine hpm.all_two (c := ringC t) (by omega) (by unfold ringC; split <;> omega) (fun e => ?_) fun x hx => ?_
 · have := wk_all (show 0 < 2 * n by omega) h5 e
   rw [List.contains_iff_mem.2 this] at h4
   cases h4
 · have h6 := List.all_eq_true.1 h3 x (List.mem_range.2 hx)
   simp only [Bool.or_eq_true] at h6
   rcases h6 with h6 | h6
   · exact .inl (wk_rch (List.contains_iff_mem.1 h6))
   · exact .inr (wk_rch (List.contains_iff_mem.1 h6))
end Go.Ev
namespace Go.Ev
open Go.Proofs
def mIW (q : Nat) : Memo := ⟨64, 0, [txt q], [], [], .v (.bool true), 0, []⟩
theorem jDV_4_4 : OkP (mDV 4 4) := mo
theorem jDV_8_8 : OkP (mDV 8 8) := mo
theorem jDV_12_12 : OkP (mDV 12 12) := mo
theorem jDV_16_8 : OkP (mDV 16 8) := mo
theorem jDV_20_4 : OkP (mDV 20 4) := mo
theorem jDV_24_4 : OkP (mDV 24 4) := mo
theorem jDV_24_12 : OkP (mDV 24 12) := mo
theorem jDV_28_4 : OkP (mDV 28 4) := mo
theorem jDV_32_4 : OkP (mDV 32 4) := mo
theorem jDV_32_16 : OkP (mDV 32 16) := mo
theorem jDV_36_4 : OkP (mDV 36 4) := mo
theorem jDV_36_36 : OkP (mDV 36 36) := mo
theorem jDV_40_8 : OkP (mDV 40 8) := mo
theorem jDV_40_40 : OkP (mDV 40 40) := mo
theorem jDV_44_44 : OkP (mDV 44 44) := mo
theorem jDV_48_8 : OkP (mDV 48 8) := mo
theorem jDV_48_16 : OkP (mDV 48 16) := mo
theorem jDV_48_48 : OkP (mDV 48 48) := mo
theorem jDV_52_52 : OkP (mDV 52 52) := mo
theorem jDV_56_8 : OkP (mDV 56 8) := mo
theorem jDV_56_56 : OkP (mDV 56 56) := mo
theorem jDV_60_12 : OkP (mDV 60 12) := mo
theorem jDV_60_60 : OkP (mDV 60 60) := mo
theorem jDV_64_8 : OkP (mDV 64 8) := mo
theorem jDV_64_32 : OkP (mDV 64 32) := mo
theorem jDV_72_4 : OkP (mDV 72 4) := mo
theorem jDV_72_12 : OkP (mDV 72 12) := mo
theorem jDV_72_36 : OkP (mDV 72 36) := mo
theorem jDV_80_8 : OkP (mDV 80 8) := mo
theorem jDV_80_20 : OkP (mDV 80 20) := mo
theorem jDV_84_4 : OkP (mDV 84 4) := mo
theorem jDV_84_28 : OkP (mDV 84 28) := mo
theorem jDV_88_8 : OkP (mDV 88 8) := mo
theorem jDV_96_4 : OkP (mDV 96 4) := mo
theorem jDV_96_12 : OkP (mDV 96 12) := mo
theorem jDV_96_24 : OkP (mDV 96 24) := mo
theorem jDV_96_48 : OkP (mDV 96 48) := mo
theorem jDV_104_8 : OkP (mDV 104 8) := mo
theorem jDV_112_4 : OkP (mDV 112 4) := mo
theorem jDV_112_16 : OkP (mDV 112 16) := mo
theorem jDV_112_56 : OkP (mDV 112 56) := mo
theorem jDV_120_8 : OkP (mDV 120 8) := mo
theorem jDV_120_20 : OkP (mDV 120 20) := mo
theorem jDV_120_40 : OkP (mDV 120 40) := mo
theorem jDV_132_4 : OkP (mDV 132 4) := mo
theorem jDV_132_44 : OkP (mDV 132 44) := mo
theorem jDV_140_20 : OkP (mDV 140 20) := mo
theorem jDV_144_4 : OkP (mDV 144 4) := mo
theorem jDV_144_12 : OkP (mDV 144 12) := mo
theorem jDV_144_24 : OkP (mDV 144 24) := mo
theorem jDV_144_48 : OkP (mDV 144 48) := mo
theorem jDV_156_12 : OkP (mDV 156 12) := mo
theorem jDV_160_4 : OkP (mDV 160 4) := mo
theorem jDV_160_16 : OkP (mDV 160 16) := mo
theorem jDV_160_32 : OkP (mDV 160 32) := mo
theorem jDV_168_4 : OkP (mDV 168 4) := mo
theorem jDV_168_12 : OkP (mDV 168 12) := mo
theorem jDV_168_28 : OkP (mDV 168 28) := mo
theorem jDV_176_4 : OkP (mDV 176 4) := mo
theorem jDV_176_16 : OkP (mDV 176 16) := mo
theorem jDV_180_4 : OkP (mDV 180 4) := mo
theorem jDV_180_20 : OkP (mDV 180 20) := mo
theorem jDV_180_60 : OkP (mDV 180 60) := mo
theorem jDV_220_20 : OkP (mDV 220 20) := mo
theorem jDV_224_4 : OkP (mDV 224 4) := mo
theorem jDV_224_16 : OkP (mDV 224 16) := mo
theorem jDV_224_32 : OkP (mDV 224 32) := mo
theorem jDV_240_4 : OkP (mDV 240 4) := mo
theorem jDV_240_12 : OkP (mDV 240 12) := mo
theorem jDV_240_20 : OkP (mDV 240 20) := mo
theorem jDV_240_40 : OkP (mDV 240 40) := mo
theorem jDV_240_60 : OkP (mDV 240 60) := mo
theorem jDV_252_12 : OkP (mDV 252 12) := mo
theorem jDV_252_36 : OkP (mDV 252 36) := mo
theorem jDV_264_8 : OkP (mDV 264 8) := mo
theorem jDV_264_24 : OkP (mDV 264 24) := mo
theorem jDV_280_4 : OkP (mDV 280 4) := mo
theorem jDV_280_20 : OkP (mDV 280 20) := mo
theorem jDV_280_40 : OkP (mDV 280 40) := mo
theorem jDV_336_4 : OkP (mDV 336 4) := mo
theorem jDV_336_12 : OkP (mDV 336 12) := mo
theorem jDV_336_24 : OkP (mDV 336 24) := mo
theorem jDV_336_48 : OkP (mDV 336 48) := mo
theorem jDV_360_4 : OkP (mDV 360 4) := mo
theorem jDV_360_12 : OkP (mDV 360 12) := mo
theorem jDV_360_24 : OkP (mDV 360 24) := mo
theorem jDV_360_40 : OkP (mDV 360 40) := mo
theorem jDV_420_4 : OkP (mDV 420 4) := mo
theorem jDV_420_20 : OkP (mDV 420 20) := mo
theorem jDV_420_60 : OkP (mDV 420 60) := mo
theorem jDV_480_8 : OkP (mDV 480 8) := mo
theorem jDV_480_16 : OkP (mDV 480 16) := mo
theorem jDV_480_24 : OkP (mDV 480 24) := mo
theorem jDV_480_40 : OkP (mDV 480 40) := mo
theorem jDV_480_60 : OkP (mDV 480 60) := mo
theorem jDV_560_8 : OkP (mDV 560 8) := mo
theorem jDV_560_20 : OkP (mDV 560 20) := mo
theorem jDV_560_40 : OkP (mDV 560 40) := mo
theorem jIW1 : OkP (mIW 1) := mo
theorem jIW2 : OkP (mIW 2) := mo
theorem jIW3 : OkP (mIW 3) := mo
theorem jIW4 : OkP (mIW 4) := mo
theorem jIW5 : OkP (mIW 5) := mo
theorem jIW6 : OkP (mIW 6) := mo
theorem jIW7 : OkP (mIW 7) := mo
theorem jIW8 : OkP (mIW 8) := mo
theorem jIW9 : OkP (mIW 9) := mo
theorem jIW10 : OkP (mIW 10) := mo
theorem jIW11 : OkP (mIW 11) := mo
theorem jIW12 : OkP (mIW 12) := mo
theorem jIW13 : OkP (mIW 13) := mo
theorem jIW14 : OkP (mIW 14) := mo
theorem jIW15 : OkP (mIW 15) := mo
theorem jIW16 : OkP (mIW 16) := mo
theorem jIW18 : OkP (mIW 18) := mo
theorem jIW20 : OkP (mIW 20) := mo
theorem jIW21 : OkP (mIW 21) := mo
theorem jIW22 : OkP (mIW 22) := mo
theorem jIW24 : OkP (mIW 24) := mo
theorem jIW26 : OkP (mIW 26) := mo
theorem jIW28 : OkP (mIW 28) := mo
theorem jIW30 : OkP (mIW 30) := mo
theorem jIW33 : OkP (mIW 33) := mo
theorem jIW35 : OkP (mIW 35) := mo
theorem jIW36 : OkP (mIW 36) := mo
theorem jIW39 : OkP (mIW 39) := mo
theorem jIW40 : OkP (mIW 40) := mo
theorem jIW42 : OkP (mIW 42) := mo
theorem jIW44 : OkP (mIW 44) := mo
theorem jIW45 : OkP (mIW 45) := mo
theorem jIW55 : OkP (mIW 55) := mo
theorem jIW56 : OkP (mIW 56) := mo
theorem jIW60 : OkP (mIW 60) := mo
theorem jIW63 : OkP (mIW 63) := mo
theorem jIW66 : OkP (mIW 66) := mo
theorem jIW70 : OkP (mIW 70) := mo
theorem jIW84 : OkP (mIW 84) := mo
theorem jIW90 : OkP (mIW 90) := mo
theorem jIW105 : OkP (mIW 105) := mo
theorem jIW120 : OkP (mIW 120) := mo
theorem jIW140 : OkP (mIW 140) := mo
end Go.Ev
namespace Go.Ev
open Go.Proofs
theorem jDV_8_4 : OkP (mDV 8 4) := mo
theorem jDV_12_4 : OkP (mDV 12 4) := mo
theorem jDV_16_4 : OkP (mDV 16 4) := mo
theorem jDV_16_16 : OkP (mDV 16 16) := mo
theorem jDV_20_20 : OkP (mDV 20 20) := mo
theorem jDV_24_8 : OkP (mDV 24 8) := mo
theorem jDV_24_24 : OkP (mDV 24 24) := mo
theorem jDV_28_28 : OkP (mDV 28 28) := mo
theorem jDV_32_8 : OkP (mDV 32 8) := mo
theorem jDV_32_32 : OkP (mDV 32 32) := mo
theorem jDV_36_12 : OkP (mDV 36 12) := mo
theorem jDV_40_4 : OkP (mDV 40 4) := mo
theorem jDV_40_20 : OkP (mDV 40 20) := mo
theorem jDV_44_4 : OkP (mDV 44 4) := mo
theorem jDV_48_4 : OkP (mDV 48 4) := mo
theorem jDV_48_12 : OkP (mDV 48 12) := mo
theorem jDV_48_24 : OkP (mDV 48 24) := mo
theorem jDV_52_4 : OkP (mDV 52 4) := mo
theorem jDV_56_4 : OkP (mDV 56 4) := mo
theorem jDV_56_28 : OkP (mDV 56 28) := mo
theorem jDV_60_4 : OkP (mDV 60 4) := mo
theorem jDV_60_20 : OkP (mDV 60 20) := mo
theorem jDV_64_4 : OkP (mDV 64 4) := mo
theorem jDV_64_16 : OkP (mDV 64 16) := mo
theorem jDV_64_64 : OkP (mDV 64 64) := mo
theorem jDV_72_8 : OkP (mDV 72 8) := mo
theorem jDV_72_24 : OkP (mDV 72 24) := mo
theorem jDV_80_4 : OkP (mDV 80 4) := mo
theorem jDV_80_16 : OkP (mDV 80 16) := mo
theorem jDV_80_40 : OkP (mDV 80 40) := mo
theorem jDV_84_12 : OkP (mDV 84 12) := mo
theorem jDV_88_4 : OkP (mDV 88 4) := mo
theorem jDV_88_44 : OkP (mDV 88 44) := mo
theorem jDV_96_8 : OkP (mDV 96 8) := mo
theorem jDV_96_16 : OkP (mDV 96 16) := mo
theorem jDV_96_32 : OkP (mDV 96 32) := mo
theorem jDV_104_4 : OkP (mDV 104 4) := mo
theorem jDV_104_52 : OkP (mDV 104 52) := mo
theorem jDV_112_8 : OkP (mDV 112 8) := mo
theorem jDV_112_28 : OkP (mDV 112 28) := mo
theorem jDV_120_4 : OkP (mDV 120 4) := mo
theorem jDV_120_12 : OkP (mDV 120 12) := mo
theorem jDV_120_24 : OkP (mDV 120 24) := mo
theorem jDV_120_60 : OkP (mDV 120 60) := mo
theorem jDV_132_12 : OkP (mDV 132 12) := mo
theorem jDV_140_4 : OkP (mDV 140 4) := mo
theorem jDV_140_28 : OkP (mDV 140 28) := mo
theorem jDV_144_8 : OkP (mDV 144 8) := mo
theorem jDV_144_16 : OkP (mDV 144 16) := mo
theorem jDV_144_36 : OkP (mDV 144 36) := mo
theorem jDV_156_4 : OkP (mDV 156 4) := mo
theorem jDV_156_52 : OkP (mDV 156 52) := mo
theorem jDV_160_8 : OkP (mDV 160 8) := mo
theorem jDV_160_20 : OkP (mDV 160 20) := mo
theorem jDV_160_40 : OkP (mDV 160 40) := mo
theorem jDV_168_8 : OkP (mDV 168 8) := mo
theorem jDV_168_24 : OkP (mDV 168 24) := mo
theorem jDV_168_56 : OkP (mDV 168 56) := mo
theorem jDV_176_8 : OkP (mDV 176 8) := mo
theorem jDV_176_44 : OkP (mDV 176 44) := mo
theorem jDV_180_12 : OkP (mDV 180 12) := mo
theorem jDV_180_36 : OkP (mDV 180 36) := mo
theorem jDV_220_4 : OkP (mDV 220 4) := mo
theorem jDV_220_44 : OkP (mDV 220 44) := mo
theorem jDV_224_8 : OkP (mDV 224 8) := mo
theorem jDV_224_28 : OkP (mDV 224 28) := mo
theorem jDV_224_56 : OkP (mDV 224 56) := mo
theorem jDV_240_8 : OkP (mDV 240 8) := mo
theorem jDV_240_16 : OkP (mDV 240 16) := mo
theorem jDV_240_24 : OkP (mDV 240 24) := mo
theorem jDV_240_48 : OkP (mDV 240 48) := mo
theorem jDV_252_4 : OkP (mDV 252 4) := mo
theorem jDV_252_28 : OkP (mDV 252 28) := mo
theorem jDV_264_4 : OkP (mDV 264 4) := mo
theorem jDV_264_12 : OkP (mDV 264 12) := mo
theorem jDV_264_44 : OkP (mDV 264 44) := mo
theorem jDV_280_8 : OkP (mDV 280 8) := mo
theorem jDV_280_28 : OkP (mDV 280 28) := mo
theorem jDV_280_56 : OkP (mDV 280 56) := mo
theorem jDV_336_8 : OkP (mDV 336 8) := mo
theorem jDV_336_16 : OkP (mDV 336 16) := mo
theorem jDV_336_28 : OkP (mDV 336 28) := mo
theorem jDV_336_56 : OkP (mDV 336 56) := mo
theorem jDV_360_8 : OkP (mDV 360 8) := mo
theorem jDV_360_20 : OkP (mDV 360 20) := mo
theorem jDV_360_36 : OkP (mDV 360 36) := mo
theorem jDV_360_60 : OkP (mDV 360 60) := mo
theorem jDV_420_12 : OkP (mDV 420 12) := mo
theorem jDV_420_28 : OkP (mDV 420 28) := mo
theorem jDV_480_4 : OkP (mDV 480 4) := mo
theorem jDV_480_12 : OkP (mDV 480 12) := mo
theorem jDV_480_20 : OkP (mDV 480 20) := mo
theorem jDV_480_32 : OkP (mDV 480 32) := mo
theorem jDV_480_48 : OkP (mDV 480 48) := mo
theorem jDV_560_4 : OkP (mDV 560 4) := mo
theorem jDV_560_16 : OkP (mDV 560 16) := mo
theorem jDV_560_28 : OkP (mDV 560 28) := mo
theorem jDV_560_56 : OkP (mDV 560 56) := mo
end Go.Ev
namespace Go.Ev
open Go.Proofs
def divL : List (Nat × Nat) := [(4, 4), (8, 4), (8, 8), (12, 4), (12, 12), (16, 4), (16, 8), (16, 16), (20, 4), (20, 20), (24, 4), (24, 8), (24, 12), (24, 24), (28, 4), (28, 28), (32, 4), (32, 8), (32, 16), (32, 32), (36, 4), (36, 12), (36, 36), (40, 4), (40, 8), (40, 20), (40, 40), (44, 4), (44, 44), (48, 4), (48, 8), (48, 12), (48, 16), (48, 24), (48, 48), (52, 4), (52, 52), (56, 4), (56, 8), (56, 28), (56, 56), (60, 4), (60, 12), (60, 20), (60, 60), (64, 4), (64, 8), (64, 16), (64, 32), (64, 64), (72, 4), (72, 8), (72, 12), (72, 24), (72, 36), (80, 4), (80, 8), (80, 16), (80, 20), (80, 40), (84, 4), (84, 12), (84, 28), (88, 4), (88, 8), (88, 44), (96, 4), (96, 8), (96, 12), (96, 16), (96, 24), (96, 32), (96, 48), (104, 4), (104, 8), (104, 52), (112, 4), (112, 8), (112, 16), (112, 28), (112, 56), (120, 4), (120, 8), (120, 12), (120, 20), (120, 24), (120, 40), (120, 60), (132, 4), (132, 12), (132, 44), (140, 4), (140, 20), (140, 28), (144, 4), (144, 8), (144, 12), (144, 16), (144, 24), (144, 36), (144, 48), (156, 4), (156, 12), (156, 52), (160, 4), (160, 8), (160, 16), (160, 20), (160, 32), (160, 40), (168, 4), (168, 8), (168, 12), (168, 24), (168, 28), (168, 56), (176, 4), (176, 8), (176, 16), (176, 44), (180, 4), (180, 12), (180, 20), (180, 36), (180, 60), (220, 4), (220, 20), (220, 44), (224, 4), (224, 8), (224, 16), (224, 28), (224, 32), (224, 56), (240, 4), (240, 8), (240, 12), (240, 16), (240, 20), (240, 24), (240, 40), (240, 48), (240, 60), (252, 4), (252, 12), (252, 28), (252, 36), (264, 4), (264, 8), (264, 12), (264, 24), (264, 44), (280, 4), (280, 8), (280, 20), (280, 28), (280, 40), (280, 56), (336, 4), (336, 8), (336, 12), (336, 16), (336, 24), (336, 28), (336, 48), (336, 56), (360, 4), (360, 8), (360, 12), (360, 20), (360, 24), (360, 36), (360, 40), (360, 60), (420, 4), (420, 12), (420, 20), (420, 28), (420, 60), (480, 4), (480, 8), (480, 12), (480, 16), (480, 20), (480, 24), (480, 32), (480, 40), (480, 48), (480, 60), (560, 4), (560, 8), (560, 16), (560, 20), (560, 28), (560, 40), (560, 56)]
def quoL : List Nat := [1, 2, 3, 4, 5, 6, 7, 8, 9, 10, 11, 12, 13, 14, 15, 16, 18, 20, 21, 22, 24, 26, 28, 30, 33, 35, 36, 39, 40, 42, 44, 45, 55, 56, 60, 63, 66, 70, 84, 90, 105, 120, 140]
theorem jDV : ∀ p ∈ divL, (mDV p.1 p.2).Ok Tryz.prog noGl := AllP.mem (show AllP _ divL from ⟨jDV_4_4, jDV_8_4, jDV_8_8, jDV_12_4, jDV_12_12, jDV_16_4, jDV_16_8, jDV_16_16, jDV_20_4, jDV_20_20, jDV_24_4, jDV_24_8, jDV_24_12, jDV_24_24, jDV_28_4, jDV_28_28, jDV_32_4, jDV_32_8, jDV_32_16, jDV_32_32, jDV_36_4, jDV_36_12, jDV_36_36, jDV_40_4, jDV_40_8, jDV_40_20, jDV_40_40, jDV_44_4, jDV_44_44, jDV_48_4, jDV_48_8, jDV_48_12, jDV_48_16, jDV_48_24, jDV_48_48, jDV_52_4, jDV_52_52, jDV_56_4, jDV_56_8, jDV_56_28, jDV_56_56, jDV_60_4, jDV_60_12, jDV_60_20, jDV_60_60, jDV_64_4, jDV_64_8, jDV_64_16, jDV_64_32, jDV_64_64, jDV_72_4, jDV_72_8, jDV_72_12, jDV_72_24, jDV_72_36, jDV_80_4, jDV_80_8, jDV_80_16, jDV_80_20, jDV_80_40, jDV_84_4, jDV_84_12, jDV_84_28, jDV_88_4, jDV_88_8, jDV_88_44, jDV_96_4, jDV_96_8, jDV_96_12, jDV_96_16, jDV_96_24, jDV_96_32, jDV_96_48, jDV_104_4, jDV_104_8, jDV_104_52, jDV_112_4, jDV_112_8, jDV_112_16, jDV_112_28, jDV_112_56, jDV_120_4, jDV_120_8, jDV_120_12, jDV_120_20, jDV_120_24, jDV_120_40, jDV_120_60, jDV_132_4, jDV_132_12, jDV_132_44, jDV_140_4, jDV_140_20, jDV_140_28, jDV_144_4, jDV_144_8, jDV_144_12, jDV_144_16, jDV_144_24, jDV_144_36, jDV_144_48, jDV_156_4, jDV_156_12, jDV_156_52, jDV_160_4, jDV_160_8, jDV_160_16, jDV_160_20, jDV_160_32, jDV_160_40, jDV_168_4, jDV_168_8, jDV_168_12, jDV_168_24, jDV_168_28, jDV_168_56, jDV_176_4, jDV_176_8, jDV_176_16, jDV_176_44, jDV_180_4, jDV_180_12, jDV_180_20, jDV_180_36, jDV_180_60, jDV_220_4, jDV_220_20, jDV_220_44, jDV_224_4, jDV_224_8, jDV_224_16, jDV_224_28, jDV_224_32, jDV_224_56, jDV_240_4, jDV_240_8, jDV_240_12, jDV_240_16, jDV_240_20, jDV_240_24, jDV_240_40, jDV_240_48, jDV_240_60, jDV_252_4, jDV_252_12, jDV_252_28, jDV_252_36, jDV_264_4, jDV_264_8, jDV_264_12, jDV_264_24, jDV_264_44, jDV_280_4, jDV_280_8, jDV_280_20, jDV_280_28, jDV_280_40, jDV_280_56, jDV_336_4, jDV_336_8, jDV_336_12, jDV_336_16, jDV_336_24, jDV_336_28, jDV_336_48, jDV_336_56, jDV_360_4, jDV_360_8, jDV_360_12, jDV_360_20, jDV_360_24, jDV_360_36, jDV_360_40, jDV_360_60, jDV_420_4, jDV_420_12, jDV_420_20, jDV_420_28, jDV_420_60, jDV_480_4, jDV_480_8, jDV_480_12, jDV_480_16, jDV_480_20, jDV_480_24, jDV_480_32, jDV_480_40, jDV_480_48, jDV_480_60, jDV_560_4, jDV_560_8, jDV_560_16, jDV_560_20, jDV_560_28, jDV_560_40, jDV_560_56, trivial⟩)
theorem jIW : ∀ q ∈ quoL, (mIW q).Ok Tryz.prog noGl := AllP.mem (show AllP _ quoL from ⟨jIW1, jIW2, jIW3, jIW4, jIW5, jIW6, jIW7, jIW8, jIW9, jIW10, jIW11, jIW12, jIW13, jIW14, jIW15, jIW16, jIW18, jIW20, jIW21, jIW22, jIW24, jIW26, jIW28, jIW30, jIW33, jIW35, jIW36, jIW39, jIW40, jIW42, jIW44, jIW45, jIW55, jIW56, jIW60, jIW63, jIW66, jIW70, jIW84, jIW90, jIW105, jIW120, jIW140, trivial⟩)
theorem div_quo : ∀ p ∈ divL, p.1 / p.2 ∈ quoL ∧ p.1 < 1000 ∧ p.2 < 1000 ∧ frS p.1 p.2 = decS (p.1 / p.2) := by
 have h : (divL.all fun p => quoL.contains (p.1 / p.2) && Nat.blt p.1 1000 && Nat.blt p.2 1000 && Nat.beq (Nat.gcd p.1 p.2) p.2 && Nat.blt 0 p.2) = true := by decide +kernel
 intro p hp
 have h1 := List.all_eq_true.1 h p hp
 simp only [Bool.and_eq_true] at h1
 obtain ⟨⟨⟨⟨a, b⟩, c⟩, d⟩, e⟩ := h1
 refine ⟨List.contains_iff_mem.1 a, Nat.le_of_ble_eq_true b, Nat.le_of_ble_eq_true c, ?_⟩
 have d := Nat.eq_of_beq_eq_true d
 have e : 0 < p.2 := Nat.le_of_ble_eq_true e
 unfold frS
 rw [d, Nat.div_self e]
theorem quo_lt : ∀ q ∈ quoL, q < 1000 := by decide
theorem val_div : (valsL.all fun v => (List.range 17).all fun y => Nat.beq y 0 || !(Nat.beq (v % (4 * y)) 0) || divL.contains (v, 4 * y)) = true := by decide +kernel
theorem decS_inj3 {a b : Nat} (la : a < 1000) (lb : b < 1000) (h : decS a = decS b) : a = b := by
 have key : ((List.range 1000).all fun a => match (decS a).data.toList with
   | [x] => Nat.beq (x.toNat - 48) a
   | [x, y] => Nat.beq ((x.toNat - 48) * 10 + (y.toNat - 48)) a
   | [x, y, z] => Nat.beq ((x.toNat - 48) * 100 + (y.toNat - 48) * 10 + (z.toNat - 48)) a
   | _ => false) = true := by decide +kernel
 have ka := List.all_eq_true.1 key a (List.mem_range.2 la)
 have kb := List.all_eq_true.1 key b (List.mem_range.2 lb)
 rw [h] at ka
 generalize (decS b).data.toList = l at ka kb
 match l with
 | [] => cases ka
 | [x] => exact (Nat.eq_of_beq_eq_true ka).symm.trans (Nat.eq_of_beq_eq_true kb)
 | [x, y] => exact (Nat.eq_of_beq_eq_true ka).symm.trans (Nat.eq_of_beq_eq_true kb)
 | [x, y, z] => exact (Nat.eq_of_beq_eq_true ka).symm.trans (Nat.eq_of_beq_eq_true kb)
 | _ :: _ :: _ :: _ :: _ => cases ka
open Classical in
noncomputable def divV (s t : ByteArray) : Nat × Nat := if h : ∃ p, p ∈ divL ∧ decS p.1 = s ∧ decS p.2 = t then h.choose else (0, 0)
open Classical in
noncomputable def quoV (s : ByteArray) : Nat := if h : ∃ q, q ∈ quoL ∧ decS q = s then h.choose else 0
noncomputable def divM (g : FuncId) (args : List AV) : Option Memo :=
 match args with
 | [.v (.string s)] => if g = 64 ∧ quoV s ∈ quoL then some (mIW (quoV s)) else none
 | [.v (.string s), .v (.string t)] => if g = 65 ∧ divV s t ∈ divL then some (mDV (divV s t).1 (divV s t).2) else none
 | _ => none
noncomputable def divO : CallF := fun g args H => match divM g args with
 | some m => memoF m args H
 | none => none
theorem divM_ok {g : FuncId} {args : List AV} {m : Memo} (h : divM g args = some m) : m.g = g ∧ m.Ok Tryz.prog noGl := by
 unfold divM at h
 split at h
 · split at h
   · rename_i hc; cases h; exact ⟨hc.1.symm, jIW _ hc.2⟩
   · cases h
 · split at h
   · rename_i hc; cases h; exact ⟨hc.1.symm, jDV _ hc.2⟩
   · cases h
 · cases h
theorem divO_ok : CallOk Tryz.prog divO := by
 intro g args H r H' hc hle base ρ w vs hI hf hv
 unfold divO at hc
 split at hc
 · rename_i m hm
   obtain ⟨rfl, hok⟩ := divM_ok hm
   exact memoF_ok hok hc (fun g vs h => by cases (show (none : Option (List Value)) = some vs from h)) hI hf hv
 · cases hc
theorem divO_dv {H : AH} {v m : Nat} (hp : (v, m) ∈ divL) (hr : H.next + 24 ≤ 2 ^ 39) : divO 65 [txt v, txt m] H = some (txt (v / m), ⟨H.next + 24, H.tr, H.gl⟩) := by
 have hx : ∃ p, p ∈ divL ∧ decS p.1 = decS v ∧ decS p.2 = decS m := ⟨_, hp, rfl, rfl⟩
 have e : divV (decS v) (decS m) = (v, m) := by
   unfold divV
   rw [dif_pos hx]
   have h1 := div_quo _ hx.choose_spec.1
   have h2 := div_quo _ hp
   exact Prod.ext (decS_inj3 h1.2.1 h2.2.1 hx.choose_spec.2.1) (decS_inj3 h1.2.2.1 h2.2.2.1 hx.choose_spec.2.2)
 have e2 : divM 65 [txt v, txt m] = some (mDV v m) := by
   unfold divM
   simp only [e]
   rw [if_pos ⟨trivial, hp⟩]
 unfold divO
 rw [e2]
 show memoF _ _ _ = _
 rw [memoF_at [] rfl (by simp only [mDV, avsEq_cons, avEq_v, valEq_str, avsEq_nil, Bool.and_self]) rfl rfl hr]
 have h3 := (div_quo _ hp).2.2.2
 show some (frT v m, _) = some (txt (v / m), _)
 rw [show frT v m = txt (v / m) from congrArg (fun s => AV.v (.string s)) h3]
 rfl
theorem divO_iw {H : AH} {q : Nat} (hp : q ∈ quoL) (hr : H.next + 0 ≤ 2 ^ 39) : divO 64 [txt q] H = some (.v (.bool true), ⟨H.next, H.tr, H.gl⟩) := by
 have hx : ∃ p, p ∈ quoL ∧ decS p = decS q := ⟨_, hp, rfl⟩
 have e : quoV (decS q) = q := by
   unfold quoV
   rw [dif_pos hx]
   exact decS_inj3 (quo_lt _ hx.choose_spec.1) (quo_lt _ hp) hx.choose_spec.2
 have e2 : divM 64 [txt q] = some (mIW q) := by
   unfold divM
   simp only [e]
   rw [if_pos ⟨trivial, hp⟩]
 unfold divO
 rw [e2]
 show memoF _ _ _ = _
 rw [memoF_at [] rfl (by simp only [mIW, avsEq_cons, avEq_v, valEq_str, avsEq_nil, Bool.and_self]) rfl rfl hr]
 rfl
end Go.Ev
namespace Go.Ev
open Go.Proofs
variable {O : CallF} (hq : Quiet O)
include hq
theorem cRCP (H : AH) (x : AV) (l : List Int) (hx : Sl H x (ivs l)) (hl : l.length ≤ 256) (hok : OkPq l) (K : AV → AH → Prop) (hk : K (iv 0) H) : Ca (ENV O) 62 [x] H K := by
 refine ca_intro (hq _ _ _ rfl) (fn := Tryz.f62) (by rfl) rfl ?_
 repeat (first | apply qN | refine zq1 rfl rfl ?_ | refine qM rfl rfl ?_ | refine zq4 rfl rfl rfl rfl (inc (by omega)) ?_ | refine zq5 rfl rfl rfl rfl rfl ‹_› ?_ | refine zq6 rfl rfl ‹_› ?_ | refine zq7 rfl rfl rfl ?_ | refine qT rfl ?_ | refine qF rfl ?_ | apply qR | apply qS | apply qK | apply qE | apply qB)
 refine wops_cons (wop_cmp rfl rfl rfl rfl rfl (fun h => ?_) (fun h => ?_))
 · have h : ((l.length : Int) > 256) := of_decide_eq_true h
   omega
 clear h
 repeat (first | apply qN | refine zq1 rfl rfl ?_ | refine qM rfl rfl ?_ | refine zq4 rfl rfl rfl rfl (inc (by omega)) ?_ | refine zq5 rfl rfl rfl rfl rfl ‹_› ?_ | refine zq6 rfl rfl ‹_› ?_ | refine zq7 rfl rfl rfl ?_ | refine qT rfl ?_ | refine qF rfl ?_ | apply qR | apply qS | apply qK | apply qE | apply qB)
 refine wp_loop (fun q T M H' => ∃ (i : Nat) (Y : List AV), q = l.length - i ∧ i ≤ l.length ∧ H' = H ∧ M = [] ∧ T = (x :: lget Y 0 :: lget Y 1 :: iv (i : Nat) :: lget Y 2 :: lget Y 3 :: lget Y 4 :: lget Y 5 :: lget Y 6 :: lget Y 7 :: lget Y 8 :: lget Y 9 :: lget Y 10 :: lget Y 11 :: lget Y 12 :: lget Y 13 :: lget Y 14 :: lget Y 15 :: lget Y 16 :: lget Y 17 :: lget Y 18 :: lget Y 19 :: lget Y 20 :: lget Y 21 :: lget Y 22 :: lget Y 23 :: lget Y 24 :: lget Y 25 :: lget Y 26 :: lget Y 27 :: lget Y 28 :: lget Y 29 :: lget Y 30 :: lget Y 31 :: lget Y 32 :: lget Y 33 :: lget Y 34 :: lget Y 35 :: lget Y 36 :: lget Y 37 :: lget Y 38 :: lget Y 39 :: [])) l.length
   ⟨0, [_,_,_,_,_,_,_,_,_,_,_,_,_,_,_,_,_,_,_,_,_,_,_,_,_,_,_,_,_,_,_,_,_,_,_,_,_,_,_,_], rfl, Nat.zero_le _, rfl, rfl, rfl⟩ ?_
 rintro q T M H' ⟨i, Y, hq1, hi, rfl, rfl, rfl⟩
 repeat (first | apply qN | refine zq1 rfl rfl ?_ | refine qM rfl rfl ?_ | refine zq4 rfl rfl rfl rfl (inc (by omega)) ?_ | refine zq5 rfl rfl rfl rfl rfl ‹_› ?_ | refine zq6 rfl rfl ‹_› ?_ | refine zq7 rfl rfl rfl ?_ | refine qT rfl ?_ | refine qF rfl ?_ | apply qR | apply qS | apply qK | apply qE | apply qB)
 refine wops_cons (wop_cmp rfl rfl rfl rfl rfl (fun h => ?_) (fun h => ?_))
 rotate_left
 · repeat (first | apply qN | refine zq1 rfl rfl ?_ | refine qM rfl rfl ?_ | refine zq4 rfl rfl rfl rfl (inc (by omega)) ?_ | refine zq5 rfl rfl rfl rfl rfl ‹_› ?_ | refine zq6 rfl rfl ‹_› ?_ | refine zq7 rfl rfl rfl ?_ | refine qT rfl ?_ | refine qF rfl ?_ | apply qR | apply qS | apply qK | apply qE | apply qB)
   refine wp_ret ?_
   exact ⟨_, _, rfl, hk⟩
 have h' : (i : Int) < (l.length : Nat) := of_decide_eq_true h
 have hi' : i < l.length := by omega
 clear h
 obtain ⟨z, hz⟩ := l_some hi'
 have hzb := hok.1 i z hz
 repeat (first | apply qN | refine zq1 rfl rfl ?_ | refine qM rfl rfl ?_ | refine zq4 rfl rfl rfl rfl (inc (by omega)) ?_ | refine zq5 rfl rfl rfl rfl rfl ‹_› ?_ | refine zq6 rfl rfl ‹_› ?_ | refine zq7 rfl rfl rfl ?_ | refine qT rfl ?_ | refine qF rfl ?_ | apply qR | apply qS | apply qK | apply qE | apply qB)
 refine wops_cons (o_indexI rfl rfl hx rfl hz fun pp hpp => ?_)
 repeat (first | apply qN | refine zq1 rfl rfl ?_ | refine qM rfl rfl ?_ | refine zq4 rfl rfl rfl rfl (inc (by omega)) ?_ | refine zq5 rfl rfl rfl rfl rfl ‹_› ?_ | refine zq6 rfl rfl ‹_› ?_ | refine zq7 rfl rfl rfl ?_ | refine qT rfl ?_ | refine qF rfl ?_ | apply qR | apply qS | apply qK | apply qE | apply qB)
 refine wops_cons (wop_cmp rfl rfl rfl rfl rfl (fun h => ?_) (fun h => ?_))
 · have h : z < 0 := of_decide_eq_true h
   omega
 clear h
 repeat (first | apply qN | refine zq1 rfl rfl ?_ | refine qM rfl rfl ?_ | refine zq4 rfl rfl rfl rfl (inc (by omega)) ?_ | refine zq5 rfl rfl rfl rfl rfl ‹_› ?_ | refine zq6 rfl rfl ‹_› ?_ | refine zq7 rfl rfl rfl ?_ | refine qT rfl ?_ | refine qF rfl ?_ | apply qR | apply qS | apply qK | apply qE | apply qB)
 refine wops_cons (o_indexI rfl rfl hx rfl hz fun p2 hp2 => ?_)
 repeat (first | apply qN | refine zq1 rfl rfl ?_ | refine qM rfl rfl ?_ | refine zq4 rfl rfl rfl rfl (inc (by omega)) ?_ | refine zq5 rfl rfl rfl rfl rfl ‹_› ?_ | refine zq6 rfl rfl ‹_› ?_ | refine zq7 rfl rfl rfl ?_ | refine qT rfl ?_ | refine qF rfl ?_ | apply qR | apply qS | apply qK | apply qE | apply qB)
 refine wops_cons (wop_cmp rfl rfl rfl rfl rfl (fun h => ?_) (fun h => ?_))
 · have h : z ≥ (l.length : Nat) := of_decide_eq_true h
   omega
 clear h
 repeat (first | apply qN | refine zq1 rfl rfl ?_ | refine qM rfl rfl ?_ | refine zq4 rfl rfl rfl rfl (inc (by omega)) ?_ | refine zq5 rfl rfl rfl rfl rfl ‹_› ?_ | refine zq6 rfl rfl ‹_› ?_ | refine zq7 rfl rfl rfl ?_ | refine qT rfl ?_ | refine qF rfl ?_ | apply qR | apply qS | apply qK | apply qE | apply qB)
 refine wp_loop (fun q T M H2 => ∃ (k : Nat) (Y : List AV), q = i - k ∧ k ≤ i ∧ H2 = H' ∧ M = [] ∧ T = (x :: lget Y 0 :: lget Y 1 :: iv (i : Nat) :: iv (k : Nat) :: lget Y 2 :: lget Y 3 :: lget Y 4 :: lget Y 5 :: lget Y 6 :: lget Y 7 :: lget Y 8 :: lget Y 9 :: lget Y 10 :: lget Y 11 :: lget Y 12 :: lget Y 13 :: lget Y 14 :: lget Y 15 :: lget Y 16 :: lget Y 17 :: lget Y 18 :: lget Y 19 :: lget Y 20 :: lget Y 21 :: lget Y 22 :: lget Y 23 :: lget Y 24 :: lget Y 25 :: lget Y 26 :: lget Y 27 :: lget Y 28 :: lget Y 29 :: lget Y 30 :: lget Y 31 :: lget Y 32 :: lget Y 33 :: lget Y 34 :: lget Y 35 :: lget Y 36 :: lget Y 37 :: lget Y 38 :: [])) i
   ⟨0, [_,_,_,_,_,_,_,_,_,_,_,_,_,_,_,_,_,_,_,_,_,_,_,_,_,_,_,_,_,_,_,_,_,_,_,_,_,_,_], rfl, Nat.zero_le _, rfl, rfl, rfl⟩ ?_
 rintro q T M H2 ⟨k, Y, hq2, hki, rfl, rfl, rfl⟩
 repeat (first | apply qN | refine zq1 rfl rfl ?_ | refine qM rfl rfl ?_ | refine zq4 rfl rfl rfl rfl (inc (by omega)) ?_ | refine zq5 rfl rfl rfl rfl rfl ‹_› ?_ | refine zq6 rfl rfl ‹_› ?_ | refine zq7 rfl rfl rfl ?_ | refine qT rfl ?_ | refine qF rfl ?_ | apply qR | apply qS | apply qK | apply qE | apply qB)
 refine wops_cons (wop_cmp rfl rfl rfl rfl rfl (fun h => ?_) (fun h => ?_))
 rotate_left
 · repeat (first | apply qN | refine zq1 rfl rfl ?_ | refine qM rfl rfl ?_ | refine zq4 rfl rfl rfl rfl (inc (by omega)) ?_ | refine zq5 rfl rfl rfl rfl rfl ‹_› ?_ | refine zq6 rfl rfl ‹_› ?_ | refine zq7 rfl rfl rfl ?_ | refine qT rfl ?_ | refine qF rfl ?_ | apply qR | apply qS | apply qK | apply qE | apply qB)
   exact ⟨l.length - (i + 1), by omega, i + 1, [_,_,_,_,_,_,_,_,_,_,_,_,_,_,_,_,_,_,_,_,_,_,_,_,_,_,_,_,_,_,_,_,_,_,_,_,_,_,_,_], rfl, by omega, rfl, rfl, rfl⟩
 have h' : (k : Int) < (i : Nat) := of_decide_eq_true h
 have hk' : k < i := by omega
 clear h
 obtain ⟨w, hw⟩ := l_some (show k < l.length by omega)
 have hne : ¬ w = z := fun e => hok.2 k i w hk' hw (by rw [hz, e])
 repeat (first | apply qN | refine zq1 rfl rfl ?_ | refine qM rfl rfl ?_ | refine zq4 rfl rfl rfl rfl (inc (by omega)) ?_ | refine zq5 rfl rfl rfl rfl rfl ‹_› ?_ | refine zq6 rfl rfl ‹_› ?_ | refine zq7 rfl rfl rfl ?_ | refine qT rfl ?_ | refine qF rfl ?_ | apply qR | apply qS | apply qK | apply qE | apply qB)
 refine wp_drawC AnyB rfl ?_
 repeat (first | refine wc_move (by decide) rfl rfl rfl ?_)
 refine wc_index (by decide) rfl rfl rfl hx rfl (ivs_get hw) fun p hp => ?_
 refine wc_load (by decide) rfl rfl rfl hp ?_
 repeat (first | refine wc_move (by decide) rfl rfl rfl ?_)
 refine wc_index (by decide) rfl rfl rfl hx rfl (ivs_get hz) fun p hp => ?_
 refine wc_load (by decide) rfl rfl rfl hp ?_
 refine wc_bin (op := .eql) (v := .bool false) (by decide) rfl rfl rfl rfl rfl (by simp [binI, hne]) ?_
 refine wc_nil ?_
 repeat (first | apply qN | refine zq1 rfl rfl ?_ | refine qM rfl rfl ?_ | refine zq4 rfl rfl rfl rfl (inc (by omega)) ?_ | refine zq5 rfl rfl rfl rfl rfl ‹_› ?_ | refine zq6 rfl rfl ‹_› ?_ | refine zq7 rfl rfl rfl ?_ | refine qT rfl ?_ | refine qF rfl ?_ | apply qR | apply qS | apply qK | apply qE | apply qB)
 exact ⟨i - (k + 1), by omega, k + 1, [_,_,_,_,_,_,_,_,_,_,_,_,_,_,_,_,_,_,_,_,_,_,_,_,_,_,_,_,_,_,_,_,_,_,_,_,_,_,_], rfl, by omega, rfl, rfl, rfl⟩
end Go.Ev
namespace Go.Ev
open Go.Proofs
theorem swE_zero {m : Mc} : ∀ {l : List Int} {p : Option Int}, swE m p l = 0 ↔ (∀ z ∈ l, shB m z = true) ∧ l.Pairwise (· < ·) ∧ ∀ y, p = some y → ∀ z ∈ l, y < z
 | [], p => by simp [swE]
 | z :: l, p => by
   have ih := swE_zero (m := m) (l := l) (p := some z)
   cases p with
   | none =>
     have e : swE m none (z :: l) = if shB m z = false then 10 else swE m (some z) l := by rw [swE_cons]; rfl
     rw [e]
     by_cases h1 : shB m z = true
     · rw [if_neg (by simp [h1]), ih, List.pairwise_cons]
       constructor
       · rintro ⟨a, b, c⟩
         exact ⟨fun w hw => (List.mem_cons.1 hw).elim (fun e => e ▸ h1) (a w), ⟨fun w hw => c z rfl w hw, b⟩, fun y hy => by cases hy⟩
       · rintro ⟨a, ⟨b1, b2⟩, _⟩
         exact ⟨fun w hw => a w (List.mem_cons_of_mem _ hw), b2, fun y hy w hw => by cases hy; exact b1 w hw⟩
     · rw [if_pos (by simpa using h1)]
       simp [h1]
   | some y =>
     have e : swE m (some y) (z :: l) = if shB m z = false then 10 else if z ≤ y then 11 else swE m (some z) l := by
       rw [swE_cons]
       by_cases h : z ≤ y <;> simp [h]
     rw [e]
     by_cases h1 : shB m z = true
     · rw [if_neg (by simp [h1])]
       by_cases h2 : z ≤ y
       · rw [if_pos h2]
         constructor
         · intro h; cases h
         · rintro ⟨_, _, c⟩
           have := c y rfl z (by simp)
           omega
       · rw [if_neg h2, ih, List.pairwise_cons]
         constructor
         · rintro ⟨a, b, c⟩
           refine ⟨fun w hw => ?_, ⟨fun w hw => c z rfl w hw, b⟩, fun y' hy w hw => ?_⟩
           · rcases List.mem_cons.1 hw with rfl | hw
             · exact h1
             · exact a w hw
           · cases hy
             rcases List.mem_cons.1 hw with rfl | hw
             · omega
             · have := c z rfl w hw; omega
         · rintro ⟨a, ⟨b1, b2⟩, c⟩
           exact ⟨fun w hw => a w (by simp [hw]), b2, fun y' hy w hw => by cases hy; exact b1 w hw⟩
     · rw [if_pos (by simpa using h1)]
       simp [h1]
theorem mE_parts {m : Mc} (h : mE m = 0) : (m.sw.length : Int) ≤ m.g ∧ (∀ z ∈ m.sw, shB m z = true) ∧ m.sw.Pairwise (· < ·) := by
 unfold mE at h
 split at h
 · cases h
 split at h
 · cases h
 split at h
 · cases h
 split at h
 · cases h
 rename_i h4
 obtain ⟨a, b, _⟩ := swE_zero.1 h
 exact ⟨by omega, a, b⟩
theorem mE_new {m : Mc} {l : List Int} (h : mE m = 0) (h1 : (l.length : Int) ≤ m.g) (h2 : ∀ z ∈ l, shB m z = true) (h3 : l.Pairwise (· < ·)) : mE ⟨m.ring, m.g, m.t, l⟩ = 0 := by
 have hs : swE ⟨m.ring, m.g, m.t, l⟩ none l = 0 := swE_zero.2 ⟨fun z hz => h2 z hz, h3, fun y hy => by cases hy⟩
 unfold mE at h ⊢
 split at h
 · cases h
 rename_i a
 split at h
 · cases h
 rename_i b
 split at h
 · cases h
 rename_i c
 simp only at *
 rw [if_neg a, if_neg b, if_neg c, if_neg (by omega)]
 exact hs
def insL (sw : List Int) (p : Nat) (i : Nat) : List Int := ((List.range i).filter fun (k : Nat) => decide (k = p) || decide ((k : Int) ∈ sw)).map fun (k : Nat) => (k : Int)
theorem insL_succ (sw : List Int) (p i : Nat) : insL sw p (i + 1) = insL sw p i ++ (if i = p then [(i : Int)] else []) ++ (if (i : Int) ∈ sw ∧ i ≠ p then [(i : Int)] else []) := by
 unfold insL
 rw [List.range_succ, List.filter_append, List.map_append, List.append_assoc]
 congr 1
 by_cases h1 : i = p <;> by_cases h2 : (i : Int) ∈ sw <;> simp [List.filter_cons, h1, h2]
theorem insL_mem {sw : List Int} {p i : Nat} {z : Int} : z ∈ insL sw p i ↔ ∃ k : Nat, k < i ∧ z = k ∧ (k = p ∨ (k : Int) ∈ sw) := by
 unfold insL
 rw [List.mem_map]
 constructor
 · rintro ⟨k, hk, rfl⟩
   rw [List.mem_filter, List.mem_range] at hk
   exact ⟨k, hk.1, rfl, by simpa using hk.2⟩
 · rintro ⟨k, h1, rfl, h2⟩
   exact ⟨k, List.mem_filter.2 ⟨List.mem_range.2 h1, by simpa using h2⟩, rfl⟩
theorem insL_sorted (sw : List Int) (p i : Nat) : (insL sw p i).Pairwise (· < ·) := by
 unfold insL
 rw [List.pairwise_map]
 exact (List.pairwise_lt_range.filter _).imp fun h => by omega
theorem insL_len (sw : List Int) (p i : Nat) : (insL sw p i).length ≤ i := by
 unfold insL
 rw [List.length_map]
 exact Nat.le_trans (List.length_filter_le _ _) (by simp)
theorem filt_take {l : List Int} {i : Nat} {z : Int} {q : Int → Bool} (h : l[i]? = some z) : (l.take (i + 1)).filter q = (l.take i).filter q ++ if q z = true then [z] else [] := by
 rw [List.take_add_one, h, List.filter_append]
 cases hq : q z <;> simp [List.filter_cons, hq]
theorem mem_take1 {l : List Int} {i : Nat} {z w : Int} (h : l[i]? = some z) : w ∈ l.take (i + 1) ↔ w ∈ l.take i ∨ w = z := by
 rw [List.take_add_one, h]
 simp
theorem place_of (at' : Int) {n : Nat} (hn : 2 ≤ n) : ∃ p : Nat, 1 ≤ p ∧ p < n ∧ 1 + (at'.tmod ((n - 1 : Nat) : Int) + (n : Int) - 1).tmod ((n - 1 : Nat) : Int) = (p : Int) ∧ -(n : Int) < at'.tmod ((n - 1 : Nat) : Int) ∧ at'.tmod ((n - 1 : Nat) : Int) < n := by
 have hp : 0 < n - 1 := by omega
 have h1 := tmod_range at' hp
 have h2 := tmod_range (at'.tmod ((n - 1 : Nat) : Int) + (n : Int) - 1) hp
 have h3 : 0 ≤ (at'.tmod ((n - 1 : Nat) : Int) + (n : Int) - 1).tmod ((n - 1 : Nat) : Int) := Int.tmod_nonneg _ (by omega)
 exact ⟨(1 + (at'.tmod ((n - 1 : Nat) : Int) + (n : Int) - 1).tmod ((n - 1 : Nat) : Int)).toNat, by omega, by omega, by omega, by omega, by omega⟩
section
variable {O : CallF} {T : List AV} {H H0 : AH} {ops : Array Oper} {o : Oper} {i : Nat} {π0 π : List Stp} {K : List AV → AH → Prop}
theorem wc_lenN {c : Call} {t e : TypeId} {x : Operand} {l : List AV} {k : Nat} (hi : i ∈ mobsOf π0) (h1 : ops.toList[i]? = some o) (ho : o.op = .call c) (hg : wantedA o ops T = true) (hc : c.callee = .builtin .len) (hargs : c.args.toList = [x]) (ht : c.argTypes.toList = [t]) [hu : TyS t e] (hx : Sl H0 (av T x) l) (hm : l.length = k)
   (hk : WDC (ENV O) ops H0 π0 AnyB π (putA T o.dst (iv k)) H K) : WDC (ENV O) ops H0 π0 AnyB (.mob i :: π) T H K :=
 wc_mob hi (wd_lenA h1 ho hg hc hargs ht hu.u hx ⟨rfl, by rw [hm]; exact hk⟩) (fun _ _ _ _ => trivial)
theorem wc_field {t : TypeId} {x : Operand} {f off b o0 : Nat} (hi : i ∈ mobsOf π0) (h1 : ops.toList[i]? = some o) (ho : o.op = .fieldAddr t x f) (hg : wantedA o ops T = true) [hf : FA t f off] (hx : av T x = .ptr b o0) (hk : WDC (ENV O) ops H0 π0 AnyB π (putA T o.dst (.ptr b (o0 + off))) H K) : WDC (ENV O) ops H0 π0 AnyB (.mob i :: π) T H K :=
 wc_mob hi (d_field h1 ho hg hx ⟨rfl, hk⟩) (fun _ _ _ _ => trivial)
theorem wc_assign {x : Operand} (hi : i ∈ mobsOf π0) (h1 : ops.toList[i]? = some o) (ho : o.op = .assign x) (hg : wantedA o ops T = true) (hk : WDC (ENV O) ops H0 π0 AnyB π (putA T o.dst (av T x)) H K) : WDC (ENV O) ops H0 π0 AnyB (.mob i :: π) T H K :=
 wc_mob hi (wd_assign h1 ho hg ⟨rfl, hk⟩) (fun _ _ _ _ => trivial)
end
theorem sub_nat {a : Nat} (h : 1 ≤ a) (h2 : a ≤ 1000000) : binI .sub .i64 .i64 (a : Int) 1 = some (.int .i64 ((a - 1 : Nat) : Int)) := by
 show some (Value.int .i64 (IntKind.i64.wrap ((a : Int) - 1))) = _
 rw [wrap_id (by omega) (by omega)]; congr 2; omega
theorem sub_id {a b : Int} (h : -1000000 ≤ a - b) (h2 : a - b ≤ 1000000) : binI .sub .i64 .i64 a b = some (.int .i64 (a - b)) := by
 show some (Value.int .i64 (IntKind.i64.wrap (a - b))) = _
 rw [wrap_id (by omega) (by omega)]
theorem add_id {a b : Int} (h : -1000000 ≤ a + b) (h2 : a + b ≤ 1000000) : binI .add .i64 .i64 a b = some (.int .i64 (a + b)) := by
 show some (Value.int .i64 (IntKind.i64.wrap (a + b))) = _
 rw [wrap_id (by omega) (by omega)]
theorem not_before {l : List Int} {k : Nat} {z w : Int} (h : l.Pairwise (· < ·)) (hz : l[k]? = some z) (hw : z = w) : ¬ w ∈ l.take k := fun e => by
 obtain ⟨j, hj⟩ := List.mem_iff_getElem?.1 e
 rw [List.getElem?_take] at hj
 split at hj
 · rename_i hjk
   obtain ⟨a1, a2⟩ := List.getElem?_eq_some_iff.1 hj
   obtain ⟨c1, c2⟩ := List.getElem?_eq_some_iff.1 hz
   have := List.pairwise_iff_getElem.1 h j k a1 c1 hjk
   omega
 · cases hj
theorem mem_le_sum : ∀ {l : List Nat} {y : Nat}, y ∈ l → y ≤ l.sum
 | z :: l, y, h => by
   rw [List.sum_cons]
   rcases List.mem_cons.1 h with rfl | h
   · omega
   · have := mem_le_sum h; omega
theorem div_facts {f : Nat → Nat} {n i t : Nat} (hfr : Fr f n) (hla : (lens f (4 * n))[i]? = some (per f (4 * n) t)) (hval : perd f (4 * n) ∈ valsL) : (perd f (4 * n), per f (4 * n) t) ∈ divL ∧ per f (4 * n) t ∈ msR ∧ perd f (4 * n) / per f (4 * n) t ∈ quoL := by
 have hdvd : per f (4 * n) t ∣ perd f (4 * n) := lcmL_dvd.1 (Nat.dvd_refl _) _ (List.mem_of_getElem? hla)
 have hpp := per_pos f (4 * n) t
 have hn16 := hfr.hn
 obtain ⟨y, hy0, hy16, hy⟩ : ∃ y, 0 < y ∧ y ≤ 16 ∧ per f (4 * n) t = 4 * y := by
   have hla2 := hla
   rw [hfr.lens, List.getElem?_map] at hla2
   cases hp : (prt f n)[i]? with
   | none => rw [hp] at hla2; cases hla2
   | some y =>
     rw [hp] at hla2
     have e : 4 * y = per f (4 * n) t := Option.some.inj hla2
     have h1 := hfr.prt_sum
     have h2 : y ≤ (prt f n).sum := mem_le_sum (List.mem_of_getElem? hp)
     exact ⟨y, by omega, by omega, e.symm⟩
 have e0 : Nat.beq y 0 = false := by cases e : Nat.beq y 0 with
   | false => rfl
   | true => have := Nat.eq_of_beq_eq_true e; omega
 have hdl : (perd f (4 * n), per f (4 * n) t) ∈ divL := by
   have h1 := List.all_eq_true.1 (List.all_eq_true.1 val_div _ hval) y (List.mem_range.2 (by omega))
   rw [hy] at hdvd ⊢
   have e1 : Nat.beq (perd f (4 * n) % (4 * y)) 0 = true := by rw [Nat.mod_eq_zero_of_dvd hdvd]; rfl
   rw [e0, e1, Bool.not_true, Bool.false_or, Bool.false_or] at h1
   exact List.contains_iff_mem.1 h1
 refine ⟨hdl, ?_, (div_quo _ hdl).1⟩
 have h2 : ((List.range 17).all fun y => Nat.beq y 0 || msR.contains (4 * y)) = true := by decide
 have h1 := List.all_eq_true.1 h2 y (List.mem_range.2 (by omega))
 rw [e0, Bool.false_or] at h1
 rw [hy]
 exact List.contains_iff_mem.1 h1
end Go.Ev
