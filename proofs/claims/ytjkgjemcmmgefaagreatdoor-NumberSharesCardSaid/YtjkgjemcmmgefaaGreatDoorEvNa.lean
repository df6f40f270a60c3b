/- Part of an evaluator of calls that is proved sound, and of what it gives about this program. No condition of its own. -/
import Derived.Test.YtjkgjemcmmgefaaGreatDoorEvHa
import Derived.Test.YtjkgjemcmmgefaaGreatDoorEvFive
import Derived.Test.YtjkgjemcmmgefaaGreatDoorEvSevenD
import EvPb1
import EvPb2
import EvPb3
import EvPb4
import Derived.Test.YtjkgjemcmmgefaaGreatDoorEvI1
set_option linter.unusedVariables false
set_option linter.unusedSimpArgs false
set_option linter.unusedSectionVars false
set_option maxRecDepth 100000
set_option maxRecDepth 1000000
set_option maxHeartbeats 4000000
namespace Go.Ev
def fl (g : Nat → Int) (n : Nat) : List Int := (List.range n).map g
theorem fl_length (g : Nat → Int) (n : Nat) : (fl g n).length = n := by simp [fl]
theorem fl_get {g : Nat → Int} {n i : Nat} (h : i < n) : (fl g n)[i]? = some (g i) := by simp [fl, h]
def upd (g : Nat → Int) (i : Nat) (v : Int) : Nat → Int := fun j => if j = i then v else g j
theorem fl_set (g : Nat → Int) (n i : Nat) (v : Int) : (fl g n).set i v = fl (upd g i v) n := by
  apply List.ext_getElem?
  intro j
  rcases Nat.lt_or_ge j n with hj | hj
  · rw [fl_get hj]
    by_cases e : j = i
    · subst e
      rw [List.getElem?_set_self (by rw [fl_length]; exact hj)]
      simp [upd]
    · rw [List.getElem?_set_ne (Ne.symm e), fl_get hj]
      simp [upd, e]
  · rw [List.getElem?_eq_none (by rw [List.length_set, fl_length]; exact hj), List.getElem?_eq_none (by rw [fl_length]; exact hj)]
def swp (g : Nat → Int) (a c m : Nat) : Nat → Int := fun j => if a ≤ j ∧ j < a + m then g (j - a + c) else if c ≤ j ∧ j < c + m then g (j - c + a) else g j
def rot (g : Nat → Int) (a m e : Nat) : Nat → Int := fun j => if a ≤ j ∧ j < a + (e - m) then g (j - a + m) else if a + (e - m) ≤ j ∧ j < e then g (j - (a + (e - m)) + a) else g j
theorem swp_zero (g : Nat → Int) (a c : Nat) : swp g a c 0 = g := by
  funext j
  unfold swp
  rw [if_neg (by omega), if_neg (by omega)]
theorem swp_succ (g : Nat → Int) {a c i : Nat} (h : a + (i + 1) ≤ c) : upd (upd (swp g a c i) (a + i) (g (c + i))) (c + i) (g (a + i)) = swp g a c (i + 1) := by
  funext j
  unfold upd swp
  by_cases h1 : j = c + i
  · subst h1
    rw [if_pos rfl, if_neg (by omega), if_pos (by omega), show c + i - c + a = a + i by omega]
  · rw [if_neg h1]
    by_cases h2 : j = a + i
    · subst h2
      rw [if_pos rfl, if_pos (by omega), show a + i - a + c = c + i by omega]
    · rw [if_neg h2]
      by_cases h3 : a ≤ j ∧ j < a + i
      · rw [if_pos h3, if_pos (by omega)]
      · rw [if_neg h3]
        by_cases h4 : c ≤ j ∧ j < c + i
        · rw [if_pos h4, if_neg (by omega), if_pos (by omega)]
        · rw [if_neg h4, if_neg (by omega), if_neg (by omega)]
theorem swp_at1 (g : Nat → Int) {a c i : Nat} (h : a + (i + 1) ≤ c) : swp g a c i (c + i) = g (c + i) := by unfold swp; rw [if_neg (by omega), if_neg (by omega)]
theorem swp_at2 (g : Nat → Int) {a c i : Nat} (h : a + (i + 1) ≤ c) : swp g a c i (a + i) = g (a + i) := by unfold swp; rw [if_neg (by omega), if_neg (by omega)]
theorem rot_id (g : Nat → Int) {a m e : Nat} (h : a = m ∨ e = m) (h1 : a ≤ m) (h2 : m ≤ e) : rot g a m e = g := by
  funext j
  unfold rot
  by_cases h3 : a ≤ j ∧ j < a + (e - m)
  · rw [if_pos h3]
    rcases h with rfl | rfl
    · rw [show j - a + a = j by omega]
    · omega
  · rw [if_neg h3]
    by_cases h4 : a + (e - m) ≤ j ∧ j < e
    · rw [if_pos h4]
      rcases h with rfl | rfl
      · omega
      · rw [show j - (a + (e - e)) + a = j by omega]
    · rw [if_neg h4]
theorem rot_gt (g : Nat → Int) {m i j : Nat} (h : j < i) (hi : i ≤ m) : rot (swp g (m - i) m j) (m - (i - j)) m (m + j) = rot g (m - i) m (m + j) := by
  funext k
  unfold rot
  by_cases h1 : m - (i - j) ≤ k ∧ k < m - (i - j) + (m + j - m)
  · rw [if_pos h1]
    by_cases h2 : m - i ≤ k ∧ k < m - i + (m + j - m)
    · omega
    · rw [if_neg h2, if_pos (by omega)]
      unfold swp
      rw [if_neg (by omega), if_pos (by omega)]
      congr 1
      omega
  · rw [if_neg h1]
    by_cases h2 : m - (i - j) + (m + j - m) ≤ k ∧ k < m + j
    · rw [if_pos h2, if_neg (by omega), if_pos (by omega)]
      unfold swp
      rw [if_neg (by omega), if_neg (by omega)]
      congr 1
      omega
    · rw [if_neg h2]
      by_cases h3 : m - i ≤ k ∧ k < m - i + (m + j - m)
      · rw [if_pos h3]
        unfold swp
        rw [if_pos (by omega)]
      · rw [if_neg h3, if_neg (by omega)]
        unfold swp
        rw [if_neg (by omega), if_neg (by omega)]
theorem rot_lt (g : Nat → Int) {m i j : Nat} (h : i < j) (hi : i ≤ m) : rot (swp g (m - i) (m + j - i) i) (m - i) m (m + (j - i)) = rot g (m - i) m (m + j) := by
  funext k
  unfold rot
  by_cases h1 : m - i ≤ k ∧ k < m - i + (m + (j - i) - m)
  · rw [if_pos h1, if_pos (by omega)]
    unfold swp
    rw [if_neg (by omega), if_neg (by omega)]
  · rw [if_neg h1]
    by_cases h2 : m - i + (m + (j - i) - m) ≤ k ∧ k < m + (j - i)
    · rw [if_pos h2, if_pos (by omega)]
      unfold swp
      rw [if_pos (by omega)]
      congr 1
      omega
    · rw [if_neg h2]
      by_cases h3 : m - i + (m + j - m) ≤ k ∧ k < m + j
      · rw [if_neg (by omega), if_pos h3]
        unfold swp
        rw [if_neg (by omega), if_pos (by omega)]
        congr 1
        omega
      · rw [if_neg (by omega), if_neg h3]
        unfold swp
        rw [if_neg (by omega), if_neg (by omega)]
theorem rot_eq (g : Nat → Int) {m i : Nat} (hi : i ≤ m) : swp g (m - i) m i = rot g (m - i) m (m + i) := by
  funext k
  unfold rot swp
  by_cases h1 : m - i ≤ k ∧ k < m - i + i
  · rw [if_pos h1, if_pos (by omega)]
  · rw [if_neg h1]
    by_cases h2 : m ≤ k ∧ k < m + i
    · rw [if_pos h2, if_neg (by omega), if_pos (by omega)]
      congr 1
      omega
    · rw [if_neg h2, if_neg (by omega), if_neg (by omega)]
def seg (g : Nat → Int) (a e : Nat) : List Int := (List.range (e - a)).map fun k => g (a + k)
theorem seg_mem {g : Nat → Int} {a e : Nat} {z : Int} : z ∈ seg g a e ↔ ∃ i, a ≤ i ∧ i < e ∧ g i = z := by
  unfold seg
  rw [List.mem_map]
  constructor
  · rintro ⟨k, hk, rfl⟩
    have := List.mem_range.1 hk
    exact ⟨a + k, by omega, by omega, rfl⟩
  · rintro ⟨i, h1, h2, rfl⟩
    exact ⟨i - a, List.mem_range.2 (by omega), by rw [show a + (i - a) = i by omega]⟩
theorem seg_ext {g h : Nat → Int} {a e : Nat} (H : ∀ i, a ≤ i → i < e → g i = h i) : seg g a e = seg h a e :=
  List.map_congr_left fun k hk => H _ (by omega) (by have := List.mem_range.1 hk; omega)
theorem seg_append (g : Nat → Int) {a m e : Nat} (h1 : a ≤ m) (h2 : m ≤ e) : seg g a e = seg g a m ++ seg g m e := by
  unfold seg
  rw [show e - a = (m - a) + (e - m) by omega, List.range_add, List.map_append, List.map_map]
  congr 1
  apply List.map_congr_left
  intro k _
  show g (a + (m - a + k)) = g (m + k)
  congr 1
  omega
theorem seg_shift {g h : Nat → Int} {a e a' e' : Nat} (hl : e - a = e' - a') (H : ∀ k, k < e - a → g (a + k) = h (a' + k)) : seg g a e = seg h a' e' := by
  unfold seg
  rw [← hl]
  exact List.map_congr_left fun k hk => H k (List.mem_range.1 hk)
theorem rot_seg1 (g : Nat → Int) {a m e : Nat} (h1 : a ≤ m) (h2 : m ≤ e) : seg (rot g a m e) a (a + (e - m)) = seg g m e :=
  seg_shift (by omega) fun k hk => by
    unfold rot
    rw [if_pos (by omega)]
    congr 1
    omega
theorem rot_seg2 (g : Nat → Int) {a m e : Nat} (h1 : a ≤ m) (h2 : m ≤ e) : seg (rot g a m e) (a + (e - m)) e = seg g a m :=
  seg_shift (by omega) fun k hk => by
    unfold rot
    rw [if_neg (by omega), if_pos (by omega)]
    congr 1
    omega
theorem rot_out (g : Nat → Int) {a m e i : Nat} (h : i < a ∨ e ≤ i) (h1 : a ≤ m) (h2 : m ≤ e) : rot g a m e i = g i := by
  unfold rot
  rw [if_neg (by omega), if_neg (by omega)]
theorem rot_perm (g : Nat → Int) {x a m e y : Nat} (hx : x ≤ a) (h1 : a ≤ m) (h2 : m ≤ e) (hy : e ≤ y) : (seg (rot g a m e) x y).Perm (seg g x y) := by
  rw [seg_append (rot g a m e) hx (show a ≤ y by omega), seg_append (rot g a m e) (show a ≤ e by omega) hy, seg_append (rot g a m e) (show a ≤ a + (e - m) by omega) (show a + (e - m) ≤ e by omega), rot_seg1 g h1 h2, rot_seg2 g h1 h2,
    seg_append g hx (show a ≤ y by omega), seg_append g (show a ≤ e by omega) hy, seg_append g h1 h2]
  rw [seg_ext (g := rot g a m e) (h := g) (a := x) (e := a) fun i _ hi => rot_out g (.inl hi) h1 h2, seg_ext (g := rot g a m e) (h := g) (a := e) (e := y) fun i hi _ => rot_out g (.inr hi) h1 h2]
  exact List.Perm.append_left _ (List.Perm.append_right _ List.perm_append_comm)
def Sd (R : Int → Int → Bool) (g : Nat → Int) (a e : Nat) : Prop := ∀ i j, a ≤ i → i < j → j < e → R (g i) (g j) = true
theorem Sd.sub {R : Int → Int → Bool} {g : Nat → Int} {a e a' e' : Nat} (h : Sd R g a e) (h1 : a ≤ a') (h2 : e' ≤ e) : Sd R g a' e' := fun i j hi hij hj => h i j (by omega) hij (by omega)
theorem Sd.ext {R : Int → Int → Bool} {g h : Nat → Int} {a e : Nat} (hs : Sd R g a e) (H : ∀ i, a ≤ i → i < e → g i = h i) : Sd R h a e := fun i j hi hij hj => by
  rw [← H i hi (by omega), ← H j (by omega) hj]; exact hs i j hi hij hj
theorem Sd.shift {R : Int → Int → Bool} {g h : Nat → Int} {a e a' e' : Nat} (hs : Sd R g a e) (hl : e' - a' ≤ e - a) (H : ∀ k, k < e' - a' → h (a' + k) = g (a + k)) : Sd R h a' e' := fun i j hi hij hj => by
  have h1 := H (i - a') (by omega)
  have h2 := H (j - a') (by omega)
  rw [show a' + (i - a') = i by omega] at h1
  rw [show a' + (j - a') = j by omega] at h2
  rw [h1, h2]
  exact hs _ _ (by omega) (by omega) (by omega)
theorem Sd.join {R : Int → Int → Bool} {g : Nat → Int} {a m e : Nat} (h1 : Sd R g a m) (h2 : Sd R g m e) (h3 : ∀ i j, a ≤ i → i < m → m ≤ j → j < e → R (g i) (g j) = true) : Sd R g a e := fun i j hi hij hj => by
  rcases Nat.lt_or_ge j m with hjm | hjm
  · exact h1 i j hi hij hjm
  · rcases Nat.lt_or_ge i m with him | him
    · exact h3 i j hi him hjm hj
    · exact h2 i j him hij hj
end Go.Ev
namespace Go.Ev
section
variable {f : Nat → Nat} {n : Nat}
def lcmL (l : List Nat) : Nat := l.foldl Nat.lcm 1
theorem foldl_lcm_dvd {l : List Nat} {a i : Nat} : l.foldl Nat.lcm a ∣ i ↔ a ∣ i ∧ ∀ m ∈ l, m ∣ i := by
  induction l generalizing a with
  | nil => simp
  | cons x l ih =>
    rw [List.foldl_cons, ih]
    constructor
    · rintro ⟨h1, h2⟩
      exact ⟨Nat.dvd_trans (Nat.dvd_lcm_left a x) h1, fun m hm => by
        rcases List.mem_cons.1 hm with rfl | hm
        · exact Nat.dvd_trans (Nat.dvd_lcm_right a m) h1
        · exact h2 m hm⟩
    · rintro ⟨h1, h2⟩
      exact ⟨Nat.lcm_dvd h1 (h2 x (by simp)), fun m hm => h2 m (by simp [hm])⟩
theorem lcmL_dvd {l : List Nat} {i : Nat} : lcmL l ∣ i ↔ ∀ m ∈ l, m ∣ i := by
  unfold lcmL; rw [foldl_lcm_dvd]; simp
def perd (f : Nat → Nat) (n : Nat) : Nat := lcmL ((cycs f n n).map List.length)
theorem Pm.it_id (h : Pm f n) {x i : Nat} (hx : x < n) : it f i x = x ↔ per f n x ∣ i := by
  constructor
  · intro e
    rw [← h.it_mod hx] at e
    refine Nat.dvd_of_mod_eq_zero ?_
    rcases Nat.eq_zero_or_pos (i % per f n x) with h0 | h0
    · exact h0
    · exact ((h.per_spec hx).2.2 _ h0 (Nat.mod_lt _ (per_pos f n x)) e).elim
  · rintro ⟨k, rfl⟩
    exact h.it_mul hx k
theorem Pm.round (h : Pm f n) {i : Nat} : (∀ x, x < n → it f i x = x) ↔ perd f n ∣ i := by
  unfold perd
  rw [lcmL_dvd]
  constructor
  · intro hx m hm
    obtain ⟨o, ho, rfl⟩ := List.mem_map.1 hm
    obtain ⟨s, hs, rfl⟩ := cycs_mem ho
    rw [orb_length]
    exact (h.it_id hs).1 (hx s hs)
  · intro hm x hx
    obtain ⟨o, ho, hxo⟩ := h.cycs_all hx
    obtain ⟨s, hs, rfl⟩ := cycs_mem ho
    obtain ⟨k, rfl⟩ := (h.mem_orb hs).1 hxo
    have := hm (orb f n s).length (List.mem_map.2 ⟨_, ho, rfl⟩)
    rw [orb_length] at this
    exact (h.it_id hx).2 (by rw [h.per_it hs]; exact this)
end
end Go.Ev
namespace Go.Ev
open Go.Proofs
abbrev w64 (n : Nat) : AV := .v (.int .u64 n)
def blkV (c v : Nat) : AB := .cells (match c with | 0 => [w64 v] | _ => [w64 v, w64 0]) 145 0
def decS (n : Nat) : ByteArray := ⟨match Nat.blt n 10 with | true => #[UInt8.ofNat (48 + n)] | false => #[UInt8.ofNat (48 + n / 10), UInt8.ofNat (48 + n % 10)]⟩
abbrev txt (n : Nat) : AV := .v (.string (decS n))
abbrev igr (b c : Nat) : AV := .agg [.v (.bool false), .slc b 0 1 c]
abbrev frc (b c : Nat) : AV := .agg [.v (.bool false), .slc b 0 1 c, .v (.slice none 0 0)]
def mIO (m : Nat) : Memo := ⟨52, 0, [.v (.int .i64 m)], [], [], igr 1 1, 2, [(1, .cells [w64 m] 145 0)]⟩
def mCM (c v m : Nat) : Memo := ⟨53, 2, [igr 0 (c + 1), igr 1 1], [(0, 0, 1), (0, 1, 1)], [blkV c v, .cells [w64 m] 145 0], igr 28 2, 30, [(28, blkV 1 (Nat.lcm v m))]⟩
def mWH (c v : Nat) : Memo := ⟨55, 1, [igr 0 (c + 1)], [(0, 0, 1)], [blkV c v], frc 0 (c + 1), 2, []⟩
def mWR (c v : Nat) : Memo := ⟨54, 1, [frc 0 (c + 1)], [(0, 0, 1)], [blkV c v], .tup [txt v, .v (.int .i64 0)], 5, []⟩
def mFI (i : Nat) : Memo := ⟨34, 0, [.v (.int .i64 i)], [], [], txt i, 5, []⟩
end Go.Ev
namespace Go.Ev
open Go.Proofs
def AllP {α : Type} (p : α → Prop) : List α → Prop
  | [] => True
  | a :: l => p a ∧ AllP p l
theorem AllP.mem {α : Type} {p : α → Prop} : ∀ {l : List α}, AllP p l → ∀ a ∈ l, p a
  | [], _, a, h => by simp at h
  | b :: l, h, a, ha => by
    rcases List.mem_cons.1 ha with rfl | ha
    · exact h.1
    · exact AllP.mem h.2 a ha
def pairsL : List (Nat × Nat × Nat) := [(0, 1, 1), (0, 1, 2), (0, 1, 3), (0, 1, 4), (0, 1, 5), (0, 1, 6), (0, 1, 7), (0, 1, 8), (0, 1, 9), (0, 1, 10), (0, 1, 11), (0, 1, 12), (1, 1, 1), (1, 1, 2), (1, 1, 3), (1, 1, 4), (1, 1, 5), (1, 1, 6), (1, 1, 7), (1, 1, 8), (1, 1, 9), (1, 1, 10), (1, 1, 11), (1, 2, 1), (1, 2, 2), (1, 2, 3), (1, 2, 4), (1, 2, 5), (1, 2, 6), (1, 2, 7), (1, 2, 8), (1, 2, 9), (1, 2, 10), (1, 3, 1), (1, 3, 2), (1, 3, 3), (1, 3, 4), (1, 3, 5), (1, 3, 6), (1, 3, 7), (1, 3, 8), (1, 3, 9), (1, 4, 1), (1, 4, 2), (1, 4, 3), (1, 4, 4), (1, 4, 5), (1, 4, 6), (1, 4, 7), (1, 4, 8), (1, 5, 1), (1, 5, 2), (1, 5, 3), (1, 5, 4), (1, 5, 5), (1, 5, 6), (1, 5, 7), (1, 6, 1), (1, 6, 2), (1, 6, 3), (1, 6, 4), (1, 6, 5), (1, 6, 6), (1, 6, 7), (1, 7, 1), (1, 7, 2), (1, 7, 3), (1, 7, 4), (1, 7, 5), (1, 8, 1), (1, 8, 2), (1, 8, 3), (1, 8, 4), (1, 9, 1), (1, 9, 2), (1, 9, 3), (1, 10, 1), (1, 10, 2), (1, 10, 3), (1, 10, 4), (1, 10, 5), (1, 11, 1), (1, 12, 1), (1, 12, 2), (1, 12, 3), (1, 12, 4), (1, 12, 5), (1, 14, 1), (1, 14, 2), (1, 14, 3), (1, 15, 1), (1, 15, 2), (1, 15, 3), (1, 15, 4), (1, 18, 1), (1, 20, 1), (1, 20, 2), (1, 20, 3), (1, 21, 1), (1, 21, 2), (1, 24, 1), (1, 28, 1), (1, 30, 1), (1, 30, 2)]
def valsL : List (Nat × Nat) := [(0, 1), (1, 1), (1, 2), (1, 3), (1, 4), (1, 5), (1, 6), (1, 7), (1, 8), (1, 9), (1, 10), (1, 11), (1, 12), (1, 14), (1, 15), (1, 18), (1, 20), (1, 21), (1, 24), (1, 28), (1, 30), (1, 35), (1, 42), (1, 60)]
end Go.Ev
namespace Go.Ev
open Go.Proofs
noncomputable def cellV (H : AH) (b : Nat) : Nat := match H.get b with | some (.cells (.v (.int _ n) :: _) _ _) => n.toNat | _ => 0
noncomputable def perM (g : FuncId) (args : List AV) (H : AH) : Option Memo :=
  match args with
  | [.v (.int _ n)] => if g = 52 ∧ n.toNat ∈ [1, 2, 3, 4, 5, 6, 7, 8, 9, 10, 11, 12] then some (mIO n.toNat) else if g = 34 ∧ n.toNat ∈ [1, 2, 3, 4, 5, 6, 7, 8, 9, 10, 11, 12, 13, 14, 15, 16, 17, 18, 19, 20, 21, 22, 23, 24, 25, 26, 27, 28, 29, 30, 31, 32, 33, 34, 35, 36, 37, 38, 39, 40, 41, 42, 43, 44, 45, 46, 47, 48, 49, 50, 51, 52, 53, 54, 55, 56, 57, 58, 59, 60] then some (mFI n.toNat) else none
  | [.agg [_, .slc b _ _ c]] => if g = 55 ∧ (c - 1, cellV H b) ∈ valsL then some (mWH (c - 1) (cellV H b)) else none
  | [.agg [_, .slc b _ _ c, _]] => if g = 54 ∧ (c - 1, cellV H b) ∈ valsL then some (mWR (c - 1) (cellV H b)) else none
  | [.agg [_, .slc b _ _ c], .agg [_, .slc b' _ _ _]] => if g = 53 ∧ (c - 1, cellV H b, cellV H b') ∈ pairsL then some (mCM (c - 1) (cellV H b) (cellV H b')) else none
  | _ => none
noncomputable def perO : CallF := fun g args H => match perM g args H with | some m => memoF m args H | none => none
end Go.Ev
namespace Go.Ev
open Go.Proofs
class Two (t : TypeId) (z0 z1 : outParam Value) : Prop where
  s : runPure Tryz.prog (sizeOf t) = some 2
  a : runPure Tryz.prog (isAgg t) = some true
  z : runPure Tryz.prog (zeroValue t) = some (.agg #[z0, z1])
instance : Two 89 (.bool false) (.slice none 0 0) := ⟨by kernel_rfl, by kernel_rfl, by kernel_rfl⟩
section
variable {O : CallF} {T : List AV} {H H0 : AH} {ops : Array Oper} {o : Oper} {K : AV → AH → Prop}
end
def statJ (ops : Array Oper) (π : List Stp) (j : Nat) : Bool := (mobsOf π).all fun i => (match ops.toList[i]? with | some o => !looksB o | none => false) || waitsB ops j i
section
variable {E : Env} {g : FuncId} {rd : Bool} {T : List AV} {M : List Nat} {H H0 : AH} {Q : QX} {ops : Array Oper}
variable {π0 π : List Stp} {B : Nat → Prop} {i : Nat} {K : List AV → AH → Prop}
end
section
variable {f : Nat → Nat} {n : Nat}
end
variable {O : CallF} (hq : Quiet O)
include hq
end Go.Ev
namespace Go.Ev
open Go.Proofs
def Pers (O : CallF) : Prop := ∀ g args H, (Nat.beq g 34 || (Nat.ble 52 g && Nat.ble g 55)) = true → O g args H = perO g args H
variable {O : CallF} (hq : Quiet O) (hP : Pers O)
include hq hP
end Go.Ev
namespace Go.Ev
open Go.Proofs
section
variable {E : Env} {T : List AV} {H : AH} {ops : Array Oper} {o : Oper} {K : AV → AH → Prop}
end
theorem Wp.cut {E : Env} {g : FuncId} {rd : Bool} {T : List AV} {M : List Nat} {H : AH} {Q : QX} {c : Code} (I : List AV → Prop) (h : I T) (hw : ∀ T, I T → Wp E g rd c T M H Q) : Wp E g rd c T M H Q := hw T h
theorem WOps.cut {E : Env} {ops : Array Oper} {l : List Oper} {T : List AV} {H : AH} {K : List AV → AH → Prop} (I : List AV → Prop) (h : I T) (hw : ∀ T, I T → WOps E ops l T H K) : WOps E ops l T H K := hw T h
end Go.Ev
