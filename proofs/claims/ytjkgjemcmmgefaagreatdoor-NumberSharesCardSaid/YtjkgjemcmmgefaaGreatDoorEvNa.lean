/- Part of an evaluator of calls that is proved sound, and of what it gives about this program. No condition of its own. -/
import Derived.Test.YtjkgjemcmmgefaaGreatDoorEwHa
import Derived.Test.YtjkgjemcmmgefaaGreatDoorEwI1
set_option linter.unusedVariables false
set_option linter.unusedSimpArgs false
set_option linter.unusedSectionVars false
set_option maxRecDepth 100000
set_option maxHeartbeats 4000000
namespace Go.Ev
def fl (g : Nat → Int) (n : Nat) : List Int := (List.range n).map g
theorem fl_length (g : Nat → Int) (n : Nat) : (fl g n).length = n := by simp [fl]
theorem fl_get {g : Nat → Int} {n i : Nat} (h : i < n) : (fl g n)[i]? = some (g i) := by simp [fl, h]
def upd (g : Nat → Int) (i : Nat) (v : Int) : Nat → Int := fun j => if j = i then v else g j
theorem fl_set (g : Nat → Int) (n i : Nat) (v : Int) : (fl g n).set i v = fl (upd g i v) n := by
  apply List.ext_getElem?
  intro j
  rcases Nat.lt_or_ge j n with hj | hj
  · rw [fl_get hj]
    by_cases e : j = i
    · subst e
      rw [List.getElem?_set_self (by rw [fl_length]; exact hj)]
      simp [upd]
    · rw [List.getElem?_set_ne (Ne.symm e), fl_get hj]
      simp [upd, e]
  · rw [List.getElem?_eq_none (by rw [List.length_set, fl_length]; exact hj), List.getElem?_eq_none (by rw [fl_length]; exact hj)]
def swp (g : Nat → Int) (a c m : Nat) : Nat → Int := fun j => if a ≤ j ∧ j < a + m then g (j - a + c) else if c ≤ j ∧ j < c + m then g (j - c + a) else g j
def rot (g : Nat → Int) (a m e : Nat) : Nat → Int := fun j => if a ≤ j ∧ j < a + (e - m) then g (j - a + m) else if a + (e - m) ≤ j ∧ j < e then g (j - (a + (e - m)) + a) else g j
theorem swp_zero (g : Nat → Int) (a c : Nat) : swp g a c 0 = g := by
  funext j
  unfold swp
  rw [if_neg (by omega), if_neg (by omega)]
theorem swp_succ (g : Nat → Int) {a c i : Nat} (h : a + (i + 1) ≤ c) : upd (upd (swp g a c i) (a + i) (g (c + i))) (c + i) (g (a + i)) = swp g a c (i + 1) := by
  funext j
  unfold upd swp
  by_cases h1 : j = c + i
  · subst h1
    rw [if_pos rfl, if_neg (by omega), if_pos (by omega), show c + i - c + a = a + i by omega]
  · rw [if_neg h1]
    by_cases h2 : j = a + i
    · subst h2
      rw [if_pos rfl, if_pos (by omega), show a + i - a + c = c + i by omega]
    · rw [if_neg h2]
      by_cases h3 : a ≤ j ∧ j < a + i
      · rw [if_pos h3, if_pos (by omega)]
      · rw [if_neg h3]
        by_cases h4 : c ≤ j ∧ j < c + i
        · rw [if_pos h4, if_neg (by omega), if_pos (by omega)]
        · rw [if_neg h4, if_neg (by omega), if_neg (by omega)]
theorem swp_at1 (g : Nat → Int) {a c i : Nat} (h : a + (i + 1) ≤ c) : swp g a c i (c + i) = g (c + i) := by unfold swp; rw [if_neg (by omega), if_neg (by omega)]
theorem swp_at2 (g : Nat → Int) {a c i : Nat} (h : a + (i + 1) ≤ c) : swp g a c i (a + i) = g (a + i) := by unfold swp; rw [if_neg (by omega), if_neg (by omega)]
theorem rot_id (g : Nat → Int) {a m e : Nat} (h : a = m ∨ e = m) (h1 : a ≤ m) (h2 : m ≤ e) : rot g a m e = g := by
  funext j
  unfold rot
  by_cases h3 : a ≤ j ∧ j < a + (e - m)
  · rw [if_pos h3]
    rcases h with rfl | rfl
    · rw [show j - a + a = j by omega]
    · omega
  · rw [if_neg h3]
    by_cases h4 : a + (e - m) ≤ j ∧ j < e
    · rw [if_pos h4]
      rcases h with rfl | rfl
      · omega
      · rw [show j - (a + (e - e)) + a = j by omega]
    · rw [if_neg h4]
theorem rot_gt (g : Nat → Int) {m i j : Nat} (h : j < i) (hi : i ≤ m) : rot (swp g (m - i) m j) (m - (i - j)) m (m + j) = rot g (m - i) m (m + j) := by
  funext k
  unfold rot
  by_cases h1 : m - (i - j) ≤ k ∧ k < m - (i - j) + (m + j - m)
  · rw [if_pos h1]
    by_cases h2 : m - i ≤ k ∧ k < m - i + (m + j - m)
    · omega
    · rw [if_neg h2, if_pos (by omega)]
      unfold swp
      rw [if_neg (by omega), if_pos (by omega)]
      congr 1
      omega
  · rw [if_neg h1]
    by_cases h2 : m - (i - j) + (m + j - m) ≤ k ∧ k < m + j
    · rw [if_pos h2, if_neg (by omega), if_pos (by omega)]
      unfold swp
      rw [if_neg (by omega), if_neg (by omega)]
      congr 1
      omega
    · rw [if_neg h2]
      by_cases h3 : m - i ≤ k ∧ k < m - i + (m + j - m)
      · rw [if_pos h3]
        unfold swp
        rw [if_pos (by omega)]
      · rw [if_neg h3, if_neg (by omega)]
        unfold swp
        rw [if_neg (by omega), if_neg (by omega)]
theorem rot_lt (g : Nat → Int) {m i j : Nat} (h : i < j) (hi : i ≤ m) : rot (swp g (m - i) (m + j - i) i) (m - i) m (m + (j - i)) = rot g (m - i) m (m + j) := by
  funext k
  unfold rot
  by_cases h1 : m - i ≤ k ∧ k < m - i + (m + (j - i) - m)
  · rw [if_pos h1, if_pos (by omega)]
    unfold swp
    rw [if_neg (by omega), if_neg (by omega)]
  · rw [if_neg h1]
    by_cases h2 : m - i + (m + (j - i) - m) ≤ k ∧ k < m + (j - i)
    · rw [if_pos h2, if_pos (by omega)]
      unfold swp
      rw [if_pos (by omega)]
      congr 1
      omega
    · rw [if_neg h2]
      by_cases h3 : m - i + (m + j - m) ≤ k ∧ k < m + j
      · rw [if_neg (by omega), if_pos h3]
        unfold swp
        rw [if_neg (by omega), if_pos (by omega)]
        congr 1
        omega
      · rw [if_neg (by omega), if_neg h3]
        unfold swp
        rw [if_neg (by omega), if_neg (by omega)]
theorem rot_eq (g : Nat → Int) {m i : Nat} (hi : i ≤ m) : swp g (m - i) m i = rot g (m - i) m (m + i) := by
  funext k
  unfold rot swp
  by_cases h1 : m - i ≤ k ∧ k < m - i + i
  · rw [if_pos h1, if_pos (by omega)]
  · rw [if_neg h1]
    by_cases h2 : m ≤ k ∧ k < m + i
    · rw [if_pos h2, if_neg (by omega), if_pos (by omega)]
      congr 1
      omega
    · rw [if_neg h2, if_neg (by omega), if_neg (by omega)]
def seg (g : Nat → Int) (a e : Nat) : List Int := (List.range (e - a)).map fun k => g (a + k)
theorem seg_mem {g : Nat → Int} {a e : Nat} {z : Int} : z ∈ seg g a e ↔ ∃ i, a ≤ i ∧ i < e ∧ g i = z := by
  unfold seg
  rw [List.mem_map]
  constructor
  · rintro ⟨k, hk, rfl⟩
    have := List.mem_range.1 hk
    exact ⟨a + k, by omega, by omega, rfl⟩
  · rintro ⟨i, h1, h2, rfl⟩
    exact ⟨i - a, List.mem_range.2 (by omega), by rw [show a + (i - a) = i by omega]⟩
theorem seg_ext {g h : Nat → Int} {a e : Nat} (H : ∀ i, a ≤ i → i < e → g i = h i) : seg g a e = seg h a e :=
  List.map_congr_left fun k hk => H _ (by omega) (by have := List.mem_range.1 hk; omega)
theorem seg_append (g : Nat → Int) {a m e : Nat} (h1 : a ≤ m) (h2 : m ≤ e) : seg g a e = seg g a m ++ seg g m e := by
  unfold seg
  rw [show e - a = (m - a) + (e - m) by omega, List.range_add, List.map_append, List.map_map]
  congr 1
  apply List.map_congr_left
  intro k _
  show g (a + (m - a + k)) = g (m + k)
  congr 1
  omega
theorem seg_shift {g h : Nat → Int} {a e a' e' : Nat} (hl : e - a = e' - a') (H : ∀ k, k < e - a → g (a + k) = h (a' + k)) : seg g a e = seg h a' e' := by
  unfold seg
  rw [← hl]
  exact List.map_congr_left fun k hk => H k (List.mem_range.1 hk)
theorem rot_seg1 (g : Nat → Int) {a m e : Nat} (h1 : a ≤ m) (h2 : m ≤ e) : seg (rot g a m e) a (a + (e - m)) = seg g m e :=
  seg_shift (by omega) fun k hk => by
    unfold rot
    rw [if_pos (by omega)]
    congr 1
    omega
theorem rot_seg2 (g : Nat → Int) {a m e : Nat} (h1 : a ≤ m) (h2 : m ≤ e) : seg (rot g a m e) (a + (e - m)) e = seg g a m :=
  seg_shift (by omega) fun k hk => by
    unfold rot
    rw [if_neg (by omega), if_pos (by omega)]
    congr 1
    omega
theorem rot_out (g : Nat → Int) {a m e i : Nat} (h : i < a ∨ e ≤ i) (h1 : a ≤ m) (h2 : m ≤ e) : rot g a m e i = g i := by
  unfold rot
  rw [if_neg (by omega), if_neg (by omega)]
theorem rot_perm (g : Nat → Int) {x a m e y : Nat} (hx : x ≤ a) (h1 : a ≤ m) (h2 : m ≤ e) (hy : e ≤ y) : (seg (rot g a m e) x y).Perm (seg g x y) := by
  rw [seg_append (rot g a m e) hx (show a ≤ y by omega), seg_append (rot g a m e) (show a ≤ e by omega) hy, seg_append (rot g a m e) (show a ≤ a + (e - m) by omega) (show a + (e - m) ≤ e by omega), rot_seg1 g h1 h2, rot_seg2 g h1 h2,
    seg_append g hx (show a ≤ y by omega), seg_append g (show a ≤ e by omega) hy, seg_append g h1 h2]
  rw [seg_ext (g := rot g a m e) (h := g) (a := x) (e := a) fun i _ hi => rot_out g (.inl hi) h1 h2, seg_ext (g := rot g a m e) (h := g) (a := e) (e := y) fun i hi _ => rot_out g (.inr hi) h1 h2]
  exact List.Perm.append_left _ (List.Perm.append_right _ List.perm_append_comm)
def Sd (R : Int → Int → Bool) (g : Nat → Int) (a e : Nat) : Prop := ∀ i j, a ≤ i → i < j → j < e → R (g i) (g j) = true
theorem Sd.sub {R : Int → Int → Bool} {g : Nat → Int} {a e a' e' : Nat} (h : Sd R g a e) (h1 : a ≤ a') (h2 : e' ≤ e) : Sd R g a' e' := fun i j hi hij hj => h i j (by omega) hij (by omega)
theorem Sd.ext {R : Int → Int → Bool} {g h : Nat → Int} {a e : Nat} (hs : Sd R g a e) (H : ∀ i, a ≤ i → i < e → g i = h i) : Sd R h a e := fun i j hi hij hj => by
  rw [← H i hi (by omega), ← H j (by omega) hj]; exact hs i j hi hij hj
theorem Sd.shift {R : Int → Int → Bool} {g h : Nat → Int} {a e a' e' : Nat} (hs : Sd R g a e) (hl : e' - a' ≤ e - a) (H : ∀ k, k < e' - a' → h (a' + k) = g (a + k)) : Sd R h a' e' := fun i j hi hij hj => by
  have h1 := H (i - a') (by omega)
  have h2 := H (j - a') (by omega)
  rw [show a' + (i - a') = i by omega] at h1
  rw [show a' + (j - a') = j by omega] at h2
  rw [h1, h2]
  exact hs _ _ (by omega) (by omega) (by omega)
theorem Sd.join {R : Int → Int → Bool} {g : Nat → Int} {a m e : Nat} (h1 : Sd R g a m) (h2 : Sd R g m e) (h3 : ∀ i j, a ≤ i → i < m → m ≤ j → j < e → R (g i) (g j) = true) : Sd R g a e := fun i j hi hij hj => by
  rcases Nat.lt_or_ge j m with hjm | hjm
  · exact h1 i j hi hij hjm
  · rcases Nat.lt_or_ge i m with him | him
    · exact h3 i j hi him hjm hj
    · exact h2 i j him hij hj
end Go.Ev
namespace Go.Ev
open Go.Proofs
class Two (t : TypeId) (z0 z1 : outParam Value) : Prop where
  s : runPure Tryz.prog (sizeOf t) = some 2
  a : runPure Tryz.prog (isAgg t) = some true
  z : runPure Tryz.prog (zeroValue t) = some (.agg #[z0, z1])
instance : Two 89 (.bool false) (.slice none 0 0) := ⟨by kernel_rfl, by kernel_rfl, by kernel_rfl⟩
section
variable {O : CallF} {T : List AV} {H H0 : AH} {ops : Array Oper} {o : Oper} {K : AV → AH → Prop}
end
def statJ (ops : Array Oper) (π : List Stp) (j : Nat) : Bool := (mobsOf π).all fun i => (match ops.toList[i]? with | some o => !looksB o | none => false) || waitsB ops j i
section
variable {E : Env} {g : FuncId} {rd : Bool} {T : List AV} {M : List Nat} {H H0 : AH} {Q : QX} {ops : Array Oper}
variable {π0 π : List Stp} {B : Nat → Prop} {i : Nat} {K : List AV → AH → Prop}
end
section
variable {f : Nat → Nat} {n : Nat}
end
variable {O : CallF} (hq : Quiet O)
include hq
end Go.Ev
namespace Go.Ev
open Go.Proofs
section
variable {E : Env} {T : List AV} {H : AH} {ops : Array Oper} {o : Oper} {K : AV → AH → Prop}
end
theorem Wp.cut {E : Env} {g : FuncId} {rd : Bool} {T : List AV} {M : List Nat} {H : AH} {Q : QX} {c : Code} (I : List AV → Prop) (h : I T) (hw : ∀ T, I T → Wp E g rd c T M H Q) : Wp E g rd c T M H Q := hw T h
theorem WOps.cut {E : Env} {ops : Array Oper} {l : List Oper} {T : List AV} {H : AH} {K : List AV → AH → Prop} (I : List AV → Prop) (h : I T) (hw : ∀ T, I T → WOps E ops l T H K) : WOps E ops l T H K := hw T h
end Go.Ev
