/- Part of an evaluator of calls that is proved sound, and of what it gives about this program. No condition of its own. -/
import Derived.Test.YtcbmpnddhnkfnaaGreatDoorEvFive
import Derived.Test.YtcbmpnddhnkfnaaGreatDoorEvSevenE
import Derived.Test.YtcbmpnddhnkfnaaGreatDoorEvG0
import Derived.Test.YtcbmpnddhnkfnaaGreatDoorExHa
import Derived.Test.YtcbmpnddhnkfnaaGreatDoorEwUb
import Derived.Test.YtcbmpnddhnkfnaaGreatDoorEwSa
import Derived.Test.YtcbmpnddhnkfnaaGreatDoorEwKf
set_option linter.unusedVariables false
set_option linter.unusedSimpArgs false
set_option linter.unusedSectionVars false
set_option maxRecDepth 1000000
set_option maxRecDepth 100000
set_option maxHeartbeats 4000000
namespace Go.Ev
open Go.Proofs
def AllP {α : Type} (p : α → Prop) : List α → Prop
 | [] => True
 | a :: l => p a ∧ AllP p l
theorem AllP.mem {α : Type} {p : α → Prop} : ∀ {l : List α}, AllP p l → ∀ a ∈ l, p a
 | [], _, a, h => by simp at h
 | b :: l, h, a, ha => by
   rcases List.mem_cons.1 ha with rfl | ha
   · exact h.1
   · exact AllP.mem h.2 a ha
def valsL : List Nat := [4, 8, 12, 16, 20, 24, 28, 32, 36, 40, 44, 48, 52, 56, 60, 64, 72, 80, 84, 88, 96, 104, 112, 120, 132, 140, 144, 156, 160, 168, 176, 180, 220, 224, 240, 252, 264, 280, 336, 360, 420, 480, 560]
end Go.Ev
namespace Go.Ev
open Go.Proofs
class Two (t : TypeId) (z0 z1 : outParam Value) : Prop where
 s : runPure Tryz.prog (sizeOf t) = some 2
 a : runPure Tryz.prog (isAgg t) = some true
 z : runPure Tryz.prog (zeroValue t) = some (.agg #[z0, z1])
instance : Two 164 (.bool false) (.slice none 0 0) := ⟨by kernel_rfl, by kernel_rfl, by kernel_rfl⟩
section
variable {O : CallF} {T : List AV} {H H0 : AH} {ops : Array Oper} {o : Oper} {K : AV → AH → Prop}
end
def lcmU : Nat → List Nat
 | 0 => [1]
 | 1 => [1]
 | 2 => [1, 2]
 | 3 => [1, 2, 3]
 | 4 => [1, 2, 3, 4]
 | 5 => [1, 2, 3, 4, 5, 6]
 | 6 => [1, 2, 3, 4, 5, 6]
 | 7 => [1, 2, 3, 4, 5, 6, 7, 10, 12]
 | 8 => [1, 2, 3, 4, 5, 6, 7, 8, 10, 12, 15]
 | 9 => [1, 2, 3, 4, 5, 6, 7, 8, 9, 10, 12, 14, 15, 20]
 | 10 => [1, 2, 3, 4, 5, 6, 7, 8, 9, 10, 12, 14, 15, 20, 21, 30]
 | 11 => [1, 2, 3, 4, 5, 6, 7, 8, 9, 10, 11, 12, 14, 15, 18, 20, 21, 24, 28, 30]
 | 12 => [1, 2, 3, 4, 5, 6, 7, 8, 9, 10, 11, 12, 14, 15, 18, 20, 21, 24, 28, 30, 35, 42, 60]
 | 13 => [1, 2, 3, 4, 5, 6, 7, 8, 9, 10, 11, 12, 13, 14, 15, 18, 20, 21, 22, 24, 28, 30, 35, 36, 40, 42, 60]
 | 14 => [1, 2, 3, 4, 5, 6, 7, 8, 9, 10, 11, 12, 13, 14, 15, 18, 20, 21, 22, 24, 28, 30, 33, 35, 36, 40, 42, 45, 60, 70, 84]
 | 15 => [1, 2, 3, 4, 5, 6, 7, 8, 9, 10, 11, 12, 13, 14, 15, 18, 20, 21, 22, 24, 26, 28, 30, 33, 35, 36, 40, 42, 44, 45, 56, 60, 70, 84, 105]
 | _ => [1, 2, 3, 4, 5, 6, 7, 8, 9, 10, 11, 12, 13, 14, 15, 16, 18, 20, 21, 22, 24, 26, 28, 30, 33, 35, 36, 39, 40, 42, 44, 45, 55, 56, 60, 63, 66, 70, 84, 90, 105, 120, 140]
theorem lcmU_step : ((List.range 17).all fun s => (lcmU s).all fun v => (List.range 17).all fun m => m == 0 || Nat.blt 16 (s + m) || (lcmU (s + m)).contains (Nat.lcm v m)) = true := by decide +kernel
theorem lcmU_foldl : ∀ (l : List Nat) (s v : Nat), v ∈ lcmU s → (∀ m ∈ l, 0 < m) → s + l.sum ≤ 16 → l.foldl Nat.lcm v ∈ lcmU (s + l.sum)
 | [], s, v, hv, _, _ => by simpa using hv
 | m :: l, s, v, hv, hp, hs => by
   rw [List.foldl_cons]
   rw [List.sum_cons] at hs ⊢
   have hm := hp m (by simp)
   have h1 := lcmU_step
   rw [List.all_eq_true] at h1
   have h2 := h1 s (List.mem_range.2 (by omega))
   rw [List.all_eq_true] at h2
   have h3 := h2 v hv
   rw [List.all_eq_true] at h3
   have h4 := h3 m (List.mem_range.2 (by omega))
   have e1 : (m == 0) = false := by simp; omega
   have e2 : Nat.blt 16 (s + m) = false := by
     cases h : Nat.blt 16 (s + m) with
     | false => rfl
     | true => have : 16 < s + m := Nat.le_of_ble_eq_true h; omega
   rw [e1, e2] at h4
   simp only [Bool.false_or] at h4
   have := lcmU_foldl l (s + m) (Nat.lcm v m) (List.contains_iff_mem.1 h4) (fun m hm => hp m (by simp [hm])) (by omega)
   rwa [Nat.add_assoc] at this
theorem foldl_four (l : List Nat) : ∀ v, (l.map (4 * ·)).foldl Nat.lcm (4 * v) = 4 * l.foldl Nat.lcm v := by
 induction l with
 | nil => intro v; rfl
 | cons a l ih =>
   intro v
   show (l.map (4 * ·)).foldl Nat.lcm (Nat.lcm (4 * v) (4 * a)) = 4 * l.foldl Nat.lcm (Nat.lcm v a)
   rw [Nat.lcm_mul_left]
   exact ih _
theorem lcmL_four {l : List Nat} (h : l ≠ []) : lcmL (l.map (4 * ·)) = 4 * lcmL l := by
 cases l with
 | nil => exact absurd rfl h
 | cons a l =>
   show (l.map (4 * ·)).foldl Nat.lcm (Nat.lcm 1 (4 * a)) = 4 * l.foldl Nat.lcm (Nat.lcm 1 a)
   rw [Nat.lcm_one_left, Nat.lcm_one_left]
   exact foldl_four l a
structure Fr (f : Nat → Nat) (n : Nat) : Prop where
 pm : Pm f (4 * n)
 hn1 : 1 ≤ n
 hn : n ≤ 16
 h4 : ∀ x, x < 4 * n → 4 ∣ per f (4 * n) x
def prt (f : Nat → Nat) (n : Nat) : List Nat := (lens f (4 * n)).map (· / 4)
section
variable {f : Nat → Nat} {n : Nat}
theorem Fr.lens (h : Fr f n) : Go.Ev.lens f (4 * n) = (prt f n).map (4 * ·) := by
 unfold prt
 rw [List.map_map]
 refine (List.map_id _).symm.trans (List.map_congr_left fun m hm => ?_)
 obtain ⟨o, ho, rfl⟩ := List.mem_map.1 hm
 obtain ⟨s, hs, rfl⟩ := cycs_mem ho
 rw [orb_length]
 have := h.h4 s hs
 show per f (4 * n) s = 4 * (per f (4 * n) s / 4)
 omega
theorem Fr.prt_pos (h : Fr f n) : ∀ y ∈ prt f n, 0 < y := fun y hy => by
 have h1 : 4 * y ∈ Go.Ev.lens f (4 * n) := by rw [h.lens]; exact List.mem_map.2 ⟨y, hy, rfl⟩
 have := lens_pos _ h1
 omega
theorem sum_four (l : List Nat) : (l.map (4 * ·)).sum = 4 * l.sum := by
 induction l with
 | nil => rfl
 | cons a l ih => simp only [List.map_cons, List.sum_cons, ih]; omega
theorem Fr.prt_sum (h : Fr f n) : (prt f n).sum ≤ n := by
 have h1 : (Go.Ev.lens f (4 * n)).sum ≤ 4 * n := h.pm.sum_le
 rw [h.lens, sum_four] at h1
 omega
theorem Fr.prt_ne (h : Fr f n) : prt f n ≠ [] := fun e => by
 obtain ⟨o, ho, _⟩ := h.pm.cycs_all (x := 0) (by have := h.hn1; omega)
 have h1 : Go.Ev.lens f (4 * n) = [] := by rw [h.lens, e]; rfl
 unfold Go.Ev.lens at h1
 rw [List.map_eq_nil_iff.1 h1] at ho
 cases ho
theorem Fr.take_mem (h : Fr f n) (i : Nat) : lcmL ((prt f n).take i) ∈ lcmU (((prt f n).take i).sum) ∧ ((prt f n).take i).sum ≤ 16 := by
 have h1 := h.prt_sum
 have h0 := h.hn
 have h2 := sum_take_le (prt f n) i
 have := lcmU_foldl ((prt f n).take i) 0 1 (by simp [lcmU]) (fun m hm => h.prt_pos m (List.mem_of_mem_take hm)) (by omega)
 rw [Nat.zero_add] at this
 exact ⟨this, by omega⟩
theorem Fr.lcm_take (h : Fr f n) (i : Nat) : lcmL ((Go.Ev.lens f (4 * n)).take (i + 1)) = 4 * lcmL ((prt f n).take (i + 1)) := by
 rw [h.lens, ← List.map_take]
 refine lcmL_four fun e => ?_
 have := h.prt_ne
 cases hp : prt f n with
 | nil => exact this hp
 | cons a l => rw [hp] at e; simp at e
theorem fr_vals : ((List.range 17).all fun s => s == 0 || (lcmU s).all fun v => valsL.contains (4 * v)) = true := by decide +kernel
theorem Fr.sum_pos (h : Fr f n) (i : Nat) : 0 < ((prt f n).take (i + 1)).sum := by
 cases hp : prt f n with
 | nil => exact absurd hp h.prt_ne
 | cons a l =>
   have := h.prt_pos a (by rw [hp]; exact List.mem_cons_self)
   simp only [List.take_succ_cons, List.sum_cons]
   omega
theorem Fr.vals_mem (h : Fr f n) (i : Nat) : lcmL ((Go.Ev.lens f (4 * n)).take (i + 1)) ∈ valsL := by
 rw [h.lcm_take]
 obtain ⟨h1, h2⟩ := h.take_mem (i + 1)
 have h3 := fr_vals
 rw [List.all_eq_true] at h3
 have h4 := h3 _ (List.mem_range.2 (show ((prt f n).take (i + 1)).sum < 17 by omega))
 have hp := h.sum_pos i
 rw [show (((prt f n).take (i + 1)).sum == 0) = false by simp; omega, Bool.false_or, List.all_eq_true] at h4
 exact List.contains_iff_mem.1 (h4 _ h1)
theorem Fr.perd_mem (h : Fr f n) : perd f (4 * n) ∈ valsL := by
 have h1 := h.vals_mem (Go.Ev.lens f (4 * n)).length
 rw [List.take_of_length_le (by omega)] at h1
 exact h1
end
theorem permL_fr {m : Mc} {n : Nat} (hg : m.g = n) (hn1 : 1 ≤ n) (hn : n ≤ 16) (h : mE m = 0) : Fr (fOf (permL m n)) n :=
 ⟨by have := (permL_okP hg).pm; rw [permL_len hg] at this; exact this, hn1, hn, fun x hx => per_four hg h hx⟩
end Go.Ev
