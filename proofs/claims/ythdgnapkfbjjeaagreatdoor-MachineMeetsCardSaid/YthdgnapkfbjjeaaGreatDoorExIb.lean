/- Part of an evaluator of calls that is proved sound, and of what it gives about this program. No condition of its own. -/
import Derived.Test.YthdgnapkfbjjeaaGreatDoorExHu
set_option linter.unusedVariables false
set_option linter.unusedSimpArgs false
set_option linter.unusedSectionVars false
set_option maxRecDepth 100000
set_option maxHeartbeats 4000000
set_option maxRecDepth 1000000
set_option maxHeartbeats 8000000
namespace Go.Ev
open Go.Proofs
def subL : Nat → Int → List (List Int)
 | 0, _ => [[]]
 | k + 1, lo => subL k (lo + 1) ++ (subL k (lo + 1)).map (lo :: ·)
def asc : Int → Int → List Int → Prop
 | _, _, [] => True
 | lo, hi, z :: l => lo ≤ z ∧ z < hi ∧ asc (z + 1) hi l
theorem asc_sub : ∀ (k : Nat) (lo : Int) (l : List Int), asc lo (lo + k) l → l ∈ subL k lo
 | 0, lo, [], _ => by simp [subL]
 | 0, lo, z :: l, h => by have := h.1; have := h.2.1; omega
 | k + 1, lo, [], _ => by
   rw [subL, List.mem_append]
   exact .inl (asc_sub k (lo + 1) [] trivial)
 | k + 1, lo, z :: l, ⟨h1, h2, h3⟩ => by
   rw [subL, List.mem_append]
   by_cases e : z = lo
   · subst e
     right
     rw [List.mem_map]
     refine ⟨l, asc_sub k (z + 1) l ?_, rfl⟩
     rw [show z + 1 + (k : Int) = z + ((k + 1 : Nat) : Int) by omega]
     exact h3
   · left
     refine asc_sub k (lo + 1) (z :: l) ⟨by omega, by omega, ?_⟩
     rw [show lo + 1 + (k : Int) = lo + ((k + 1 : Nat) : Int) by omega]
     exact h3
def leB (p : Option Int) (z : Int) : Bool := match p with | some y => decide (z ≤ y) | none => false
theorem swE_cons2 (m : Mc) (p : Option Int) (z : Int) (l : List Int) : swE m p (z :: l) = if shB m z = false then 10 else if leB p z = true then 11 else swE m (some z) l := rfl
theorem swE_asc {m : Mc} : ∀ (p : Option Int) (l : List Int), swE m p l = 0 → asc (match p with | some y => max (y + 1) (fsE m) | none => fsE m) m.g l
 | _, [], _ => trivial
 | p, z :: l, h => by
   by_cases hs : shB m z = false
   · rw [swE_cons2, if_pos hs] at h; cases h
   have hsh : shB m z = true := by simpa using hs
   have hb : (fsE m : Int) ≤ z ∧ z ≤ m.g - 1 := by
     have : (if m.ring = true then (0 : Int) else 1) ≤ z ∧ z ≤ m.g - 1 := of_decide_eq_true hsh
     unfold fsE
     split at this <;> rename_i hr <;> simp [hr] <;> exact this
   by_cases h2 : leB p z = true
   · rw [swE_cons2, if_neg hs, if_pos h2] at h; cases h
   rw [swE_cons2, if_neg hs, if_neg h2] at h
   have ih := swE_asc (some z) l h
   refine ⟨?_, by omega, ?_⟩
   · cases p with
     | none => exact hb.1
     | some y =>
       have : ¬ z ≤ y := by simpa [leB] using h2
       show max (y + 1) (fsE m : Int) ≤ z
       omega
   · have e : max (z + 1) (fsE m : Int) = z + 1 := by omega
     rw [← e]
     exact ih
def allM (n : Nat) : List Mc := (List.range (n + 1)).flatMap fun g => [1, -1].flatMap fun t => (subL (g - 1) 1).map (fun s => ⟨false, g, t, s⟩) ++ (subL g 0).map (fun s => ⟨true, g, t, s⟩)
theorem mem_allM {m : Mc} {n : Nat} (h : mE m = 0) (hn : m.g ≤ n) : m ∈ allM n := by
 have hg := mE_g h
 have hsw : swE m none m.sw = 0 ∧ (m.t = 1 ∨ m.t = -1) := by
   unfold mE at h
   split at h
   · cases h
   split at h
   · cases h
   split at h
   · cases h
   rename_i ht
   split at h
   · cases h
   exact ⟨h, by omega⟩
 have hasc := swE_asc none m.sw hsw.1
 obtain ⟨ring, g, t, sw⟩ := m
 simp only at hn hg hsw hasc
 obtain ⟨k, rfl⟩ := Int.eq_ofNat_of_zero_le (show 0 ≤ g by omega)
 unfold allM
 rw [List.mem_flatMap]
 refine ⟨k, List.mem_range.2 (by omega), ?_⟩
 rw [List.mem_flatMap]
 refine ⟨t, by simpa using hsw.2, ?_⟩
 rw [List.mem_append]
 cases ring with
 | false =>
   left
   rw [List.mem_map]
   refine ⟨sw, asc_sub (k - 1) 1 sw ?_, rfl⟩
   rw [show (1 : Int) + ((k - 1 : Nat) : Int) = (k : Int) by omega]
   exact hasc
 | true =>
   right
   rw [List.mem_map]
   refine ⟨sw, asc_sub k 0 sw ?_, rfl⟩
   rw [show (0 : Int) + (k : Int) = (k : Int) by omega]
   exact hasc
end Go.Ev
namespace Go.Ev
open Go.Proofs
def thr (p l : List Int) : List Int := l.map fun z => p.getD z.toNat 0
def pw (p : List Int) : Nat → List Int
 | 0 => p
 | k + 1 => thr (pw p k) (pw p k)
def p240 (p : List Int) : List Int := thr (pw p 7) (thr (pw p 6) (thr (pw p 5) (pw p 4)))
def okM (m : Mc) : Bool := decide (p240 (permL m m.g.toNat) = idL (4 * m.g.toNat)) && (permL m m.g.toNat).all fun z => decide (0 ≤ z ∧ z < 4 * m.g)
theorem chk0 : (((allM 6).drop 0).take 20).all (fun m => decide (m.g = 0) || okM m) = true := by kernel_rfl
theorem chk1 : (((allM 6).drop 20).take 20).all (fun m => decide (m.g = 0) || okM m) = true := by kernel_rfl
theorem chk2 : (((allM 6).drop 40).take 20).all (fun m => decide (m.g = 0) || okM m) = true := by kernel_rfl
theorem chk3 : (((allM 6).drop 60).take 20).all (fun m => decide (m.g = 0) || okM m) = true := by kernel_rfl
theorem chk4 : (((allM 6).drop 80).take 20).all (fun m => decide (m.g = 0) || okM m) = true := by kernel_rfl
theorem chk5 : (((allM 6).drop 100).take 20).all (fun m => decide (m.g = 0) || okM m) = true := by kernel_rfl
theorem chk6 : (((allM 6).drop 120).take 20).all (fun m => decide (m.g = 0) || okM m) = true := by kernel_rfl
theorem chk7 : (((allM 6).drop 140).take 20).all (fun m => decide (m.g = 0) || okM m) = true := by kernel_rfl
theorem chk8 : (((allM 6).drop 160).take 20).all (fun m => decide (m.g = 0) || okM m) = true := by kernel_rfl
theorem chk9 : (((allM 6).drop 180).take 20).all (fun m => decide (m.g = 0) || okM m) = true := by kernel_rfl
theorem chk10 : (((allM 6).drop 200).take 20).all (fun m => decide (m.g = 0) || okM m) = true := by kernel_rfl
theorem chk11 : (((allM 6).drop 220).take 20).all (fun m => decide (m.g = 0) || okM m) = true := by kernel_rfl
theorem chk12 : (((allM 6).drop 240).take 20).all (fun m => decide (m.g = 0) || okM m) = true := by kernel_rfl
theorem chk13 : (((allM 6).drop 260).take 20).all (fun m => decide (m.g = 0) || okM m) = true := by kernel_rfl
theorem chk14 : (((allM 6).drop 280).take 20).all (fun m => decide (m.g = 0) || okM m) = true := by kernel_rfl
theorem chk15 : (((allM 6).drop 300).take 20).all (fun m => decide (m.g = 0) || okM m) = true := by kernel_rfl
theorem chk16 : (((allM 6).drop 320).take 20).all (fun m => decide (m.g = 0) || okM m) = true := by kernel_rfl
theorem chk17 : (((allM 6).drop 340).take 20).all (fun m => decide (m.g = 0) || okM m) = true := by kernel_rfl
theorem chk18 : (((allM 6).drop 360).take 20).all (fun m => decide (m.g = 0) || okM m) = true := by kernel_rfl
theorem chk19 : (((allM 6).drop 380).take 20).all (fun m => decide (m.g = 0) || okM m) = true := by kernel_rfl
theorem allM6_len : Nat.ble (allM 6).length 400 = true := by kernel_rfl
theorem chkA : ∀ i, i < 20 → (((allM 6).drop (i * 20)).take 20).all (fun m => decide (m.g = 0) || okM m) = true
 | 0, _ => chk0
 | 1, _ => chk1
 | 2, _ => chk2
 | 3, _ => chk3
 | 4, _ => chk4
 | 5, _ => chk5
 | 6, _ => chk6
 | 7, _ => chk7
 | 8, _ => chk8
 | 9, _ => chk9
 | 10, _ => chk10
 | 11, _ => chk11
 | 12, _ => chk12
 | 13, _ => chk13
 | 14, _ => chk14
 | 15, _ => chk15
 | 16, _ => chk16
 | 17, _ => chk17
 | 18, _ => chk18
 | 19, _ => chk19
 | n + 20, h => by omega
theorem okM_all {m : Mc} (h : mE m = 0) (hg : m.g ≤ 6) : okM m = true := by
 have hg1 := mE_g h
 have hm := mem_allM (n := 6) h hg
 obtain ⟨j, hj⟩ := List.getElem?_of_mem hm
 have hl := Nat.le_of_ble_eq_true allM6_len
 have hjl := (List.getElem?_eq_some_iff.1 hj).1
 have hc := List.all_eq_true.1 (chkA (j / 20) (by omega)) m (List.mem_of_getElem? (i := j % 20) (by
   rw [List.getElem?_take, if_pos (Nat.mod_lt _ (by decide)), List.getElem?_drop, Nat.div_add_mod' j 20]
   exact hj))
 have h0 : ¬ m.g = 0 := by omega
 simpa [h0] using hc
end Go.Ev
