/- Part of an evaluator of calls that is proved sound, and of what it gives about this program. No condition of its own. -/
import Derived.Test.YtcbmpnddhnkfnaaGreatDoorEwHu
import Derived.Test.YtcbmpnddhnkfnaaGreatDoorEwHk
import Derived.Test.YtcbmpnddhnkfnaaGreatDoorEwHc
import Derived.Test.YtcbmpnddhnkfnaaGreatDoorEwKf
set_option linter.unusedVariables false
set_option linter.unusedSimpArgs false
set_option linter.unusedSectionVars false
set_option maxRecDepth 100000
set_option maxHeartbeats 4000000
namespace Go.Ev
open Go.Proofs
def dirE (m : Mc) (j : Nat) : Nat := if fwE m (j : Int) = true then 1 else 3
def tZ (m : Mc) (z : Nat) : Nat := 4 * (z / 4) + (z % 4 + dirE m (z / 4)) % 4
def pvN (n p : Nat) : Nat := if p = 0 then n - 1 else p - 1
def nxG (n j : Nat) : Nat := if j + 1 = n then 0 else j + 1
def crB (m : Mc) (p : Nat) : Bool := decide (fsE m ≤ p) && !decide ((p : Int) ∈ m.sw)
def oZ (c : Nat → Bool) (n k z : Nat) : Nat :=
 if z % 4 = 0 then (if z / 4 < k ∧ c (z / 4) = true then 4 * pvN n (z / 4) + 2 else z)
 else if z % 4 = 2 then (if nxG n (z / 4) < k ∧ c (nxG n (z / 4)) = true then 4 * nxG n (z / 4) else z) else z
theorem inn_ne (m : Mc) (k : Nat) (L : List Int) {i : Nat} (hi : i < 4 * k ∨ 4 * k + 3 < i) : ∀ c, c ≤ 4 → (inn (slE m k) L c)[i]? = L[i]?
 | 0, _ => rfl
 | c + 1, hc => by
   show ((inn (slE m k) L c).set _ _)[i]? = _
   have := slE_getD m k (i := c) (by omega)
   rw [List.getElem?_set_ne (by omega)]
   exact inn_ne m k L hi c (by omega)
theorem set_four {L : List Int} {k : Nat} (hl : 4 * k + 3 < L.length) (a b c d : Int) {e0 e1 e2 e3 : Nat} (he : (e0 = 0 ∧ e1 = 1 ∧ e2 = 3 ∧ e3 = 2) ∨ (e0 = 0 ∧ e1 = 3 ∧ e2 = 1 ∧ e3 = 2)) :
   let M := (((L.set (4 * k + e0) a).set (4 * k + e1) b).set (4 * k + e2) c).set (4 * k + e3) d
   M[4 * k + e0]? = some a ∧ M[4 * k + e1]? = some b ∧ M[4 * k + e2]? = some c ∧ M[4 * k + e3]? = some d := by
 rcases he with ⟨rfl, rfl, rfl, rfl⟩ | ⟨rfl, rfl, rfl, rfl⟩
 all_goals
   refine ⟨?_, ?_, ?_, ?_⟩
   · rw [List.getElem?_set_ne (by omega), List.getElem?_set_ne (by omega), List.getElem?_set_ne (by omega), List.getElem?_set_self (by omega)]
   · rw [List.getElem?_set_ne (by omega), List.getElem?_set_ne (by omega), List.getElem?_set_self (by rw [List.length_set]; omega)]
   · rw [List.getElem?_set_ne (by omega), List.getElem?_set_self (by rw [List.length_set, List.length_set]; omega)]
   · rw [List.getElem?_set_self (by rw [List.length_set, List.length_set, List.length_set]; omega)]
theorem inn_eq (a b c d : Int) (L : List Int) : inn [a, b, c, d] L 4 = (((L.set a.toNat b).set b.toNat d).set c.toNat a).set d.toNat c := rfl
theorem trn_get {m : Mc} {n : Nat} (hg : m.g = n) : ∀ k, k ≤ n → ∀ z, z < 4 * k → (trnL m k)[z]? = some ((tZ m z : Nat) : Int)
 | 0, _, z, hz => absurd hz (Nat.not_lt_zero _)
 | k + 1, hk, z, hz => by
   have hlen : (trnL m k).length = 4 * n := by rw [trnL_length, hg]; rfl
   show (inn (slE m (k : Int)) (trnL m k) 4)[z]? = _
   by_cases e : z < 4 * k
   · rw [inn_ne m k _ (.inl e) 4 (Nat.le_refl _)]
     exact trn_get hg k (by omega) z e
   · obtain ⟨p, rfl⟩ : ∃ p, z = 4 * k + p := ⟨z - 4 * k, by omega⟩
     have hp : p < 4 := by omega
     have hd : (4 * k + p) / 4 = k := by omega
     have hm : (4 * k + p) % 4 = p := by omega
     unfold tZ dirE
     rw [hd, hm]
     cases h : fwE m (k : Int) with
     | true =>
       have hs : slE m (k : Int) = [4 * (k : Int) + 0, 4 * (k : Int) + 1, 4 * (k : Int) + 3, 4 * (k : Int) + 2] := by unfold slE; rw [h]; rfl
       rw [hs, inn_eq, show (4 * (k : Int) + 0).toNat = 4 * k + 0 by omega, show (4 * (k : Int) + 1).toNat = 4 * k + 1 by omega, show (4 * (k : Int) + 3).toNat = 4 * k + 3 by omega, show (4 * (k : Int) + 2).toNat = 4 * k + 2 by omega]
       obtain ⟨h0, h1, h2, h3⟩ := set_four (L := trnL m k) (k := k) (by omega) (4 * (k : Int) + 1) (4 * (k : Int) + 2) (4 * (k : Int) + 0) (4 * (k : Int) + 3) (e0 := 0) (e1 := 1) (e2 := 3) (e3 := 2) (.inl ⟨rfl, rfl, rfl, rfl⟩)
       rcases (show p = 0 ∨ p = 1 ∨ p = 2 ∨ p = 3 by omega) with rfl | rfl | rfl | rfl
       · rw [h0]; rfl
       · rw [h1]; rfl
       · rw [h3]; rfl
       · rw [h2]; rfl
     | false =>
       have hs : slE m (k : Int) = [4 * (k : Int) + 0, 4 * (k : Int) + 3, 4 * (k : Int) + 1, 4 * (k : Int) + 2] := by unfold slE; rw [h]; rfl
       rw [hs, inn_eq, show (4 * (k : Int) + 0).toNat = 4 * k + 0 by omega, show (4 * (k : Int) + 1).toNat = 4 * k + 1 by omega, show (4 * (k : Int) + 3).toNat = 4 * k + 3 by omega, show (4 * (k : Int) + 2).toNat = 4 * k + 2 by omega]
       obtain ⟨h0, h1, h2, h3⟩ := set_four (L := trnL m k) (k := k) (by omega) (4 * (k : Int) + 3) (4 * (k : Int) + 2) (4 * (k : Int) + 0) (4 * (k : Int) + 1) (e0 := 0) (e1 := 3) (e2 := 1) (e3 := 2) (.inr ⟨rfl, rfl, rfl, rfl⟩)
       rcases (show p = 0 ∨ p = 1 ∨ p = 2 ∨ p = 3 by omega) with rfl | rfl | rfl | rfl
       · rw [h0]; rfl
       · rw [h2]; rfl
       · rw [h3]; rfl
       · rw [h1]; rfl
theorem pv_tmod {n p : Nat} (hp : p < n) : (((p : Int) + (n : Int) - 1).tmod (n : Int)) = ((pvN n p : Nat) : Int) := by
 unfold pvN
 rw [Int.tmod_eq_emod_of_nonneg (by omega)]
 split
 · rename_i e
   subst e
   rw [Int.emod_eq_of_lt (by omega) (by omega)]
   omega
 · rw [show (p : Int) + n - 1 = ((p - 1 : Nat) : Int) + n by omega, Int.add_emod_right, Int.emod_eq_of_lt (by omega) (by omega)]
theorem pv_lt {n p : Nat} (hp : p < n) : pvN n p < n := by unfold pvN; split <;> omega
theorem nx_pv {n p : Nat} (hp : p < n) : nxG n (pvN n p) = p := by
 unfold pvN nxG
 split <;> split <;> omega
theorem pv_nx {n j : Nat} (hj : j < n) : pvN n (nxG n j) = j := by
 unfold pvN nxG
 split <;> split <;> omega
theorem nx_lt {n j : Nat} (hj : j < n) : nxG n j < n := by unfold nxG; split <;> omega
theorem oZ_skip {c : Nat → Bool} {n k z : Nat} (hc : c k = false) : oZ c n (k + 1) z = oZ c n k z := by
 unfold oZ
 split
 · by_cases e : z / 4 = k
   · rw [e, hc, if_neg (by simp), if_neg (by simp)]
   · by_cases h : z / 4 < k ∧ c (z / 4) = true
     · rw [if_pos h, if_pos ⟨by omega, h.2⟩]
     · rw [if_neg h, if_neg (fun h' => h ⟨by omega, h'.2⟩)]
 · split
   · by_cases e : nxG n (z / 4) = k
     · rw [e, hc, if_neg (by simp), if_neg (by simp)]
     · by_cases h : nxG n (z / 4) < k ∧ c (nxG n (z / 4)) = true
       · rw [if_pos h, if_pos ⟨by omega, h.2⟩]
       · rw [if_neg h, if_neg (fun h' => h ⟨by omega, h'.2⟩)]
   · rfl
theorem oZ_step {c : Nat → Bool} {n k z : Nat} (hk : k < n) (hz : z < 4 * n) (hc : c k = true) : oZ c n (k + 1) z = if z = 4 * k then 4 * pvN n k + 2 else if z = 4 * pvN n k + 2 then 4 * k else oZ c n k z := by
 have hpv := pv_lt hk
 by_cases e1 : z = 4 * k
 · subst e1
   unfold oZ
   rw [if_pos (by omega), show 4 * k / 4 = k by omega, if_pos ⟨by omega, hc⟩, if_pos rfl]
 · rw [if_neg e1]
   by_cases e2 : z = 4 * pvN n k + 2
   · rw [if_pos e2]
     have hd : z / 4 = pvN n k := by omega
     unfold oZ
     rw [if_neg (by omega), if_pos (by omega), hd, nx_pv hk, if_pos ⟨by omega, hc⟩]
   · rw [if_neg e2]
     unfold oZ
     split
     · have ne : z / 4 ≠ k := by omega
       by_cases h : z / 4 < k ∧ c (z / 4) = true
       · rw [if_pos h, if_pos ⟨by omega, h.2⟩]
       · rw [if_neg h, if_neg (fun h' => h ⟨by omega, h'.2⟩)]
     · split
       · have ne : nxG n (z / 4) ≠ k := fun h => by
           have := pv_nx (n := n) (j := z / 4) (by omega)
           rw [h] at this
           omega
         by_cases h : nxG n (z / 4) < k ∧ c (nxG n (z / 4)) = true
         · rw [if_pos h, if_pos ⟨by omega, h.2⟩]
         · rw [if_neg h, if_neg (fun h' => h ⟨by omega, h'.2⟩)]
       · rfl
theorem oth_get {m : Mc} {n : Nat} (hg : m.g = n) : ∀ k, k ≤ n → ∀ z, z < 4 * n → (othL m k)[z]? = some ((oZ (crB m) n k z : Nat) : Int)
 | 0, _, z, hz => by
   have e : oZ (crB m) n 0 z = z := by unfold oZ; simp
   rw [e]
   show (idL (4 * m.g.toNat))[z]? = _
   rw [hg, Int.toNat_natCast]
   unfold idL
   rw [List.getElem?_map, List.getElem?_range hz]
   rfl
 | k + 1, hk, z, hz => by
   have ih := oth_get hg k (by omega) z hz
   have hlen : (othL m k).length = 4 * n := by rw [othL_length, hg]; rfl
   show (if k < fsE m then othL m k else othStep m (othL m k) k)[z]? = _
   by_cases hf : k < fsE m
   · rw [if_pos hf, oZ_skip (by unfold crB; simp; omega)]
     exact ih
   · rw [if_neg hf]
     unfold othStep
     by_cases hs : (k : Int) ∈ m.sw
     · rw [if_pos hs, oZ_skip (by unfold crB; simp [hs])]
       exact ih
     · have hpv := pv_lt (n := n) (p := k) (by omega)
       rw [if_neg hs, oZ_step (by omega) hz (by unfold crB; simp [hs]; omega), hg, pv_tmod (by omega), show (4 * ((pvN n k : Nat) : Int) + 2).toNat = 4 * pvN n k + 2 by omega]
       by_cases e1 : z = 4 * k
       · rw [if_pos e1, e1, List.getElem?_set_self (by rw [List.length_set]; omega)]
         congr 1
       · rw [if_neg e1, List.getElem?_set_ne (Ne.symm e1)]
         by_cases e2 : z = 4 * pvN n k + 2
         · rw [if_pos e2, e2, List.getElem?_set_self (by omega)]
           congr 1
         · rw [if_neg e2, List.getElem?_set_ne (Ne.symm e2)]
           exact ih
def pZ (m : Mc) (n z : Nat) : Nat := oZ (crB m) n n (tZ m z)
theorem dirE_cases (m : Mc) (j : Nat) : dirE m j = 1 ∨ dirE m j = 3 := by unfold dirE; split <;> simp
theorem tZ_div (m : Mc) (z : Nat) : tZ m z / 4 = z / 4 := by unfold tZ; omega
theorem tZ_lt {m : Mc} {n z : Nat} (hz : z < 4 * n) : tZ m z < 4 * n := by unfold tZ; omega
theorem tZ_inj {m : Mc} {x y : Nat} (h : tZ m x = tZ m y) : x = y := by
 have h1 := tZ_div m x
 have h2 := tZ_div m y
 rw [h] at h1
 have hd : x / 4 = y / 4 := by omega
 unfold tZ at h
 rw [hd] at h
 rcases dirE_cases m (y / 4) with e | e <;> rw [e] at h <;> omega
theorem oZ_lt {c : Nat → Bool} {n z : Nat} (hz : z < 4 * n) : oZ c n n z < 4 * n := by
 unfold oZ
 split
 · split
   · have := pv_lt (n := n) (p := z / 4) (by omega); omega
   · exact hz
 · split
   · split
     · have := nx_lt (n := n) (j := z / 4) (by omega); omega
     · exact hz
   · exact hz
theorem oZ_oZ {c : Nat → Bool} {n z : Nat} (hz : z < 4 * n) : oZ c n n (oZ c n n z) = z := by
 have hd : z / 4 < n := by omega
 have hp := pv_lt hd
 have hn := nx_lt hd
 have e1 := nx_pv hd
 have e2 := pv_nx hd
 by_cases h0 : z % 4 = 0
 · by_cases hc : c (z / 4) = true
   · have e : oZ c n n z = 4 * pvN n (z / 4) + 2 := by unfold oZ; rw [if_pos h0, if_pos ⟨hd, hc⟩]
     rw [e]
     unfold oZ
     rw [if_neg (by omega), if_pos (by omega), show (4 * pvN n (z / 4) + 2) / 4 = pvN n (z / 4) by omega, e1, if_pos ⟨hd, hc⟩]
     omega
   · have e : oZ c n n z = z := by unfold oZ; rw [if_pos h0, if_neg (fun h => hc h.2)]
     rw [e, e]
 · by_cases h2 : z % 4 = 2
   · by_cases hc : c (nxG n (z / 4)) = true
     · have e : oZ c n n z = 4 * nxG n (z / 4) := by unfold oZ; rw [if_neg h0, if_pos h2, if_pos ⟨hn, hc⟩]
       rw [e]
       unfold oZ
       rw [if_pos (by omega), show (4 * nxG n (z / 4)) / 4 = nxG n (z / 4) by omega, e2, if_pos ⟨hn, hc⟩]
       omega
     · have e : oZ c n n z = z := by unfold oZ; rw [if_neg h0, if_pos h2, if_neg (fun h => hc h.2)]
       rw [e, e]
   · have e : oZ c n n z = z := by unfold oZ; rw [if_neg h0, if_neg h2]
     rw [e, e]
theorem oZ_inj {c : Nat → Bool} {n x y : Nat} (hx : x < 4 * n) (hy : y < 4 * n) (h : oZ c n n x = oZ c n n y) : x = y := by
 rw [← oZ_oZ (c := c) hx, h, oZ_oZ hy]
theorem pZ_lt {m : Mc} {n z : Nat} (hz : z < 4 * n) : pZ m n z < 4 * n := oZ_lt (tZ_lt hz)
theorem pZ_inj {m : Mc} {n x y : Nat} (hx : x < 4 * n) (hy : y < 4 * n) (h : pZ m n x = pZ m n y) : x = y := tZ_inj (oZ_inj (tZ_lt hx) (tZ_lt hy) h)
theorem permL_len {m : Mc} {n : Nat} (hg : m.g = n) : (permL m n).length = 4 * n := by
 unfold permL
 rw [List.length_map, trnL_length, hg]; rfl
theorem perm_get {m : Mc} {n z : Nat} (hg : m.g = n) (hz : z < 4 * n) : (permL m n)[z]? = some ((pZ m n z : Nat) : Int) := by
 unfold permL
 rw [List.getElem?_map, trn_get hg n (Nat.le_refl _) z hz]
 show some ((othL m n).getD ((tZ m z : Nat) : Int).toNat 0) = _
 rw [Int.toNat_natCast, List.getD_eq_getElem?_getD, oth_get hg n (Nat.le_refl _) _ (tZ_lt hz)]
 rfl
theorem permL_okP {m : Mc} {n : Nat} (hg : m.g = n) : OkPq (permL m n) := by
 refine ⟨fun i z hz => ?_, fun k i z hki h1 h2 => ?_⟩
 · have hi := (List.getElem?_eq_some_iff.1 hz).1
   rw [permL_len hg] at hi ⊢
   rw [perm_get hg hi] at hz
   cases hz
   have := pZ_lt (m := m) hi
   omega
 · have hk := (List.getElem?_eq_some_iff.1 h1).1
   have hi := (List.getElem?_eq_some_iff.1 h2).1
   rw [permL_len hg] at hi hk
   rw [perm_get hg hk] at h1
   rw [perm_get hg hi] at h2
   cases h1
   have := pZ_inj (m := m) hi hk (Int.ofNat.inj (Option.some.inj h2))
   omega
theorem permL_fOf {m : Mc} {n z : Nat} (hg : m.g = n) (hz : z < 4 * n) : fOf (permL m n) z = pZ m n z := by
 unfold fOf
 rw [List.getD_eq_getElem?_getD, perm_get hg hz]
 rfl
def phE (m : Mc) (z : Nat) : Nat := 2 * (z / 4) + if fwE m ((z / 4 : Nat) : Int) = true then z % 4 else 4 - z % 4
theorem ph_t (m : Mc) (z : Nat) : phE m (tZ m z) % 4 = (phE m z + 1) % 4 := by
 unfold phE
 rw [tZ_div]
 unfold tZ dirE
 cases h : fwE m ((z / 4 : Nat) : Int) with
 | true => simp; omega
 | false => simp; omega
theorem ph_0 (m : Mc) (a : Nat) : phE m (4 * a) % 4 = 2 * a % 4 := by
 have e1 : 4 * a / 4 = a := by omega
 have e2 : 4 * a % 4 = 0 := by omega
 unfold phE
 rw [e1, e2]
 split <;> omega
theorem ph_2 (m : Mc) (a : Nat) : phE m (4 * a + 2) % 4 = (2 * a + 2) % 4 := by
 have e1 : (4 * a + 2) / 4 = a := by omega
 have e2 : (4 * a + 2) % 4 = 2 := by omega
 unfold phE
 rw [e1, e2]
 split <;> omega
theorem pv_ph {n p : Nat} (hp : p < n) (h : p = 0 → n % 2 = 0) : (2 * pvN n p + 2) % 4 = 2 * p % 4 := by
 unfold pvN
 split
 · have := h (by assumption); omega
 · omega
theorem ph_o {m : Mc} {n z : Nat} (hz : z < 4 * n) (hr : ∀ p, crB m p = true → p = 0 → n % 2 = 0) : phE m (oZ (crB m) n n z) % 4 = phE m z % 4 := by
 have hd : z / 4 < n := by omega
 have hn := nx_lt hd
 unfold oZ
 split
 · rename_i h0
   split
   · rename_i hc
     have e : z = 4 * (z / 4) := by omega
     rw [ph_2, pv_ph hd (hr _ hc.2)]
     conv => rhs; rw [e, ph_0]
   · rfl
 · split
   · rename_i h2
     split
     · rename_i hc
       have e : z = 4 * (z / 4) + 2 := by omega
       have e3 := pv_ph hn (hr _ hc.2)
       rw [pv_nx hd] at e3
       rw [ph_0, ← e3]
       conv => rhs; rw [e, ph_2]
     · rfl
   · rfl
theorem ph_p {m : Mc} {n z : Nat} (hz : z < 4 * n) (hr : ∀ p, crB m p = true → p = 0 → n % 2 = 0) : phE m (pZ m n z) % 4 = (phE m z + 1) % 4 := by
 unfold pZ
 rw [ph_o (tZ_lt hz) hr, ph_t]
theorem ph_it {m : Mc} {n : Nat} (hg : m.g = n) (hr : ∀ p, crB m p = true → p = 0 → n % 2 = 0) {z : Nat} (hz : z < 4 * n) : ∀ k, it (fOf (permL m n)) k z < 4 * n ∧ phE m (it (fOf (permL m n)) k z) % 4 = (phE m z + k) % 4
 | 0 => ⟨hz, rfl⟩
 | k + 1 => by
   obtain ⟨h1, h2⟩ := ph_it hg hr hz k
   show fOf (permL m n) _ < _ ∧ phE m (fOf (permL m n) _) % 4 = _
   rw [permL_fOf hg h1]
   refine ⟨pZ_lt h1, ?_⟩
   rw [ph_p h1 hr]
   omega
theorem cr_ring {m : Mc} {n : Nat} (hg : m.g = n) (h : mE m = 0) : ∀ p, crB m p = true → p = 0 → n % 2 = 0 := fun p hp h0 => by
 subst h0
 unfold crB fsE at hp
 have hring : m.ring = true := by
   cases hr : m.ring with
   | true => rfl
   | false => rw [hr] at hp; simp at hp
 have hm : okMesh m = true := by
   unfold mE at h
   split at h
   · cases h
   split at h
   · cases h
   · rename_i hm
     unfold okMesh
     rw [hring]
     simp only [hring] at hm
     simp at hm ⊢
     have h2 := Int.emod_two_eq m.g
     have hg2 : m.g.tmod 2 = m.g % 2 := Int.tmod_eq_emod_of_nonneg (by omega)
     omega
 unfold okMesh at hm
 rw [hring] at hm
 simp at hm
 rw [hg] at hm
 have : (n : Int).tmod 2 = n % 2 := Int.tmod_eq_emod_of_nonneg (by omega)
 omega
theorem per_four {m : Mc} {n : Nat} (hg : m.g = n) (h : mE m = 0) {z : Nat} (hz : z < 4 * n) : 4 ∣ per (fOf (permL m n)) (4 * n) z := by
 have hpm := (permL_okP hg).pm
 rw [permL_len hg] at hpm
 have h1 := (ph_it hg (cr_ring hg h) hz (per (fOf (permL m n)) (4 * n) z)).2
 rw [(hpm.per_spec hz).1] at h1
 omega
end Go.Ev
