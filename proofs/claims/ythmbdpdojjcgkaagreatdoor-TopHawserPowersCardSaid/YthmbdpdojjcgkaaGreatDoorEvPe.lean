/- Part of an evaluator of calls that is proved sound, and of what it gives about this program. No condition of its own. -/
import Derived.Test.YthmbdpdojjcgkaaGreatDoorEwKf
import Derived.Test.YthmbdpdojjcgkaaGreatDoorEvPd
set_option linter.unusedVariables false
set_option linter.unusedSimpArgs false
set_option linter.unusedSectionVars false
set_option maxRecDepth 100000
set_option maxHeartbeats 4000000
namespace Go.Ev
open Go.Proofs
def dirE (m : Mc) (j : Nat) : Nat := if fwE m (j : Int) = true then 1 else 3
def tZ (m : Mc) (z : Nat) : Nat := 4 * (z / 4) + (z % 4 + dirE m (z / 4)) % 4
def pvN (n p : Nat) : Nat := if p = 0 then n - 1 else p - 1
def nxG (n j : Nat) : Nat := if j + 1 = n then 0 else j + 1
def crB (m : Mc) (p : Nat) : Bool := decide (fsE m ≤ p) && !decide ((p : Int) ∈ m.sw)
def oZ (c : Nat → Bool) (n k z : Nat) : Nat :=
  if z % 4 = 0 then (if z / 4 < k ∧ c (z / 4) = true then 4 * pvN n (z / 4) + 2 else z)
  else if z % 4 = 2 then (if nxG n (z / 4) < k ∧ c (nxG n (z / 4)) = true then 4 * nxG n (z / 4) else z) else z
theorem inn_ne (m : Mc) (k : Nat) (L : List Int) {i : Nat} (hi : i < 4 * k ∨ 4 * k + 3 < i) : ∀ c, c ≤ 4 → (inn (slE m k) L c)[i]? = L[i]?
  | 0, _ => rfl
  | c + 1, hc => by
    show ((inn (slE m k) L c).set _ _)[i]? = _
    have := slE_getD m k (i := c) (by omega)
    rw [List.getElem?_set_ne (by omega)]
    exact inn_ne m k L hi c (by omega)
theorem set_four {L : List Int} {k : Nat} (hl : 4 * k + 3 < L.length) (a b c d : Int) {e0 e1 e2 e3 : Nat} (he : (e0 = 0 ∧ e1 = 1 ∧ e2 = 3 ∧ e3 = 2) ∨ (e0 = 0 ∧ e1 = 3 ∧ e2 = 1 ∧ e3 = 2)) :
    let M := (((L.set (4 * k + e0) a).set (4 * k + e1) b).set (4 * k + e2) c).set (4 * k + e3) d
    M[4 * k + e0]? = some a ∧ M[4 * k + e1]? = some b ∧ M[4 * k + e2]? = some c ∧ M[4 * k + e3]? = some d := by
  rcases he with ⟨rfl, rfl, rfl, rfl⟩ | ⟨rfl, rfl, rfl, rfl⟩
  all_goals
    refine ⟨?_, ?_, ?_, ?_⟩
    · rw [List.getElem?_set_ne (by omega), List.getElem?_set_ne (by omega), List.getElem?_set_ne (by omega), List.getElem?_set_self (by omega)]
    · rw [List.getElem?_set_ne (by omega), List.getElem?_set_ne (by omega), List.getElem?_set_self (by rw [List.length_set]; omega)]
    · rw [List.getElem?_set_ne (by omega), List.getElem?_set_self (by rw [List.length_set, List.length_set]; omega)]
    · rw [List.getElem?_set_self (by rw [List.length_set, List.length_set, List.length_set]; omega)]
theorem inn_eq (a b c d : Int) (L : List Int) : inn [a, b, c, d] L 4 = (((L.set a.toNat b).set b.toNat d).set c.toNat a).set d.toNat c := rfl
theorem trn_get {m : Mc} {n : Nat} (hg : m.g = n) : ∀ k, k ≤ n → ∀ z, z < 4 * k → (trnL m k)[z]? = some ((tZ m z : Nat) : Int)
  | 0, _, z, hz => absurd hz (Nat.not_lt_zero _)
  | k + 1, hk, z, hz => by
    have hlen : (trnL m k).length = 4 * n := by rw [trnL_length, hg]; rfl
    show (inn (slE m (k : Int)) (trnL m k) 4)[z]? = _
    by_cases e : z < 4 * k
    · rw [inn_ne m k _ (.inl e) 4 (Nat.le_refl _)]
      exact trn_get hg k (by omega) z e
    · obtain ⟨p, rfl⟩ : ∃ p, z = 4 * k + p := ⟨z - 4 * k, by omega⟩
      have hp : p < 4 := by omega
      have hd : (4 * k + p) / 4 = k := by omega
      have hm : (4 * k + p) % 4 = p := by omega
      unfold tZ dirE
      rw [hd, hm]
      cases h : fwE m (k : Int) with
      | true =>
        have hs : slE m (k : Int) = [4 * (k : Int) + 0, 4 * (k : Int) + 1, 4 * (k : Int) + 3, 4 * (k : Int) + 2] := by unfold slE; rw [h]; rfl
        rw [hs, inn_eq, show (4 * (k : Int) + 0).toNat = 4 * k + 0 by omega, show (4 * (k : Int) + 1).toNat = 4 * k + 1 by omega, show (4 * (k : Int) + 3).toNat = 4 * k + 3 by omega, show (4 * (k : Int) + 2).toNat = 4 * k + 2 by omega]
        obtain ⟨h0, h1, h2, h3⟩ := set_four (L := trnL m k) (k := k) (by omega) (4 * (k : Int) + 1) (4 * (k : Int) + 2) (4 * (k : Int) + 0) (4 * (k : Int) + 3) (e0 := 0) (e1 := 1) (e2 := 3) (e3 := 2) (.inl ⟨rfl, rfl, rfl, rfl⟩)
        rcases (show p = 0 ∨ p = 1 ∨ p = 2 ∨ p = 3 by omega) with rfl | rfl | rfl | rfl
        · rw [h0]; rfl
        · rw [h1]; rfl
        · rw [h3]; rfl
        · rw [h2]; rfl
      | false =>
        have hs : slE m (k : Int) = [4 * (k : Int) + 0, 4 * (k : Int) + 3, 4 * (k : Int) + 1, 4 * (k : Int) + 2] := by unfold slE; rw [h]; rfl
        rw [hs, inn_eq, show (4 * (k : Int) + 0).toNat = 4 * k + 0 by omega, show (4 * (k : Int) + 1).toNat = 4 * k + 1 by omega, show (4 * (k : Int) + 3).toNat = 4 * k + 3 by omega, show (4 * (k : Int) + 2).toNat = 4 * k + 2 by omega]
        obtain ⟨h0, h1, h2, h3⟩ := set_four (L := trnL m k) (k := k) (by omega) (4 * (k : Int) + 3) (4 * (k : Int) + 2) (4 * (k : Int) + 0) (4 * (k : Int) + 1) (e0 := 0) (e1 := 3) (e2 := 1) (e3 := 2) (.inr ⟨rfl, rfl, rfl, rfl⟩)
        rcases (show p = 0 ∨ p = 1 ∨ p = 2 ∨ p = 3 by omega) with rfl | rfl | rfl | rfl
        · rw [h0]; rfl
        · rw [h2]; rfl
        · rw [h3]; rfl
        · rw [h1]; rfl
theorem pv_tmod {n p : Nat} (hp : p < n) : (((p : Int) + (n : Int) - 1).tmod (n : Int)) = ((pvN n p : Nat) : Int) := by
  unfold pvN
  rw [Int.tmod_eq_emod_of_nonneg (by omega)]
  split
  · rename_i e
    subst e
    rw [Int.emod_eq_of_lt (by omega) (by omega)]
    omega
  · rw [show (p : Int) + n - 1 = ((p - 1 : Nat) : Int) + n by omega, Int.add_emod_right, Int.emod_eq_of_lt (by omega) (by omega)]
theorem pv_lt {n p : Nat} (hp : p < n) : pvN n p < n := by unfold pvN; split <;> omega
theorem nx_pv {n p : Nat} (hp : p < n) : nxG n (pvN n p) = p := by
  unfold pvN nxG
  split <;> split <;> omega
theorem pv_nx {n j : Nat} (hj : j < n) : pvN n (nxG n j) = j := by
  unfold pvN nxG
  split <;> split <;> omega
theorem nx_lt {n j : Nat} (hj : j < n) : nxG n j < n := by unfold nxG; split <;> omega
theorem oZ_skip {c : Nat → Bool} {n k z : Nat} (hc : c k = false) : oZ c n (k + 1) z = oZ c n k z := by
  unfold oZ
  split
  · by_cases e : z / 4 = k
    · rw [e, hc, if_neg (by simp), if_neg (by simp)]
    · by_cases h : z / 4 < k ∧ c (z / 4) = true
      · rw [if_pos h, if_pos ⟨by omega, h.2⟩]
      · rw [if_neg h, if_neg (fun h' => h ⟨by omega, h'.2⟩)]
  · split
    · by_cases e : nxG n (z / 4) = k
      · rw [e, hc, if_neg (by simp), if_neg (by simp)]
      · by_cases h : nxG n (z / 4) < k ∧ c (nxG n (z / 4)) = true
        · rw [if_pos h, if_pos ⟨by omega, h.2⟩]
        · rw [if_neg h, if_neg (fun h' => h ⟨by omega, h'.2⟩)]
    · rfl
theorem oZ_step {c : Nat → Bool} {n k z : Nat} (hk : k < n) (hz : z < 4 * n) (hc : c k = true) : oZ c n (k + 1) z = if z = 4 * k then 4 * pvN n k + 2 else if z = 4 * pvN n k + 2 then 4 * k else oZ c n k z := by
  have hpv := pv_lt hk
  by_cases e1 : z = 4 * k
  · subst e1
    unfold oZ
    rw [if_pos (by omega), show 4 * k / 4 = k by omega, if_pos ⟨by omega, hc⟩, if_pos rfl]
  · rw [if_neg e1]
    by_cases e2 : z = 4 * pvN n k + 2
    · rw [if_pos e2]
      have hd : z / 4 = pvN n k := by omega
      unfold oZ
      rw [if_neg (by omega), if_pos (by omega), hd, nx_pv hk, if_pos ⟨by omega, hc⟩]
    · rw [if_neg e2]
      unfold oZ
      split
      · have ne : z / 4 ≠ k := by omega
        by_cases h : z / 4 < k ∧ c (z / 4) = true
        · rw [if_pos h, if_pos ⟨by omega, h.2⟩]
        · rw [if_neg h, if_neg (fun h' => h ⟨by omega, h'.2⟩)]
      · split
        · have ne : nxG n (z / 4) ≠ k := fun h => by
            have := pv_nx (n := n) (j := z / 4) (by omega)
            rw [h] at this
            omega
          by_cases h : nxG n (z / 4) < k ∧ c (nxG n (z / 4)) = true
          · rw [if_pos h, if_pos ⟨by omega, h.2⟩]
          · rw [if_neg h, if_neg (fun h' => h ⟨by omega, h'.2⟩)]
        · rfl
theorem oth_get {m : Mc} {n : Nat} (hg : m.g = n) : ∀ k, k ≤ n → ∀ z, z < 4 * n → (othL m k)[z]? = some ((oZ (crB m) n k z : Nat) : Int)
  | 0, _, z, hz => by
    have e : oZ (crB m) n 0 z = z := by unfold oZ; simp
    rw [e]
    show (idL (4 * m.g.toNat))[z]? = _
    rw [hg, Int.toNat_natCast]
    unfold idL
    rw [List.getElem?_map, List.getElem?_range hz]
    rfl
  | k + 1, hk, z, hz => by
    have ih := oth_get hg k (by omega) z hz
    have hlen : (othL m k).length = 4 * n := by rw [othL_length, hg]; rfl
    show (if k < fsE m then othL m k else othStep m (othL m k) k)[z]? = _
    by_cases hf : k < fsE m
    · rw [if_pos hf, oZ_skip (by unfold crB; simp; omega)]
      exact ih
    · rw [if_neg hf]
      unfold othStep
      by_cases hs : (k : Int) ∈ m.sw
      · rw [if_pos hs, oZ_skip (by unfold crB; simp [hs])]
        exact ih
      · have hpv := pv_lt (n := n) (p := k) (by omega)
        rw [if_neg hs, oZ_step (by omega) hz (by unfold crB; simp [hs]; omega), hg, pv_tmod (by omega), show (4 * ((pvN n k : Nat) : Int) + 2).toNat = 4 * pvN n k + 2 by omega]
        by_cases e1 : z = 4 * k
        · rw [if_pos e1, e1, List.getElem?_set_self (by rw [List.length_set]; omega)]
          congr 1
        · rw [if_neg e1, List.getElem?_set_ne (Ne.symm e1)]
          by_cases e2 : z = 4 * pvN n k + 2
          · rw [if_pos e2, e2, List.getElem?_set_self (by omega)]
            congr 1
          · rw [if_neg e2, List.getElem?_set_ne (Ne.symm e2)]
            exact ih
def pZ (m : Mc) (n z : Nat) : Nat := oZ (crB m) n n (tZ m z)
theorem dirE_cases (m : Mc) (j : Nat) : dirE m j = 1 ∨ dirE m j = 3 := by unfold dirE; split <;> simp
theorem tZ_div (m : Mc) (z : Nat) : tZ m z / 4 = z / 4 := by unfold tZ; omega
theorem tZ_lt {m : Mc} {n z : Nat} (hz : z < 4 * n) : tZ m z < 4 * n := by unfold tZ; omega
theorem tZ_inj {m : Mc} {x y : Nat} (h : tZ m x = tZ m y) : x = y := by
  have h1 := tZ_div m x
  have h2 := tZ_div m y
  rw [h] at h1
  have hd : x / 4 = y / 4 := by omega
  unfold tZ at h
  rw [hd] at h
  rcases dirE_cases m (y / 4) with e | e <;> rw [e] at h <;> omega
theorem oZ_lt {c : Nat → Bool} {n z : Nat} (hz : z < 4 * n) : oZ c n n z < 4 * n := by
  unfold oZ
  split
  · split
    · have := pv_lt (n := n) (p := z / 4) (by omega); omega
    · exact hz
  · split
    · split
      · have := nx_lt (n := n) (j := z / 4) (by omega); omega
      · exact hz
    · exact hz
theorem oZ_oZ {c : Nat → Bool} {n z : Nat} (hz : z < 4 * n) : oZ c n n (oZ c n n z) = z := by
  have hd : z / 4 < n := by omega
  have hp := pv_lt hd
  have hn := nx_lt hd
  have e1 := nx_pv hd
  have e2 := pv_nx hd
  by_cases h0 : z % 4 = 0
  · by_cases hc : c (z / 4) = true
    · have e : oZ c n n z = 4 * pvN n (z / 4) + 2 := by unfold oZ; rw [if_pos h0, if_pos ⟨hd, hc⟩]
      rw [e]
      unfold oZ
      rw [if_neg (by omega), if_pos (by omega), show (4 * pvN n (z / 4) + 2) / 4 = pvN n (z / 4) by omega, e1, if_pos ⟨hd, hc⟩]
      omega
    · have e : oZ c n n z = z := by unfold oZ; rw [if_pos h0, if_neg (fun h => hc h.2)]
      rw [e, e]
  · by_cases h2 : z % 4 = 2
    · by_cases hc : c (nxG n (z / 4)) = true
      · have e : oZ c n n z = 4 * nxG n (z / 4) := by unfold oZ; rw [if_neg h0, if_pos h2, if_pos ⟨hn, hc⟩]
        rw [e]
        unfold oZ
        rw [if_pos (by omega), show (4 * nxG n (z / 4)) / 4 = nxG n (z / 4) by omega, e2, if_pos ⟨hn, hc⟩]
        omega
      · have e : oZ c n n z = z := by unfold oZ; rw [if_neg h0, if_pos h2, if_neg (fun h => hc h.2)]
        rw [e, e]
    · have e : oZ c n n z = z := by unfold oZ; rw [if_neg h0, if_neg h2]
      rw [e, e]
theorem oZ_inj {c : Nat → Bool} {n x y : Nat} (hx : x < 4 * n) (hy : y < 4 * n) (h : oZ c n n x = oZ c n n y) : x = y := by
  rw [← oZ_oZ (c := c) hx, h, oZ_oZ hy]
theorem pZ_lt {m : Mc} {n z : Nat} (hz : z < 4 * n) : pZ m n z < 4 * n := oZ_lt (tZ_lt hz)
theorem pZ_inj {m : Mc} {n x y : Nat} (hx : x < 4 * n) (hy : y < 4 * n) (h : pZ m n x = pZ m n y) : x = y := tZ_inj (oZ_inj (tZ_lt hx) (tZ_lt hy) h)
theorem permL_len {m : Mc} {n : Nat} (hg : m.g = n) : (permL m n).length = 4 * n := by
  unfold permL
  rw [List.length_map, trnL_length, hg]; rfl
theorem perm_get {m : Mc} {n z : Nat} (hg : m.g = n) (hz : z < 4 * n) : (permL m n)[z]? = some ((pZ m n z : Nat) : Int) := by
  unfold permL
  rw [List.getElem?_map, trn_get hg n (Nat.le_refl _) z hz]
  show some ((othL m n).getD ((tZ m z : Nat) : Int).toNat 0) = _
  rw [Int.toNat_natCast, List.getD_eq_getElem?_getD, oth_get hg n (Nat.le_refl _) _ (tZ_lt hz)]
  rfl
theorem permL_okP {m : Mc} {n : Nat} (hg : m.g = n) : OkP (permL m n) := by
  refine ⟨fun i z hz => ?_, fun k i z hki h1 h2 => ?_⟩
  · have hi := (List.getElem?_eq_some_iff.1 hz).1
    rw [permL_len hg] at hi ⊢
    rw [perm_get hg hi] at hz
    cases hz
    have := pZ_lt (m := m) hi
    omega
  · have hk := (List.getElem?_eq_some_iff.1 h1).1
    have hi := (List.getElem?_eq_some_iff.1 h2).1
    rw [permL_len hg] at hi hk
    rw [perm_get hg hk] at h1
    rw [perm_get hg hi] at h2
    cases h1
    have := pZ_inj (m := m) hi hk (Int.ofNat.inj (Option.some.inj h2))
    omega
theorem permL_fOf {m : Mc} {n z : Nat} (hg : m.g = n) (hz : z < 4 * n) : fOf (permL m n) z = pZ m n z := by
  unfold fOf
  rw [List.getD_eq_getElem?_getD, perm_get hg hz]
  rfl
def phE (m : Mc) (z : Nat) : Nat := 2 * (z / 4) + if fwE m ((z / 4 : Nat) : Int) = true then z % 4 else 4 - z % 4
theorem ph_t (m : Mc) (z : Nat) : phE m (tZ m z) % 4 = (phE m z + 1) % 4 := by
  unfold phE
  rw [tZ_div]
  unfold tZ dirE
  cases h : fwE m ((z / 4 : Nat) : Int) with
  | true => simp; omega
  | false => simp; omega
theorem ph_0 (m : Mc) (a : Nat) : phE m (4 * a) % 4 = 2 * a % 4 := by
  have e1 : 4 * a / 4 = a := by omega
  have e2 : 4 * a % 4 = 0 := by omega
  unfold phE
  rw [e1, e2]
  split <;> omega
theorem ph_2 (m : Mc) (a : Nat) : phE m (4 * a + 2) % 4 = (2 * a + 2) % 4 := by
  have e1 : (4 * a + 2) / 4 = a := by omega
  have e2 : (4 * a + 2) % 4 = 2 := by omega
  unfold phE
  rw [e1, e2]
  split <;> omega
theorem pv_ph {n p : Nat} (hp : p < n) (h : p = 0 → n % 2 = 0) : (2 * pvN n p + 2) % 4 = 2 * p % 4 := by
  unfold pvN
  split
  · have := h (by assumption); omega
  · omega
theorem ph_o {m : Mc} {n z : Nat} (hz : z < 4 * n) (hr : ∀ p, crB m p = true → p = 0 → n % 2 = 0) : phE m (oZ (crB m) n n z) % 4 = phE m z % 4 := by
  have hd : z / 4 < n := by omega
  have hn := nx_lt hd
  unfold oZ
  split
  · rename_i h0
    split
    · rename_i hc
      have e : z = 4 * (z / 4) := by omega
      rw [ph_2, pv_ph hd (hr _ hc.2)]
      conv => rhs; rw [e, ph_0]
    · rfl
  · split
    · rename_i h2
      split
      · rename_i hc
        have e : z = 4 * (z / 4) + 2 := by omega
        have e3 := pv_ph hn (hr _ hc.2)
        rw [pv_nx hd] at e3
        rw [ph_0, ← e3]
        conv => rhs; rw [e, ph_2]
      · rfl
    · rfl
theorem ph_p {m : Mc} {n z : Nat} (hz : z < 4 * n) (hr : ∀ p, crB m p = true → p = 0 → n % 2 = 0) : phE m (pZ m n z) % 4 = (phE m z + 1) % 4 := by
  unfold pZ
  rw [ph_o (tZ_lt hz) hr, ph_t]
theorem ph_it {m : Mc} {n : Nat} (hg : m.g = n) (hr : ∀ p, crB m p = true → p = 0 → n % 2 = 0) {z : Nat} (hz : z < 4 * n) : ∀ k, it (fOf (permL m n)) k z < 4 * n ∧ phE m (it (fOf (permL m n)) k z) % 4 = (phE m z + k) % 4
  | 0 => ⟨hz, rfl⟩
  | k + 1 => by
    obtain ⟨h1, h2⟩ := ph_it hg hr hz k
    show fOf (permL m n) _ < _ ∧ phE m (fOf (permL m n) _) % 4 = _
    rw [permL_fOf hg h1]
    refine ⟨pZ_lt h1, ?_⟩
    rw [ph_p h1 hr]
    omega
theorem cr_ring {m : Mc} {n : Nat} (hg : m.g = n) (h : mE m = 0) : ∀ p, crB m p = true → p = 0 → n % 2 = 0 := fun p hp h0 => by
  subst h0
  unfold crB fsE at hp
  have hring : m.ring = true := by
    cases hr : m.ring with
    | true => rfl
    | false => rw [hr] at hp; simp at hp
  have hm : okMesh m = true := by
    unfold mE at h
    split at h
    · cases h
    split at h
    · cases h
    · rename_i hm
      unfold okMesh
      rw [hring]
      simp only [hring] at hm
      simp at hm ⊢
      have h2 := Int.emod_two_eq m.g
      have hg2 : m.g.tmod 2 = m.g % 2 := Int.tmod_eq_emod_of_nonneg (by omega)
      omega
  unfold okMesh at hm
  rw [hring] at hm
  simp at hm
  rw [hg] at hm
  have : (n : Int).tmod 2 = n % 2 := Int.tmod_eq_emod_of_nonneg (by omega)
  omega
theorem per_four {m : Mc} {n : Nat} (hg : m.g = n) (h : mE m = 0) {z : Nat} (hz : z < 4 * n) : 4 ∣ per (fOf (permL m n)) (4 * n) z := by
  have hpm := (permL_okP hg).pm
  rw [permL_len hg] at hpm
  have h1 := (ph_it hg (cr_ring hg h) hz (per (fOf (permL m n)) (4 * n) z)).2
  rw [(hpm.per_spec hz).1] at h1
  omega
end Go.Ev
namespace Go.Ev
open Go.Proofs
class Two (t : TypeId) (z0 z1 : outParam Value) : Prop where
  s : runPure Tryz.prog (sizeOf t) = some 2
  a : runPure Tryz.prog (isAgg t) = some true
  z : runPure Tryz.prog (zeroValue t) = some (.agg #[z0, z1])
instance : Two 73 (.bool false) (.slice none 0 0) := ⟨by kernel_rfl, by kernel_rfl, by kernel_rfl⟩
section
variable {O : CallF} {T : List AV} {H H0 : AH} {ops : Array Oper} {o : Oper} {K : AV → AH → Prop}
theorem o_alloc2 {t : TypeId} {z0 z1 : Value} (ho : o.op = .alloc t) (hg : wantedA o ops T = true) [hz : Two t z0 z1] (hr : H.next < 2 ^ 39) (hk : K (.ptr H.next 0) (H.add (.cells [.v z0, .v z1] t 0))) : WOp (ENV O) ops o T H K := by
  refine wop_val (by rw [ho]; rfl) hg (H' := H.add (.cells [.v z0, .v z1] t 0)) (r := .ptr H.next 0) ?_ (Nat.le_succ _) hk
  unfold opEval; rw [ho]
  have hlt : Nat.blt H.next (2 ^ 39) = true := Nat.ble_eq_true_of_le hr
  have hz := hz.z
  simp only [ENV, allocA, hz, Value.cells, newA, hlt, if_true, Option.map_some, List.map_cons, List.map_nil]
theorem o_store2 {t : TypeId} {z0 z1 : Value} {p x : Operand} {b : Nat} {a0 a1 a c : AV} {e : TypeId} {gr : Nat} (ho : o.op = .store t p x) (hg : wantedA o ops T = true) [h2 : Two t z0 z1] (hp : av T p = .ptr b 0) (hx : av T x = .agg [a, c]) (hc : H.get b = some (.cells [a0, a1] e gr)) (h1 : a.one = true) (h1' : c.one = true)
    (hk : K (.v undef) (H.set b (some (.cells [a, c] e gr)))) : WOp (ENV O) ops o T H K := by
  refine wop_val (by rw [ho]; rfl) hg (H' := H.set b (some (.cells [a, c] e gr))) ?_ (Nat.le_refl _) hk
  unfold opEval; rw [ho]
  have h2 := h2.s
  simp only [ENV, storeOpA, hp, h2, hx, AV.cells, List.length_cons, List.length_nil, storeA, hc]
  rw [if_pos (by decide), if_pos (by simp [h1, h1'])]
  simp [wr]
theorem o_load2 {t : TypeId} {z0 z1 : Value} {x : Operand} {b : Nat} {a c : AV} {e : TypeId} {gr : Nat} (ho : o.op = .load t x) (hg : wantedA o ops T = true) [h2 : Two t z0 z1] (hx : av T x = .ptr b 0) (hc : H.get b = some (.cells [a, c] e gr)) (hk : K (.agg [a, c]) H) : WOp (ENV O) ops o T H K := by
  refine wop_val (by rw [ho]; rfl) hg (H' := H) ?_ (Nat.le_refl _) hk
  unfold opEval; rw [ho]
  have h3 := h2.a
  have h2 := h2.s
  simp only [ENV, oLoad, hx, loadA, hc, h3, h2]
  rw [if_pos (by rfl)]
  rfl
theorem d_load2 {i : Nat} {π : List Stp} {t : TypeId} {z0 z1 : Value} {x : Operand} {b : Nat} {a c : AV} {e : TypeId} {gr : Nat} {K : List AV → AH → Prop} (h1 : ops.toList[i]? = some o) (ho : o.op = .load t x) (hg : wantedA o ops T = true) [h2 : Two t z0 z1] (hx : av T x = .ptr b 0) (h39 : b < 2 ^ 39) (hc : H0.get b = some (.cells [a, c] e gr))
    (hk : WDr (ENV O) ops H0 π (putA T o.dst (.agg [a, c])) H K) : WDr (ENV O) ops H0 (.mob i :: π) T H K := by
  refine wd_mob h1 hg ?_ hk
  have h3 := h2.a
  have h2 := h2.s
  unfold mobEval rdA
  rw [ho]
  simp only [hx]
  have : (sing H0 (some b)).get b = some (.cells [a, c] e gr) := by
    unfold sing
    simp only [hc]
    rw [AH.get_set _ _ _ _ h39, if_pos rfl]
  simp only [ENV, loadA, this, h3, h2]
  rw [if_pos (by rfl)]
  rfl
end
def statJ (ops : Array Oper) (π : List Stp) (j : Nat) : Bool := (mobsOf π).all fun i => (match ops.toList[i]? with | some o => !looksB o | none => false) || waitsB ops j i
def WDC (E : Env) (ops : Array Oper) (H0 : AH) (π0 : List Stp) (B : Nat → Prop) : List Stp → List AV → AH → (List AV → AH → Prop) → Prop
  | [], T, H, K => K T H
  | .mob i :: π, T, H, K => i ∈ mobsOf π0 ∧ (∀ o b, ops.toList[i]? = some o → rdA T o = some b → B b) ∧ WDr E ops H0 [.mob i] T H (fun T' H' => H' = H ∧ WDC E ops H0 π0 B π T' H K)
  | .loud i :: π, T, H, K => WDr E ops H0 [.loud i] T H (fun T' H' => (statJ ops π0 i = true ∨ ∀ b, B b → sameBlk (H'.get b) (H0.get b) = true) ∧ WDC E ops H0 π0 B π T' H' K)
  | .alc _ :: _, _, _, _ => False
section
variable {E : Env} {g : FuncId} {rd : Bool} {T : List AV} {M : List Nat} {H H0 : AH} {Q : QX} {ops : Array Oper}
theorem wdc_ev {π0 : List Stp} {B : Nat → Prop} {K : List AV → AH → Prop} : ∀ {π : List Stp} {T : List AV} {H : AH}, WDC E ops H0 π0 B π T H K → ∃ n T' H' L Hs, evDraw E.P E.F (E.evCall n) ops H0 π T H = some (T', H', L, Hs) ∧ K T' H' ∧ (∀ q ∈ Hs, statJ ops π0 q.1 = true ∨ ∀ b, B b → sameBlk (q.2.get b) (H0.get b) = true) ∧
    (∀ p ∈ L, p.1 ∈ mobsOf π0 ∧ (∃ o, ops.toList[p.1]? = some o ∧ (looksB o = false → p.2 = none)) ∧ ∀ b, p.2 = some b → B b)
  | [], T, H, h => ⟨0, T, H, [], [], rfl, h, fun _ h => by simp at h, fun _ h => by simp at h⟩
  | .mob i :: π, T, H, ⟨hi, hb, o, r, h1, h2, _, h3⟩ => by
    obtain ⟨n, T', H', L, Hs, k1, k2, k3, k4⟩ := wdc_ev h3
    rcases h2 with ⟨h2, rfl⟩ | ⟨h2, h4⟩
    · refine ⟨n, T', H', L, Hs, ?_, k2, k3, k4⟩
      simp only [evDraw, opT h1, h2]
      exact k1
    · refine ⟨n, T', H', (i, rdA T o) :: L, Hs, ?_, k2, k3, fun p hp => ?_⟩
      · simp only [evDraw, opT h1, h2, h4, k1]
      · rcases List.mem_cons.1 hp with rfl | hp
        · exact ⟨hi, ⟨o, h1, fun h => rdA_none h⟩, fun b hb' => hb o b h1 hb'⟩
        · exact k4 p hp
  | .loud i :: π, T, H, ⟨o, h1, n, r, H1, h2, h5, h3⟩ => by
    obtain ⟨m, T', H', L, Hs, k1, k2, k3, k4⟩ := wdc_ev h3
    refine ⟨n + m, T', H', L, (i, H1) :: Hs, ?_, k2, fun q hq => ?_, k4⟩
    · simp only [evDraw, opT h1]
      rw [evOp_le (evCall_le (Nat.le_add_right n m)) h2]
      simp only
      rw [evDraw_le (evCall_le (Nat.le_add_left m n)) k1]
    · rcases List.mem_cons.1 hq with rfl | hq
      · exact h5
      · exact k3 q hq
  | .alc _ :: _, _, _, h => h.elim
theorem wp_drawC (B : Nat → Prop) {id : Nat} {π : List Stp} (hp : E.pl.get (planKey g id) = some π) (h : WDC E ops H π B π T H fun T' H' => Q .normal T' M H') : Wp E g rd (.region id ops true) T M H Q := by
  obtain ⟨n, T', H', L, Hs, k1, k2, k3, k4⟩ := wdc_ev h
  refine ⟨n + 1, _, T', M, H', ?_, k2⟩
  show Ev.ev E.P E.F E.O E.pl (n + 1) g rd (.region id ops true) T M H = _
  rw [ev_draw, hp]
  simp only
  unfold evRegion
  rw [show evDraw E.P E.F (Ev.evCall E.P E.F E.O E.pl n) ops H π T H = _ from k1]
  have : (Hs.all fun q => keptB ops H L q.1 q.2) = true := by
    rw [List.all_eq_true]
    intro q hq
    unfold keptB
    rw [List.all_eq_true]
    intro p hp
    obtain ⟨h0, ⟨o, h1, h2⟩, h3⟩ := k4 p hp
    cases hb : p.2 with
    | none => rfl
    | some b =>
      rcases k3 q hq with hst | hst
      · have hst := List.all_eq_true.1 hst p.1 h0
        rw [h1] at hst
        cases hl : looksB o with
        | false => rw [h2 hl] at hb; cases hb
        | true =>
          simp only [hl, Bool.not_true, Bool.false_or] at hst
          simp [hst]
      · simp [hst b (h3 b hb)]
  simp only [this, if_true]
variable {π0 π : List Stp} {B : Nat → Prop} {i : Nat} {K : List AV → AH → Prop}
theorem wc_nil (h : K T H) : WDC E ops H0 π0 B [] T H K := h
theorem wc_mob (hi : i ∈ mobsOf π0) (h : WDr E ops H0 [.mob i] T H (fun T' H' => H' = H ∧ WDC E ops H0 π0 B π T' H K)) (hb : ∀ o b, ops.toList[i]? = some o → rdA T o = some b → B b) : WDC E ops H0 π0 B (.mob i :: π) T H K := ⟨hi, hb, h⟩
theorem wc_mob0 {o : Oper} (hi : i ∈ mobsOf π0) (h1 : ops.toList[i]? = some o) (hl : looksB o = false) (h : WDr E ops H0 [.mob i] T H (fun T' H' => H' = H ∧ WDC E ops H0 π0 B π T' H K)) : WDC E ops H0 π0 B (.mob i :: π) T H K :=
  ⟨hi, fun o' b h2 hb => (by rw [h1] at h2; cases h2; rw [rdA_none hl] at hb; cases hb), h⟩
theorem wc_loud (h : WDr E ops H0 [.loud i] T H (fun T' H' => (statJ ops π0 i = true ∨ ∀ b, B b → sameBlk (H'.get b) (H0.get b) = true) ∧ WDC E ops H0 π0 B π T' H' K)) : WDC E ops H0 π0 B (.loud i :: π) T H K := h
end
theorem CycR.low {H : AH} {lo lo' : Nat} {s : AV} {cyc : List AV} {os : List (List Nat)} (h : CycR H lo s cyc os) (hl : lo' ≤ lo) : CycR H lo' s cyc os :=
  ⟨h.1, fun j c o hc ho => ⟨(h.2 j c o hc ho).1, fun b hb => by have := (h.2 j c o hc ho).2 b hb; exact ⟨by omega, this.2⟩⟩⟩
theorem putL_get {t : Tr AB} {b : Nat} {x : AB} (hb : b < 2 ^ 39) (m : Nat) : (putL t [(b, x)]).get m = if m = b then some x else t.get m := by
  rw [get_putL t m [(b, x)] (by simpa using hb)]
  by_cases e : m = b
  · subst e; simp [look]
  · have : ¬ b = m := fun h => e h.symm
    simp [look, e, this]
theorem keeps_put {H : AH} {d b : Nat} {x : AB} (hb : H.next ≤ b) (h39 : b < 2 ^ 39) : Keeps H ⟨H.next + d, putL H.tr [(b, x)], H.gl⟩ :=
  ⟨Nat.le_add_right _ _, rfl, fun c hc => by show (putL H.tr [(b, x)]).get c = H.tr.get c; rw [putL_get h39, if_neg (by omega)]⟩
theorem get_put {H : AH} {n b : Nat} {x : AB} {gl : Nat → Option (List Value)} (h39 : b < 2 ^ 39) : (AH.mk n (putL H.tr [(b, x)]) gl).get b = some x := by show (putL H.tr [(b, x)]).get b = _; rw [putL_get h39, if_pos rfl]
theorem get_put' {H : AH} {n b c : Nat} {x : AB} {gl : Nat → Option (List Value)} (h39 : b < 2 ^ 39) (hc : c ≠ b) : (AH.mk n (putL H.tr [(b, x)]) gl).get c = H.get c := by show (putL H.tr [(b, x)]).get c = H.tr.get c; rw [putL_get h39, if_neg hc]
theorem keeps_on {H : AH} {d : Nat} : Keeps H ⟨H.next + d, H.tr, H.gl⟩ := ⟨Nat.le_add_right _ _, rfl, fun _ _ => rfl⟩
def cOf (i : Nat) : Nat := match i with | 0 => 0 | _ => 1
theorem cOf_or (i : Nat) : cOf i = 0 ∨ cOf i = 1 := by cases i <;> simp [cOf]
theorem foldl_four (l : List Nat) : ∀ v, (l.map (4 * ·)).foldl Nat.lcm (4 * v) = 4 * l.foldl Nat.lcm v := by
  induction l with
  | nil => intro v; rfl
  | cons a l ih =>
    intro v
    show (l.map (4 * ·)).foldl Nat.lcm (Nat.lcm (4 * v) (4 * a)) = 4 * l.foldl Nat.lcm (Nat.lcm v a)
    rw [Nat.lcm_mul_left]
    exact ih _
theorem lcmL_four {l : List Nat} (h : l ≠ []) : lcmL (l.map (4 * ·)) = 4 * lcmL l := by
  cases l with
  | nil => exact absurd rfl h
  | cons a l =>
    show (l.map (4 * ·)).foldl Nat.lcm (Nat.lcm 1 (4 * a)) = 4 * l.foldl Nat.lcm (Nat.lcm 1 a)
    rw [Nat.lcm_one_left, Nat.lcm_one_left]
    exact foldl_four l a
structure Fr (f : Nat → Nat) (n : Nat) : Prop where
  pm : Pm f (4 * n)
  hn1 : 1 ≤ n
  hn : n ≤ 8
  h4 : ∀ x, x < 4 * n → 4 ∣ per f (4 * n) x
def prt (f : Nat → Nat) (n : Nat) : List Nat := (lens f (4 * n)).map (· / 4)
section
variable {f : Nat → Nat} {n : Nat}
theorem Fr.lens (h : Fr f n) : Go.Ev.lens f (4 * n) = (prt f n).map (4 * ·) := by
  unfold prt
  rw [List.map_map]
  refine (List.map_id _).symm.trans (List.map_congr_left fun m hm => ?_)
  obtain ⟨o, ho, rfl⟩ := List.mem_map.1 hm
  obtain ⟨s, hs, rfl⟩ := cycs_mem ho
  rw [orb_length]
  have := h.h4 s hs
  show per f (4 * n) s = 4 * (per f (4 * n) s / 4)
  omega
theorem Fr.prt_pos (h : Fr f n) : ∀ y ∈ prt f n, 0 < y := fun y hy => by
  have h1 : 4 * y ∈ Go.Ev.lens f (4 * n) := by rw [h.lens]; exact List.mem_map.2 ⟨y, hy, rfl⟩
  have := lens_pos _ h1
  omega
theorem sum_four (l : List Nat) : (l.map (4 * ·)).sum = 4 * l.sum := by
  induction l with
  | nil => rfl
  | cons a l ih => simp only [List.map_cons, List.sum_cons, ih]; omega
theorem Fr.prt_sum (h : Fr f n) : (prt f n).sum ≤ n := by
  have h1 : (Go.Ev.lens f (4 * n)).sum ≤ 4 * n := h.pm.sum_le
  rw [h.lens, sum_four] at h1
  omega
theorem Fr.prt_ne (h : Fr f n) : prt f n ≠ [] := fun e => by
  obtain ⟨o, ho, _⟩ := h.pm.cycs_all (x := 0) (by have := h.hn1; omega)
  have h1 : Go.Ev.lens f (4 * n) = [] := by rw [h.lens, e]; rfl
  unfold Go.Ev.lens at h1
  rw [List.map_eq_nil_iff.1 h1] at ho
  cases ho
theorem Fr.take_mem (h : Fr f n) (i : Nat) : lcmL ((prt f n).take i) ∈ lcmT (((prt f n).take i).sum) ∧ ((prt f n).take i).sum ≤ 8 := by
  have h1 := h.prt_sum
  have h0 := h.hn
  have h2 := sum_take_le (prt f n) i
  have := lcmT_foldl ((prt f n).take i) 0 1 (by simp [lcmT]) (fun m hm => h.prt_pos m (List.mem_of_mem_take hm)) (by omega)
  rw [Nat.zero_add] at this
  exact ⟨this, by omega⟩
theorem Fr.lcm_take (h : Fr f n) (i : Nat) : lcmL ((Go.Ev.lens f (4 * n)).take (i + 1)) = 4 * lcmL ((prt f n).take (i + 1)) := by
  rw [h.lens, ← List.map_take]
  refine lcmL_four fun e => ?_
  have := h.prt_ne
  cases hp : prt f n with
  | nil => exact this hp
  | cons a l => rw [hp] at e; simp at e
theorem fr_vals : ((List.range 9).all fun s => s == 0 || (lcmT s).all fun v => valsL.contains (4 * v)) = true := by decide +kernel
theorem fr_pairs : ((List.range 9).all fun s => s == 0 || (lcmT s).all fun v => (List.range 9).all fun m => m == 0 || Nat.blt 8 (s + m) || pairsL.contains (1, 4 * v, 4 * m)) = true := by decide +kernel
theorem fr_pairs0 : ((List.range 9).all fun m => m == 0 || pairsL.contains (0, 1, 4 * m)) = true := by decide +kernel
theorem fr_ms : ((List.range 9).all fun m => m == 0 || msL.contains (4 * m)) = true := by decide +kernel
theorem Fr.sum_pos (h : Fr f n) (i : Nat) : 0 < ((prt f n).take (i + 1)).sum := by
  cases hp : prt f n with
  | nil => exact absurd hp h.prt_ne
  | cons a l =>
    have := h.prt_pos a (by rw [hp]; exact List.mem_cons_self)
    simp only [List.take_succ_cons, List.sum_cons]
    omega
theorem Fr.vals_mem (h : Fr f n) (i : Nat) : lcmL ((Go.Ev.lens f (4 * n)).take (i + 1)) ∈ valsL := by
  rw [h.lcm_take]
  obtain ⟨h1, h2⟩ := h.take_mem (i + 1)
  have h3 := fr_vals
  rw [List.all_eq_true] at h3
  have h4 := h3 _ (List.mem_range.2 (show ((prt f n).take (i + 1)).sum < 9 by omega))
  have hp := h.sum_pos i
  rw [show (((prt f n).take (i + 1)).sum == 0) = false by simp; omega, Bool.false_or, List.all_eq_true] at h4
  exact List.contains_iff_mem.1 (h4 _ h1)
theorem Fr.perd_mem (h : Fr f n) : perd f (4 * n) ∈ valsL := by
  have h1 := h.vals_mem (Go.Ev.lens f (4 * n)).length
  rw [List.take_of_length_le (by omega)] at h1
  exact h1
theorem Fr.pairs_mem (h : Fr f n) {i m : Nat} (hm : (Go.Ev.lens f (4 * n))[i]? = some m) : (cOf i, lcmL ((Go.Ev.lens f (4 * n)).take i), m) ∈ pairsL ∧ m ∈ msL := by
  have hm0 := hm
  rw [h.lens, List.getElem?_map] at hm
  cases hy : (prt f n)[i]? with
  | none => rw [hy] at hm; cases hm
  | some y =>
    rw [hy] at hm
    have hm : 4 * y = m := Option.some.inj hm
    subst hm
    have hp := h.prt_pos y (List.mem_of_getElem? hy)
    have hs : ((prt f n).take (i + 1)).sum = ((prt f n).take i).sum + y := by rw [List.take_add_one, hy]; simp
    have h2' := (h.take_mem (i + 1)).2
    have hms : 4 * y ∈ msL := by
      have h3 := fr_ms
      rw [List.all_eq_true] at h3
      have h4 := h3 y (List.mem_range.2 (by omega))
      rw [show (y == 0) = false by simp; omega, Bool.false_or] at h4
      exact List.contains_iff_mem.1 h4
    refine ⟨?_, hms⟩
    cases i with
    | zero =>
      have h3 := fr_pairs0
      rw [List.all_eq_true] at h3
      have h4 := h3 y (List.mem_range.2 (by omega))
      rw [show (y == 0) = false by simp; omega, Bool.false_or] at h4
      exact List.contains_iff_mem.1 h4
    | succ i =>
      rw [h.lcm_take]
      obtain ⟨h1, h2⟩ := h.take_mem (i + 1)
      have hpos := h.sum_pos i
      have h3 := fr_pairs
      rw [List.all_eq_true] at h3
      have h4 := h3 _ (List.mem_range.2 (show ((prt f n).take (i + 1)).sum < 9 by omega))
      rw [show (((prt f n).take (i + 1)).sum == 0) = false by simp; omega, Bool.false_or, List.all_eq_true] at h4
      have h5 := h4 _ h1
      rw [List.all_eq_true] at h5
      have h6 := h5 y (List.mem_range.2 (by omega))
      rw [show (y == 0) = false by simp; omega, Bool.false_or] at h6
      cases hb : Nat.blt 8 (((prt f n).take (i + 1)).sum + y) with
      | true => have : 8 < ((prt f n).take (i + 1)).sum + y := Nat.le_of_ble_eq_true hb; omega
      | false =>
        rw [hb, Bool.false_or] at h6
        exact List.contains_iff_mem.1 h6
end
theorem permL_fr {m : Mc} {n : Nat} (hg : m.g = n) (hn1 : 1 ≤ n) (hn : n ≤ 8) (h : mE m = 0) : Fr (fOf (permL m n)) n :=
  ⟨by have := (permL_okP hg).pm; rw [permL_len hg] at this; exact this, hn1, hn, fun x hx => per_four hg h hx⟩
variable {O : CallF} (hq : Quiet O)
include hq
theorem cCyc (H : AH) (x : AV) (l : List Int) (hx : Sl H x (ivs l)) (ho : Old H x) (hl : l.length ≤ 256) (hok : OkP l) (hr : H.next + 200010 < 2 ^ 39) (K : AV → AH → Prop)
    (hk : ∀ H' s cyc, Keeps H H' → H'.next ≤ H.next + 140001 → Gr H' 22 s cyc → CycR H' H.next s cyc (cycs (fOf l) l.length l.length) → K (.tup [s, iv 0]) H') : Ca (ENV O) 10 [x] H K := by
  refine ca_intro (hq _ _ _ rfl) (fn := Tryz.f10) (by rfl) rfl ?_
  repeat (first | refine wops_nil ?_ | refine zq2 rfl rfl ?_ | refine zq3 rfl rfl ?_ | refine wp_condT rfl ?_ | refine wp_condF rfl ?_ | refine wp_region ?_ | refine wp_seq ?_ | refine wp_skip ?_)
  refine wops_cons (wop_callF rfl rfl rfl (fn := Tryz.f32) (by rfl) ?_)
  refine c12 hq H x l hx ho (by omega) _ fun H1 k1 n1 => ⟨k1.nx, ?_⟩
  rw [permE_ok hl hok]
  repeat (first | refine wops_nil ?_ | refine zq2 rfl rfl ?_ | refine zq3 rfl rfl ?_ | refine wp_condT rfl ?_ | refine wp_condF rfl ?_ | refine wp_region ?_ | refine wp_seq ?_ | refine wp_skip ?_)
  refine wops_cons (wop_cmp rfl rfl rfl rfl rfl (fun h => ?_) (fun h => ?_))
  · exact absurd h (by decide)
  clear h
  repeat (first | refine wops_nil ?_ | refine zq2 rfl rfl ?_ | refine zq3 rfl rfl ?_ | refine wp_condT rfl ?_ | refine wp_condF rfl ?_ | refine wp_region ?_ | refine wp_seq ?_ | refine wp_skip ?_)
  refine wops_cons (wop_callF rfl rfl rfl (fn := Tryz.f33) (by rfl) ?_)
  refine c51 hq H1 x l (hx.keep ho k1) (ho.keep k1) hl hok (by omega) _ fun H3 s cyc k3 n3 hG hcy => ⟨k3.nx, ?_⟩
  repeat (first | refine wops_nil ?_ | refine zq2 rfl rfl ?_ | refine zq3 rfl rfl ?_ | refine wp_condT rfl ?_ | refine wp_condF rfl ?_ | refine wp_region ?_ | refine wp_seq ?_ | refine wp_skip ?_)
  refine wp_ret ?_
  refine ⟨_, _, rfl, ?_⟩
  exact hk H3 s cyc (k1.trans k3) (by omega) hG (hcy.low k1.nx)
theorem cIdent (H : AH) (n : Nat) (hn : n ≤ 256) (hr : H.next + 600 < 2 ^ 39) (K : AV → AH → Prop)
    (hk : ∀ H' c, Keeps H H' → H'.next ≤ H.next + 512 → Sl H' c (ivs (rangeI n)) → Old H' c → CapOk c → K c H') : Ca (ENV O) 18 [iv n] H K := by
  refine ca_intro (hq _ _ _ rfl) (fn := Tryz.f18) (by rfl) rfl ?_
  repeat (first | refine wops_nil ?_ | refine zq1 rfl rfl ?_ | refine zq2 rfl rfl ?_ | refine zq3 rfl rfl ?_ | refine zq4 rfl rfl rfl rfl (inc (by omega)) ?_ | refine zqa rfl rfl rfl ?_ | refine zq5 rfl rfl rfl rfl rfl (by assumption) ?_ | refine zq6 rfl rfl (by assumption) ?_ | refine zqb rfl rfl rfl (by assumption) ?_ | refine zq7 rfl rfl rfl ?_ | refine zq8 rfl rfl rfl ?_ | refine zq9 rfl rfl rfl rfl ?_ | refine wp_condT rfl ?_ | refine wp_condF rfl ?_ | refine wp_region ?_ | refine wp_seq ?_ | refine wp_skip ?_ | refine wp_exit ?_ | refine wp_block ?_)
  refine wp_loop (fun k T M H' => ∃ (i : Nat) (Y : List AV) (s : AV), k = n - i ∧ i ≤ n ∧ Keeps H H' ∧ H'.next ≤ H.next + 2 * i ∧ Gr H' 3 s (ivs (rangeI i)) ∧ (∀ b, s.own = some b → H.next ≤ b) ∧ M = [] ∧ T = (iv n :: lget Y 0 :: lget Y 1 :: s :: iv (i : Nat) :: lget Y 2 :: lget Y 3 :: lget Y 4 :: lget Y 5 :: lget Y 6 :: lget Y 7 :: lget Y 8 :: lget Y 9 :: lget Y 10 :: lget Y 11 :: [])) n
    ⟨0, [_,_,_,_,_,_,_,_,_,_,_,_], .v (.slice none 0 0), rfl, Nat.zero_le _, Keeps.refl H, Nat.le_refl _, .inl ⟨rfl, rfl⟩, (fun b h => by cases h), rfl, rfl⟩ ?_
  rintro k T M H' ⟨i, Y, s, hk1, hi, hK, hn', hG, hs, rfl, rfl⟩
  repeat (first | refine wops_nil ?_ | refine zq1 rfl rfl ?_ | refine zq2 rfl rfl ?_ | refine zq3 rfl rfl ?_ | refine zq4 rfl rfl rfl rfl (inc (by omega)) ?_ | refine zqa rfl rfl rfl ?_ | refine zq5 rfl rfl rfl rfl rfl (by assumption) ?_ | refine zq6 rfl rfl (by assumption) ?_ | refine zqb rfl rfl rfl (by assumption) ?_ | refine zq7 rfl rfl rfl ?_ | refine zq8 rfl rfl rfl ?_ | refine zq9 rfl rfl rfl rfl ?_ | refine wp_condT rfl ?_ | refine wp_condF rfl ?_ | refine wp_region ?_ | refine wp_seq ?_ | refine wp_skip ?_ | refine wp_exit ?_ | refine wp_block ?_)
  refine wops_cons (wop_cmp rfl rfl rfl rfl rfl (fun h => ?_) (fun h => ?_))
  rotate_left
  · have h : ¬ ((i : Int) < n) := of_decide_eq_false h
    have e : i = n := by omega
    subst e
    repeat (first | refine wops_nil ?_ | refine zq1 rfl rfl ?_ | refine zq2 rfl rfl ?_ | refine zq3 rfl rfl ?_ | refine zq4 rfl rfl rfl rfl (inc (by omega)) ?_ | refine zqa rfl rfl rfl ?_ | refine zq5 rfl rfl rfl rfl rfl (by assumption) ?_ | refine zq6 rfl rfl (by assumption) ?_ | refine zqb rfl rfl rfl (by assumption) ?_ | refine zq7 rfl rfl rfl ?_ | refine zq8 rfl rfl rfl ?_ | refine zq9 rfl rfl rfl rfl ?_ | refine wp_condT rfl ?_ | refine wp_condF rfl ?_ | refine wp_region ?_ | refine wp_seq ?_ | refine wp_skip ?_ | refine wp_exit ?_ | refine wp_block ?_)
    refine wp_ret ?_
    refine ⟨_, _, rfl, ?_⟩
    exact hk H' _ hK (by omega) hG.sl hG.old (by rcases hG with ⟨rfl, _⟩ | ⟨b, _, _, rfl, _⟩ <;> first | exact Nat.le_refl _ | exact trivial)
  have h : (i : Int) < n := of_decide_eq_true h
  repeat (first | refine wops_nil ?_ | refine zq1 rfl rfl ?_ | refine zq2 rfl rfl ?_ | refine zq3 rfl rfl ?_ | refine zq4 rfl rfl rfl rfl (inc (by omega)) ?_ | refine zqa rfl rfl rfl ?_ | refine zq5 rfl rfl rfl rfl rfl (by assumption) ?_ | refine zq6 rfl rfl (by assumption) ?_ | refine zqb rfl rfl rfl (by assumption) ?_ | refine zq7 rfl rfl rfl ?_ | refine zq8 rfl rfl rfl ?_ | refine zq9 rfl rfl rfl rfl ?_ | refine wp_condT rfl ?_ | refine wp_condF rfl ?_ | refine wp_region ?_ | refine wp_seq ?_ | refine wp_skip ?_ | refine wp_exit ?_ | refine wp_block ?_)
  have hr' : H'.next < 2 ^ 39 := by omega
  refine wops_cons (o_build1 rfl rfl rfl hr' ?_)
  have k5 := hK.add (.cells [iv i] 3 0) hr'
  have g5 : (H'.add (.cells [iv i] 3 0)).get H'.next = some (.cells [iv i] 3 0) := by rw [AH.get_add _ _ _ hr', if_pos rfl]
  have G5 : Gr (H'.add (.cells [iv i] 3 0)) 3 s (ivs (rangeI i)) := hG.frame (Nat.le_succ _) fun b hb => by rw [AH.get_add _ _ _ hr', if_neg (by have := hG.old b hb; omega)]
  have n5 : (H'.add (.cells [iv i] 3 0)).next = H'.next + 1 := rfl
  refine wops_cons (o_append rfl rfl rfl rfl rfl (by rw [ivs_length, length_rangeI]; omega) (by show H'.next + 1 < 2 ^ 39; omega) rfl g5 rfl G5 fun r H6 er n6 gl6 b6 _ G6 => ?_)
  have k6 := keeps_append k5 n6 gl6 b6 hs
  have n6 : H6.next = H'.next + 1 + 1 := n6
  repeat (first | refine wops_nil ?_ | refine zq1 rfl rfl ?_ | refine zq2 rfl rfl ?_ | refine zq3 rfl rfl ?_ | refine zq4 rfl rfl rfl rfl (inc (by omega)) ?_ | refine zqa rfl rfl rfl ?_ | refine zq5 rfl rfl rfl rfl rfl (by assumption) ?_ | refine zq6 rfl rfl (by assumption) ?_ | refine zqb rfl rfl rfl (by assumption) ?_ | refine zq7 rfl rfl rfl ?_ | refine zq8 rfl rfl rfl ?_ | refine zq9 rfl rfl rfl rfl ?_ | refine wp_condT rfl ?_ | refine wp_condF rfl ?_ | refine wp_region ?_ | refine wp_seq ?_ | refine wp_skip ?_ | refine wp_exit ?_ | refine wp_block ?_)
  refine ⟨n - (i + 1), by omega, i + 1, [_,_,_,_,_,_,_,_,_,_,_,_], r, rfl, by omega, k6, by omega, ?_, (fun b hb => by subst er; cases hb; have := k5.nx; omega), rfl, rfl⟩
  have e : ivs (rangeI (i + 1)) = ivs (rangeI i) ++ [iv i] := by
    simp [rangeI, ivs, List.range_succ]
  rw [e]
  exact G6
end Go.Ev
namespace Go.Ev
open Go.Proofs
theorem lens_at {f : Nat → Nat} {n i : Nat} {o : List Nat} (h : (cycs f n n)[i]? = some o) : (lens f n)[i]? = some o.length := by
  unfold lens; rw [List.getElem?_map, h]; rfl
theorem sameBlk_igr (b c : Nat) : sameBlk (some (.cells [.v (.bool false), .slc b 0 1 c] 73 0)) (some (.cells [.v (.bool false), .slc b 0 1 c] 73 0)) = true := by
  simp [sameBlk, beqs, AV.beq, vbeq]
def Pers (O : CallF) : Prop := ∀ g args H, (Nat.beq g 16 || Nat.beq g 17 || (Nat.ble 34 g && Nat.ble g 37)) = true → O g args H = perO g args H
variable {O : CallF} (hq : Quiet O) (hP : Pers O)
include hq hP
theorem cPer (H : AH) (x : AV) (l : List Int) (hx : Sl H x (ivs l)) (ho : Old H x) (nn : Nat) (hl4 : l.length = 4 * nn) (hF : Fr (fOf l) nn) (hok : OkP l) (hr : H.next + 300000 < 2 ^ 39) (K : AV → AH → Prop)
    (hk : ∀ H', Keeps H H' → H'.next ≤ H.next + 200000 → K (.tup [txt (perd (fOf l) l.length), iv 0]) H') : Ca (ENV O) 11 [x] H K := by
  refine ca_intro (hq _ _ _ rfl) (fn := Tryz.f11) (by rfl) rfl ?_
  repeat (first | refine wops_nil ?_ | refine zq2 rfl rfl ?_ | refine zq3 rfl rfl ?_ | refine zq4 rfl rfl rfl rfl (inc (by omega)) ?_ | refine zq5 rfl rfl rfl rfl rfl (by assumption) ?_ | refine zq6 rfl rfl (by assumption) ?_ | refine zq9 rfl rfl rfl rfl ?_ | refine wp_condT rfl ?_ | refine wp_condF rfl ?_ | refine wp_region ?_ | refine wp_seq ?_ | refine wp_skip ?_ | refine wp_exit ?_ | refine wp_block ?_)
  refine wops_cons (wop_callF rfl rfl rfl (fn := Tryz.f32) (by rfl) ?_)
  refine c12 hq H x l hx ho (by omega) _ fun H1 k1 n1 => ⟨k1.nx, ?_⟩
  have hn8 := hF.hn
  have hn1 := hF.hn1
  rw [permE_ok (by omega) hok]
  repeat (first | refine wops_nil ?_ | refine zq2 rfl rfl ?_ | refine zq3 rfl rfl ?_ | refine zq4 rfl rfl rfl rfl (inc (by omega)) ?_ | refine zq5 rfl rfl rfl rfl rfl (by assumption) ?_ | refine zq6 rfl rfl (by assumption) ?_ | refine zq9 rfl rfl rfl rfl ?_ | refine wp_condT rfl ?_ | refine wp_condF rfl ?_ | refine wp_region ?_ | refine wp_seq ?_ | refine wp_skip ?_ | refine wp_exit ?_ | refine wp_block ?_)
  refine wops_cons (wop_cmp rfl rfl rfl rfl rfl (fun h => ?_) (fun h => ?_))
  · exact absurd h (by decide)
  clear h
  repeat (first | refine wops_nil ?_ | refine zq2 rfl rfl ?_ | refine zq3 rfl rfl ?_ | refine zq4 rfl rfl rfl rfl (inc (by omega)) ?_ | refine zq5 rfl rfl rfl rfl rfl (by assumption) ?_ | refine zq6 rfl rfl (by assumption) ?_ | refine zq9 rfl rfl rfl rfl ?_ | refine wp_condT rfl ?_ | refine wp_condF rfl ?_ | refine wp_region ?_ | refine wp_seq ?_ | refine wp_skip ?_ | refine wp_exit ?_ | refine wp_block ?_)
  refine wops_cons (wop_callF rfl rfl rfl (fn := Tryz.f34) (by rfl) ?_)
  have p39 : H1.next + 1 < 2 ^ 39 := by omega
  refine ca_oracle ((hP 34 _ H1 rfl).trans (perO_io (m := 1) (by decide) (by omega))) ⟨Nat.le_add_right _ _, ?_⟩
  have k2 : Keeps H1 ⟨H1.next + 2, putL H1.tr [(H1.next + 1, blkV 0 1)], H1.gl⟩ := keeps_put (Nat.le_succ _) p39
  have g2 : (AH.mk (H1.next + 2) (putL H1.tr [(H1.next + 1, blkV 0 1)]) H1.gl).get (H1.next + 1) = some (blkV 0 1) := get_put p39
  have n2 : (AH.mk (H1.next + 2) (putL H1.tr [(H1.next + 1, blkV 0 1)]) H1.gl).next = H1.next + 2 := rfl
  have k2 := k1.trans k2
  generalize hpb : H1.next + 1 = pb0 at g2 k2 n2 p39 ⊢
  generalize AH.mk (H1.next + 2) (putL H1.tr [(pb0, blkV 0 1)]) H1.gl = H2 at k2 g2 n2 ⊢
  repeat (first | refine wops_nil ?_ | refine zq2 rfl rfl ?_ | refine zq3 rfl rfl ?_ | refine zq4 rfl rfl rfl rfl (inc (by omega)) ?_ | refine zq5 rfl rfl rfl rfl rfl (by assumption) ?_ | refine zq6 rfl rfl (by assumption) ?_ | refine zq9 rfl rfl rfl rfl ?_ | refine wp_condT rfl ?_ | refine wp_condF rfl ?_ | refine wp_region ?_ | refine wp_seq ?_ | refine wp_skip ?_ | refine wp_exit ?_ | refine wp_block ?_)
  refine wops_cons (o_alloc2 rfl rfl (by omega) ?_)
  have k3 := k2.add (.cells [.v (.bool false), .v (.slice none 0 0)] 73 0) (by omega)
  have g3 : (H2.add (.cells [.v (.bool false), .v (.slice none 0 0)] 73 0)).get H2.next = some (.cells [.v (.bool false), .v (.slice none 0 0)] 73 0) := get_add_eq (by omega)
  have g3' : (H2.add (.cells [.v (.bool false), .v (.slice none 0 0)] 73 0)).get pb0 = some (blkV 0 1) := by rw [AH.get_add _ _ _ (by omega), if_neg (by omega)]; exact g2
  have n3 : (H2.add (.cells [.v (.bool false), .v (.slice none 0 0)] 73 0)).next = H2.next + 1 := rfl
  have hb39 : H2.next < 2 ^ 39 := by omega
  have hpbb : pb0 < H2.next := by omega
  have hbH : H.next ≤ H2.next := k2.nx
  have hbm : H2.next ≤ H.next + 3 := by omega
  generalize H2.add (.cells [.v (.bool false), .v (.slice none 0 0)] 73 0) = H3 at k3 g3 g3' n3 ⊢
  generalize H2.next = b5 at g3 n3 hb39 hpbb hbH hbm ⊢
  repeat (first | refine wops_nil ?_ | refine zq2 rfl rfl ?_ | refine zq3 rfl rfl ?_ | refine zq4 rfl rfl rfl rfl (inc (by omega)) ?_ | refine zq5 rfl rfl rfl rfl rfl (by assumption) ?_ | refine zq6 rfl rfl (by assumption) ?_ | refine zq9 rfl rfl rfl rfl ?_ | refine wp_condT rfl ?_ | refine wp_condF rfl ?_ | refine wp_region ?_ | refine wp_seq ?_ | refine wp_skip ?_ | refine wp_exit ?_ | refine wp_block ?_)
  refine wops_cons (o_store2 rfl rfl rfl rfl g3 rfl rfl ?_)
  have k4 := k3.set (some (.cells [.v (.bool false), .slc pb0 0 1 1] 73 0)) hbH hb39
  have g4 : (H3.set b5 (some (.cells [.v (.bool false), .slc pb0 0 1 1] 73 0))).get b5 = some (.cells [.v (.bool false), .slc pb0 0 1 1] 73 0) := by rw [AH.get_set _ _ _ _ hb39, if_pos rfl]
  have g4' : (H3.set b5 (some (.cells [.v (.bool false), .slc pb0 0 1 1] 73 0))).get pb0 = some (blkV 0 1) := by rw [AH.get_set _ _ _ _ hb39, if_neg (by omega)]; exact g3'
  have n4 : (H3.set b5 (some (.cells [.v (.bool false), .slc pb0 0 1 1] 73 0))).next = H3.next := rfl
  generalize H3.set b5 (some (.cells [.v (.bool false), .slc pb0 0 1 1] 73 0)) = H4 at k4 g4 g4' n4 ⊢
  repeat (first | refine wops_nil ?_ | refine zq2 rfl rfl ?_ | refine zq3 rfl rfl ?_ | refine zq4 rfl rfl rfl rfl (inc (by omega)) ?_ | refine zq5 rfl rfl rfl rfl rfl (by assumption) ?_ | refine zq6 rfl rfl (by assumption) ?_ | refine zq9 rfl rfl rfl rfl ?_ | refine wp_condT rfl ?_ | refine wp_condF rfl ?_ | refine wp_region ?_ | refine wp_seq ?_ | refine wp_skip ?_ | refine wp_exit ?_ | refine wp_block ?_)
  refine wops_cons (wop_callF rfl rfl rfl (fn := Tryz.f33) (by rfl) ?_)
  refine c51 hq H4 x l (hx.keep ho k4) (ho.keep k4) (by omega) hok (by omega) _ fun H5 s cyc k5 n5 hG hcy => ⟨k5.nx, ?_⟩
  generalize fOf l = f at hF hcy hk
  rw [hl4] at hcy hk
  have hpm := hF.pm
  generalize hn : 4 * nn = n at hpm hcy hk hl4
  have g5 := (k5.get b5 (by omega)).trans g4
  have g5' := (k5.get pb0 (by omega)).trans g4'
  have k5' := k4.trans k5
  have m5 := k5.nx
  refine wops_cons (o_lenN rfl rfl rfl rfl rfl hG.sl hcy.1 ?_)
  have hn32 : n ≤ 32 := by omega
  have hcl : (cycs f n n).length ≤ n := by unfold cycs; rw [List.length_map]; exact Nat.le_trans (List.length_filter_le _ _) (by simp)
  have hll : (lens f n).length = (cycs f n n).length := by simp [lens]
  repeat (first | refine wops_nil ?_ | refine zq2 rfl rfl ?_ | refine zq3 rfl rfl ?_ | refine zq4 rfl rfl rfl rfl (inc (by omega)) ?_ | refine zq5 rfl rfl rfl rfl rfl (by assumption) ?_ | refine zq6 rfl rfl (by assumption) ?_ | refine zq9 rfl rfl rfl rfl ?_ | refine wp_condT rfl ?_ | refine wp_condF rfl ?_ | refine wp_region ?_ | refine wp_seq ?_ | refine wp_skip ?_ | refine wp_exit ?_ | refine wp_block ?_)
  refine wp_loop (fun q T M H' => ∃ (i : Nat) (Y : List AV) (pb : Nat), q = (cycs f n n).length - i ∧ i ≤ (cycs f n n).length ∧ H5.next ≤ H'.next ∧ H'.next ≤ H5.next + 32 * i ∧ H'.gl = H5.gl ∧ (∀ c, c ≠ b5 → c < H5.next → H'.get c = H5.get c) ∧ H'.get b5 = some (.cells [.v (.bool false), .slc pb 0 1 (cOf i + 1)] 73 0) ∧ H'.get pb = some (blkV (cOf i) (lcmL ((lens f n).take i))) ∧ pb < H'.next ∧ pb ≠ b5 ∧ M = [] ∧
      T = (lget Y 0 :: lget Y 1 :: lget Y 2 :: lget Y 3 :: lget Y 4 :: .ptr b5 0 :: lget Y 5 :: lget Y 6 :: lget Y 7 :: lget Y 8 :: lget Y 9 :: lget Y 10 :: lget Y 11 :: lget Y 12 :: lget Y 13 :: s :: iv (cycs f n n).length :: iv (i : Nat) :: lget Y 14 :: lget Y 15 :: lget Y 16 :: lget Y 17 :: lget Y 18 :: lget Y 19 :: lget Y 20 :: lget Y 21 :: lget Y 22 :: lget Y 23 :: lget Y 24 :: lget Y 25 :: lget Y 26 :: lget Y 27 :: [])) (cycs f n n).length
    ⟨0, [_,_,_,_,_,_,_,_,_,_,_,_,_,_,_,_,_,_,_,_,_,_,_,_,_,_,_,_], pb0, rfl, Nat.zero_le _, Nat.le_refl _, Nat.le_refl _, rfl, fun _ _ _ => rfl, g5, g5', by omega, by omega, rfl, rfl⟩ ?_
  rintro q T M H' ⟨i, Y, pb, hq1, hi, hlo', hn', hgl', hg', hgb, hgp, hpb', hpne, rfl, rfl⟩
  have hKH : Keeps H H' := ⟨by have := k5'.nx; omega, hgl'.trans k5'.gl, fun c hc => (hg' c (by omega) (by have := k5'.nx; omega)).trans (k5'.get c hc)⟩
  repeat (first | refine wops_nil ?_ | refine zq2 rfl rfl ?_ | refine zq3 rfl rfl ?_ | refine zq4 rfl rfl rfl rfl (inc (by omega)) ?_ | refine zq5 rfl rfl rfl rfl rfl (by assumption) ?_ | refine zq6 rfl rfl (by assumption) ?_ | refine zq9 rfl rfl rfl rfl ?_ | refine wp_condT rfl ?_ | refine wp_condF rfl ?_ | refine wp_region ?_ | refine wp_seq ?_ | refine wp_skip ?_ | refine wp_exit ?_ | refine wp_block ?_)
  refine wops_cons (wop_cmp rfl rfl rfl rfl rfl (fun h => ?_) (fun h => ?_))
  rotate_left
  · have h : ¬ ((i : Int) < (cycs f n n).length) := of_decide_eq_false h
    have e : i = (cycs f n n).length := by omega
    have hi0 : i ≠ 0 := fun h0 => by
      have h1 := hF.prt_ne
      have h2 : (prt f nn).length = 0 := by unfold prt; rw [List.length_map, hn, hll, ← e, h0]
      exact h1 (List.length_eq_zero_iff.1 h2)
    have he : lcmL ((lens f n).take i) = perd f n := by rw [List.take_of_length_le (by omega)]; rfl
    have hv : perd f n ∈ valsL := by rw [← hn]; exact hF.perd_mem
    have hco : cOf i = 1 := by cases i with | zero => exact absurd rfl hi0 | succ i => rfl
    rw [hco, he] at hgp
    rw [hco] at hgb
    repeat (first | refine wops_nil ?_ | refine zq2 rfl rfl ?_ | refine zq3 rfl rfl ?_ | refine zq4 rfl rfl rfl rfl (inc (by omega)) ?_ | refine zq5 rfl rfl rfl rfl rfl (by assumption) ?_ | refine zq6 rfl rfl (by assumption) ?_ | refine zq9 rfl rfl rfl rfl ?_ | refine wp_condT rfl ?_ | refine wp_condF rfl ?_ | refine wp_region ?_ | refine wp_seq ?_ | refine wp_skip ?_ | refine wp_exit ?_ | refine wp_block ?_)
    refine wops_cons (o_load2 rfl rfl rfl hgb ?_)
    repeat (first | refine wops_nil ?_ | refine zq2 rfl rfl ?_ | refine zq3 rfl rfl ?_ | refine zq4 rfl rfl rfl rfl (inc (by omega)) ?_ | refine zq5 rfl rfl rfl rfl rfl (by assumption) ?_ | refine zq6 rfl rfl (by assumption) ?_ | refine zq9 rfl rfl rfl rfl ?_ | refine wp_condT rfl ?_ | refine wp_condF rfl ?_ | refine wp_region ?_ | refine wp_seq ?_ | refine wp_skip ?_ | refine wp_exit ?_ | refine wp_block ?_)
    refine wops_cons (wop_callF rfl rfl rfl (fn := Tryz.f37) (by rfl) ?_)
    refine ca_oracle ((hP 37 _ H' rfl).trans (perO_wh hv hgp (by omega))) ⟨Nat.le_add_right _ _, ?_⟩
    have kw : Keeps H' ⟨H'.next + 2, H'.tr, H'.gl⟩ := keeps_on
    have gw : (AH.mk (H'.next + 2) H'.tr H'.gl).get pb = some (blkV 1 (perd f n)) := hgp
    have nw : (AH.mk (H'.next + 2) H'.tr H'.gl).next = H'.next + 2 := rfl
    generalize AH.mk (H'.next + 2) H'.tr H'.gl = Hw at kw gw nw ⊢
    repeat (first | refine wops_nil ?_ | refine zq2 rfl rfl ?_ | refine zq3 rfl rfl ?_ | refine zq4 rfl rfl rfl rfl (inc (by omega)) ?_ | refine zq5 rfl rfl rfl rfl rfl (by assumption) ?_ | refine zq6 rfl rfl (by assumption) ?_ | refine zq9 rfl rfl rfl rfl ?_ | refine wp_condT rfl ?_ | refine wp_condF rfl ?_ | refine wp_region ?_ | refine wp_seq ?_ | refine wp_skip ?_ | refine wp_exit ?_ | refine wp_block ?_)
    refine wops_cons (wop_callF rfl rfl rfl (fn := Tryz.f36) (by rfl) ?_)
    refine ca_oracle ((hP 36 _ Hw rfl).trans (perO_wr hv gw (by omega))) ⟨Nat.le_add_right _ _, ?_⟩
    have kx : Keeps Hw ⟨Hw.next + 5, Hw.tr, Hw.gl⟩ := keeps_on
    have nx : (AH.mk (Hw.next + 5) Hw.tr Hw.gl).next = Hw.next + 5 := rfl
    generalize AH.mk (Hw.next + 5) Hw.tr Hw.gl = Hx at kx nx ⊢
    repeat (first | refine wops_nil ?_ | refine zq2 rfl rfl ?_ | refine zq3 rfl rfl ?_ | refine zq4 rfl rfl rfl rfl (inc (by omega)) ?_ | refine zq5 rfl rfl rfl rfl rfl (by assumption) ?_ | refine zq6 rfl rfl (by assumption) ?_ | refine zq9 rfl rfl rfl rfl ?_ | refine wp_condT rfl ?_ | refine wp_condF rfl ?_ | refine wp_region ?_ | refine wp_seq ?_ | refine wp_skip ?_ | refine wp_exit ?_ | refine wp_block ?_)
    refine wp_ret ?_
    refine ⟨_, _, rfl, ?_⟩
    exact hk Hx ((hKH.trans kw).trans kx) (by omega)
  have h : (i : Int) < (cycs f n n).length := of_decide_eq_true h
  obtain ⟨o, hoi⟩ : ∃ o, (cycs f n n)[i]? = some o := ⟨_, List.getElem?_eq_getElem (by omega)⟩
  obtain ⟨c, hci⟩ : ∃ c, cyc[i]? = some c := ⟨_, List.getElem?_eq_getElem (by rw [hcy.1]; omega)⟩
  obtain ⟨hc1, hc2⟩ := hcy.2 i c o hci hoi
  have hsown : ∀ c, s.own = some c → c ≠ b5 := fun c hc e => by
    subst e
    obtain ⟨cs', g, h1⟩ := hG.own_cells hc
    rw [g5] at h1; cases h1
  have hSl : Sl H' s cyc := hG.sl.frame hgl' fun c hc => hg' c (hsown c hc) (hG.old c hc)
  have hcb : ∀ d, c.own = some d → d ≠ b5 := fun d hd => by have := hc2 d hd; omega
  have hcS : True ∧ Sl H' c (nvs o) := ⟨trivial, hc1.frame hgl' fun d hd => hg' d (hcb d hd) (hc2 d hd).2.1⟩
  obtain ⟨hpr, hms⟩ := hF.pairs_mem (i := i) (m := o.length) (by rw [hn]; exact lens_at hoi)
  rw [hn] at hpr
  have hcm : lcmL ((lens f n).take (i + 1)) = Nat.lcm (lcmL ((lens f n).take i)) o.length := lcmL_succ (lens_at hoi)
  have hlo : (nvs o).length = o.length := nvs_length o
  repeat (first | refine wops_nil ?_ | refine zq2 rfl rfl ?_ | refine zq3 rfl rfl ?_ | refine zq4 rfl rfl rfl rfl (inc (by omega)) ?_ | refine zq5 rfl rfl rfl rfl rfl (by assumption) ?_ | refine zq6 rfl rfl (by assumption) ?_ | refine zq9 rfl rfl rfl rfl ?_ | refine wp_condT rfl ?_ | refine wp_condF rfl ?_ | refine wp_region ?_ | refine wp_seq ?_ | refine wp_skip ?_ | refine wp_exit ?_ | refine wp_block ?_)
  refine wops_cons (o_index rfl rfl hSl rfl hci fun pt hpt => ?_)
  repeat (first | refine wops_nil ?_ | refine zq2 rfl rfl ?_ | refine zq3 rfl rfl ?_ | refine zq4 rfl rfl rfl rfl (inc (by omega)) ?_ | refine zq5 rfl rfl rfl rfl rfl (by assumption) ?_ | refine zq6 rfl rfl (by assumption) ?_ | refine zq9 rfl rfl rfl rfl ?_ | refine wp_condT rfl ?_ | refine wp_condF rfl ?_ | refine wp_region ?_ | refine wp_seq ?_ | refine wp_skip ?_ | refine wp_exit ?_ | refine wp_block ?_)
  refine wp_drawC (fun b => b = b5) rfl ?_
  refine wc_mob (by decide) (d_load2 rfl rfl rfl rfl hb39 hgb ⟨rfl, ?_⟩) (fun o b h1 h2 => by cases h1; cases h2; rfl)
  refine wc_mob0 (by decide) rfl rfl (wd_move rfl rfl rfl ⟨rfl, ?_⟩)
  refine wc_mob0 (by decide) rfl rfl (wd_lenA rfl rfl rfl rfl rfl rfl (TyS.u (t := 22)) hcS.2 ⟨rfl, ?_⟩)
  rw [hlo]
  refine wc_loud (wd_loudCall rfl rfl rfl (fun b h => by cases h) ?_)
  refine wop_callF rfl rfl rfl (fn := Tryz.f34) (by rfl) ?_
  have q39 : H'.next + 1 < 2 ^ 39 := by omega
  refine ca_oracle ((hP 34 _ H' rfl).trans (perO_io (m := o.length) hms (by omega))) ⟨Nat.le_add_right _ _, .inr (fun b hb => ?_), ?_⟩
  · subst hb
    rw [get_put' q39 (by have := k5'.nx; omega), hgb]
    exact sameBlk_igr _ _
  have k6 : Keeps H' ⟨H'.next + 2, putL H'.tr [(H'.next + 1, blkV 0 o.length)], H'.gl⟩ := keeps_put (Nat.le_succ _) q39
  have g6 : (AH.mk (H'.next + 2) (putL H'.tr [(H'.next + 1, blkV 0 o.length)]) H'.gl).get (H'.next + 1) = some (blkV 0 o.length) := get_put q39
  have n6 : (AH.mk (H'.next + 2) (putL H'.tr [(H'.next + 1, blkV 0 o.length)]) H'.gl).next = H'.next + 2 := rfl
  generalize hpb2 : H'.next + 1 = pb2 at g6 k6 n6 q39 ⊢
  generalize AH.mk (H'.next + 2) (putL H'.tr [(pb2, blkV 0 o.length)]) H'.gl = H6 at k6 g6 n6 ⊢
  have g6' := (k6.get pb hpb').trans hgp
  refine wc_loud (wd_loudCall rfl rfl rfl (fun b h => by cases h) ?_)
  refine wop_callF rfl rfl rfl (fn := Tryz.f35) (by rfl) ?_
  have r39 : H6.next + 26 < 2 ^ 39 := by omega
  refine ca_oracle ((hP 35 _ H6 rfl).trans (perO_cm hpr (cOf_or i) g6' g6 (by omega) (by omega))) ⟨Nat.le_add_right _ _, .inl (by kernel_rfl), ?_⟩
  rw [← hcm]
  have k7 : Keeps H6 ⟨H6.next + 30, putL H6.tr [(H6.next + 26, blkV 1 (lcmL ((lens f n).take (i + 1))))], H6.gl⟩ := keeps_put (by omega) r39
  have g7 : (AH.mk (H6.next + 30) (putL H6.tr [(H6.next + 26, blkV 1 (lcmL ((lens f n).take (i + 1))))]) H6.gl).get (H6.next + 26) = some (blkV 1 (lcmL ((lens f n).take (i + 1)))) := get_put r39
  have n7 : (AH.mk (H6.next + 30) (putL H6.tr [(H6.next + 26, blkV 1 (lcmL ((lens f n).take (i + 1))))]) H6.gl).next = H6.next + 30 := rfl
  generalize hpb3 : H6.next + 26 = pb3 at g7 k7 n7 r39 ⊢
  generalize AH.mk (H6.next + 30) (putL H6.tr [(pb3, blkV 1 (lcmL ((lens f n).take (i + 1))))]) H6.gl = H7 at k7 g7 n7 ⊢
  have k7 := k6.trans k7
  have g7b := (k7.get b5 (by have := k5'.nx; omega)).trans hgb
  refine wc_loud (wd_loud rfl rfl (o_store2 rfl rfl rfl rfl g7b rfl rfl ⟨.inl (by kernel_rfl), ?_⟩))
  refine wc_nil ?_
  repeat (first | refine wops_nil ?_ | refine zq2 rfl rfl ?_ | refine zq3 rfl rfl ?_ | refine zq4 rfl rfl rfl rfl (inc (by omega)) ?_ | refine zq5 rfl rfl rfl rfl rfl (by assumption) ?_ | refine zq6 rfl rfl (by assumption) ?_ | refine zq9 rfl rfl rfl rfl ?_ | refine wp_condT rfl ?_ | refine wp_condF rfl ?_ | refine wp_region ?_ | refine wp_seq ?_ | refine wp_skip ?_ | refine wp_exit ?_ | refine wp_block ?_)
  refine ⟨(cycs f n n).length - (i + 1), by omega, i + 1, [_,_,_,_,_,_,_,_,_,_,_,_,_,_,_,_,_,_,_,_,_,_,_,_,_,_,_,_], pb3, rfl, by omega, by show H5.next ≤ H7.next; omega, by show H7.next ≤ _; omega, by show H7.gl = _; exact k7.gl.trans hgl', fun c hc1 hc2 => ?_, ?_, ?_, by show pb3 < H7.next; omega, by omega, rfl, rfl⟩
  · rw [AH.get_set _ _ _ _ hb39, if_neg hc1]
    exact (k7.get c (by omega)).trans (hg' c hc1 hc2)
  · rw [AH.get_set _ _ _ _ hb39, if_pos rfl]
    rfl
  · rw [AH.get_set _ _ _ _ hb39, if_neg (by omega)]
    exact g7
end Go.Ev
