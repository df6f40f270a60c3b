/- Part of an evaluator of calls that is proved sound, and of what it gives about this program. No condition of its own. -/
import Derived.Test.YtcbmpnddhnkfnaaGreatDoorEvHu
import Derived.Test.YtcbmpnddhnkfnaaGreatDoorEvHk
import Derived.Test.YtcbmpnddhnkfnaaGreatDoorEvHc
import Derived.Test.YtcbmpnddhnkfnaaGreatDoorEvKf
set_option linter.unusedVariables false
set_option linter.unusedSimpArgs false
set_option linter.unusedSectionVars false
set_option maxRecDepth 100000
set_option maxHeartbeats 4000000
namespace Go.Ev
open Go.Proofs
variable {O : CallF} (hq : Quiet O)
include hq
theorem cForw (H : AH) (a x : AV) (m : Mc) (n : Int) (ha : a.cells = mc m x) (hn : 0 ≤ n ∧ n ≤ 100) (hr : H.next < 2 ^ 39) (K : AV → AH → Prop) (hk : ∀ H', Keeps H H' → H'.next = H.next + 1 → K (.v (.bool (fwE m n))) H') : Ca (ENV O) 105 [a, iv n] H K := by
 refine ca_intro (hq _ _ _ rfl) (fn := Tryz.f105) (by rfl) rfl ?_
 repeat (first | apply qR | apply qS)
 refine wops_cons (o_boxM rfl rfl ha hr fun H1 n1 k1 b1 => ?_)
 have hp2 := b1.p2
 repeat (first | apply qN | refine qM rfl rfl ?_ | refine zqa rfl rfl rfl ?_ | refine zq6 rfl rfl ‹_› ?_ | apply qR | apply qS)
 refine wops_cons (wop_val (r := .v (.bool (decide (m.t = 1)))) (H' := H1) rfl rfl (by kernel_rfl) (Nat.le_refl _) ?_)
 repeat (first | refine qM rfl rfl ?_)
 refine wops_cons (wop_rem rfl rfl rfl rfl (by decide) ?_)
 refine wops_cons (wop_val (r := .v (.bool (decide (n.tmod 2 = 0)))) (H' := H1) rfl rfl (by kernel_rfl) (Nat.le_refl _) ?_)
 refine wops_cons (wop_val (r := .v (.bool (fwE m n))) (H' := H1) rfl rfl (by kernel_rfl) (Nat.le_refl _) ?_)
 repeat (first | apply qN | refine qM rfl rfl ?_)
 refine wp_ret ?_
 exact ⟨_, _, rfl, hk H1 k1 n1⟩
theorem cSetP (H : AH) (a x : AV) (m : Mc) (p : Int) (ha : a.cells = mc m x) (hx : Sl H x (ivs m.sw)) (ho : Old H x) (hl : m.sw.length ≤ 100000) (hr : H.next < 2 ^ 39) (K : AV → AH → Prop) (hk : ∀ H', Keeps H H' → H'.next = H.next + 1 → K (.v (.bool (decide (p ∈ m.sw)))) H') : Ca (ENV O) 153 [a, iv p] H K := by
 refine ca_intro (hq _ _ _ rfl) (fn := Tryz.f153) (by rfl) rfl ?_
 repeat (first | apply qR | apply qS)
 refine wops_cons (o_boxM rfl rfl ha hr fun H1 n1 k1 b1 => ?_)
 have hp3 := b1.p3
 have hx1 := hx.keep ho k1
 repeat (first | apply qN | refine qM rfl rfl ?_ | apply qR | apply qS | apply qB)
 refine wp_loop (fun q T M H' => ∃ (i : Nat) (Y : List AV), q = m.sw.length - i ∧ i ≤ m.sw.length ∧ (∀ (j : Nat) (z : Int), j < i → m.sw[j]? = some z → z ≠ p) ∧ M = [] ∧ H' = H1 ∧ T = (lget Y 0 :: iv p :: .ptr H.next 0 :: lget Y 1 :: lget Y 2 :: iv (i : Nat) :: lget Y 3 :: lget Y 4 :: lget Y 5 :: lget Y 6 :: lget Y 7 :: lget Y 8 :: lget Y 9 :: lget Y 10 :: lget Y 11 :: lget Y 12 :: lget Y 13 :: lget Y 14 :: lget Y 15 :: lget Y 16 :: [])) m.sw.length
   ⟨0, [_,_,_,_,_,_,_,_,_,_,_,_,_,_,_,_,_], rfl, Nat.zero_le _, fun j z h => absurd h (Nat.not_lt_zero _), rfl, rfl, rfl⟩ ?_
 rintro q T M H' ⟨i, Y, hq1, hi, hno, rfl, rfl, rfl⟩
 repeat (first | refine qM rfl rfl ?_ | refine zqa rfl rfl rfl ?_ | refine zq5 rfl rfl rfl rfl rfl ‹_› ?_ | refine zq6 rfl rfl ‹_› ?_ | apply qR | apply qS)
 refine wops_cons (wop_cmp rfl rfl rfl rfl rfl (fun h => ?_) (fun h => ?_))
 rotate_left
 · have h : ¬ ((i : Int) < (m.sw.length : Nat)) := of_decide_eq_false h
   have e : decide (p ∈ m.sw) = false := decide_eq_false fun hm => by
     obtain ⟨j, hj⟩ := List.mem_iff_getElem?.1 hm
     exact hno j p (by have := (List.getElem?_eq_some_iff.1 hj).1; omega) hj rfl
   repeat (first | apply qN | refine qM rfl rfl ?_ | refine qF rfl ?_ | apply qR | apply qS | apply qE)
   refine wp_ret ?_
   refine ⟨_, _, rfl, ?_⟩
   rw [← e]
   exact hk _ k1 n1
 have h' : (i : Int) < (m.sw.length : Nat) := of_decide_eq_true h
 clear h
 obtain ⟨z, hz⟩ := l_some (show i < m.sw.length by omega)
 repeat (first | apply qN | refine qM rfl rfl ?_ | refine zqa rfl rfl rfl ?_ | refine zq6 rfl rfl ‹_› ?_ | refine qT rfl ?_ | apply qR | apply qS | apply qK | apply qB)
 refine wops_cons (o_indexI rfl rfl hx1 rfl hz fun pp hpp => ?_)
 repeat (first | refine qM rfl rfl ?_ | refine zq6 rfl rfl ‹_› ?_)
 refine wops_cons (wop_cmp rfl rfl rfl rfl rfl (fun h => ?_) (fun h => ?_))
 · have hzp : z = p := by simpa using h
   have e : decide (p ∈ m.sw) = true := decide_eq_true (by rw [← hzp]; exact List.mem_of_getElem? hz)
   repeat (first | apply qN | refine qM rfl rfl ?_ | refine qT rfl ?_ | apply qR | apply qS)
   refine wp_ret ?_
   refine ⟨_, _, rfl, ?_⟩
   rw [← e]
   exact hk _ k1 n1
 have hzp : z ≠ p := by simpa using h
 repeat (first | apply qN | refine qM rfl rfl ?_ | refine zq4 rfl rfl rfl rfl (inc (by omega)) ?_ | refine qF rfl ?_ | apply qR | apply qK)
 refine ⟨m.sw.length - (i + 1), by omega, i + 1, [_,_,_,_,_,_,_,_,_,_,_,_,_,_,_,_,_], rfl, by omega, fun j w hj hw => ?_, rfl, rfl, rfl⟩
 by_cases e : j = i
 · subst e; rw [hz] at hw; cases hw; exact hzp
 · exact hno j w (by omega) hw
theorem cOther (H : AH) (a x : AV) (m : Mc) (n z p o : Nat) (ha : a.cells = mc m x) (hg : m.g = n) (hn1 : 1 ≤ n) (hn : n ≤ 16) (hz : z < 4 * n) (hpl : plE m z = p) (hsh : shB m p = true) (ho1 : o < 4 * n) (hoz : o ≠ z) (hop : plE m o = p) (hu : ∀ t : Nat, t < 4 * n → t ≠ z → plE m t = p → t = o)
   (hr : H.next + 1000 < 2 ^ 39) (K : AV → AH → Prop) (hk : ∀ H', Keeps H H' → H'.next ≤ H.next + 300 → K (iv (o : Nat)) H') : Ca (ENV O) 102 [a, iv (z : Nat)] H K := by
 refine ca_intro (hq _ _ _ rfl) (fn := Tryz.f102) (by rfl) rfl ?_
 repeat (first | apply qR | apply qS)
 refine wops_cons (o_boxM rfl rfl ha (by omega) fun H1 n1 k1 b1 => ?_)
 repeat (first | apply qN | refine qM rfl rfl ?_ | refine zqb rfl rfl rfl ‹_› ?_ | apply qR | apply qS)
 refine wops_cons (wop_callF rfl rfl rfl (fn := Tryz.f68) (by rfl) ?_)
 refine c68 hq H1 _ x m (z : Int) rfl (by omega) (by omega) (by omega) _ fun H2 k2 n2 => ⟨k2.nx, ?_⟩
 rw [hpl]
 have b2 := b1.keep (by omega) k2
 have k02 := k1.trans k2
 repeat (first | apply qN | refine qM rfl rfl ?_ | apply qR | apply qS)
 refine wops_cons (wop_bin (op := .lss) (v := .bool false) rfl rfl rfl rfl (by
   show some (Value.bool (decide ((p : Int) < 0))) = _
   rw [decide_eq_false (by omega)]) ?_)
 repeat (first | refine qM rfl rfl ?_ | refine zqb rfl rfl rfl ‹_› ?_)
 refine wops_cons (wop_callF rfl rfl rfl (fn := Tryz.f71) (by rfl) ?_)
 refine c71 hq H2 _ x m (p : Int) rfl (by omega) (by omega) _ fun H3 k3 n3 => ⟨k3.nx, ?_⟩
 rw [hsh]
 have b3 := b2.keep (by omega) k3
 have k03 := k02.trans k3
 have n3' : H3.next = H.next + 3 := by omega
 clear b1 b2 k1 k2 k3 n1 n2 n3 k02
 repeat (first | apply qN | refine qM rfl rfl ?_ | refine zq7 rfl rfl rfl ?_ | refine zq8 rfl rfl rfl ?_ | refine qF rfl ?_ | apply qR | apply qS | apply qK | apply qB)
 refine wp_loop (fun q T M H' => ∃ (i : Nat) (Y : List AV), q = 4 * n - i ∧ i ≤ o ∧ Keeps H3 H' ∧ H'.next ≤ H3.next + 2 * i ∧ M = [] ∧ T = (lget Y 0 :: iv (z : Nat) :: .ptr H.next 0 :: lget Y 1 :: lget Y 2 :: iv (p : Nat) :: iv (i : Nat) :: lget Y 3 :: lget Y 4 :: lget Y 5 :: lget Y 6 :: lget Y 7 :: lget Y 8 :: lget Y 9 :: lget Y 10 :: lget Y 11 :: lget Y 12 :: lget Y 13 :: lget Y 14 :: lget Y 15 :: lget Y 16 :: lget Y 17 :: lget Y 18 :: lget Y 19 :: lget Y 20 :: lget Y 21 :: lget Y 22 :: lget Y 23 :: lget Y 24 :: lget Y 25 :: lget Y 26 :: lget Y 27 :: lget Y 28 :: lget Y 29 :: lget Y 30 :: [])) (4 * n)
   ⟨0, [_,_,_,_,_,_,_,_,_,_,_,_,_,_,_,_,_,_,_,_,_,_,_,_,_,_,_,_,_,_,_], rfl, Nat.zero_le _, Keeps.refl _, Nat.le_refl _, rfl, rfl⟩ ?_
 rintro q T M H4 ⟨i, Y, hq1, hi, k4, n4, rfl, rfl⟩
 have b4 := b3.keep (by omega) k4
 have l4 := k4.nx
 repeat (first | refine qM rfl rfl ?_ | refine zqb rfl rfl rfl ‹_› ?_ | apply qR | apply qS)
 refine wops_cons (wop_callF rfl rfl rfl (fn := Tryz.f81) (by rfl) ?_)
 refine c81 hq H4 _ x m rfl (by omega) (by omega) _ fun H5 k5 n5 => ⟨k5.nx, ?_⟩
 have k45 := k4.trans k5
 have b5 := b4.keep (by omega) k5
 have l5 := k5.nx
 skip
 refine wops_cons (wop_cmp rfl rfl rfl rfl rfl (fun h => ?_) (fun h => ?_))
 rotate_left
 · have h : ¬ ((i : Int) < 4 * m.g) := of_decide_eq_false h
   omega
 clear h
 repeat (first | apply qN | refine qM rfl rfl ?_ | refine qT rfl ?_ | apply qR | apply qS | apply qK | apply qB)
 by_cases hiz : i = z
 · refine wops_cons (wop_bin (op := .neq) (v := .bool false) rfl rfl rfl rfl (by rw [hiz]; simp [binI]) ?_)
   repeat (first | apply qN | refine zq1 rfl rfl ?_ | refine qM rfl rfl ?_ | refine zq4 rfl rfl rfl rfl (inc (by omega)) ?_ | refine zq7 rfl rfl rfl ?_ | refine qF rfl ?_ | apply qR | apply qK)
   exact ⟨4 * n - (i + 1), by omega, i + 1, [_,_,_,_,_,_,_,_,_,_,_,_,_,_,_,_,_,_,_,_,_,_,_,_,_,_,_,_,_,_,_], rfl, by omega, k45, by omega, rfl, rfl⟩
 · refine wops_cons (wop_bin (op := .neq) (v := .bool true) rfl rfl rfl rfl (by
     have : ¬ (i : Int) = (z : Int) := fun h => hiz (Int.ofNat.inj h)
     simp [binI, this]) ?_)
   repeat (first | refine qM rfl rfl ?_ | refine zqb rfl rfl rfl ‹_› ?_)
   refine wops_cons (wop_callF rfl rfl rfl (fn := Tryz.f68) (by rfl) ?_)
   refine c68 hq H5 _ x m (i : Int) rfl (by omega) (by omega) (by omega) _ fun H6 k6 n6 => ⟨k6.nx, ?_⟩
   have k46 := k45.trans k6
   repeat (first | refine qM rfl rfl ?_)
   by_cases hio : i = o
   · refine wops_cons (wop_bin (op := .eql) (v := .bool true) rfl rfl rfl rfl (by rw [hio, hop]; simp [binI]) ?_)
     repeat (first | apply qN | refine qM rfl rfl ?_ | refine zq7 rfl rfl rfl ?_ | refine qT rfl ?_ | apply qR | apply qS)
     refine wp_ret ?_
     refine ⟨_, _, rfl, ?_⟩
     rw [hio]
     exact hk H6 (k03.trans k46) (by omega)
   · refine wops_cons (wop_bin (op := .eql) (v := .bool false) rfl rfl rfl rfl (by
       have : ¬ plE m (i : Int) = (p : Int) := fun h => hio (hu i (by omega) hiz h)
       simp [binI, this]) ?_)
     repeat (first | apply qN | refine qM rfl rfl ?_ | refine zq4 rfl rfl rfl rfl (inc (by omega)) ?_ | refine zq7 rfl rfl rfl ?_ | refine qF rfl ?_ | apply qR | apply qK)
     exact ⟨4 * n - (i + 1), by omega, i + 1, [_,_,_,_,_,_,_,_,_,_,_,_,_,_,_,_,_,_,_,_,_,_,_,_,_,_,_,_,_,_,_], rfl, by omega, k46, by omega, rfl, rfl⟩
theorem cOtherN (H : AH) (a x : AV) (m : Mc) (n z : Nat) (ha : a.cells = mc m x) (hg : m.g = n) (hn1 : 1 ≤ n) (hn : n ≤ 16) (hz : z < 4 * n) (hno : plE m z < 0 ∨ shB m (plE m z) = false)
   (hr : H.next + 1000 < 2 ^ 39) (K : AV → AH → Prop) (hk : ∀ H', Keeps H H' → H'.next ≤ H.next + 300 → K (iv (-1)) H') : Ca (ENV O) 102 [a, iv (z : Nat)] H K := by
 refine ca_intro (hq _ _ _ rfl) (fn := Tryz.f102) (by rfl) rfl ?_
 repeat (first | apply qR | apply qS)
 refine wops_cons (o_boxM rfl rfl ha (by omega) fun H1 n1 k1 b1 => ?_)
 repeat (first | apply qN | refine qM rfl rfl ?_ | refine zqb rfl rfl rfl ‹_› ?_ | apply qR | apply qS)
 refine wops_cons (wop_callF rfl rfl rfl (fn := Tryz.f68) (by rfl) ?_)
 refine c68 hq H1 _ x m (z : Int) rfl (by omega) (by omega) (by omega) _ fun H2 k2 n2 => ⟨k2.nx, ?_⟩
 have b2 := b1.keep (by omega) k2
 have k02 := k1.trans k2
 repeat (first | apply qN | refine qM rfl rfl ?_ | apply qR | apply qS)
 by_cases h0 : plE m (z : Int) < 0
 · refine wops_cons (wop_bin (op := .lss) (v := .bool true) rfl rfl rfl rfl (by
     show some (Value.bool (decide (plE m (z : Int) < 0))) = _
     rw [decide_eq_true h0]) ?_)
   repeat (first | apply qN | refine zq1 rfl rfl ?_ | refine qM rfl rfl ?_ | refine zq7 rfl rfl rfl ?_ | refine qT rfl ?_ | apply qR | apply qS)
   refine wp_ret ?_
   exact ⟨_, _, rfl, hk H2 k02 (by omega)⟩
 · have hs := hno.resolve_left h0
   refine wops_cons (wop_bin (op := .lss) (v := .bool false) rfl rfl rfl rfl (by
     show some (Value.bool (decide (plE m (z : Int) < 0))) = _
     rw [decide_eq_false h0]) ?_)
   repeat (first | refine qM rfl rfl ?_ | refine zqb rfl rfl rfl ‹_› ?_)
   refine wops_cons (wop_callF rfl rfl rfl (fn := Tryz.f71) (by rfl) ?_)
   refine c71 hq H2 _ x m _ rfl (by omega) (by omega) _ fun H3 k3 n3 => ⟨k3.nx, ?_⟩
   rw [hs]
   repeat (first | apply qN | refine qM rfl rfl ?_ | refine zq7 rfl rfl rfl ?_ | refine zq8 rfl rfl rfl ?_ | refine qT rfl ?_ | apply qR | apply qS)
   refine wp_ret ?_
   exact ⟨_, _, rfl, hk H3 (k02.trans k3) (by omega)⟩
end Go.Ev
namespace Go.Ev
open Go.Proofs
def dirE (m : Mc) (j : Nat) : Nat := if fwE m (j : Int) = true then 1 else 3
def tZ (m : Mc) (z : Nat) : Nat := 4 * (z / 4) + (z % 4 + dirE m (z / 4)) % 4
def pvN (n p : Nat) : Nat := if p = 0 then n - 1 else p - 1
def nxG (n j : Nat) : Nat := if j + 1 = n then 0 else j + 1
def crB (m : Mc) (p : Nat) : Bool := decide (fsE m ≤ p) && !decide ((p : Int) ∈ m.sw)
def oZ (c : Nat → Bool) (n k z : Nat) : Nat :=
 if z % 4 = 0 then (if z / 4 < k ∧ c (z / 4) = true then 4 * pvN n (z / 4) + 2 else z)
 else if z % 4 = 2 then (if nxG n (z / 4) < k ∧ c (nxG n (z / 4)) = true then 4 * nxG n (z / 4) else z) else z
theorem inn_ne (m : Mc) (k : Nat) (L : List Int) {i : Nat} (hi : i < 4 * k ∨ 4 * k + 3 < i) : ∀ c, c ≤ 4 → (inn (slE m k) L c)[i]? = L[i]?
 | 0, _ => rfl
 | c + 1, hc => by
   show ((inn (slE m k) L c).set _ _)[i]? = _
   have := slE_getD m k (i := c) (by omega)
   rw [List.getElem?_set_ne (by omega)]
   exact inn_ne m k L hi c (by omega)
theorem set_four {L : List Int} {k : Nat} (hl : 4 * k + 3 < L.length) (a b c d : Int) {e0 e1 e2 e3 : Nat} (he : (e0 = 0 ∧ e1 = 1 ∧ e2 = 3 ∧ e3 = 2) ∨ (e0 = 0 ∧ e1 = 3 ∧ e2 = 1 ∧ e3 = 2)) :
   let M := (((L.set (4 * k + e0) a).set (4 * k + e1) b).set (4 * k + e2) c).set (4 * k + e3) d
   M[4 * k + e0]? = some a ∧ M[4 * k + e1]? = some b ∧ M[4 * k + e2]? = some c ∧ M[4 * k + e3]? = some d := by
 rcases he with ⟨rfl, rfl, rfl, rfl⟩ | ⟨rfl, rfl, rfl, rfl⟩
 all_goals
   refine ⟨?_, ?_, ?_, ?_⟩
   · rw [List.getElem?_set_ne (by omega), List.getElem?_set_ne (by omega), List.getElem?_set_ne (by omega), List.getElem?_set_self (by omega)]
   · rw [List.getElem?_set_ne (by omega), List.getElem?_set_ne (by omega), List.getElem?_set_self (by rw [List.length_set]; omega)]
   · rw [List.getElem?_set_ne (by omega), List.getElem?_set_self (by rw [List.length_set, List.length_set]; omega)]
   · rw [List.getElem?_set_self (by rw [List.length_set, List.length_set, List.length_set]; omega)]
theorem inn_eq (a b c d : Int) (L : List Int) : inn [a, b, c, d] L 4 = (((L.set a.toNat b).set b.toNat d).set c.toNat a).set d.toNat c := rfl
theorem trn_get {m : Mc} {n : Nat} (hg : m.g = n) : ∀ k, k ≤ n → ∀ z, z < 4 * k → (trnL m k)[z]? = some ((tZ m z : Nat) : Int)
 | 0, _, z, hz => absurd hz (Nat.not_lt_zero _)
 | k + 1, hk, z, hz => by
   have hlen : (trnL m k).length = 4 * n := by rw [trnL_length, hg]; rfl
   show (inn (slE m (k : Int)) (trnL m k) 4)[z]? = _
   by_cases e : z < 4 * k
   · rw [inn_ne m k _ (.inl e) 4 (Nat.le_refl _)]
     exact trn_get hg k (by omega) z e
   · obtain ⟨p, rfl⟩ : ∃ p, z = 4 * k + p := ⟨z - 4 * k, by omega⟩
     have hp : p < 4 := by omega
     have hd : (4 * k + p) / 4 = k := by omega
     have hm : (4 * k + p) % 4 = p := by omega
     unfold tZ dirE
     rw [hd, hm]
     cases h : fwE m (k : Int) with
     | true =>
       have hs : slE m (k : Int) = [4 * (k : Int) + 0, 4 * (k : Int) + 1, 4 * (k : Int) + 3, 4 * (k : Int) + 2] := by unfold slE; rw [h]; rfl
       rw [hs, inn_eq, show (4 * (k : Int) + 0).toNat = 4 * k + 0 by omega, show (4 * (k : Int) + 1).toNat = 4 * k + 1 by omega, show (4 * (k : Int) + 3).toNat = 4 * k + 3 by omega, show (4 * (k : Int) + 2).toNat = 4 * k + 2 by omega]
       obtain ⟨h0, h1, h2, h3⟩ := set_four (L := trnL m k) (k := k) (by omega) (4 * (k : Int) + 1) (4 * (k : Int) + 2) (4 * (k : Int) + 0) (4 * (k : Int) + 3) (e0 := 0) (e1 := 1) (e2 := 3) (e3 := 2) (.inl ⟨rfl, rfl, rfl, rfl⟩)
       rcases (show p = 0 ∨ p = 1 ∨ p = 2 ∨ p = 3 by omega) with rfl | rfl | rfl | rfl
       · rw [h0]; rfl
       · rw [h1]; rfl
       · rw [h3]; rfl
       · rw [h2]; rfl
     | false =>
       have hs : slE m (k : Int) = [4 * (k : Int) + 0, 4 * (k : Int) + 3, 4 * (k : Int) + 1, 4 * (k : Int) + 2] := by unfold slE; rw [h]; rfl
       rw [hs, inn_eq, show (4 * (k : Int) + 0).toNat = 4 * k + 0 by omega, show (4 * (k : Int) + 1).toNat = 4 * k + 1 by omega, show (4 * (k : Int) + 3).toNat = 4 * k + 3 by omega, show (4 * (k : Int) + 2).toNat = 4 * k + 2 by omega]
       obtain ⟨h0, h1, h2, h3⟩ := set_four (L := trnL m k) (k := k) (by omega) (4 * (k : Int) + 3) (4 * (k : Int) + 2) (4 * (k : Int) + 0) (4 * (k : Int) + 1) (e0 := 0) (e1 := 3) (e2 := 1) (e3 := 2) (.inr ⟨rfl, rfl, rfl, rfl⟩)
       rcases (show p = 0 ∨ p = 1 ∨ p = 2 ∨ p = 3 by omega) with rfl | rfl | rfl | rfl
       · rw [h0]; rfl
       · rw [h2]; rfl
       · rw [h3]; rfl
       · rw [h1]; rfl
theorem pv_tmod {n p : Nat} (hp : p < n) : (((p : Int) + (n : Int) - 1).tmod (n : Int)) = ((pvN n p : Nat) : Int) := by
 unfold pvN
 rw [Int.tmod_eq_emod_of_nonneg (by omega)]
 split
 · rename_i e
   subst e
   rw [Int.emod_eq_of_lt (by omega) (by omega)]
   omega
 · rw [show (p : Int) + n - 1 = ((p - 1 : Nat) : Int) + n by omega, Int.add_emod_right, Int.emod_eq_of_lt (by omega) (by omega)]
theorem pv_lt {n p : Nat} (hp : p < n) : pvN n p < n := by unfold pvN; split <;> omega
theorem nx_pv {n p : Nat} (hp : p < n) : nxG n (pvN n p) = p := by
 unfold pvN nxG
 split <;> split <;> omega
theorem pv_nx {n j : Nat} (hj : j < n) : pvN n (nxG n j) = j := by
 unfold pvN nxG
 split <;> split <;> omega
theorem nx_lt {n j : Nat} (hj : j < n) : nxG n j < n := by unfold nxG; split <;> omega
theorem oZ_skip {c : Nat → Bool} {n k z : Nat} (hc : c k = false) : oZ c n (k + 1) z = oZ c n k z := by
 unfold oZ
 split
 · by_cases e : z / 4 = k
   · rw [e, hc, if_neg (by simp), if_neg (by simp)]
   · by_cases h : z / 4 < k ∧ c (z / 4) = true
     · rw [if_pos h, if_pos ⟨by omega, h.2⟩]
     · rw [if_neg h, if_neg (fun h' => h ⟨by omega, h'.2⟩)]
 · split
   · by_cases e : nxG n (z / 4) = k
     · rw [e, hc, if_neg (by simp), if_neg (by simp)]
     · by_cases h : nxG n (z / 4) < k ∧ c (nxG n (z / 4)) = true
       · rw [if_pos h, if_pos ⟨by omega, h.2⟩]
       · rw [if_neg h, if_neg (fun h' => h ⟨by omega, h'.2⟩)]
   · rfl
theorem oZ_step {c : Nat → Bool} {n k z : Nat} (hk : k < n) (hz : z < 4 * n) (hc : c k = true) : oZ c n (k + 1) z = if z = 4 * k then 4 * pvN n k + 2 else if z = 4 * pvN n k + 2 then 4 * k else oZ c n k z := by
 have hpv := pv_lt hk
 by_cases e1 : z = 4 * k
 · subst e1
   unfold oZ
   rw [if_pos (by omega), show 4 * k / 4 = k by omega, if_pos ⟨by omega, hc⟩, if_pos rfl]
 · rw [if_neg e1]
   by_cases e2 : z = 4 * pvN n k + 2
   · rw [if_pos e2]
     have hd : z / 4 = pvN n k := by omega
     unfold oZ
     rw [if_neg (by omega), if_pos (by omega), hd, nx_pv hk, if_pos ⟨by omega, hc⟩]
   · rw [if_neg e2]
     unfold oZ
     split
     · have ne : z / 4 ≠ k := by omega
       by_cases h : z / 4 < k ∧ c (z / 4) = true
       · rw [if_pos h, if_pos ⟨by omega, h.2⟩]
       · rw [if_neg h, if_neg (fun h' => h ⟨by omega, h'.2⟩)]
     · split
       · have ne : nxG n (z / 4) ≠ k := fun h => by
           have := pv_nx (n := n) (j := z / 4) (by omega)
           rw [h] at this
           omega
         by_cases h : nxG n (z / 4) < k ∧ c (nxG n (z / 4)) = true
         · rw [if_pos h, if_pos ⟨by omega, h.2⟩]
         · rw [if_neg h, if_neg (fun h' => h ⟨by omega, h'.2⟩)]
       · rfl
theorem oth_get {m : Mc} {n : Nat} (hg : m.g = n) : ∀ k, k ≤ n → ∀ z, z < 4 * n → (othL m k)[z]? = some ((oZ (crB m) n k z : Nat) : Int)
 | 0, _, z, hz => by
   have e : oZ (crB m) n 0 z = z := by unfold oZ; simp
   rw [e]
   show (idL (4 * m.g.toNat))[z]? = _
   rw [hg, Int.toNat_natCast]
   unfold idL
   rw [List.getElem?_map, List.getElem?_range hz]
   rfl
 | k + 1, hk, z, hz => by
   have ih := oth_get hg k (by omega) z hz
   have hlen : (othL m k).length = 4 * n := by rw [othL_length, hg]; rfl
   show (if k < fsE m then othL m k else othStep m (othL m k) k)[z]? = _
   by_cases hf : k < fsE m
   · rw [if_pos hf, oZ_skip (by unfold crB; simp; omega)]
     exact ih
   · rw [if_neg hf]
     unfold othStep
     by_cases hs : (k : Int) ∈ m.sw
     · rw [if_pos hs, oZ_skip (by unfold crB; simp [hs])]
       exact ih
     · have hpv := pv_lt (n := n) (p := k) (by omega)
       rw [if_neg hs, oZ_step (by omega) hz (by unfold crB; simp [hs]; omega), hg, pv_tmod (by omega), show (4 * ((pvN n k : Nat) : Int) + 2).toNat = 4 * pvN n k + 2 by omega]
       by_cases e1 : z = 4 * k
       · rw [if_pos e1, e1, List.getElem?_set_self (by rw [List.length_set]; omega)]
         congr 1
       · rw [if_neg e1, List.getElem?_set_ne (Ne.symm e1)]
         by_cases e2 : z = 4 * pvN n k + 2
         · rw [if_pos e2, e2, List.getElem?_set_self (by omega)]
           congr 1
         · rw [if_neg e2, List.getElem?_set_ne (Ne.symm e2)]
           exact ih
def pZ (m : Mc) (n z : Nat) : Nat := oZ (crB m) n n (tZ m z)
theorem dirE_cases (m : Mc) (j : Nat) : dirE m j = 1 ∨ dirE m j = 3 := by unfold dirE; split <;> simp
theorem tZ_div (m : Mc) (z : Nat) : tZ m z / 4 = z / 4 := by unfold tZ; omega
theorem tZ_lt {m : Mc} {n z : Nat} (hz : z < 4 * n) : tZ m z < 4 * n := by unfold tZ; omega
theorem tZ_inj {m : Mc} {x y : Nat} (h : tZ m x = tZ m y) : x = y := by
 have h1 := tZ_div m x
 have h2 := tZ_div m y
 rw [h] at h1
 have hd : x / 4 = y / 4 := by omega
 unfold tZ at h
 rw [hd] at h
 rcases dirE_cases m (y / 4) with e | e <;> rw [e] at h <;> omega
theorem oZ_lt {c : Nat → Bool} {n z : Nat} (hz : z < 4 * n) : oZ c n n z < 4 * n := by
 unfold oZ
 split
 · split
   · have := pv_lt (n := n) (p := z / 4) (by omega); omega
   · exact hz
 · split
   · split
     · have := nx_lt (n := n) (j := z / 4) (by omega); omega
     · exact hz
   · exact hz
theorem oZ_oZ {c : Nat → Bool} {n z : Nat} (hz : z < 4 * n) : oZ c n n (oZ c n n z) = z := by
 have hd : z / 4 < n := by omega
 have hp := pv_lt hd
 have hn := nx_lt hd
 have e1 := nx_pv hd
 have e2 := pv_nx hd
 by_cases h0 : z % 4 = 0
 · by_cases hc : c (z / 4) = true
   · have e : oZ c n n z = 4 * pvN n (z / 4) + 2 := by unfold oZ; rw [if_pos h0, if_pos ⟨hd, hc⟩]
     rw [e]
     unfold oZ
     rw [if_neg (by omega), if_pos (by omega), show (4 * pvN n (z / 4) + 2) / 4 = pvN n (z / 4) by omega, e1, if_pos ⟨hd, hc⟩]
     omega
   · have e : oZ c n n z = z := by unfold oZ; rw [if_pos h0, if_neg (fun h => hc h.2)]
     rw [e, e]
 · by_cases h2 : z % 4 = 2
   · by_cases hc : c (nxG n (z / 4)) = true
     · have e : oZ c n n z = 4 * nxG n (z / 4) := by unfold oZ; rw [if_neg h0, if_pos h2, if_pos ⟨hn, hc⟩]
       rw [e]
       unfold oZ
       rw [if_pos (by omega), show (4 * nxG n (z / 4)) / 4 = nxG n (z / 4) by omega, e2, if_pos ⟨hn, hc⟩]
       omega
     · have e : oZ c n n z = z := by unfold oZ; rw [if_neg h0, if_pos h2, if_neg (fun h => hc h.2)]
       rw [e, e]
   · have e : oZ c n n z = z := by unfold oZ; rw [if_neg h0, if_neg h2]
     rw [e, e]
theorem oZ_inj {c : Nat → Bool} {n x y : Nat} (hx : x < 4 * n) (hy : y < 4 * n) (h : oZ c n n x = oZ c n n y) : x = y := by
 rw [← oZ_oZ (c := c) hx, h, oZ_oZ hy]
theorem pZ_lt {m : Mc} {n z : Nat} (hz : z < 4 * n) : pZ m n z < 4 * n := oZ_lt (tZ_lt hz)
theorem pZ_inj {m : Mc} {n x y : Nat} (hx : x < 4 * n) (hy : y < 4 * n) (h : pZ m n x = pZ m n y) : x = y := tZ_inj (oZ_inj (tZ_lt hx) (tZ_lt hy) h)
theorem permL_len {m : Mc} {n : Nat} (hg : m.g = n) : (permL m n).length = 4 * n := by
 unfold permL
 rw [List.length_map, trnL_length, hg]; rfl
theorem perm_get {m : Mc} {n z : Nat} (hg : m.g = n) (hz : z < 4 * n) : (permL m n)[z]? = some ((pZ m n z : Nat) : Int) := by
 unfold permL
 rw [List.getElem?_map, trn_get hg n (Nat.le_refl _) z hz]
 show some ((othL m n).getD ((tZ m z : Nat) : Int).toNat 0) = _
 rw [Int.toNat_natCast, List.getD_eq_getElem?_getD, oth_get hg n (Nat.le_refl _) _ (tZ_lt hz)]
 rfl
theorem permL_okP {m : Mc} {n : Nat} (hg : m.g = n) : OkPq (permL m n) := by
 refine ⟨fun i z hz => ?_, fun k i z hki h1 h2 => ?_⟩
 · have hi := (List.getElem?_eq_some_iff.1 hz).1
   rw [permL_len hg] at hi ⊢
   rw [perm_get hg hi] at hz
   cases hz
   have := pZ_lt (m := m) hi
   omega
 · have hk := (List.getElem?_eq_some_iff.1 h1).1
   have hi := (List.getElem?_eq_some_iff.1 h2).1
   rw [permL_len hg] at hi hk
   rw [perm_get hg hk] at h1
   rw [perm_get hg hi] at h2
   cases h1
   have := pZ_inj (m := m) hi hk (Int.ofNat.inj (Option.some.inj h2))
   omega
theorem permL_fOf {m : Mc} {n z : Nat} (hg : m.g = n) (hz : z < 4 * n) : fOf (permL m n) z = pZ m n z := by
 unfold fOf
 rw [List.getD_eq_getElem?_getD, perm_get hg hz]
 rfl
def phE (m : Mc) (z : Nat) : Nat := 2 * (z / 4) + if fwE m ((z / 4 : Nat) : Int) = true then z % 4 else 4 - z % 4
theorem ph_t (m : Mc) (z : Nat) : phE m (tZ m z) % 4 = (phE m z + 1) % 4 := by
 unfold phE
 rw [tZ_div]
 unfold tZ dirE
 cases h : fwE m ((z / 4 : Nat) : Int) with
 | true => simp; omega
 | false => simp; omega
theorem ph_0 (m : Mc) (a : Nat) : phE m (4 * a) % 4 = 2 * a % 4 := by
 have e1 : 4 * a / 4 = a := by omega
 have e2 : 4 * a % 4 = 0 := by omega
 unfold phE
 rw [e1, e2]
 split <;> omega
theorem ph_2 (m : Mc) (a : Nat) : phE m (4 * a + 2) % 4 = (2 * a + 2) % 4 := by
 have e1 : (4 * a + 2) / 4 = a := by omega
 have e2 : (4 * a + 2) % 4 = 2 := by omega
 unfold phE
 rw [e1, e2]
 split <;> omega
theorem pv_ph {n p : Nat} (hp : p < n) (h : p = 0 → n % 2 = 0) : (2 * pvN n p + 2) % 4 = 2 * p % 4 := by
 unfold pvN
 split
 · have := h (by assumption); omega
 · omega
theorem ph_o {m : Mc} {n z : Nat} (hz : z < 4 * n) (hr : ∀ p, crB m p = true → p = 0 → n % 2 = 0) : phE m (oZ (crB m) n n z) % 4 = phE m z % 4 := by
 have hd : z / 4 < n := by omega
 have hn := nx_lt hd
 unfold oZ
 split
 · rename_i h0
   split
   · rename_i hc
     have e : z = 4 * (z / 4) := by omega
     rw [ph_2, pv_ph hd (hr _ hc.2)]
     conv => rhs; rw [e, ph_0]
   · rfl
 · split
   · rename_i h2
     split
     · rename_i hc
       have e : z = 4 * (z / 4) + 2 := by omega
       have e3 := pv_ph hn (hr _ hc.2)
       rw [pv_nx hd] at e3
       rw [ph_0, ← e3]
       conv => rhs; rw [e, ph_2]
     · rfl
   · rfl
theorem ph_p {m : Mc} {n z : Nat} (hz : z < 4 * n) (hr : ∀ p, crB m p = true → p = 0 → n % 2 = 0) : phE m (pZ m n z) % 4 = (phE m z + 1) % 4 := by
 unfold pZ
 rw [ph_o (tZ_lt hz) hr, ph_t]
theorem ph_it {m : Mc} {n : Nat} (hg : m.g = n) (hr : ∀ p, crB m p = true → p = 0 → n % 2 = 0) {z : Nat} (hz : z < 4 * n) : ∀ k, it (fOf (permL m n)) k z < 4 * n ∧ phE m (it (fOf (permL m n)) k z) % 4 = (phE m z + k) % 4
 | 0 => ⟨hz, rfl⟩
 | k + 1 => by
   obtain ⟨h1, h2⟩ := ph_it hg hr hz k
   show fOf (permL m n) _ < _ ∧ phE m (fOf (permL m n) _) % 4 = _
   rw [permL_fOf hg h1]
   refine ⟨pZ_lt h1, ?_⟩
   rw [ph_p h1 hr]
   omega
theorem cr_ring {m : Mc} {n : Nat} (hg : m.g = n) (h : mE m = 0) : ∀ p, crB m p = true → p = 0 → n % 2 = 0 := fun p hp h0 => by
 subst h0
 unfold crB fsE at hp
 have hring : m.ring = true := by
   cases hr : m.ring with
   | true => rfl
   | false => rw [hr] at hp; simp at hp
 have hm : okMesh m = true := by
   unfold mE at h
   split at h
   · cases h
   split at h
   · cases h
   · rename_i hm
     unfold okMesh
     rw [hring]
     simp only [hring] at hm
     simp at hm ⊢
     have h2 := Int.emod_two_eq m.g
     have hg2 : m.g.tmod 2 = m.g % 2 := Int.tmod_eq_emod_of_nonneg (by omega)
     omega
 unfold okMesh at hm
 rw [hring] at hm
 simp at hm
 rw [hg] at hm
 have : (n : Int).tmod 2 = n % 2 := Int.tmod_eq_emod_of_nonneg (by omega)
 omega
theorem per_four {m : Mc} {n : Nat} (hg : m.g = n) (h : mE m = 0) {z : Nat} (hz : z < 4 * n) : 4 ∣ per (fOf (permL m n)) (4 * n) z := by
 have hpm := (permL_okP hg).pm
 rw [permL_len hg] at hpm
 have h1 := (ph_it hg (cr_ring hg h) hz (per (fOf (permL m n)) (4 * n) z)).2
 rw [(hpm.per_spec hz).1] at h1
 omega
end Go.Ev
