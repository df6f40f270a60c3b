/- Part of an evaluator of calls that is proved sound, and of what it gives about this program. No condition of its own. -/
import Derived.Test.YtcbmpnddhnkfnaaGreatDoorEvSa
set_option linter.unusedVariables false
set_option linter.unusedSimpArgs false
set_option linter.unusedSectionVars false
set_option maxRecDepth 100000
set_option maxHeartbeats 4000000
namespace Go.Ev
open Go.Proofs
theorem nxG_mod {n j : Nat} (hj : j < n) : (j + 1) % n = nxG n j := by
 unfold nxG
 split
 · rename_i h; rw [h, Nat.mod_self]
 · exact Nat.mod_eq_of_lt (by omega)
theorem plE_nat {m : Mc} {n : Nat} (hg : m.g = n) (z : Nat) : plE m (z : Int) = if z % 4 = 0 then ((z / 4 : Nat) : Int) else if z % 4 = 2 then (if m.ring = true then (((z / 4 + 1) % n : Nat) : Int) else ((z / 4 + 1 : Nat) : Int)) else -1 := by
 unfold plE
 rw [show (z : Int).tmod 4 = ((z % 4 : Nat) : Int) from rfl, show (z : Int).tdiv 4 = ((z / 4 : Nat) : Int) from rfl, hg]
 by_cases h0 : z % 4 = 0
 · rw [if_pos (by omega), if_pos h0]
 · rw [if_neg (by omega), if_neg h0]
   by_cases h2 : z % 4 = 2
   · rw [if_pos (by omega), if_pos h2]
     cases m.ring with
     | true => rfl
     | false => rfl
   · rw [if_neg (by omega), if_neg h2]
theorem shB_nat {m : Mc} {n p : Nat} (hg : m.g = n) : shB m (p : Int) = true ↔ fsE m ≤ p ∧ p < n := by
 have e : shB m (p : Int) = decide ((if m.ring = true then (0 : Int) else 1) ≤ (p : Int) ∧ (p : Int) ≤ m.g - 1) := rfl
 unfold fsE
 rw [e, decide_eq_true_eq, hg]
 cases m.ring with
 | true => rw [if_pos rfl, if_pos rfl]; omega
 | false => rw [if_neg (by simp), if_neg (by simp)]; omega
section
variable {m : Mc} {n p : Nat}
theorem pl_0 (hg : m.g = n) : plE m ((4 * p : Nat) : Int) = p := by
 rw [plE_nat hg, if_pos (by omega), show 4 * p / 4 = p by omega]
theorem pl_2 (hg : m.g = n) (hp : p < n) (hf : fsE m ≤ p) : plE m ((4 * pvN n p + 2 : Nat) : Int) = p := by
 have hpv := pv_lt hp
 have e := nx_pv hp
 rw [plE_nat hg, if_neg (by omega), if_pos (by omega), show (4 * pvN n p + 2) / 4 = pvN n p by omega]
 cases hr : m.ring with
 | true => rw [if_pos rfl, nxG_mod hpv, e]
 | false =>
   have : 1 ≤ p := by unfold fsE at hf; rw [hr] at hf; simpa using hf
   rw [if_neg (by simp)]
   have : pvN n p = p - 1 := by unfold pvN; rw [if_neg (by omega)]
   omega
theorem pl_only (hg : m.g = n) (hp : p < n) (hf : fsE m ≤ p) {t : Nat} (ht : t < 4 * n) (h : plE m (t : Int) = p) : t = 4 * p ∨ t = 4 * pvN n p + 2 := by
 rw [plE_nat hg] at h
 by_cases h0 : t % 4 = 0
 · rw [if_pos h0] at h
   have h := Int.ofNat.inj h
   omega
 · rw [if_neg h0] at h
   by_cases h2 : t % 4 = 2
   · rw [if_pos h2] at h
     right
     have htn : t / 4 < n := by omega
     have key : t / 4 = pvN n p := by
       cases hr : m.ring with
       | true =>
         rw [hr, if_pos rfl, nxG_mod htn] at h
         have h := Int.ofNat.inj h
         rw [← h, pv_nx htn]
       | false =>
         rw [hr, if_neg (by simp)] at h
         have h : t / 4 + 1 = p := Int.ofNat.inj h
         unfold pvN
         rw [if_neg (by omega)]
         omega
     omega
   · rw [if_neg h2] at h
     omega
end
theorem pl_cases {m : Mc} {n z : Nat} (hg : m.g = n) (hz : z < 4 * n) : (∃ p o : Nat, plE m (z : Int) = p ∧ shB m (p : Int) = true ∧ o < 4 * n ∧ o ≠ z ∧ plE m (o : Int) = p ∧ (∀ t : Nat, t < 4 * n → t ≠ z → plE m (t : Int) = p → t = o) ∧ oZ (crB m) n n z = if (p : Int) ∈ m.sw then z else o) ∨
   ((plE m (z : Int) < 0 ∨ shB m (plE m (z : Int)) = false) ∧ oZ (crB m) n n z = z) := by
 have hd : z / 4 < n := by omega
 have hnx := nx_lt hd
 by_cases h0 : z % 4 = 0
 · have ez : z = 4 * (z / 4) := by omega
   by_cases hf : fsE m ≤ z / 4
   · left
     have hpv := pv_lt hd
     refine ⟨z / 4, 4 * pvN n (z / 4) + 2, ?_, (shB_nat hg).2 ⟨hf, hd⟩, by omega, by omega, pl_2 hg hd hf, fun t ht htz hp => ?_, ?_⟩
     · rw [plE_nat hg, if_pos h0]
     · rcases pl_only hg hd hf ht hp with h | h
       · omega
       · exact h
     · unfold oZ crB
       rw [if_pos h0]
       by_cases hs : ((z / 4 : Nat) : Int) ∈ m.sw
       · rw [if_pos hs, if_neg (fun h => by have h := h.2; simp only [hs, decide_true, Bool.not_true, Bool.and_false] at h; cases h)]
       · rw [if_neg hs, if_pos ⟨hd, by simp only [hf, hs, decide_true, decide_false, Bool.not_false, Bool.and_self]⟩]
   · right
     refine ⟨.inr ?_, ?_⟩
     · rw [plE_nat hg, if_pos h0]
       cases hb : shB m ((z / 4 : Nat) : Int) with
       | false => rfl
       | true => exact absurd ((shB_nat hg).1 hb).1 hf
     · unfold oZ crB
       rw [if_pos h0, if_neg (by simp [hf])]
 · by_cases h2 : z % 4 = 2
   · by_cases hs : m.ring = true ∨ z / 4 + 1 < n
     · left
       have hpn : plE m (z : Int) = ((nxG n (z / 4) : Nat) : Int) := by
         rw [plE_nat hg, if_neg h0, if_pos h2]
         cases hr : m.ring with
         | true => rw [if_pos rfl, nxG_mod hd]
         | false =>
           rw [if_neg (by simp)]
           have : z / 4 + 1 < n := by rcases hs with h | h; · rw [hr] at h; cases h
                                      · exact h
           unfold nxG
           rw [if_neg (by omega)]
       have hf : fsE m ≤ nxG n (z / 4) := by
         unfold fsE
         cases hr : m.ring with
         | true => simp
         | false =>
           have : z / 4 + 1 < n := by rcases hs with h | h; · rw [hr] at h; cases h
                                      · exact h
           unfold nxG
           rw [if_neg (show ¬ (false = true) by simp), if_neg (by omega)]
           omega
       have e2 := pv_nx hd
       refine ⟨nxG n (z / 4), 4 * nxG n (z / 4), hpn, (shB_nat hg).2 ⟨hf, hnx⟩, by omega, by omega, pl_0 hg, fun t ht htz hp => ?_, ?_⟩
       · rcases pl_only hg hnx hf ht hp with h | h
         · exact h
         · rw [e2] at h; omega
       · unfold oZ crB
         rw [if_neg h0, if_pos h2]
         by_cases hs : ((nxG n (z / 4) : Nat) : Int) ∈ m.sw
         · rw [if_pos hs, if_neg (fun h => by have h := h.2; simp only [hs, decide_true, Bool.not_true, Bool.and_false] at h; cases h)]
         · rw [if_neg hs, if_pos ⟨hnx, by simp only [hf, hs, decide_true, decide_false, Bool.not_false, Bool.and_self]⟩]
     · right
       have hr : m.ring = false := by
         cases hr : m.ring with
         | false => rfl
         | true => exact absurd (.inl hr) hs
       have he : z / 4 + 1 = n := by
         have : ¬ z / 4 + 1 < n := fun h => hs (.inr h)
         omega
       refine ⟨.inr ?_, ?_⟩
       · rw [plE_nat hg, if_neg h0, if_pos h2, hr, if_neg (by simp)]
         cases hb : shB m ((z / 4 + 1 : Nat) : Int) with
         | false => rfl
         | true => have := ((shB_nat hg).1 hb).2; omega
       · have hx : nxG n (z / 4) = 0 := by unfold nxG; rw [if_pos he]
         unfold oZ crB fsE
         rw [if_neg h0, if_pos h2, hx, hr, if_neg (by simp)]
   · right
     refine ⟨.inl ?_, ?_⟩
     · rw [plE_nat hg, if_neg h0, if_neg h2]; decide
     · unfold oZ
       rw [if_neg h0, if_neg h2]
variable {O : CallF} (hq : Quiet O)
include hq
theorem cOver (H : AH) (a x : AV) (m : Mc) (n z : Nat) (ha : a.cells = mc m x) (hx : Sl H x (ivs m.sw)) (ho : Old H x) (hsl : m.sw.length ≤ 100000) (hg : m.g = n) (hn1 : 1 ≤ n) (hn : n ≤ 16) (hz : z < 4 * n)
   (hr : H.next + 2000 < 2 ^ 39) (K : AV → AH → Prop) (hk : ∀ H', Keeps H H' → H'.next ≤ H.next + 400 → K (iv (oZ (crB m) n n z : Nat)) H') : Ca (ENV O) 116 [a, iv (z : Nat)] H K := by
 refine ca_intro (hq _ _ _ rfl) (fn := Tryz.f116) (by rfl) rfl ?_
 repeat (first | apply qR | apply qS)
 refine wops_cons (o_boxM rfl rfl ha (by omega) fun H1 n1 k1 b1 => ?_)
 repeat (first | apply qN | refine qM rfl rfl ?_ | refine zqb rfl rfl rfl ‹_› ?_ | apply qR | apply qS)
 refine wops_cons (wop_callF rfl rfl rfl (fn := Tryz.f102) (by rfl) ?_)
 rcases pl_cases hg hz with ⟨p, o, h1, h2, h3, h4, h5, h6, h7⟩ | ⟨h1, h2⟩
 · refine cOther hq H1 _ x m n z p o rfl hg hn1 hn hz h1 h2 h3 h4 h5 h6 (by omega) _ fun H2 k2 n2 => ⟨k2.nx, ?_⟩
   have b2 := b1.keep (by omega) k2
   have k02 := k1.trans k2
   have l2 := k2.nx
   have hB2 : ∀ c, (AV.ptr H.next 0).own = some c → Lk H2 c := b2.lk (by omega) (hx.keep ho k02)
   repeat (first | apply qN | refine qM rfl rfl ?_ | apply qS)
   refine wp_drawK rfl ?_
   repeat (first | refine k_move rfl rfl rfl ?_)
   refine k_bin (v := .bool true) rfl rfl rfl rfl rfl (by
     show some (Value.bool (decide ((o : Int) ≥ 0))) = _
     rw [decide_eq_true (by omega)]) ?_
   repeat (first | refine k_move rfl rfl rfl ?_ | refine k_load4 rfl rfl rfl rfl ‹_› ‹_› ?_)
   refine k_call rfl rfl rfl (fun b h => by cases h) (wop_callF rfl rfl rfl (fn := Tryz.f68) (by rfl) ?_)
   refine c68 hq H2 _ x m (z : Int) rfl (by omega) (by omega) (by omega) _ fun H3 k3 n3 => ⟨k3.nx, k3, ?_⟩
   rw [h1]
   refine k_call rfl rfl rfl (fun b h => by cases h) (wop_callF rfl rfl rfl (fn := Tryz.f153) (by rfl) ?_)
   refine cSetP hq H3 _ x m (p : Int) rfl (hx.keep ho (k02.trans k3)) (ho.keep (k02.trans k3)) hsl (by omega) _ fun H4 k4 n4 => ⟨k4.nx, k3.trans k4, ?_⟩
   rw [h7] at hk
   by_cases hs : (p : Int) ∈ m.sw
   · rw [decide_eq_true hs]
     rw [if_pos hs] at hk
     refine k_not rfl rfl rfl rfl ?_
     repeat (first | apply qN | refine qM rfl rfl ?_ | refine k_nil ?_ | refine k_pick rfl rfl rfl rfl ?_ | refine qF rfl ?_ | apply qR | apply qS | apply qK)
     refine wp_ret ?_
     exact ⟨_, _, rfl, hk H4 (k02.trans (k3.trans k4)) (by omega)⟩
   · rw [decide_eq_false hs]
     rw [if_neg hs] at hk
     refine k_not rfl rfl rfl rfl ?_
     repeat (first | apply qN | refine qM rfl rfl ?_ | refine k_nil ?_ | refine k_pick rfl rfl rfl rfl ?_ | refine qT rfl ?_ | apply qR | apply qS)
     refine wp_ret ?_
     exact ⟨_, _, rfl, hk H4 (k02.trans (k3.trans k4)) (by omega)⟩
 · refine cOtherN hq H1 _ x m n z rfl hg hn1 hn hz h1 (by omega) _ fun H2 k2 n2 => ⟨k2.nx, ?_⟩
   have b2 := b1.keep (by omega) k2
   have k02 := k1.trans k2
   have l2 := k2.nx
   have hB2 : ∀ c, (AV.ptr H.next 0).own = some c → Lk H2 c := b2.lk (by omega) (hx.keep ho k02)
   rw [h2] at hk
   repeat (first | apply qN | refine qM rfl rfl ?_ | apply qS)
   refine wp_drawK rfl ?_
   repeat (first | refine k_move rfl rfl rfl ?_)
   refine k_bin (v := .bool false) rfl rfl rfl rfl rfl rfl ?_
   repeat (first | refine k_skip rfl rfl ?_ | refine k_move rfl rfl rfl ?_)
   refine k_loudSkip rfl rfl (Keeps.refl _) ?_
   refine k_loudSkip rfl rfl (Keeps.refl _) ?_
   repeat (first | apply qN | refine qM rfl rfl ?_ | refine k_nil ?_ | refine k_skip rfl rfl ?_ | refine k_pick rfl rfl rfl rfl ?_ | refine qF rfl ?_ | apply qR | apply qS | apply qK)
   refine wp_ret ?_
   exact ⟨_, _, rfl, hk H2 k02 (by omega)⟩
end Go.Ev
namespace Go.Ev
open Go.Proofs
variable {O : CallF} (hq : Quiet O)
include hq
theorem cStep (H : AH) (a x : AV) (m : Mc) (n z : Nat) (ha : a.cells = mc m x) (hx : Sl H x (ivs m.sw)) (ho : Old H x) (hsl : m.sw.length ≤ 100000) (hg : m.g = n) (hn1 : 1 ≤ n) (hn : n ≤ 16) (hz : z < 4 * n)
   (hr : H.next + 4000 < 2 ^ 39) (K : AV → AH → Prop) (hk : ∀ H', Keeps H H' → H'.next ≤ H.next + 500 → K (iv (pZ m n z : Nat)) H') : Ca (ENV O) 82 [a, iv (z : Nat)] H K := by
 refine ca_intro (hq _ _ _ rfl) (fn := Tryz.f82) (by rfl) rfl ?_
 repeat (first | apply qR | apply qS)
 refine wops_cons (o_boxM rfl rfl ha (by omega) fun H1 n1 k1 b1 => ?_)
 have hz4 : z / 4 < n := by omega
 repeat (first | apply qN | refine qM rfl rfl ?_ | apply qR | apply qS)
 refine wops_cons (wop_quo (b := 4) rfl rfl rfl rfl (by decide) ?_)
 rw [show (z : Int).tdiv 4 = ((z / 4 : Nat) : Int) from rfl, wrap_id (by omega) (by omega)]
 repeat (first | refine qM rfl rfl ?_)
 refine wops_cons (wop_rem rfl rfl rfl rfl (by decide) ?_)
 rw [show (z : Int).tmod 4 = ((z % 4 : Nat) : Int) from rfl]
 repeat (first | apply qN | refine qM rfl rfl ?_ | refine zqb rfl rfl rfl ‹_› ?_ | apply qR | apply qS)
 refine wops_cons (wop_callF rfl rfl rfl (fn := Tryz.f105) (by rfl) ?_)
 refine cForw hq H1 _ x m ((z / 4 : Nat) : Int) rfl (by omega) (by omega) _ fun H2 k2 n2 => ⟨k2.nx, ?_⟩
 have b2 := b1.keep (by omega) k2
 have k02 := k1.trans k2
 have l2 := k2.nx
 have htl := tZ_lt (m := m) hz
 cases hf : fwE m ((z / 4 : Nat) : Int) with
 | true =>
   have e : tZ m z = 4 * (z / 4) + (z % 4 + 1) % 4 := by unfold tZ dirE; rw [hf]; rfl
   repeat (first | apply qN | refine qM rfl rfl ?_ | refine zq4 rfl rfl rfl rfl (inc (by omega)) ?_ | refine qT rfl ?_ | apply qR)
   refine wops_cons (wop_rem rfl rfl rfl rfl (by decide) ?_)
   rw [show ((z % 4 + 1 : Nat) : Int).tmod 4 = (((z % 4 + 1) % 4 : Nat) : Int) from rfl]
   repeat (first | apply qN | refine qM rfl rfl ?_ | refine zqb rfl rfl rfl ‹_› ?_ | apply qR | apply qS)
   refine wops_cons (wop_bin (op := .mul) rfl rfl rfl rfl (mul4 (by omega)) ?_)
   repeat (first | refine qM rfl rfl ?_)
   refine wops_cons (wop_bin (op := .add) (v := .int .i64 ((tZ m z : Nat) : Int)) rfl rfl rfl rfl (by
     show some (Value.int .i64 (IntKind.i64.wrap (4 * ((z / 4 : Nat) : Int) + (((z % 4 + 1) % 4 : Nat) : Int)))) = _
     rw [wrap_id (by omega) (by omega), e]
     congr 2) ?_)
   skip
   refine wops_cons (wop_callF rfl rfl rfl (fn := Tryz.f116) (by rfl) ?_)
   refine cOver hq H2 _ x m n (tZ m z) rfl (hx.keep ho k02) (ho.keep k02) hsl hg hn1 hn htl (by omega) _ fun H3 k3 n3 => ⟨k3.nx, ?_⟩
   repeat (first | apply qN | refine qM rfl rfl ?_)
   refine wp_ret ?_
   exact ⟨_, _, rfl, hk H3 (k02.trans k3) (by omega)⟩
 | false =>
   have e : tZ m z = 4 * (z / 4) + (z % 4 + 3) % 4 := by unfold tZ dirE; rw [hf]; rfl
   repeat (first | apply qN | refine qM rfl rfl ?_ | refine zq4 rfl rfl rfl rfl (inc (by omega)) ?_ | refine qF rfl ?_ | apply qR)
   refine wops_cons (wop_rem rfl rfl rfl rfl (by decide) ?_)
   rw [show ((z % 4 + 3 : Nat) : Int).tmod 4 = (((z % 4 + 3) % 4 : Nat) : Int) from rfl]
   repeat (first | apply qN | refine qM rfl rfl ?_ | refine zqb rfl rfl rfl ‹_› ?_ | apply qR | apply qS)
   refine wops_cons (wop_bin (op := .mul) rfl rfl rfl rfl (mul4 (by omega)) ?_)
   repeat (first | refine qM rfl rfl ?_)
   refine wops_cons (wop_bin (op := .add) (v := .int .i64 ((tZ m z : Nat) : Int)) rfl rfl rfl rfl (by
     show some (Value.int .i64 (IntKind.i64.wrap (4 * ((z / 4 : Nat) : Int) + (((z % 4 + 3) % 4 : Nat) : Int)))) = _
     rw [wrap_id (by omega) (by omega), e]
     congr 2) ?_)
   skip
   refine wops_cons (wop_callF rfl rfl rfl (fn := Tryz.f116) (by rfl) ?_)
   refine cOver hq H2 _ x m n (tZ m z) rfl (hx.keep ho k02) (ho.keep k02) hsl hg hn1 hn htl (by omega) _ fun H3 k3 n3 => ⟨k3.nx, ?_⟩
   repeat (first | apply qN | refine qM rfl rfl ?_)
   refine wp_ret ?_
   exact ⟨_, _, rfl, hk H3 (k02.trans k3) (by omega)⟩
theorem cRefPerm (H : AH) (a x : AV) (m : Mc) (n : Nat) (ha : a.cells = mc m x) (hx : Sl H x (ivs m.sw)) (ho : Old H x) (hsl : m.sw.length ≤ 100000) (hg : m.g = n) (hn1 : 1 ≤ n) (hn : n ≤ 16)
   (hr : H.next + 100000 < 2 ^ 39) (K : AV → AH → Prop) (hk : ∀ H' c, Keeps H H' → H'.next ≤ H.next + 40000 → Gr H' 3 c (ivs (permL m n)) → K c H') : Ca (ENV O) 21 [a] H K := by
 refine ca_intro (hq _ _ _ rfl) (fn := Tryz.f21) (by rfl) rfl ?_
 have hlen := permL_len hg
 repeat (first | apply qR | apply qS)
 refine wops_cons (o_boxM rfl rfl ha (by omega) fun H1 n1 k1 b1 => ?_)
 repeat (first | apply qN | refine qM rfl rfl ?_ | apply qR | apply qS | apply qB)
 refine wp_loop (fun q T M H' => ∃ (i : Nat) (Y : List AV) (s : AV), q = 4 * n - i ∧ i ≤ 4 * n ∧ Keeps H1 H' ∧ H'.next ≤ H1.next + i * 510 ∧ Gr H' 3 s (ivs ((permL m n).take i)) ∧ (∀ b, s.own = some b → H1.next ≤ b) ∧ M = [] ∧ T = (lget Y 0 :: .ptr H.next 0 :: lget Y 1 :: s :: iv (i : Nat) :: lget Y 2 :: lget Y 3 :: lget Y 4 :: lget Y 5 :: lget Y 6 :: lget Y 7 :: lget Y 8 :: lget Y 9 :: lget Y 10 :: lget Y 11 :: lget Y 12 :: lget Y 13 :: lget Y 14 :: [])) (4 * n)
   ⟨0, [_,_,_,_,_,_,_,_,_,_,_,_,_,_,_], .v (.slice none 0 0), rfl, Nat.zero_le _, Keeps.refl _, Nat.le_add_right _ _, .inl ⟨rfl, rfl⟩, (fun b h => by cases h), rfl, rfl⟩ ?_
 rintro q T M H2 ⟨i, Y, s, hq1, hi, k2, n2, hG, hso, rfl, rfl⟩
 have hb2 : i * 510 ≤ 64 * 510 := Nat.mul_le_mul_right _ (by omega)
 have b2 := b1.keep (by omega) k2
 have k02 := k1.trans k2
 have l2 := k2.nx
 repeat (first | refine qM rfl rfl ?_ | refine zqb rfl rfl rfl ‹_› ?_ | apply qR | apply qS)
 refine wops_cons (wop_callF rfl rfl rfl (fn := Tryz.f81) (by rfl) ?_)
 refine c81 hq H2 _ x m rfl (by omega) (by omega) _ fun H3 k3 n3 => ⟨k3.nx, ?_⟩
 have b3 := b2.keep (by omega) k3
 have k03 := k02.trans k3
 have k13 := k2.trans k3
 have G3 : Gr H3 3 s (ivs ((permL m n).take i)) := hG.frame k3.nx fun b hb => k3.get b (hG.old b hb)
 skip
 refine wops_cons (wop_cmp rfl rfl rfl rfl rfl (fun h => ?_) (fun h => ?_))
 rotate_left
 · have h : ¬ ((i : Int) < 4 * m.g) := of_decide_eq_false h
   have e : (permL m n).take i = permL m n := List.take_of_length_le (by omega)
   rw [e] at G3
   repeat (first | apply qN | refine qM rfl rfl ?_ | refine qF rfl ?_ | apply qR | apply qS | apply qE)
   refine wp_ret ?_
   exact ⟨_, _, rfl, hk H3 s k03 (by omega) G3⟩
 have hi' : i < 4 * n := by
   have h : (i : Int) < 4 * m.g := of_decide_eq_true h
   omega
 clear h
 repeat (first | apply qN | refine qM rfl rfl ?_ | refine zqb rfl rfl rfl ‹_› ?_ | refine qT rfl ?_ | apply qR | apply qS | apply qK | apply qB)
 refine wops_cons (wop_callF rfl rfl rfl (fn := Tryz.f82) (by rfl) ?_)
 refine cStep hq H3 _ x m n i rfl (hx.keep ho k03) (ho.keep k03) hsl hg hn1 hn hi' (by omega) _ fun H4 k4 n4 => ⟨k4.nx, ?_⟩
 have k14 := k13.trans k4
 have G4 : Gr H4 3 s (ivs ((permL m n).take i)) := G3.frame k4.nx fun b hb => k4.get b (G3.old b hb)
 have r4 : H4.next < 2 ^ 39 := by omega
 have l4 := k4.nx
 refine wops_cons (o_build1 rfl rfl rfl r4 ?_)
 have k5 := k14.add (.cells [iv (pZ m n i : Nat)] 3 0) r4
 have g5 : (H4.add (.cells [iv (pZ m n i : Nat)] 3 0)).get H4.next = some (.cells [iv (pZ m n i : Nat)] 3 0) := get_add_eq r4
 have G5 := G4.frame (H' := H4.add (.cells [iv (pZ m n i : Nat)] 3 0)) (Nat.le_succ _) fun b hb => get_add_ne r4 (by have := G4.old b hb; omega)
 refine wops_cons (o_append rfl rfl rfl rfl rfl (by rw [ivs_length, List.length_take]; omega) (by show H4.next + 1 < _; omega) rfl g5 rfl G5 fun r H6 er n6 gl6 b6 _ G6 => ?_)
 have k6 := keeps_append k5 n6 gl6 b6 hso
 have n6 : H6.next = H4.next + 1 + 1 := n6
 repeat (first | apply qN | refine qM rfl rfl ?_ | refine zq4 rfl rfl rfl rfl (inc (by omega)) ?_ | apply qR)
 refine ⟨4 * n - (i + 1), by omega, i + 1, [_,_,_,_,_,_,_,_,_,_,_,_,_,_,_], r, rfl, by omega, k6, by omega, ?_, (fun b hb => by subst er; cases hb; have := k5.nx; omega), rfl, rfl⟩
 have e : ivs ((permL m n).take (i + 1)) = ivs ((permL m n).take i) ++ [iv (pZ m n i : Nat)] := by
   rw [List.take_add_one, perm_get hg hi']
   simp [ivs]
 rw [e]
 exact G6
end Go.Ev
