/- Part of an evaluator of calls that is proved sound, and of what it gives about this program. No condition of its own. -/
import Derived.Test.YtcbmpnddhnkfnaaGreatDoorEvUb
import Derived.Test.YtcbmpnddhnkfnaaGreatDoorEvSb
set_option linter.unusedVariables false
set_option linter.unusedSimpArgs false
set_option linter.unusedSectionVars false
set_option maxRecDepth 100000
set_option maxHeartbeats 4000000
namespace Go.Ev
open Go.Proofs
theorem even_pl {m : Mc} {n z : Nat} (hg : m.g = n) (h : 0 ≤ plE m (z : Int)) : (z : Int).tmod 2 = 0 := by
 rw [plE_nat hg] at h
 by_cases h0 : z % 4 = 0
 · rw [show (z : Int).tmod 2 = ((z % 2 : Nat) : Int) from rfl]; omega
 · rw [if_neg h0] at h
   by_cases h2 : z % 4 = 2
   · rw [show (z : Int).tmod 2 = ((z % 2 : Nat) : Int) from rfl]; omega
   · rw [if_neg h2] at h; omega
variable {O : CallF} (hq : Quiet O)
include hq
theorem cOth (H : AH) (a x : AV) (m : Mc) (n z : Nat) (ha : a.cells = mc m x) (hg : m.g = n) (hn1 : 1 ≤ n) (hn : n ≤ 16) (hz : z < 4 * n) (hr : H.next + 1000 < 2 ^ 39) (K : AV → AH → Prop)
   (hk : ∀ (H' : AH) (y : Int), Keeps H H' → H'.next ≤ H.next + 300 → (∀ t : Nat, t < 4 * n → (y = (t : Int) ↔ pairB m (z : Int) (t : Int))) → K (iv y) H') : Ca (ENV O) 102 [a, iv (z : Nat)] H K := by
 rcases pl_cases hg hz with ⟨p, o, h1, h2, h3, h4, h5, h6, _⟩ | ⟨h1, _⟩
 · refine cOther hq H a x m n z p o ha hg hn1 hn hz h1 h2 h3 h4 h5 h6 hr K fun H' k n' => hk H' _ k n' fun t ht => ⟨fun e => ?_, fun e => ?_⟩
   · have e : o = t := Int.ofNat.inj e
     subst e
     exact ⟨even_pl hg (by rw [h1]; omega), even_pl hg (by rw [h5]; omega), fun e => h4 (Int.ofNat.inj e).symm, by rw [h1, h5]⟩
   · have := h6 t ht (fun e2 => e.2.2.1 (by rw [e2])) (by rw [← e.2.2.2, h1])
     rw [this]
 · refine cOtherN hq H a x m n z ha hg hn1 hn hz h1 hr K fun H' k n' => hk H' _ k n' fun t ht => ⟨fun e => by omega, fun e => ?_⟩
   exfalso
   obtain ⟨p, f1, f2, f3, _⟩ := pair_place hg hn1 (s := (z : Int)) (t := (t : Int)) (by omega) (by omega) e
   rw [f3] at h1
   rcases h1 with h1 | h1
   · omega
   · rw [(shB_nat hg).2 ⟨f1, f2⟩] at h1; cases h1
theorem cNow (H : AH) (a x y : AV) (m : Mc) (l : List Int) (n : Nat) (ha : a.cells = mc m x) (hx : Sl H x (ivs m.sw)) (ho : Old H x) (hg : m.g = n) (hn1 : 1 ≤ n) (hn : n ≤ 16) (hev : m.ring = true → n % 2 = 0) (hy : Ky H y l) (hl : InR (4 * n) l) (hll : l.length ≤ 100) (hr : H.next + 10000000 < 2 ^ 39) (K : AV → AH → Prop)
   (hk : ∀ (H' : AH) (p : Int), Keeps H H' → H'.next ≤ H.next + 4000000 → ((p = -1 ∧ mtN m l) ∨ (0 ≤ p ∧ mtF m l p.toNat)) → K (iv p) H') : Ca (ENV O) 45 [a, y] H K := by
 refine ca_intro (hq _ _ _ rfl) (fn := Tryz.f45) (by rfl) rfl ?_
 repeat (first | apply qR | apply qS)
 refine wops_cons (o_boxM rfl rfl ha (by omega) fun H1 n1 k1 b1 => ?_)
 have hgb : 1 ≤ m.g ∧ m.g ≤ 16 := by omega
 repeat (first | apply qN | refine qM rfl rfl ?_ | apply qR | apply qS | apply qB)
 refine wp_loop (fun q T M H' => ∃ (i : Nat) (best : Int) (Y : List AV), q = l.length - i ∧ i ≤ l.length ∧ Keeps H1 H' ∧ H'.next ≤ H1.next + 31100 * i ∧ BestP m l i 0 best ∧ M = [] ∧ T = (lget Y 0 :: y :: .ptr H.next 0 :: lget Y 1 :: lget Y 2 :: iv best :: iv (i : Nat) :: lget Y 3 :: lget Y 4 :: lget Y 5 :: lget Y 6 :: lget Y 7 :: lget Y 8 :: lget Y 9 :: lget Y 10 :: lget Y 11 :: lget Y 12 :: lget Y 13 :: lget Y 14 :: lget Y 15 :: lget Y 16 :: lget Y 17 :: lget Y 18 :: lget Y 19 :: lget Y 20 :: lget Y 21 :: lget Y 22 :: lget Y 23 :: lget Y 24 :: lget Y 25 :: lget Y 26 :: lget Y 27 :: lget Y 28 :: lget Y 29 :: lget Y 30 :: lget Y 31 :: lget Y 32 :: lget Y 33 :: lget Y 34 :: lget Y 35 :: lget Y 36 :: lget Y 37 :: lget Y 38 :: lget Y 39 :: lget Y 40 :: lget Y 41 :: lget Y 42 :: lget Y 43 :: lget Y 44 :: lget Y 45 :: lget Y 46 :: [])) l.length
   ⟨0, -1, [_,_,_,_,_,_,_,_,_,_,_,_,_,_,_,_,_,_,_,_,_,_,_,_,_,_,_,_,_,_,_,_,_,_,_,_,_,_,_,_,_,_,_,_,_,_,_], rfl, Nat.zero_le _, Keeps.refl _, Nat.le_refl _, best_zero m l, rfl, rfl⟩ ?_
 rintro q T M H2 ⟨i, best, Y, hq1, hi, k2, n2, hb, rfl, rfl⟩
 have hy2 := hy.keep (k1.trans k2)
 have hy2s := hy2.sl
 have l2 := k2.nx
 repeat (first | refine qM rfl rfl ?_ | refine zq5 rfl rfl rfl rfl rfl ‹_› ?_ | apply qR | apply qS)
 refine wops_cons (wop_cmp rfl rfl rfl rfl rfl (fun h => ?_) (fun h => ?_))
 rotate_left
 · have h : ¬ ((i : Int) < (l.length : Nat)) := of_decide_eq_false h
   have e : i = l.length := by omega
   subst e
   repeat (first | apply qN | refine qM rfl rfl ?_ | refine qF rfl ?_ | apply qR | apply qS | apply qE)
   refine wp_ret ?_
   exact ⟨_, _, rfl, hk H2 best (k1.trans k2) (by omega) (best_end hg hn1 hev hl hb)⟩
 have h' : (i : Int) < (l.length : Nat) := of_decide_eq_true h
 have hi' : i < l.length := by omega
 clear h
 obtain ⟨s, hs⟩ := l_some hi'
 have hsb := hl s (List.mem_of_getElem? hs)
 obtain ⟨sn, rfl⟩ := Int.eq_ofNat_of_zero_le hsb.1
 have hs : l[i]? = some (sn : Int) := hs
 have hsb : sn < 4 * n := by have := hsb.2; omega
 repeat (first | apply qN | refine qM rfl rfl ?_ | refine qT rfl ?_ | apply qR | apply qS | apply qK | apply qB)
 refine wp_loop (fun q T M H' => ∃ (k : Nat) (best : Int) (Y : List AV), q = i - k ∧ k ≤ i ∧ Keeps H1 H' ∧ H'.next ≤ H1.next + 31100 * i + 310 * k ∧ BestP m l i k best ∧ M = [] ∧ T = (lget Y 0 :: y :: .ptr H.next 0 :: lget Y 1 :: lget Y 2 :: iv best :: iv (i : Nat) :: iv (k : Nat) :: lget Y 3 :: lget Y 4 :: lget Y 5 :: lget Y 6 :: lget Y 7 :: lget Y 8 :: lget Y 9 :: lget Y 10 :: lget Y 11 :: lget Y 12 :: lget Y 13 :: lget Y 14 :: lget Y 15 :: lget Y 16 :: lget Y 17 :: lget Y 18 :: lget Y 19 :: lget Y 20 :: lget Y 21 :: lget Y 22 :: lget Y 23 :: lget Y 24 :: lget Y 25 :: lget Y 26 :: lget Y 27 :: lget Y 28 :: lget Y 29 :: lget Y 30 :: lget Y 31 :: lget Y 32 :: lget Y 33 :: lget Y 34 :: lget Y 35 :: lget Y 36 :: lget Y 37 :: lget Y 38 :: lget Y 39 :: lget Y 40 :: lget Y 41 :: lget Y 42 :: lget Y 43 :: lget Y 44 :: lget Y 45 :: [])) i
   ⟨0, best, [_,_,_,_,_,_,_,_,_,_,_,_,_,_,_,_,_,_,_,_,_,_,_,_,_,_,_,_,_,_,_,_,_,_,_,_,_,_,_,_,_,_,_,_,_,_], rfl, Nat.zero_le _, k2, by omega, hb, rfl, rfl⟩ ?_
 clear hb k2 n2 l2 hy2 hy2s best
 rintro q T M H2 ⟨k, best, Y, hq2, hki, k2, n2, hb, rfl, rfl⟩
 have hy2 := hy.keep (k1.trans k2)
 have hy2s := hy2.sl
 have l2 := k2.nx
 repeat (first | refine qM rfl rfl ?_ | apply qR | apply qS)
 refine wops_cons (wop_cmp rfl rfl rfl rfl rfl (fun h => ?_) (fun h => ?_))
 rotate_left
 · have h : ¬ ((k : Int) < (i : Nat)) := of_decide_eq_false h
   have e : k = i := by omega
   subst e
   repeat (first | apply qN | refine qM rfl rfl ?_ | refine zq4 rfl rfl rfl rfl (inc (by omega)) ?_ | refine qF rfl ?_ | apply qR | apply qE)
   exact ⟨l.length - (k + 1), by omega, k + 1, best, [_,_,_,_,_,_,_,_,_,_,_,_,_,_,_,_,_,_,_,_,_,_,_,_,_,_,_,_,_,_,_,_,_,_,_,_,_,_,_,_,_,_,_,_,_,_,_], rfl, by omega, k2, by omega, best_row hb, rfl, rfl⟩
 have h' : (k : Int) < (i : Nat) := of_decide_eq_true h
 have hk' : k < i := by omega
 clear h
 obtain ⟨t, ht⟩ := l_some (show k < l.length by omega)
 have htb := hl t (List.mem_of_getElem? ht)
 obtain ⟨tn, rfl⟩ := Int.eq_ofNat_of_zero_le htb.1
 have ht : l[k]? = some (tn : Int) := ht
 have htb : tn < 4 * n := by have := htb.2; omega
 have b2 := b1.keep (by omega) k2
 have hB2 : ∀ c, (AV.ptr H.next 0).own = some c → Lk H2 c := b2.lk (by omega) (hx.keep ho (k1.trans k2))
 have hk0 : Keeps H2 H2 := Keeps.refl _
 repeat (first | apply qN | refine qT rfl ?_ | apply qS | apply qK | apply qB)
 refine Wp.mono (Q := fun x' T' M' H' => x' = .normal ∧ M' = [] ∧ Keeps H2 H' ∧ H'.next ≤ H2.next + 305 ∧ ∃ (c : Bool) (Y : List AV), T' = (lget Y 0 :: y :: .ptr H.next 0 :: lget Y 1 :: lget Y 2 :: iv best :: iv (i : Nat) :: iv (k : Nat) :: lget Y 3 :: lget Y 4 :: lget Y 5 :: lget Y 6 :: lget Y 7 :: lget Y 8 :: lget Y 9 :: lget Y 10 :: lget Y 11 :: lget Y 12 :: lget Y 13 :: lget Y 14 :: lget Y 15 :: lget Y 16 :: lget Y 17 :: lget Y 18 :: lget Y 19 :: lget Y 20 :: lget Y 21 :: lget Y 22 :: lget Y 23 :: lget Y 24 :: lget Y 25 :: lget Y 26 :: lget Y 27 :: lget Y 28 :: lget Y 29 :: lget Y 30 :: lget Y 31 :: lget Y 32 :: lget Y 33 :: lget Y 34 :: lget Y 35 :: lget Y 36 :: lget Y 37 :: .v (.bool c) :: lget Y 38 :: lget Y 39 :: lget Y 40 :: lget Y 41 :: lget Y 42 :: lget Y 43 :: lget Y 44 :: []) ∧ (c = true ↔ pairB m sn tn ∧ (best < 0 ∨ plE m sn < best))) (wp_drawK rfl ?_) ?_
 · repeat (first | refine k_move rfl rfl rfl ?_ | refine k_load4 rfl rfl rfl rfl ‹_› ‹_› ?_)
   refine k_indexI rfl rfl rfl hy2s rfl hs hy2.lk fun p1 hp1 hl1 => ?_
   repeat (first | refine k_move rfl rfl rfl ?_ | refine k_load rfl rfl rfl ‹_› ‹_› ?_)
   refine k_indexI rfl rfl rfl hy2s rfl ht hy2.lk fun p2 hp2 hl2 => ?_
   repeat (first | refine k_load rfl rfl rfl ‹_› ‹_› ?_)
   refine k_call rfl rfl rfl (fun b h => by cases h) (wop_callF rfl rfl rfl (fn := Tryz.f102) (by rfl) ?_)
   refine cOth hq H2 _ x m n sn rfl hg hn1 hn hsb (by omega) _ fun H3 yy k3 n3 hyy => ⟨k3.nx, k3, ?_⟩
   have hyt := hyy tn htb
   refine k_cmp rfl rfl rfl rfl rfl rfl (fun h => ?_) (fun h => ?_)
   rotate_left
   · have h1 : ¬ pairB m sn tn := fun e => by
       have := hyt.2 e
       simp [this] at h
     repeat (first | refine k_skip rfl rfl ?_ | refine k_move rfl rfl rfl ?_)
     refine k_loudSkip rfl rfl k3 ?_
     repeat (first | refine k_nil ?_ | refine k_skip rfl rfl ?_ | refine k_pick rfl rfl rfl rfl ?_)
     exact ⟨rfl, rfl, k3, by omega, false, [_,_,_,_,_,_,_,_,_,_,_,_,_,_,_,_,_,_,_,_,_,_,_,_,_,_,_,_,_,_,_,_,_,_,_,_,_,_,_,_,_,_,_,_,_], rfl, ⟨(fun h => by cases h), fun h => absurd h.1 h1⟩⟩
   have h1 : pairB m sn tn := hyt.1 (by simpa using h)
   clear h
   repeat (first | refine k_move rfl rfl rfl ?_)
   refine k_cmp rfl rfl rfl rfl rfl rfl (fun h => ?_) (fun h => ?_)
   · have h2 : best < 0 := of_decide_eq_true h
     repeat (first | refine k_skip rfl rfl ?_ | refine k_move rfl rfl rfl ?_)
     refine k_loudSkip rfl rfl k3 ?_
     repeat (first | refine k_nil ?_ | refine k_skip rfl rfl ?_ | refine k_pick rfl rfl rfl rfl ?_)
     exact ⟨rfl, rfl, k3, by omega, true, [_,_,_,_,_,_,_,_,_,_,_,_,_,_,_,_,_,_,_,_,_,_,_,_,_,_,_,_,_,_,_,_,_,_,_,_,_,_,_,_,_,_,_,_,_], rfl, ⟨fun _ => ⟨h1, .inl h2⟩, fun _ => rfl⟩⟩
   have h2 : ¬ best < 0 := of_decide_eq_false h
   clear h
   repeat (first | refine k_move rfl rfl rfl ?_ | refine k_load4 rfl rfl rfl rfl ‹_› ‹_› ?_)
   refine k_indexI rfl rfl rfl hy2s rfl hs hy2.lk fun p3 hp3 hl3 => ?_
   repeat (first | refine k_move rfl rfl rfl ?_ | refine k_load rfl rfl rfl ‹_› ‹_› ?_)
   refine k_call rfl rfl rfl (fun b h => by cases h) (wop_callF rfl rfl rfl (fn := Tryz.f68) (by rfl) ?_)
   refine c68 hq H3 _ x m (sn : Int) rfl hgb (by omega) (by omega) _ fun H4 k4 n4 => ⟨k4.nx, k3.trans k4, ?_⟩
   refine k_cmp rfl rfl rfl rfl rfl rfl (fun h => ?_) (fun h => ?_)
   · have h3 : plE m sn < best := of_decide_eq_true h
     repeat (first | refine k_nil ?_ | refine k_pick rfl rfl rfl rfl ?_)
     exact ⟨rfl, rfl, k3.trans k4, by omega, true, [_,_,_,_,_,_,_,_,_,_,_,_,_,_,_,_,_,_,_,_,_,_,_,_,_,_,_,_,_,_,_,_,_,_,_,_,_,_,_,_,_,_,_,_,_], rfl, ⟨fun _ => ⟨h1, .inr h3⟩, fun _ => rfl⟩⟩
   · have h3 : ¬ plE m sn < best := of_decide_eq_false h
     repeat (first | refine k_nil ?_ | refine k_pick rfl rfl rfl rfl ?_)
     exact ⟨rfl, rfl, k3.trans k4, by omega, false, [_,_,_,_,_,_,_,_,_,_,_,_,_,_,_,_,_,_,_,_,_,_,_,_,_,_,_,_,_,_,_,_,_,_,_,_,_,_,_,_,_,_,_,_,_], rfl, ⟨(fun h => by cases h), fun h => absurd (h.2.resolve_left h2) h3⟩⟩
 rintro x' T' M' H3 ⟨rfl, rfl, k3, n3, c, Y, rfl, hc⟩
 have k23 := k2.trans k3
 show Wp _ _ _ _ _ _ _ _
 refine wp_cond rfl (fun hct => ?_) (fun hcf => ?_)
 · have hpl := hc.1 hct
   have hy3 := hy.keep (k1.trans k23)
   have hy3s := hy3.sl
   have l3 := k23.nx
   have b3 := b1.keep (by omega) k23
   have hB3 : ∀ c, (AV.ptr H.next 0).own = some c → Lk H3 c := b3.lk (by omega) (hx.keep ho (k1.trans k23))
   refine wp_drawK rfl ?_
   repeat (first | refine k_move rfl rfl rfl ?_ | refine k_load4 rfl rfl rfl rfl ‹_› ‹_› ?_)
   refine k_indexI rfl rfl rfl hy3s rfl hs hy3.lk fun p1 hp1 hl1 => ?_
   repeat (first | refine k_load rfl rfl rfl ‹_› ‹_› ?_)
   refine k_call rfl rfl rfl (fun b h => by cases h) (wop_callF rfl rfl rfl (fn := Tryz.f68) (by rfl) ?_)
   refine c68 hq H3 _ x m (sn : Int) rfl hgb (by omega) (by omega) _ fun H4 k4 n4 => ⟨k4.nx, k4, ?_⟩
   repeat (first | apply qN | refine qM rfl rfl ?_ | refine zq4 rfl rfl rfl rfl (inc (by omega)) ?_ | refine k_nil ?_ | refine k_assign rfl rfl rfl ?_ | apply qR)
   refine ⟨i - (k + 1), by omega, k + 1, plE m sn, [_,_,_,_,_,_,_,_,_,_,_,_,_,_,_,_,_,_,_,_,_,_,_,_,_,_,_,_,_,_,_,_,_,_,_,_,_,_,_,_,_,_,_,_,_,_], rfl, by omega, k23.trans k4, by omega, best_new hk' hs ht (fun e => ?_) hb hpl.1 hpl.2, rfl, rfl⟩
   obtain ⟨p, _, _, f3, _⟩ := pair_place hg hn1 (s := (sn : Int)) (t := (tn : Int)) (by omega) (by omega) e
   rw [f3]; omega
 · have hpl : ¬ (pairB m sn tn ∧ (best < 0 ∨ plE m sn < best)) := fun e => by
     have := hc.2 e
     rw [hcf] at this; cases this
   repeat (first | apply qN | refine qM rfl rfl ?_ | refine zq4 rfl rfl rfl rfl (inc (by omega)) ?_ | apply qR | apply qK)
   exact ⟨i - (k + 1), by omega, k + 1, best, [_,_,_,_,_,_,_,_,_,_,_,_,_,_,_,_,_,_,_,_,_,_,_,_,_,_,_,_,_,_,_,_,_,_,_,_,_,_,_,_,_,_,_,_,_,_], rfl, by omega, k23, by omega, best_keep hk' hs ht hb hpl, rfl, rfl⟩
end Go.Ev
namespace Go.Ev
open Go.Proofs
theorem it_rounds {f : Nat → Nat} {r x : Nat} (h : it f r x = x) : ∀ q, it f (r * q) x = x
 | 0 => rfl
 | q + 1 => by rw [Nat.mul_succ, it_add, h]; exact it_rounds h q
theorem it_modr {f : Nat → Nat} {r x : Nat} (h : it f r x = x) (j : Nat) : it f (j % r) x = it f j x := by
 conv => rhs; rw [← Nat.mod_add_div j r, it_add, it_rounds h]
def meetAt (m : Mc) (n a b k : Nat) : Prop := pairB m ((it (fOf (permL m n)) k a : Nat) : Int) ((it (fOf (permL m n)) k b : Nat) : Int)
variable {O : CallF} (hq : Quiet O)
include hq
theorem cPair (H : AH) (a x : AV) (m : Mc) (n a0 b0 N : Nat) (ha : a.cells = mc m x) (hx : Sl H x (ivs m.sw)) (ho : Old H x) (hsl : m.sw.length ≤ 100000) (hg : m.g = n) (hn1 : 1 ≤ n) (hn : n ≤ 16) (haz : a0 < 4 * n) (hbz : b0 < 4 * n) (hN0 : 0 < N) (hN1 : N ≤ 4096) (hNa : it (fOf (permL m n)) N a0 = a0) (hNb : it (fOf (permL m n)) N b0 = b0)
   (hr : H.next + 20000000 < 2 ^ 39) (K : AV → AH → Prop)
   (hk1 : ∀ (H' : AH) (k : Nat), Keeps H H' → H'.next ≤ H.next + 6000000 → k < N → meetAt m n a0 b0 k → (∀ j, j < k → ¬ meetAt m n a0 b0 j) → K (iv (k : Nat)) H')
   (hk2 : ∀ (H' : AH), Keeps H H' → H'.next ≤ H.next + 6000000 → (∀ j, ¬ meetAt m n a0 b0 j) → K (iv (-1)) H') : Ca (ENV O) 90 [a, iv (a0 : Nat), iv (b0 : Nat)] H K := by
 refine ca_intro (hq _ _ _ rfl) (fn := Tryz.f90) (by rfl) rfl ?_
 have hpm : Pm (fOf (permL m n)) (4 * n) := by have := (permL_okP (m := m) hg).pm; rw [permL_len hg] at this; exact this
 have hfs : ∀ z, z < 4 * n → pZ m n z = fOf (permL m n) z := fun z hz => (permL_fOf hg hz).symm
 unfold meetAt at hk1 hk2
 generalize fOf (permL m n) = f at hNa hNb hk1 hk2 hpm hfs
 repeat (first | apply qR | apply qS)
 refine wops_cons (o_boxM rfl rfl ha (by omega) fun H1 n1 k1 b1 => ?_)
 repeat (first | apply qN | refine qM rfl rfl ?_ | apply qR | apply qS | apply qB)
 refine wp_loop (fun q T M H' => ∃ (i : Nat) (Y : List AV), q = N - i ∧ i < N ∧ Keeps H1 H' ∧ H'.next ≤ H1.next + 1310 * i ∧ (∀ j, j < i → ¬ pairB m ((it f j a0 : Nat) : Int) ((it f j b0 : Nat) : Int)) ∧ M = [] ∧ T = (lget Y 0 :: iv (a0 : Nat) :: iv (b0 : Nat) :: .ptr H.next 0 :: lget Y 1 :: lget Y 2 :: lget Y 3 :: iv (it f i a0 : Nat) :: iv (it f i b0 : Nat) :: iv (i : Nat) :: lget Y 4 :: lget Y 5 :: lget Y 6 :: lget Y 7 :: lget Y 8 :: lget Y 9 :: lget Y 10 :: lget Y 11 :: lget Y 12 :: lget Y 13 :: lget Y 14 :: lget Y 15 :: lget Y 16 :: lget Y 17 :: lget Y 18 :: lget Y 19 :: lget Y 20 :: lget Y 21 :: lget Y 22 :: lget Y 23 :: lget Y 24 :: lget Y 25 :: lget Y 26 :: lget Y 27 :: lget Y 28 :: lget Y 29 :: [])) N
   ⟨0, [_,_,_,_,_,_,_,_,_,_,_,_,_,_,_,_,_,_,_,_,_,_,_,_,_,_,_,_,_,_], rfl, hN0, Keeps.refl _, Nat.le_refl _, fun j h => absurd h (Nat.not_lt_zero _), rfl, rfl⟩ ?_
 rintro q T M H2 ⟨i, Y, hq1, hi, k2, n2, hno, rfl, rfl⟩
 have k02 := k1.trans k2
 have l2 := k2.nx
 have b2 := b1.keep (by omega) k2
 have hia := hpm.it_lt haz i
 have hib := hpm.it_lt hbz i
 repeat (first | refine qM rfl rfl ?_ | apply qR | apply qS)
 refine wops_cons (wop_cmp rfl rfl rfl rfl rfl (fun h => ?_) (fun h => ?_))
 rotate_left
 · have h : ¬ ((i : Int) < 4096) := of_decide_eq_false h
   omega
 clear h
 repeat (first | apply qN | refine qM rfl rfl ?_ | refine zqb rfl rfl rfl ‹_› ?_ | refine qT rfl ?_ | apply qR | apply qS | apply qK | apply qB)
 refine wops_cons (wop_callF rfl rfl rfl (fn := Tryz.f102) (by rfl) ?_)
 refine cOth hq H2 _ x m n _ rfl hg hn1 hn hia (by omega) _ fun H3 yy k3 n3 hyy => ⟨k3.nx, ?_⟩
 have hyt := hyy _ hib
 have k03 := k02.trans k3
 repeat (first | refine qM rfl rfl ?_)
 refine wops_cons (wop_cmp rfl rfl rfl rfl rfl (fun h => ?_) (fun h => ?_))
 · have h1 := hyt.1 (by simpa using h)
   repeat (first | apply qN | refine qM rfl rfl ?_ | refine qT rfl ?_ | apply qR | apply qS)
   refine wp_ret ?_
   exact ⟨_, _, rfl, hk1 H3 i k03 (by omega) hi h1 hno⟩
 have h1 : ¬ pairB m ((it f i a0 : Nat) : Int) ((it f i b0 : Nat) : Int) := fun e => by
   have := hyt.2 e
   simp [this] at h
 clear h
 have hno1 : ∀ j, j < i + 1 → ¬ pairB m ((it f j a0 : Nat) : Int) ((it f j b0 : Nat) : Int) := fun j hj => by
   by_cases e : j = i
   · rw [e]; exact h1
   · exact hno j (by omega)
 have l3 := k3.nx
 have b3 := b2.keep (by omega) k3
 have hB3 : ∀ c, (AV.ptr H.next 0).own = some c → Lk H3 c := b3.lk (by omega) (hx.keep ho k03)
 repeat (first | apply qN | refine qF rfl ?_ | apply qS | apply qK)
 refine wp_drawK rfl ?_
 repeat (first | refine k_move rfl rfl rfl ?_ | refine k_load4 rfl rfl rfl rfl ‹_› ‹_› ?_)
 refine k_call rfl rfl rfl (fun b h => by cases h) (wop_callF rfl rfl rfl (fn := Tryz.f82) (by rfl) ?_)
 refine cStep hq H3 _ x m n _ rfl (hx.keep ho k03) (ho.keep k03) hsl hg hn1 hn hia (by omega) _ fun H4 k4 n4 => ⟨k4.nx, k4, ?_⟩
 rw [hfs _ hia]
 have k04 := k03.trans k4
 refine k_call rfl rfl rfl (fun b h => by cases h) (wop_callF rfl rfl rfl (fn := Tryz.f82) (by rfl) ?_)
 refine cStep hq H4 _ x m n _ rfl (hx.keep ho k04) (ho.keep k04) hsl hg hn1 hn hib (by omega) _ fun H5 k5 n5 => ⟨k5.nx, k4.trans k5, ?_⟩
 rw [hfs _ hib]
 have k05 := k04.trans k5
 have ea : f (it f i a0) = it f (i + 1) a0 := rfl
 have eb : f (it f i b0) = it f (i + 1) b0 := rfl
 rw [ea, eb]
 have k25 := (k2.trans k3).trans (k4.trans k5)
 have fin : ¬ (it f (i + 1) a0 = a0 ∧ it f (i + 1) b0 = b0) → i + 1 < N := fun h => by
   by_cases e : i + 1 = N
   · rw [e] at h; exact absurd ⟨hNa, hNb⟩ h
   · omega
 repeat (first | refine qM rfl rfl ?_ | refine k_nil ?_ | refine k_assign rfl rfl rfl ?_ | apply qR | apply qS)
 by_cases h2 : it f (i + 1) a0 = a0
 · refine wops_cons (wop_bin (op := .eql) (v := .bool true) rfl rfl rfl rfl (by simp [binI, h2]) ?_)
   repeat (first | refine qM rfl rfl ?_)
   by_cases h3 : it f (i + 1) b0 = b0
   · refine wops_cons (wop_bin (op := .eql) (v := .bool true) rfl rfl rfl rfl (by simp [binI, h3]) ?_)
     repeat (first | apply qN | refine qM rfl rfl ?_ | refine zq7 rfl rfl rfl ?_ | refine qT rfl ?_ | apply qR | apply qS)
     refine wp_ret ?_
     refine ⟨_, _, rfl, hk2 H5 k05 (by omega) fun j => ?_⟩
     rw [← it_modr h2 j, ← it_modr h3 j]
     exact hno1 _ (Nat.mod_lt _ (Nat.succ_pos _))
   · refine wops_cons (wop_bin (op := .eql) (v := .bool false) rfl rfl rfl rfl (by simp [binI]; omega) ?_)
     repeat (first | apply qN | refine qM rfl rfl ?_ | refine zq4 rfl rfl rfl rfl (inc (by omega)) ?_ | refine zq7 rfl rfl rfl ?_ | refine qF rfl ?_ | apply qR | apply qK)
     exact ⟨N - (i + 1), by omega, i + 1, [_,_,_,_,_,_,_,_,_,_,_,_,_,_,_,_,_,_,_,_,_,_,_,_,_,_,_,_,_,_], rfl, fin fun e => h3 e.2, k25, by omega, hno1, rfl, rfl⟩
 · refine wops_cons (wop_bin (op := .eql) (v := .bool false) rfl rfl rfl rfl (by simp [binI]; omega) ?_)
   repeat (first | apply qN | refine zq1 rfl rfl ?_ | refine qM rfl rfl ?_ | refine zq4 rfl rfl rfl rfl (inc (by omega)) ?_ | refine zq7 rfl rfl rfl ?_ | refine qF rfl ?_ | apply qR | apply qK)
   exact ⟨N - (i + 1), by omega, i + 1, [_,_,_,_,_,_,_,_,_,_,_,_,_,_,_,_,_,_,_,_,_,_,_,_,_,_,_,_,_,_], rfl, fin fun e => h2 e.1, k25, by omega, hno1, rfl, rfl⟩
end Go.Ev
namespace Go.Ev
open Go.Proofs
theorem Gr.ky {H : AH} {s : AV} {l : List Int} (h : Gr H 3 s (ivs l)) : Ky H s l := by
 refine ⟨h.sl, h.old, ?_, fun b hb => ?_⟩
 · rcases h with ⟨rfl, _⟩ | ⟨b, _, _, rfl, _⟩
   · exact Nat.le_refl _
   · trivial
 · rcases h with ⟨rfl, _⟩ | ⟨b', h1, _, rfl, h2⟩
   · cases hb
   · cases hb
     exact ⟨h1, by rw [h2]; simp [sameBlk, beqs_ivs]⟩
theorem now_getP {P l : List Int} (h : OkPq P) (hl : InR P.length l) {i : Nat} {z : Int} (hz : l[i]? = some z) (k : Nat) : ∃ w, (powL' P (k : Int))[z.toNat]? = some w ∧ (nowL P l k)[i]? = some w := by
 have hzb := hl z (List.mem_of_getElem? hz)
 obtain ⟨w, hw⟩ := l_some (l := powL' P (k : Int)) (i := z.toNat) (by rw [powL_length]; omega)
 refine ⟨w, hw, ?_⟩
 rw [← pow_now h hl k, List.getElem?_map, hz]
 show some ((powL' P (k : Int)).getD z.toNat 0) = _
 rw [List.getD_eq_getElem?_getD, hw]
 rfl
variable {O : CallF} (hq : Quiet O)
include hq
theorem cRefSteps (H : AH) (a x y : AV) (m : Mc) (l : List Int) (n k : Nat) (ha : a.cells = mc m x) (hx : Sl H x (ivs m.sw)) (ho : Old H x) (hsl : m.sw.length ≤ 100000) (hg : m.g = n) (hn1 : 1 ≤ n) (hn : n ≤ 16) (hy : Ky H y l) (hl : InR (4 * n) l) (hll : l.length ≤ 100) (hr : H.next + 10000000 < 2 ^ 39) (K : AV → AH → Prop)
   (hk : ∀ (H' : AH) (c : AV), Keeps H H' → H'.next ≤ H.next + 400000 → Ky H' c (nowL (permL m n) l k) → K c H') : Ca (ENV O) 33 [a, y, iv (k : Nat)] H K := by
 refine ca_intro (hq _ _ _ rfl) (fn := Tryz.f33) (by rfl) rfl ?_
 have hPl := permL_len (m := m) hg
 have hok := permL_okP (m := m) hg
 have hlP : InR (permL m n).length l := by rw [hPl]; exact hl
 have hnl := now_length (permL m n) l k
 repeat (first | apply qR | apply qS)
 refine wops_cons (o_boxM rfl rfl ha (by omega) fun H1 n1 k1 b1 => ?_)
 repeat (first | apply qN | refine qM rfl rfl ?_ | refine zqb rfl rfl rfl ‹_› ?_ | apply qR | apply qS)
 refine wops_cons (wop_callF rfl rfl rfl (fn := Tryz.f21) (by rfl) ?_)
 refine cRefPerm hq H1 _ x m n rfl (hx.keep ho k1) (ho.keep k1) hsl hg hn1 hn (by omega) _ fun H2 p k2 n2 hG => ⟨k2.nx, ?_⟩
 repeat (first | refine qM rfl rfl ?_)
 refine wops_cons (wop_callF rfl rfl rfl (fn := Tryz.f87) (by rfl) ?_)
 refine cRefPow hq H2 p _ (k : Int) hG.sl hG.old (by omega) hok (by omega) _ fun H3 c k3 n3 hc hco => ⟨k3.nx, ?_⟩
 have k03 := (k1.trans k2).trans k3
 repeat (first | apply qN | refine qM rfl rfl ?_ | apply qR | apply qS | apply qB)
 refine wp_loop (fun q T M H' => ∃ (i : Nat) (Y : List AV) (s : AV), q = l.length - i ∧ i ≤ l.length ∧ Keeps H3 H' ∧ H'.next ≤ H3.next + i * 2 ∧ Gr H' 3 s (ivs ((nowL (permL m n) l k).take i)) ∧ (∀ b, s.own = some b → H3.next ≤ b) ∧ M = [] ∧ T = (lget Y 0 :: y :: lget Y 1 :: .ptr H.next 0 :: lget Y 2 :: lget Y 3 :: lget Y 4 :: c :: s :: iv (i : Nat) :: lget Y 5 :: lget Y 6 :: lget Y 7 :: lget Y 8 :: lget Y 9 :: lget Y 10 :: lget Y 11 :: lget Y 12 :: lget Y 13 :: lget Y 14 :: lget Y 15 :: lget Y 16 :: lget Y 17 :: lget Y 18 :: lget Y 19 :: lget Y 20 :: lget Y 21 :: lget Y 22 :: lget Y 23 :: lget Y 24 :: lget Y 25 :: [])) l.length
   ⟨0, [_,_,_,_,_,_,_,_,_,_,_,_,_,_,_,_,_,_,_,_,_,_,_,_,_,_], .v (.slice none 0 0), rfl, Nat.zero_le _, Keeps.refl _, Nat.le_add_right _ _, .inl ⟨rfl, rfl⟩, (fun b h => by cases h), rfl, rfl⟩ ?_
 rintro q T M H4 ⟨i, Y, s, hq1, hi, k4, n4, hS, hso, rfl, rfl⟩
 have k04 := k03.trans k4
 have hys := (hy.keep k04).sl
 have hcs := hc.keep hco k4
 repeat (first | refine qM rfl rfl ?_ | refine zq5 rfl rfl rfl rfl rfl ‹_› ?_ | apply qR | apply qS)
 refine wops_cons (wop_cmp rfl rfl rfl rfl rfl (fun h => ?_) (fun h => ?_))
 rotate_left
 · have h : ¬ ((i : Int) < (l.length : Nat)) := of_decide_eq_false h
   have e : (nowL (permL m n) l k).take i = nowL (permL m n) l k := List.take_of_length_le (by omega)
   rw [e] at hS
   repeat (first | apply qN | refine qM rfl rfl ?_ | refine qF rfl ?_ | apply qR | apply qS | apply qE)
   refine wp_ret ?_
   exact ⟨_, _, rfl, hk H4 s k04 (by omega) hS.ky⟩
 have h' : (i : Int) < (l.length : Nat) := of_decide_eq_true h
 have hi' : i < l.length := by omega
 clear h
 obtain ⟨z, hz⟩ := l_some hi'
 obtain ⟨w, hw1, hw2⟩ := now_getP hok hlP hz k
 have hzb := hl z (List.mem_of_getElem? hz)
 have hzn : z = (z.toNat : Int) := by omega
 repeat (first | apply qN | refine qM rfl rfl ?_ | refine qT rfl ?_ | apply qR | apply qS | apply qK | apply qB)
 refine wops_cons (o_indexI rfl rfl hys rfl hz fun pp hpp => ?_)
 repeat (first | refine zq6 rfl rfl ‹_› ?_)
 refine wops_cons (o_indexI (j := z.toNat) rfl rfl hcs (by rw [← hzn]; rfl) hw1 fun p2 hp2 => ?_)
 repeat (first | refine zq6 rfl rfl ‹_› ?_)
 have r4 : H4.next < 2 ^ 39 := by omega
 refine wops_cons (o_build1 rfl rfl rfl r4 ?_)
 have k5 := k4.add (.cells [iv w] 3 0) r4
 have G5 := hS.frame (H' := H4.add (.cells [iv w] 3 0)) (Nat.le_succ _) fun b hb => get_add_ne r4 (by have := hS.old b hb; omega)
 refine wops_cons (o_append rfl rfl rfl rfl rfl (by rw [ivs_length, List.length_take]; omega) (by show H4.next + 1 < _; omega) rfl (get_add_eq r4) rfl G5 fun r H6 er n6 gl6 b6 _ G6 => ?_)
 have k6 := keeps_append k5 n6 gl6 b6 hso
 have n6 : H6.next = H4.next + 1 + 1 := n6
 have k5n := k4.nx
 repeat (first | apply qN | refine qM rfl rfl ?_ | refine zq4 rfl rfl rfl rfl (inc (by omega)) ?_ | apply qR)
 refine ⟨l.length - (i + 1), by omega, i + 1, [_,_,_,_,_,_,_,_,_,_,_,_,_,_,_,_,_,_,_,_,_,_,_,_,_,_], r, rfl, by omega, k6, by omega, ?_, (fun b hb => by subst er; cases hb; show H3.next ≤ H4.next + 1; omega), rfl, rfl⟩
 have e : ivs ((nowL (permL m n) l k).take (i + 1)) = ivs ((nowL (permL m n) l k).take i) ++ [iv w] := by
   rw [List.take_add_one, hw2]
   simp [ivs]
 rw [e]
 exact G6
theorem cSameI (H : AH) (x y : AV) (l l2 : List Int) (hx : Sl H x (ivs l)) (hy : Sl H y (ivs l2)) (hlen : l.length ≤ 100000) (hlen2 : l2.length ≤ 100000) (K : AV → AH → Prop) (hk : K (.v (.bool (decide (l = l2)))) H) : Ca (ENV O) 22 [x, y] H K := by
 refine ca_intro (hq _ _ _ rfl) (fn := Tryz.f22) (by rfl) rfl ?_
 repeat (first | apply qN | refine qM rfl rfl ?_ | refine zq5 rfl rfl rfl rfl rfl ‹_› ?_ | apply qR | apply qS)
 refine wops_cons (wop_cmp rfl rfl rfl rfl rfl (fun h => ?_) (fun h => ?_))
 · have h1 : ¬ (l.length : Int) = l2.length := by simpa [binI] using h
   have h1 : ¬ l.length = l2.length := fun e => h1 (by rw [e])
   have e : decide (l = l2) = false := decide_eq_false fun e => h1 (by rw [e])
   rw [e] at hk
   repeat (first | apply qN | refine qM rfl rfl ?_ | refine qT rfl ?_ | apply qR | apply qS)
   refine wp_ret ?_
   exact ⟨_, _, rfl, hk⟩
 have hL : (l.length : Int) = l2.length := by simpa [binI] using h
 have hL : l.length = l2.length := by omega
 clear h
 repeat (first | apply qN | refine qM rfl rfl ?_ | refine qF rfl ?_ | apply qR | apply qS | apply qK | apply qB)
 refine wp_loop (fun k T M H' => ∃ (i : Nat) (Y : List AV), k = l.length - i ∧ i ≤ l.length ∧ (∀ j, j < i → l[j]? = l2[j]?) ∧ M = [] ∧ H' = H ∧ T = (x :: y :: lget Y 0 :: lget Y 1 :: lget Y 2 :: iv (i : Nat) :: lget Y 3 :: lget Y 4 :: lget Y 5 :: lget Y 6 :: lget Y 7 :: lget Y 8 :: lget Y 9 :: lget Y 10 :: lget Y 11 :: lget Y 12 :: lget Y 13 :: lget Y 14 :: lget Y 15 :: lget Y 16 :: lget Y 17 :: lget Y 18 :: lget Y 19 :: lget Y 20 :: lget Y 21 :: lget Y 22 :: [])) l.length
   ⟨0, [_,_,_,_,_,_,_,_,_,_,_,_,_,_,_,_,_,_,_,_,_,_,_], rfl, Nat.zero_le _, fun j h => absurd h (Nat.not_lt_zero _), rfl, rfl, rfl⟩ ?_
 rintro k T M H' ⟨i, Y, hk1, hi, hpre, rfl, rfl, rfl⟩
 repeat (first | refine qM rfl rfl ?_ | refine zq5 rfl rfl rfl rfl rfl ‹_› ?_ | apply qR | apply qS)
 refine wops_cons (wop_cmp rfl rfl rfl rfl rfl (fun h => ?_) (fun h => ?_))
 rotate_left
 · have h : ¬ ((i : Int) < l.length) := of_decide_eq_false h
   have e : l = l2 := List.ext_getElem? fun j => by
     by_cases hj : j < i
     · exact hpre j hj
     · rw [List.getElem?_eq_none (by omega), List.getElem?_eq_none (by omega)]
   rw [decide_eq_true e] at hk
   repeat (first | apply qN | refine qM rfl rfl ?_ | refine qF rfl ?_ | apply qR | apply qS | apply qE)
   refine wp_ret ?_
   exact ⟨_, _, rfl, hk⟩
 have h : (i : Int) < l.length := of_decide_eq_true h
 obtain ⟨z, hz⟩ := l_some (show i < l.length by omega)
 obtain ⟨w, hw⟩ := l_some (show i < l2.length by omega)
 repeat (first | apply qN | refine qT rfl ?_ | apply qS | apply qK | apply qB)
 refine wp_drawC AnyB rfl ?_
 repeat (first | refine wc_move (by decide) rfl rfl rfl ?_)
 refine wc_index (by decide) rfl rfl rfl hx rfl (ivs_get hz) fun p hp => ?_
 refine wc_load (by decide) rfl rfl rfl hp ?_
 repeat (first | refine wc_move (by decide) rfl rfl rfl ?_)
 refine wc_index (by decide) rfl rfl rfl hy rfl (ivs_get hw) fun p hp => ?_
 refine wc_load (by decide) rfl rfl rfl hp ?_
 refine wc_bin (op := .neq) (v := .bool (!decide (z = w))) (by decide) rfl rfl rfl rfl rfl (by simp [binI, bne]; by_cases e : z = w <;> simp [e]) ?_
 refine wc_nil ?_
 skip
 refine wp_cond rfl (fun h => ?_) (fun h => ?_)
 · have hne : z ≠ w := by simpa using h
   have e : decide (l = l2) = false := decide_eq_false fun e => hne (by rw [e, hw] at hz; exact (Option.some.inj hz).symm)
   rw [e] at hk
   repeat (first | apply qN | refine qM rfl rfl ?_ | apply qR | apply qS)
   refine wp_ret ?_
   exact ⟨_, _, rfl, hk⟩
 · have he : z = w := by simpa using h
   repeat (first | apply qN | refine qM rfl rfl ?_ | refine zq4 rfl rfl rfl rfl (inc (by omega)) ?_ | apply qR | apply qK)
   refine ⟨l.length - (i + 1), by omega, i + 1, [_,_,_,_,_,_,_,_,_,_,_,_,_,_,_,_,_,_,_,_,_,_,_], rfl, by omega, fun j hj => ?_, rfl, rfl, rfl⟩
   by_cases e : j = i
   · rw [e, hz, hw, he]
   · exact hpre j (by omega)
theorem cList (H : AH) (x y : AV) (l l2 : List Int) (e bad : Int) (hx : Sl H x (ivs l)) (hy : Sl H y (ivs l2)) (hlen : l.length ≤ 100000) (hlen2 : l2.length ≤ 100000) (K : AV → AH → Prop)
   (hk : K (.v (.bool (if bad ≠ 0 then decide (l = []) && decide (e = bad) else decide (e = 0) && decide (l = l2)))) H) : Ca (ENV O) 32 [x, iv e, iv bad, y] H K := by
 refine ca_intro (hq _ _ _ rfl) (fn := Tryz.f32) (by rfl) rfl ?_
 repeat (first | apply qN | refine qM rfl rfl ?_ | apply qR | apply qS)
 refine wops_cons (wop_cmp rfl rfl rfl rfl rfl (fun h => ?_) (fun h => ?_))
 · have hb : bad ≠ 0 := by simpa using h
   rw [if_pos hb] at hk
   clear h
   repeat (first | apply qN | refine qM rfl rfl ?_ | refine zq5 rfl rfl rfl rfl rfl ‹_› ?_ | refine qT rfl ?_ | apply qR | apply qS)
   refine wops_cons (wop_cmp rfl rfl rfl rfl rfl (fun h => ?_) (fun h => ?_))
   · have h1 : l = [] := List.eq_nil_of_length_eq_zero (by have : (l.length : Int) = 0 := by simpa using h
                                                           omega)
     rw [decide_eq_true h1, Bool.true_and] at hk
     repeat (first | refine qM rfl rfl ?_)
     refine wops_cons (wop_bin (op := .eql) (v := .bool (decide (e = bad))) rfl rfl rfl rfl rfl ?_)
     repeat (first | apply qN | refine qM rfl rfl ?_ | refine zq7 rfl rfl rfl ?_)
     refine wp_ret ?_
     exact ⟨_, _, rfl, hk⟩
   · have h1 : ¬ l = [] := fun e => by subst e; simp at h
     rw [decide_eq_false h1, Bool.false_and] at hk
     repeat (first | apply qN | refine zq1 rfl rfl ?_ | refine qM rfl rfl ?_ | refine zq7 rfl rfl rfl ?_)
     refine wp_ret ?_
     exact ⟨_, _, rfl, hk⟩
 have hb : ¬ bad ≠ 0 := by simpa using h
 rw [if_neg hb] at hk
 clear h
 repeat (first | apply qN | refine qM rfl rfl ?_ | refine qF rfl ?_ | apply qR | apply qS | apply qK)
 refine wops_cons (wop_cmp rfl rfl rfl rfl rfl (fun h => ?_) (fun h => ?_))
 · have h1 : e = 0 := by simpa using h
   rw [decide_eq_true h1, Bool.true_and] at hk
   repeat (first | refine qM rfl rfl ?_)
   refine wops_cons (wop_callF rfl rfl rfl (fn := Tryz.f22) (by rfl) ?_)
   refine cSameI hq H x y l l2 hx hy hlen hlen2 _ ⟨Nat.le_refl _, ?_⟩
   repeat (first | apply qN | refine qM rfl rfl ?_ | refine zq7 rfl rfl rfl ?_)
   refine wp_ret ?_
   exact ⟨_, _, rfl, hk⟩
 · have h1 : ¬ e = 0 := by simpa using h
   rw [decide_eq_false h1, Bool.false_and] at hk
   repeat (first | apply qN | refine zq1 rfl rfl ?_ | refine qM rfl rfl ?_ | refine zq7 rfl rfl rfl ?_)
   refine wp_ret ?_
   exact ⟨_, _, rfl, hk⟩
theorem cWhen (H : AH) (b : Bool) (e : Int) (K : AV → AH → Prop) (hk : K (iv (if b then e else 0)) H) : Ca (ENV O) 30 [.v (.bool b), iv e] H K := by
 refine ca_intro (hq _ _ _ rfl) (fn := Tryz.f30) (by rfl) rfl ?_
 cases b with
 | true =>
   repeat (first | apply qN | refine qM rfl rfl ?_ | refine qT rfl ?_ | apply qR | apply qS)
   refine wp_ret ?_
   exact ⟨_, _, rfl, hk⟩
 | false =>
   repeat (first | apply qN | refine qM rfl rfl ?_ | refine qF rfl ?_ | apply qR | apply qS | apply qK)
   refine wp_ret ?_
   exact ⟨_, _, rfl, hk⟩
end Go.Ev
