/- Part of an evaluator of calls that is proved sound, and of what it gives about this program. No condition of its own. -/
import Derived.Test.YtcbmpnddhnkfnaaGreatDoorEvUe
set_option linter.unusedVariables false
set_option linter.unusedSimpArgs false
set_option linter.unusedSectionVars false
set_option maxRecDepth 100000
set_option maxHeartbeats 4000000
namespace Go.Ev
open Go.Proofs
def BestM (m : Mc) (n : Nat) (l : List Int) (a b : Nat) (best : Int) : Prop :=
 (best = -1 ∧ ∀ s t, seenP l a b s t → ∀ k, ¬ meetAt m n s.toNat t.toNat k) ∨ (0 ≤ best ∧ (∃ s t, seenP l a b s t ∧ meetAt m n s.toNat t.toNat best.toNat) ∧ ∀ s t, seenP l a b s t → ∀ k, meetAt m n s.toNat t.toNat k → best.toNat ≤ k)
section
variable {m : Mc} {n : Nat} {l : List Int}
theorem bm_zero : BestM m n l 0 0 (-1) := .inl ⟨rfl, fun s t ⟨i, j, h1, h2, _⟩ => by omega⟩
theorem bm_row {a : Nat} {best : Int} (h : BestM m n l a a best) : BestM m n l (a + 1) 0 best := by
 have e : ∀ s t, seenP l (a + 1) 0 s t ↔ seenP l a a s t := fun s t => by
   constructor
   · rintro ⟨i, j, h1, h2, h3⟩; exact ⟨i, j, h1, by omega, h3⟩
   · rintro ⟨i, j, h1, h2, h3⟩; exact ⟨i, j, h1, by omega, h3⟩
 unfold BestM
 simp only [e]
 exact h
theorem bm_none {a b : Nat} {x y best : Int} (hab : b < a) (ha : l[a]? = some x) (hb : l[b]? = some y) (h : BestM m n l a b best) (hno : ∀ k, ¬ meetAt m n x.toNat y.toNat k) : BestM m n l a (b + 1) best := by
 rcases h with ⟨h1, h2⟩ | ⟨h1, ⟨s, t, h3, h4⟩, h6⟩
 · refine .inl ⟨h1, fun s t hs k => ?_⟩
   rcases (seen_succ hab ha hb).1 hs with hs | ⟨rfl, rfl⟩
   · exact h2 s t hs k
   · exact hno k
 · refine .inr ⟨h1, ⟨s, t, (seen_succ hab ha hb).2 (.inl h3), h4⟩, fun s t hs k hk => ?_⟩
   rcases (seen_succ hab ha hb).1 hs with hs | ⟨rfl, rfl⟩
   · exact h6 s t hs k hk
   · exact absurd hk (hno k)
theorem bm_keep {a b : Nat} {x y best : Int} {k0 : Nat} (hab : b < a) (ha : l[a]? = some x) (hb : l[b]? = some y) (h : BestM m n l a b best) (hb0 : ¬ best < 0) (hle : best ≤ k0) (hno : ∀ j, j < k0 → ¬ meetAt m n x.toNat y.toNat j) : BestM m n l a (b + 1) best := by
 rcases h with ⟨h1, h2⟩ | ⟨h1, ⟨s, t, h3, h4⟩, h6⟩
 · omega
 · refine .inr ⟨h1, ⟨s, t, (seen_succ hab ha hb).2 (.inl h3), h4⟩, fun s t hs k hk => ?_⟩
   rcases (seen_succ hab ha hb).1 hs with hs | ⟨rfl, rfl⟩
   · exact h6 s t hs k hk
   · have : ¬ k < k0 := fun hl => hno k hl hk
     omega
theorem bm_new {a b : Nat} {x y best : Int} {k0 : Nat} (hab : b < a) (ha : l[a]? = some x) (hb : l[b]? = some y) (h : BestM m n l a b best) (hl : best < 0 ∨ (k0 : Int) < best) (hme : meetAt m n x.toNat y.toNat k0) (hno : ∀ j, j < k0 → ¬ meetAt m n x.toNat y.toNat j) : BestM m n l a (b + 1) (k0 : Int) := by
 refine .inr ⟨by omega, ⟨x, y, (seen_succ hab ha hb).2 (.inr ⟨rfl, rfl⟩), hme⟩, fun s t hs k hk => ?_⟩
 rcases (seen_succ hab ha hb).1 hs with hs | ⟨rfl, rfl⟩
 · rcases h with ⟨_, h2⟩ | ⟨h1, _, h6⟩
   · exact absurd hk (h2 s t hs k)
   · have := h6 s t hs k hk
     omega
 · have : ¬ k < k0 := fun hl => hno k hl hk
   omega
theorem mt_pairs (hg : m.g = n) (hn : 1 ≤ n) (hev : m.ring = true → n % 2 = 0) (hl : InR (4 * n) l) (k : Nat) : (∃ p : Nat, mtF m (nowL (permL m n) l k) p) ↔ ∃ s t, seenP l l.length 0 s t ∧ meetAt m n s.toNat t.toNat k := by
 have hPl := permL_len (m := m) hg
 have hok := permL_okP (m := m) hg
 have hlP : InR (permL m n).length l := by rw [hPl]; exact hl
 have hin : InR (4 * n) (nowL (permL m n) l k) := now_in (fun z hz => by have := hok.mem hz; rw [hPl] at this; exact this) hPl hl k
 have hnl := now_length (permL m n) l k
 have hget : ∀ (i : Nat) (z : Int), l[i]? = some z → (nowL (permL m n) l k)[i]? = some ((it (fOf (permL m n)) k z.toNat : Nat) : Int) := fun i z hz => by
   obtain ⟨w, hw1, hw2⟩ := now_getP hok hlP hz k
   have hzb := hl z (List.mem_of_getElem? hz)
   have hx : z.toNat < (permL m n).length := by omega
   rw [hw2, ← hw1, powL_get hx]
   have h1 : stp (k : Int) (per (fOf (permL m n)) (permL m n).length z.toNat) = k % per (fOf (permL m n)) (permL m n).length z.toNat := by
     have : ((stp (k : Int) (per (fOf (permL m n)) (permL m n).length z.toNat) : Nat) : Int) = ((k % per (fOf (permL m n)) (permL m n).length z.toNat : Nat) : Int) := by rw [stp_emod k (per_pos _ _ _)]; rfl
     exact Int.ofNat.inj this
   rw [h1, hok.pm.it_mod hx]
 have hseen : ∀ s t, seenP (nowL (permL m n) l k) l.length 0 s t → pairB m s t → ∃ s t, seenP l l.length 0 s t ∧ meetAt m n s.toNat t.toNat k := by
   rintro s t ⟨i, j, h1, h2, h3, h4⟩ hp
   obtain ⟨z, hz⟩ := l_some (l := l) (show i < l.length by omega)
   obtain ⟨w, hw⟩ := l_some (l := l) (show j < l.length by omega)
   rw [hget i z hz] at h3
   rw [hget j w hw] at h4
   cases h3; cases h4
   exact ⟨z, w, ⟨i, j, h1, h2, hz, hw⟩, hp⟩
 constructor
 · rintro ⟨p, hp⟩
   by_cases hex : ∃ s t, seenP l l.length 0 s t ∧ meetAt m n s.toNat t.toNat k
   · exact hex
   · exfalso
     have hb : BestP m (nowL (permL m n) l k) (nowL (permL m n) l k).length 0 (-1) := .inl ⟨rfl, fun s t hs hp2 => by
       rw [hnl] at hs
       exact hex (hseen s t hs hp2)⟩
     rcases best_end hg hn hev hin hb with ⟨_, h⟩ | ⟨h, _⟩
     · exact mtF_not hp h
     · omega
 · rintro ⟨s, t, ⟨i, j, h1, h2, h3, h4⟩, hm⟩
   have hp : pairB m ((it (fOf (permL m n)) k s.toNat : Nat) : Int) ((it (fOf (permL m n)) k t.toNat : Nat) : Int) := hm
   have g3 := hget i s h3
   have g4 := hget j t h4
   have hs := hin _ (List.mem_of_getElem? g3)
   have ht := hin _ (List.mem_of_getElem? g4)
   obtain ⟨p, f1, f2, f3, f4⟩ := pair_place hg hn (s := ((it (fOf (permL m n)) k s.toNat : Nat) : Int)) (t := ((it (fOf (permL m n)) k t.toNat : Nat) : Int)) (by omega) (by omega) hp
   have hmt : mtB m (nowL (permL m n) l k) p = true := by
     unfold mtB
     rw [List.all_eq_true]
     intro z hz
     refine decide_eq_true ?_
     rcases f4 with f4 | f4 <;> rw [f4] at hz <;> simp only [List.mem_cons, List.not_mem_nil, or_false] at hz <;> rcases hz with rfl | rfl
     · exact List.mem_of_getElem? g3
     · exact List.mem_of_getElem? g4
     · exact List.mem_of_getElem? g4
     · exact List.mem_of_getElem? g3
   by_cases hN : mtN m (nowL (permL m n) l k)
   · have := hN p f1 (by omega)
     rw [hmt] at this; cases this
   · have least : ∀ q : Nat, (∃ p, fsE m ≤ p ∧ p ≤ q ∧ p < m.g ∧ mtB m (nowL (permL m n) l k) p = true) → ∃ p : Nat, mtF m (nowL (permL m n) l k) p := by
       intro q
       induction q using Nat.strongRecOn with
       | ind q ih =>
         rintro ⟨p, e1, e2, e3, e4⟩
         by_cases hlt : ∃ j : Nat, fsE m ≤ j ∧ j < p ∧ mtB m (nowL (permL m n) l k) j = true
         · obtain ⟨j, j1, j2, j3⟩ := hlt
           exact ih j (by omega) ⟨j, j1, Nat.le_refl _, by omega, j3⟩
         · refine ⟨p, e1, e3, e4, fun j j1 j2 => ?_⟩
           cases hc : mtB m (nowL (permL m n) l k) j with
           | false => rfl
           | true => exact absurd ⟨j, j1, j2, hc⟩ hlt
     exact least p ⟨p, f1, Nat.le_refl _, by omega, hmt⟩
theorem mtN_iff {now : List Int} : mtN m now ↔ ¬ ∃ p : Nat, mtF m now p := by
 constructor
 · rintro h ⟨p, hp⟩
   exact mtF_not hp h
 · intro h
   have least : ∀ q : Nat, (∃ p : Nat, fsE m ≤ p ∧ p ≤ q ∧ p < m.g ∧ mtB m now p = true) → ∃ p : Nat, mtF m now p := by
     intro q
     induction q using Nat.strongRecOn with
     | ind q ih =>
       rintro ⟨p, e1, e2, e3, e4⟩
       by_cases hlt : ∃ j : Nat, fsE m ≤ j ∧ j < p ∧ mtB m now j = true
       · obtain ⟨j, j1, j2, j3⟩ := hlt
         exact ih j (by omega) ⟨j, j1, Nat.le_refl _, by omega, j3⟩
       · refine ⟨p, e1, e3, e4, fun j j1 j2 => ?_⟩
         cases hc : mtB m now j with
         | false => rfl
         | true => exact absurd ⟨j, j1, j2, hc⟩ hlt
   intro p h1 h2
   cases hc : mtB m now p with
   | false => rfl
   | true => exact absurd (least p ⟨p, h1, Nat.le_refl _, h2, hc⟩) h
theorem bm_end (hg : m.g = n) (hn : 1 ≤ n) (hev : m.ring = true → n % 2 = 0) (hl : InR (4 * n) l) {best : Int} (h : BestM m n l l.length 0 best) : (best = -1 ∧ never m l n) ∨ (0 ≤ best ∧ (∃ p : Nat, mtF m (nowL (permL m n) l best.toNat) p) ∧ ∀ j, j < best.toNat → mtN m (nowL (permL m n) l j)) := by
 rcases h with ⟨h1, h2⟩ | ⟨h1, ⟨s, t, h3, h4⟩, h5⟩
 · refine .inl ⟨h1, fun j => mtN_iff.2 fun hp => ?_⟩
   obtain ⟨s, t, e1, e2⟩ := (mt_pairs hg hn hev hl j).1 hp
   exact h2 s t e1 j e2
 · refine .inr ⟨h1, (mt_pairs hg hn hev hl _).2 ⟨s, t, h3, h4⟩, fun j hj => mtN_iff.2 fun hp => ?_⟩
   obtain ⟨s, t, e1, e2⟩ := (mt_pairs hg hn hev hl j).1 hp
   have := h5 s t e1 j e2
   omega
end
def cP : Nat := 6000010
theorem cP_lo : 6000000 ≤ cP := by decide
theorem cP_hi : 400 * cP ≤ 2500000000 := by decide
variable {O : CallF} (hq : Quiet O)
include hq
theorem cFirst (H : AH) (x : AV) (l : List Int) (hx : Sl H x (ivs l)) (hlen : l.length ≤ 1000) (K : AV → AH → Prop) (hk : K (iv (firstNZ l)) H) : Ca (ENV O) 29 [x] H K := by
 refine ca_intro (hq _ _ _ rfl) (fn := Tryz.f29) (by rfl) rfl ?_
 repeat (first | apply qN | refine qM rfl rfl ?_ | apply qR | apply qS | apply qB)
 refine wp_loop (fun q T M H' => ∃ (i : Nat) (Y : List AV), q = l.length - i ∧ i ≤ l.length ∧ firstNZ l = firstNZ (l.drop i) ∧ H' = H ∧ M = [] ∧ T = (x :: lget Y 0 :: lget Y 1 :: iv (i : Nat) :: lget Y 2 :: lget Y 3 :: lget Y 4 :: lget Y 5 :: lget Y 6 :: lget Y 7 :: lget Y 8 :: lget Y 9 :: lget Y 10 :: lget Y 11 :: lget Y 12 :: lget Y 13 :: lget Y 14 :: lget Y 15 :: lget Y 16 :: [])) l.length
   ⟨0, [_,_,_,_,_,_,_,_,_,_,_,_,_,_,_,_,_], rfl, Nat.zero_le _, rfl, rfl, rfl, rfl⟩ ?_
 rintro q T M H' ⟨i, Y, hq1, hi, hsw, rfl, rfl, rfl⟩
 repeat (first | refine qM rfl rfl ?_ | refine zq5 rfl rfl rfl rfl rfl ‹_› ?_ | apply qR | apply qS)
 refine wops_cons (wop_cmp rfl rfl rfl rfl rfl (fun h => ?_) (fun h => ?_))
 rotate_left
 · have h : ¬ ((i : Int) < l.length) := of_decide_eq_false h
   have e : i = l.length := by omega
   rw [hsw, e, List.drop_length] at hk
   repeat (first | apply qN | refine qM rfl rfl ?_ | refine qF rfl ?_ | apply qR | apply qS | apply qE)
   refine wp_ret ?_
   exact ⟨_, _, rfl, hk⟩
 have h : (i : Int) < l.length := of_decide_eq_true h
 obtain ⟨z, hz⟩ := l_some (show i < l.length by omega)
 rw [drop_cons hz, firstNZ_cons] at hsw
 repeat (first | apply qN | refine qM rfl rfl ?_ | refine qT rfl ?_ | apply qR | apply qS | apply qK | apply qB)
 refine wops_cons (o_indexI rfl rfl hx rfl hz fun p hp => ?_)
 repeat (first | refine zq6 rfl rfl ‹_› ?_)
 refine wops_cons (wop_cmp rfl rfl rfl rfl rfl (fun h => ?_) (fun h => ?_))
 · have h : z ≠ 0 := by simpa using h
   rw [hsw, if_pos h] at hk
   repeat (first | apply qN | refine qM rfl rfl ?_ | refine qT rfl ?_ | apply qR | apply qS)
   refine wops_cons (o_indexI rfl rfl hx rfl hz fun p hp => ?_)
   repeat (first | apply qN | refine qM rfl rfl ?_ | refine zq6 rfl rfl ‹_› ?_)
   refine wp_ret ?_
   exact ⟨_, _, rfl, hk⟩
 have h : ¬ z ≠ 0 := by simpa using h
 rw [if_neg h] at hsw
 repeat (first | apply qN | refine qM rfl rfl ?_ | refine zq4 rfl rfl rfl rfl (inc (by omega)) ?_ | refine qF rfl ?_ | apply qR | apply qK)
 exact ⟨l.length - (i + 1), by omega, i + 1, [_,_,_,_,_,_,_,_,_,_,_,_,_,_,_,_,_], rfl, by omega, hsw, rfl, rfl, rfl⟩
theorem cRefMeet (H : AH) (a x y : AV) (m : Mc) (l : List Int) (n N : Nat) (ha : a.cells = mc m x) (hx : Sl H x (ivs m.sw)) (ho : Old H x) (hsl : m.sw.length ≤ 100000) (hg : m.g = n) (hn1 : 1 ≤ n) (hn : n ≤ 16) (hev : m.ring = true → n % 2 = 0) (hy : Ky H y l) (hl : InR (4 * n) l) (hll : l.length ≤ 20)
   (hN0 : 0 < N) (hN1 : N ≤ 4096) (hN : ∀ z ∈ l, it (fOf (permL m n)) N z.toNat = z.toNat) (hr : H.next + 10000000000 < 2 ^ 39) (K : AV → AH → Prop)
   (hk1 : ∀ (H' : AH) (k p : Nat), Keeps H H' → H'.next ≤ H.next + 5000000000 → mtF m (nowL (permL m n) l k) p → (∀ j, j < k → mtN m (nowL (permL m n) l j)) → K (.tup [iv (k : Nat), iv (p : Nat)]) H')
   (hk2 : ∀ (H' : AH), Keeps H H' → H'.next ≤ H.next + 5000000000 → never m l n → K (.tup [iv (-1), iv 0]) H') : Ca (ENV O) 36 [a, y] H K := by
 refine ca_intro (hq _ _ _ rfl) (fn := Tryz.f36) (by rfl) rfl ?_
 have hPl := permL_len (m := m) hg
 have hok := permL_okP (m := m) hg
 repeat (first | apply qR | apply qS)
 refine wops_cons (o_boxM rfl rfl ha (by omega) fun H1 n1 k1 b1 => ?_)
 repeat (first | apply qN | refine qM rfl rfl ?_ | apply qR | apply qS | apply qB)
 refine wp_loop (fun q T M H' => ∃ (i : Nat) (best : Int) (Y : List AV), q = l.length - i ∧ i ≤ l.length ∧ Keeps H1 H' ∧ H'.next ≤ H1.next + 20 * i * cP ∧ best ≤ 4096 ∧ BestM m n l i 0 best ∧ M = [] ∧ T = (lget Y 0 :: y :: .ptr H.next 0 :: lget Y 1 :: lget Y 2 :: lget Y 3 :: iv best :: iv (i : Nat) :: lget Y 4 :: lget Y 5 :: lget Y 6 :: lget Y 7 :: lget Y 8 :: lget Y 9 :: lget Y 10 :: lget Y 11 :: lget Y 12 :: lget Y 13 :: lget Y 14 :: lget Y 15 :: lget Y 16 :: lget Y 17 :: lget Y 18 :: lget Y 19 :: lget Y 20 :: lget Y 21 :: lget Y 22 :: lget Y 23 :: lget Y 24 :: lget Y 25 :: lget Y 26 :: lget Y 27 :: lget Y 28 :: lget Y 29 :: lget Y 30 :: lget Y 31 :: lget Y 32 :: lget Y 33 :: lget Y 34 :: lget Y 35 :: lget Y 36 :: lget Y 37 :: lget Y 38 :: lget Y 39 :: lget Y 40 :: lget Y 41 :: lget Y 42 :: lget Y 43 :: lget Y 44 :: lget Y 45 :: lget Y 46 :: lget Y 47 :: [])) l.length
   ⟨0, -1, [_,_,_,_,_,_,_,_,_,_,_,_,_,_,_,_,_,_,_,_,_,_,_,_,_,_,_,_,_,_,_,_,_,_,_,_,_,_,_,_,_,_,_,_,_,_,_,_], rfl, Nat.zero_le _, Keeps.refl _, Nat.le_add_right _ _, by omega, bm_zero, rfl, rfl⟩ ?_
 rintro q T M H2 ⟨i, best, Y, hq1, hi, k2, n2, hb4, hb, rfl, rfl⟩
 have hy2 := hy.keep (k1.trans k2)
 have hy2s := hy2.sl
 have l2 := k2.nx
 have b2 := b1.keep (by omega) k2
 have hlo := cP_lo
 have hhi := cP_hi
 have hm1 : 20 * i * cP ≤ 400 * cP := Nat.mul_le_mul_right _ (by omega)
 generalize hA : 20 * i * cP = A at n2 hm1
 generalize hB : 400 * cP = B at hhi hm1
 repeat (first | refine qM rfl rfl ?_ | refine zq5 rfl rfl rfl rfl rfl ‹_› ?_ | apply qR | apply qS)
 refine wops_cons (wop_cmp rfl rfl rfl rfl rfl (fun h => ?_) (fun h => ?_))
 rotate_left
 · have h : ¬ ((i : Int) < (l.length : Nat)) := of_decide_eq_false h
   have e : i = l.length := by omega
   subst e
   clear h
   rcases bm_end hg hn1 hev hl hb with ⟨rfl, hnev⟩ | ⟨hb0, hex, hno⟩
   · repeat (first | apply qN | refine qM rfl rfl ?_ | refine qF rfl ?_ | apply qR | apply qS | apply qE)
     refine wops_cons (wop_bin (op := .lss) (v := .bool true) rfl rfl rfl rfl rfl ?_)
     repeat (first | apply qN | refine qM rfl rfl ?_ | refine qT rfl ?_ | apply qR | apply qS)
     refine wp_ret ?_
     exact ⟨_, _, rfl, hk2 H2 (k1.trans k2) (by omega) hnev⟩
   · obtain ⟨kb, rfl⟩ := Int.eq_ofNat_of_zero_le hb0
     rw [Int.toNat_natCast] at hex hno
     have k02 := k1.trans k2
     have hB2 : ∀ c, (AV.ptr H.next 0).own = some c → Lk H2 c := b2.lk (by omega) (hx.keep ho k02)
     have hnl := now_length (permL m n) l kb
     have hin : InR (4 * n) (nowL (permL m n) l kb) := now_in (fun z hz => by have := hok.mem hz; rw [hPl] at this; exact this) hPl hl kb
     repeat (first | apply qN | refine qM rfl rfl ?_ | refine qF rfl ?_ | apply qR | apply qS | apply qE)
     refine wops_cons (wop_bin (op := .lss) (v := .bool false) rfl rfl rfl rfl (by
       show some (Value.bool (decide ((kb : Int) < 0))) = _
       rw [decide_eq_false (by omega)]) ?_)
     repeat (first | apply qN | refine qF rfl ?_ | apply qS | apply qK)
     refine wp_drawK rfl ?_
     repeat (first | refine k_move rfl rfl rfl ?_ | refine k_load4 rfl rfl rfl rfl ‹_› ‹_› ?_)
     refine k_call rfl rfl rfl (fun b h => by cases h) (wop_callF rfl rfl rfl (fn := Tryz.f33) (by rfl) ?_)
     refine cRefSteps hq H2 _ x y m l n kb rfl (hx.keep ho k02) (ho.keep k02) hsl hg hn1 hn hy2 hl (by omega) (by omega) _ fun H3 c k3 n3 hc => ⟨k3.nx, k3, ?_⟩
     refine k_call rfl rfl rfl (fun b h => by cases h) (wop_callF rfl rfl rfl (fn := Tryz.f45) (by rfl) ?_)
     refine cNow hq H3 _ x c m _ n rfl (hx.keep ho (k02.trans k3)) (ho.keep (k02.trans k3)) hg hn1 hn hev hc hin (by omega) (by omega) _ fun H4 p k4 n4 hp => ⟨k4.nx, k3.trans k4, ?_⟩
     rcases hp with ⟨_, hp⟩ | ⟨hp0, hp⟩
     · exact absurd hex (mtN_iff.1 hp)
     · obtain ⟨pn, rfl⟩ := Int.eq_ofNat_of_zero_le hp0
       rw [Int.toNat_natCast] at hp
       repeat (first | refine k_nil ?_ | refine k_assign rfl rfl rfl ?_)
       refine wp_ret ?_
       exact ⟨_, _, rfl, hk1 H4 kb pn ((k02.trans k3).trans k4) (by omega) hp hno⟩
 have h' : (i : Int) < (l.length : Nat) := of_decide_eq_true h
 have hi' : i < l.length := by omega
 clear h
 obtain ⟨s, hs⟩ := l_some hi'
 have hsm := List.mem_of_getElem? hs
 have hsb := hl s hsm
 have hsN := hN s hsm
 repeat (first | apply qN | refine qM rfl rfl ?_ | refine qT rfl ?_ | apply qR | apply qS | apply qK | apply qB)
 refine wp_loop (fun q T M H' => ∃ (k : Nat) (best : Int) (Y : List AV), q = i - k ∧ k ≤ i ∧ Keeps H1 H' ∧ H'.next ≤ H1.next + (20 * i + k) * cP ∧ best ≤ 4096 ∧ BestM m n l i k best ∧ M = [] ∧ T = (lget Y 0 :: y :: .ptr H.next 0 :: lget Y 1 :: lget Y 2 :: lget Y 3 :: iv best :: iv (i : Nat) :: iv (k : Nat) :: lget Y 4 :: lget Y 5 :: lget Y 6 :: lget Y 7 :: lget Y 8 :: lget Y 9 :: lget Y 10 :: lget Y 11 :: lget Y 12 :: lget Y 13 :: lget Y 14 :: lget Y 15 :: lget Y 16 :: lget Y 17 :: lget Y 18 :: lget Y 19 :: lget Y 20 :: lget Y 21 :: lget Y 22 :: lget Y 23 :: lget Y 24 :: lget Y 25 :: lget Y 26 :: lget Y 27 :: lget Y 28 :: lget Y 29 :: lget Y 30 :: lget Y 31 :: lget Y 32 :: lget Y 33 :: lget Y 34 :: lget Y 35 :: lget Y 36 :: lget Y 37 :: lget Y 38 :: lget Y 39 :: lget Y 40 :: lget Y 41 :: lget Y 42 :: lget Y 43 :: lget Y 44 :: lget Y 45 :: lget Y 46 :: [])) i
   ⟨0, best, [_,_,_,_,_,_,_,_,_,_,_,_,_,_,_,_,_,_,_,_,_,_,_,_,_,_,_,_,_,_,_,_,_,_,_,_,_,_,_,_,_,_,_,_,_,_,_], rfl, Nat.zero_le _, k2, by rw [Nat.add_zero, hA]; exact n2, hb4, hb, rfl, rfl⟩ ?_
 clear hb hb4 k2 n2 l2 hy2 hy2s b2 best hA hm1
 rintro q T M H2 ⟨k, best, Y, hq2, hki, k2, n2, hb4, hb, rfl, rfl⟩
 have hy2 := hy.keep (k1.trans k2)
 have hy2s := hy2.sl
 have l2 := k2.nx
 have hs1 : (20 * i + (k + 1)) * cP = (20 * i + k) * cP + cP := Nat.succ_mul _ _
 have hm1 : (20 * i + k) * cP ≤ B := by rw [← hB]; exact Nat.mul_le_mul_right _ (by omega)
 have hm2 : (20 * i + k) * cP ≤ 20 * (i + 1) * cP := Nat.mul_le_mul_right _ (by omega)
 generalize hA : (20 * i + k) * cP = A at n2 hm1 hs1 hm2
 generalize hA2 : (20 * i + (k + 1)) * cP = A2 at hs1
 generalize hA3 : 20 * (i + 1) * cP = A3 at hm2
 repeat (first | refine qM rfl rfl ?_ | apply qR | apply qS)
 refine wops_cons (wop_cmp rfl rfl rfl rfl rfl (fun h => ?_) (fun h => ?_))
 rotate_left
 · have h : ¬ ((k : Int) < (i : Nat)) := of_decide_eq_false h
   have e : k = i := by omega
   repeat (first | apply qN | refine qM rfl rfl ?_ | refine zq4 rfl rfl rfl rfl (inc (by omega)) ?_ | refine qF rfl ?_ | apply qR | apply qE)
   exact ⟨l.length - (i + 1), by omega, i + 1, best, [_,_,_,_,_,_,_,_,_,_,_,_,_,_,_,_,_,_,_,_,_,_,_,_,_,_,_,_,_,_,_,_,_,_,_,_,_,_,_,_,_,_,_,_,_,_,_,_], rfl, by omega, k2, by rw [hA3]; omega, hb4, bm_row (by rw [e] at hb; exact hb), rfl, rfl⟩
 have h' : (k : Int) < (i : Nat) := of_decide_eq_true h
 have hk' : k < i := by omega
 clear h
 obtain ⟨t, ht⟩ := l_some (show k < l.length by omega)
 have htm := List.mem_of_getElem? ht
 have htb := hl t htm
 have htN := hN t htm
 have k02 := k1.trans k2
 have b2 := b1.keep (by omega) k2
 have hB2 : ∀ c, (AV.ptr H.next 0).own = some c → Lk H2 c := b2.lk (by omega) (hx.keep ho k02)
 have es : s = (s.toNat : Int) := by omega
 have et : t = (t.toNat : Int) := by omega
 repeat (first | apply qN | refine qT rfl ?_ | apply qS | apply qK | apply qB)
 refine wp_drawK rfl ?_
 repeat (first | refine k_move rfl rfl rfl ?_ | refine k_load4 rfl rfl rfl rfl ‹_› ‹_› ?_)
 refine k_indexI rfl rfl rfl hy2s rfl hs hy2.lk fun p1 hp1 hl1 => ?_
 repeat (first | refine k_move rfl rfl rfl ?_ | refine k_load rfl rfl rfl ‹_› ‹_› ?_)
 refine k_indexI rfl rfl rfl hy2s rfl ht hy2.lk fun p2 hp2 hl2 => ?_
 repeat (first | refine k_load rfl rfl rfl ‹_› ‹_› ?_)
 refine k_call rfl rfl rfl (fun b h => by cases h) (wop_callF rfl rfl rfl (fn := Tryz.f90) (by rfl) ?_)
 show Ca (ENV O) 90 [_, iv s, iv t] H2 _
 rw [es, et]
 refine cPair hq H2 _ x m n s.toNat t.toNat N rfl (hx.keep ho k02) (ho.keep k02) hsl hg hn1 hn (by omega) (by omega) hN0 hN1 hsN htN (by omega) _ (fun H3 k0 k3 n3 hk0 hme hno => ⟨k3.nx, k3, ?_⟩) (fun H3 k3 n3 hno => ⟨k3.nx, k3, ?_⟩)
 · have k23 := k2.trans k3
   repeat (first | refine qM rfl rfl ?_ | refine k_nil ?_ | refine k_assign rfl rfl rfl ?_ | apply qR | apply qS)
   refine wops_cons (wop_bin (op := .geq) (v := .bool true) rfl rfl rfl rfl (by
     show some (Value.bool (decide ((k0 : Int) ≥ 0))) = _
     rw [decide_eq_true (by omega)]) ?_)
   repeat (first | refine qM rfl rfl ?_)
   refine wops_cons (wop_cmp rfl rfl rfl rfl rfl (fun h => ?_) (fun h => ?_))
   · have h2 : best < 0 := of_decide_eq_true h
     repeat (first | apply qN | refine zq1 rfl rfl ?_ | refine qM rfl rfl ?_ | refine zq4 rfl rfl rfl rfl (inc (by omega)) ?_ | refine zq7 rfl rfl rfl ?_ | refine qT rfl ?_ | apply qR)
     exact ⟨i - (k + 1), by omega, k + 1, k0, [_,_,_,_,_,_,_,_,_,_,_,_,_,_,_,_,_,_,_,_,_,_,_,_,_,_,_,_,_,_,_,_,_,_,_,_,_,_,_,_,_,_,_,_,_,_,_], rfl, by omega, k23, by rw [hA2]; omega, by omega, bm_new hk' hs ht hb (.inl h2) hme hno, rfl, rfl⟩
   have h2 : ¬ best < 0 := of_decide_eq_false h
   clear h
   repeat (first | refine qM rfl rfl ?_)
   refine wops_cons (wop_cmp rfl rfl rfl rfl rfl (fun h => ?_) (fun h => ?_))
   · have h3 : (k0 : Int) < best := of_decide_eq_true h
     repeat (first | apply qN | refine qM rfl rfl ?_ | refine zq4 rfl rfl rfl rfl (inc (by omega)) ?_ | refine zq7 rfl rfl rfl ?_ | refine qT rfl ?_ | apply qR)
     exact ⟨i - (k + 1), by omega, k + 1, k0, [_,_,_,_,_,_,_,_,_,_,_,_,_,_,_,_,_,_,_,_,_,_,_,_,_,_,_,_,_,_,_,_,_,_,_,_,_,_,_,_,_,_,_,_,_,_,_], rfl, by omega, k23, by rw [hA2]; omega, by omega, bm_new hk' hs ht hb (.inr h3) hme hno, rfl, rfl⟩
   · have h3 : ¬ (k0 : Int) < best := of_decide_eq_false h
     repeat (first | apply qN | refine qM rfl rfl ?_ | refine zq4 rfl rfl rfl rfl (inc (by omega)) ?_ | refine zq7 rfl rfl rfl ?_ | refine qF rfl ?_ | apply qR | apply qK)
     exact ⟨i - (k + 1), by omega, k + 1, best, [_,_,_,_,_,_,_,_,_,_,_,_,_,_,_,_,_,_,_,_,_,_,_,_,_,_,_,_,_,_,_,_,_,_,_,_,_,_,_,_,_,_,_,_,_,_,_], rfl, by omega, k23, by rw [hA2]; omega, hb4, bm_keep hk' hs ht hb h2 (by omega) hno, rfl, rfl⟩
 · have k23 := k2.trans k3
   repeat (first | refine qM rfl rfl ?_ | refine k_nil ?_ | refine k_assign rfl rfl rfl ?_ | apply qR | apply qS)
   refine wops_cons (wop_bin (op := .geq) (v := .bool false) rfl rfl rfl rfl rfl ?_)
   repeat (first | apply qN | refine zq1 rfl rfl ?_ | refine qM rfl rfl ?_ | refine zq4 rfl rfl rfl rfl (inc (by omega)) ?_ | refine zq7 rfl rfl rfl ?_ | refine qF rfl ?_ | apply qR | apply qK)
   exact ⟨i - (k + 1), by omega, k + 1, best, [_,_,_,_,_,_,_,_,_,_,_,_,_,_,_,_,_,_,_,_,_,_,_,_,_,_,_,_,_,_,_,_,_,_,_,_,_,_,_,_,_,_,_,_,_,_,_], rfl, by omega, k23, by rw [hA2]; omega, hb4, bm_none hk' hs ht hb hno, rfl, rfl⟩
end Go.Ev
