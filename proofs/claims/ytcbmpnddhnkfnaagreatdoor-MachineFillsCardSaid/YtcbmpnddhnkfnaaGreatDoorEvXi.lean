/- Part of an evaluator of calls that is proved sound, and of what it gives about this program. No condition of its own. -/
import Derived.Test.YtcbmpnddhnkfnaaGreatDoorEvXg
set_option linter.unusedVariables false
set_option linter.unusedSimpArgs false
set_option linter.unusedSectionVars false
set_option maxRecDepth 100000
set_option maxHeartbeats 4000000
namespace Go.Ev
open Go.Proofs
def cQ : Nat := 750000
theorem cQ_lo : 740000 ≤ cQ := by decide
theorem cQ_hi : cQ ≤ 760000 := by decide
variable {O : CallF} (hq : Quiet O)
include hq
theorem cPairN (H : AH) (a x : AV) (m : Mc) (n a0 b0 N : Nat) (ha : a.cells = mc m x) (hx : Sl H x (ivs m.sw)) (ho : Old H x) (hsl : m.sw.length ≤ 100000) (hg : m.g = n) (hn1 : 1 ≤ n) (hn : n ≤ 16) (haz : a0 < 4 * n) (hbz : b0 < 4 * n) (hN0 : 0 < N) (hN1 : N ≤ 4096) (hNa : it (fOf (permL m n)) N a0 = a0) (hNb : it (fOf (permL m n)) N b0 = b0)
   (hr : H.next + 20000000 < 2 ^ 39) (K : AV → AH → Prop)
   (hk1 : ∀ (H' : AH) (k : Nat), Keeps H H' → H'.next ≤ H.next + (1310 * N + 400) → k < N → meetAt m n a0 b0 k → (∀ j, j < k → ¬ meetAt m n a0 b0 j) → K (iv (k : Nat)) H')
   (hk2 : ∀ (H' : AH), Keeps H H' → H'.next ≤ H.next + (1310 * N + 400) → (∀ j, ¬ meetAt m n a0 b0 j) → K (iv (-1)) H') : Ca (ENV O) 90 [a, iv (a0 : Nat), iv (b0 : Nat)] H K := by
 refine ca_intro (hq _ _ _ rfl) (fn := Tryz.f90) (by rfl) rfl ?_
 have hpm : Pm (fOf (permL m n)) (4 * n) := by have := (permL_okP (m := m) hg).pm; rw [permL_len hg] at this; exact this
 have hfs : ∀ z, z < 4 * n → pZ m n z = fOf (permL m n) z := fun z hz => (permL_fOf hg hz).symm
 unfold meetAt at hk1 hk2
 generalize fOf (permL m n) = f at hNa hNb hk1 hk2 hpm hfs
 repeat (first | apply qR | apply qS)
 refine wops_cons (o_boxM rfl rfl ha (by omega) fun H1 n1 k1 b1 => ?_)
 repeat (first | apply qN | refine qM rfl rfl ?_ | apply qR | apply qS | apply qB)
 refine wp_loop (fun q T M H' => ∃ (i : Nat) (Y : List AV), q = N - i ∧ i < N ∧ Keeps H1 H' ∧ H'.next ≤ H1.next + 1310 * i ∧ (∀ j, j < i → ¬ pairB m ((it f j a0 : Nat) : Int) ((it f j b0 : Nat) : Int)) ∧ M = [] ∧ T = (lget Y 0 :: iv (a0 : Nat) :: iv (b0 : Nat) :: .ptr H.next 0 :: lget Y 1 :: lget Y 2 :: lget Y 3 :: iv (it f i a0 : Nat) :: iv (it f i b0 : Nat) :: iv (i : Nat) :: lget Y 4 :: lget Y 5 :: lget Y 6 :: lget Y 7 :: lget Y 8 :: lget Y 9 :: lget Y 10 :: lget Y 11 :: lget Y 12 :: lget Y 13 :: lget Y 14 :: lget Y 15 :: lget Y 16 :: lget Y 17 :: lget Y 18 :: lget Y 19 :: lget Y 20 :: lget Y 21 :: lget Y 22 :: lget Y 23 :: lget Y 24 :: lget Y 25 :: lget Y 26 :: lget Y 27 :: lget Y 28 :: lget Y 29 :: [])) N
   ⟨0, [_,_,_,_,_,_,_,_,_,_,_,_,_,_,_,_,_,_,_,_,_,_,_,_,_,_,_,_,_,_], rfl, hN0, Keeps.refl _, Nat.le_refl _, fun j h => absurd h (Nat.not_lt_zero _), rfl, rfl⟩ ?_
 rintro q T M H2 ⟨i, Y, hq1, hi, k2, n2, hno, rfl, rfl⟩
 have k02 := k1.trans k2
 have l2 := k2.nx
 have b2 := b1.keep (by omega) k2
 have hia := hpm.it_lt haz i
 have hib := hpm.it_lt hbz i
 repeat (first | refine qM rfl rfl ?_ | apply qR | apply qS)
 refine wops_cons (wop_cmp rfl rfl rfl rfl rfl (fun h => ?_) (fun h => ?_))
 rotate_left
 · have h : ¬ ((i : Int) < 4096) := of_decide_eq_false h
   omega
 clear h
 repeat (first | apply qN | refine qM rfl rfl ?_ | refine zqb rfl rfl rfl ‹_› ?_ | refine qT rfl ?_ | apply qR | apply qS | apply qK | apply qB)
 refine wops_cons (wop_callF rfl rfl rfl (fn := Tryz.f102) (by rfl) ?_)
 refine cOth hq H2 _ x m n _ rfl hg hn1 hn hia (by omega) _ fun H3 yy k3 n3 hyy => ⟨k3.nx, ?_⟩
 have hyt := hyy _ hib
 have k03 := k02.trans k3
 repeat (first | refine qM rfl rfl ?_)
 refine wops_cons (wop_cmp rfl rfl rfl rfl rfl (fun h => ?_) (fun h => ?_))
 · have h1 := hyt.1 (by simpa using h)
   repeat (first | apply qN | refine qM rfl rfl ?_ | refine qT rfl ?_ | apply qR | apply qS)
   refine wp_ret ?_
   exact ⟨_, _, rfl, hk1 H3 i k03 (by omega) hi h1 hno⟩
 have h1 : ¬ pairB m ((it f i a0 : Nat) : Int) ((it f i b0 : Nat) : Int) := fun e => by
   have := hyt.2 e
   simp [this] at h
 clear h
 have hno1 : ∀ j, j < i + 1 → ¬ pairB m ((it f j a0 : Nat) : Int) ((it f j b0 : Nat) : Int) := fun j hj => by
   by_cases e : j = i
   · rw [e]; exact h1
   · exact hno j (by omega)
 have l3 := k3.nx
 have b3 := b2.keep (by omega) k3
 have hB3 : ∀ c, (AV.ptr H.next 0).own = some c → Lk H3 c := b3.lk (by omega) (hx.keep ho k03)
 repeat (first | apply qN | refine qF rfl ?_ | apply qS | apply qK)
 refine wp_drawK rfl ?_
 repeat (first | refine k_move rfl rfl rfl ?_ | refine k_load4 rfl rfl rfl rfl ‹_› ‹_› ?_)
 refine k_call rfl rfl rfl (fun b h => by cases h) (wop_callF rfl rfl rfl (fn := Tryz.f82) (by rfl) ?_)
 refine cStep hq H3 _ x m n _ rfl (hx.keep ho k03) (ho.keep k03) hsl hg hn1 hn hia (by omega) _ fun H4 k4 n4 => ⟨k4.nx, k4, ?_⟩
 rw [hfs _ hia]
 have k04 := k03.trans k4
 refine k_call rfl rfl rfl (fun b h => by cases h) (wop_callF rfl rfl rfl (fn := Tryz.f82) (by rfl) ?_)
 refine cStep hq H4 _ x m n _ rfl (hx.keep ho k04) (ho.keep k04) hsl hg hn1 hn hib (by omega) _ fun H5 k5 n5 => ⟨k5.nx, k4.trans k5, ?_⟩
 rw [hfs _ hib]
 have k05 := k04.trans k5
 have ea : f (it f i a0) = it f (i + 1) a0 := rfl
 have eb : f (it f i b0) = it f (i + 1) b0 := rfl
 rw [ea, eb]
 have k25 := (k2.trans k3).trans (k4.trans k5)
 have fin : ¬ (it f (i + 1) a0 = a0 ∧ it f (i + 1) b0 = b0) → i + 1 < N := fun h => by
   by_cases e : i + 1 = N
   · rw [e] at h; exact absurd ⟨hNa, hNb⟩ h
   · omega
 repeat (first | refine qM rfl rfl ?_ | refine k_nil ?_ | refine k_assign rfl rfl rfl ?_ | apply qR | apply qS)
 by_cases h2 : it f (i + 1) a0 = a0
 · refine wops_cons (wop_bin (op := .eql) (v := .bool true) rfl rfl rfl rfl (by simp [binI, h2]) ?_)
   repeat (first | refine qM rfl rfl ?_)
   by_cases h3 : it f (i + 1) b0 = b0
   · refine wops_cons (wop_bin (op := .eql) (v := .bool true) rfl rfl rfl rfl (by simp [binI, h3]) ?_)
     repeat (first | apply qN | refine qM rfl rfl ?_ | refine zq7 rfl rfl rfl ?_ | refine qT rfl ?_ | apply qR | apply qS)
     refine wp_ret ?_
     refine ⟨_, _, rfl, hk2 H5 k05 (by omega) fun j => ?_⟩
     rw [← it_modr h2 j, ← it_modr h3 j]
     exact hno1 _ (Nat.mod_lt _ (Nat.succ_pos _))
   · refine wops_cons (wop_bin (op := .eql) (v := .bool false) rfl rfl rfl rfl (by simp [binI]; omega) ?_)
     repeat (first | apply qN | refine qM rfl rfl ?_ | refine zq4 rfl rfl rfl rfl (inc (by omega)) ?_ | refine zq7 rfl rfl rfl ?_ | refine qF rfl ?_ | apply qR | apply qK)
     exact ⟨N - (i + 1), by omega, i + 1, [_,_,_,_,_,_,_,_,_,_,_,_,_,_,_,_,_,_,_,_,_,_,_,_,_,_,_,_,_,_], rfl, fin fun e => h3 e.2, k25, by omega, hno1, rfl, rfl⟩
 · refine wops_cons (wop_bin (op := .eql) (v := .bool false) rfl rfl rfl rfl (by simp [binI]; omega) ?_)
   repeat (first | apply qN | refine zq1 rfl rfl ?_ | refine qM rfl rfl ?_ | refine zq4 rfl rfl rfl rfl (inc (by omega)) ?_ | refine zq7 rfl rfl rfl ?_ | refine qF rfl ?_ | apply qR | apply qK)
   exact ⟨N - (i + 1), by omega, i + 1, [_,_,_,_,_,_,_,_,_,_,_,_,_,_,_,_,_,_,_,_,_,_,_,_,_,_,_,_,_,_], rfl, fin fun e => h2 e.1, k25, by omega, hno1, rfl, rfl⟩
theorem cRefFreeS (H : AH) (a x y : AV) (m : Mc) (l : List Int) (n : Nat) (ha : a.cells = mc m x) (hx : Sl H x (ivs m.sw)) (ho : Old H x) (hsl : m.sw.length ≤ 100000) (hy : Ky H y l) (hV : Vld m l n) (hn3 : n ≤ 3) (hl10 : l.length ≤ 12) (hnev : never m l n) (hr : H.next + 200000000 < 2 ^ 39) (K : AV → AH → Prop)
   (hk : ∀ H' c, Keeps H H' → H'.next ≤ H.next + 120000000 → Gr H' 3 c (ivs (freeL m n l (4 * n))) → K c H') : Ca (ENV O) 40 [a, y] H K := by
 refine ca_intro (hq _ _ _ rfl) (fn := Tryz.f40) (by rfl) rfl ?_
 have hg := hV.hg
 have hn16 := hV.hn
 have hev := mE_ring hg hV.hm0
 have hval := valsL_le hV.fr.perd_mem
 have hall : ∀ z, z < 4 * n → it (fOf (permL m n)) (perd (fOf (permL m n)) (4 * n)) z = z := fun z hz => (hV.ok.pm.round (i := perd (fOf (permL m n)) (4 * n))).2 (by rw [hV.len]; exact Nat.dvd_refl _) z (by rw [hV.len]; omega)
 repeat (first | apply qR | apply qS)
 refine wops_cons (o_boxM rfl rfl ha (by omega) fun H1 n1 k1 b1 => ?_)
 have hlo := cQ_lo
 have hhi := cQ_hi
 repeat (first | apply qN | refine qM rfl rfl ?_ | apply qR | apply qS | apply qB)
 refine wp_loop (fun q T M H' => ∃ (i : Nat) (Y : List AV) (s : AV), q = 4 * n - i ∧ i ≤ 4 * n ∧ Keeps H1 H' ∧ H'.next ≤ H1.next + 13 * i * cQ ∧ Gr H' 3 s (ivs (freeL m n l i)) ∧ (∀ b, s.own = some b → H1.next ≤ b) ∧ M = [] ∧ T = (lget Y 0 :: y :: .ptr H.next 0 :: lget Y 1 :: lget Y 2 :: s :: iv (i : Nat) :: lget Y 3 :: lget Y 4 :: lget Y 5 :: lget Y 6 :: lget Y 7 :: lget Y 8 :: lget Y 9 :: lget Y 10 :: lget Y 11 :: lget Y 12 :: lget Y 13 :: lget Y 14 :: lget Y 15 :: lget Y 16 :: lget Y 17 :: lget Y 18 :: lget Y 19 :: lget Y 20 :: lget Y 21 :: lget Y 22 :: lget Y 23 :: lget Y 24 :: lget Y 25 :: lget Y 26 :: lget Y 27 :: lget Y 28 :: lget Y 29 :: lget Y 30 :: lget Y 31 :: lget Y 32 :: lget Y 33 :: lget Y 34 :: lget Y 35 :: lget Y 36 :: lget Y 37 :: lget Y 38 :: lget Y 39 :: lget Y 40 :: lget Y 41 :: [])) (4 * n)
   ⟨0, [_,_,_,_,_,_,_,_,_,_,_,_,_,_,_,_,_,_,_,_,_,_,_,_,_,_,_,_,_,_,_,_,_,_,_,_,_,_,_,_,_,_], .v (.slice none 0 0), rfl, Nat.zero_le _, Keeps.refl _, Nat.le_add_right _ _, .inl ⟨rfl, rfl⟩, (fun b hb => by cases hb), rfl, rfl⟩ ?_
 rintro q T M H2 ⟨i, Y, s, hq1, hi, k2, n2, hG, hso, rfl, rfl⟩
 have k02 := k1.trans k2
 have l2 := k2.nx
 have b2 := b1.keep (by omega) k2
 have hmx : 13 * i * cQ ≤ 156 * cQ := Nat.mul_le_mul_right _ (by omega)
 have hB : 156 * cQ ≤ 118600000 := by decide
 generalize hA : 13 * i * cQ = A at n2 hmx
 generalize hBB : 156 * cQ = BB at hmx hB
 repeat (first | refine qM rfl rfl ?_ | refine zqb rfl rfl rfl ‹_› ?_ | apply qR | apply qS)
 refine wops_cons (wop_callF rfl rfl rfl (fn := Tryz.f81) (by rfl) ?_)
 refine c81 hq H2 _ x m rfl (by have := hV.hn1; omega) (by omega) _ fun H3 k3 n3 => ⟨k3.nx, ?_⟩
 have k03 := k02.trans k3
 have k13 := k2.trans k3
 have b3 := b2.keep (by omega) k3
 have hG3 := hG.frame k3.nx fun b hb => k3.get b (hG.old b hb)
 skip
 refine wops_cons (wop_cmp rfl rfl rfl rfl rfl (fun h => ?_) (fun h => ?_))
 rotate_left
 · have h : ¬ ((i : Int) < 4 * m.g) := of_decide_eq_false h
   have e : i = 4 * n := by omega
   rw [e] at hG3
   repeat (first | apply qN | refine qM rfl rfl ?_ | refine qF rfl ?_ | apply qR | apply qS | apply qE)
   refine wp_ret ?_
   exact ⟨_, _, rfl, hk H3 s k03 (by omega) hG3⟩
 have hi' : i < 4 * n := by
   have h : (i : Int) < 4 * m.g := of_decide_eq_true h
   omega
 clear h
 repeat (first | apply qN | refine qM rfl rfl ?_ | refine qT rfl ?_ | apply qR | apply qS | apply qK | apply qB)
 refine wp_loop (fun q T M H' => ∃ (k : Nat) (Y : List AV) (c : Bool), q = l.length - k ∧ k ≤ l.length ∧ Keeps H1 H' ∧ H'.next ≤ H3.next + k * cQ ∧ Gr H' 3 s (ivs (freeL m n l i)) ∧ (c = true ↔ ∀ z ∈ l.take k, z ≠ (i : Int) ∧ ∀ j, ¬ meetAt m n i z.toNat j) ∧ M = [] ∧ T = (lget Y 0 :: y :: .ptr H.next 0 :: lget Y 1 :: lget Y 2 :: s :: iv (i : Nat) :: .v (.bool c) :: iv (k : Nat) :: lget Y 3 :: lget Y 4 :: lget Y 5 :: lget Y 6 :: lget Y 7 :: lget Y 8 :: lget Y 9 :: lget Y 10 :: lget Y 11 :: lget Y 12 :: lget Y 13 :: lget Y 14 :: lget Y 15 :: lget Y 16 :: lget Y 17 :: lget Y 18 :: lget Y 19 :: lget Y 20 :: lget Y 21 :: lget Y 22 :: lget Y 23 :: lget Y 24 :: lget Y 25 :: lget Y 26 :: lget Y 27 :: lget Y 28 :: lget Y 29 :: lget Y 30 :: lget Y 31 :: lget Y 32 :: lget Y 33 :: lget Y 34 :: lget Y 35 :: lget Y 36 :: lget Y 37 :: lget Y 38 :: lget Y 39 :: [])) l.length
   ⟨0, [_,_,_,_,_,_,_,_,_,_,_,_,_,_,_,_,_,_,_,_,_,_,_,_,_,_,_,_,_,_,_,_,_,_,_,_,_,_,_,_], true, rfl, Nat.zero_le _, k13, Nat.le_add_right _ _, hG3, ⟨fun _ z hz => by simp at hz, fun _ => rfl⟩, rfl, rfl⟩ ?_
 clear hG hG3
 rintro q T M H4 ⟨k, Y, c, hq2, hkl, k4, n4, hG, hc, rfl, rfl⟩
 have k04 := k1.trans k4
 have l4 := k4.nx
 have hmk : k * cQ ≤ 12 * cQ := Nat.mul_le_mul_right _ (by omega)
 have hB2 : 12 * cQ ≤ 9200000 := by decide
 have hs1 : (k + 1) * cQ = k * cQ + cQ := Nat.succ_mul _ _
 have hs2 : 13 * (i + 1) * cQ = 13 * i * cQ + 13 * cQ := by rw [← Nat.add_mul]; rfl
 have hs3 : 13 * cQ = 12 * cQ + cQ := Nat.succ_mul _ _
 rw [hA] at hs2
 generalize hA1 : k * cQ = A1 at n4 hmk hs1
 generalize hA2 : (k + 1) * cQ = A2 at hs1
 generalize hA3 : 13 * (i + 1) * cQ = A3 at hs2
 generalize hA4 : 13 * cQ = A4 at hs2 hs3
 generalize hA5 : 12 * cQ = A5 at hmk hB2 hs3
 have hky := hy.keep k04
 have hys := hky.sl
 have b4 := b1.keep (by omega) k4
 have hB4 : ∀ c, (AV.ptr H.next 0).own = some c → Lk H4 c := b4.lk (by omega) (hx.keep ho k04)
 have hk0 : Keeps H4 H4 := Keeps.refl _
 repeat (first | refine qM rfl rfl ?_ | refine zq5 rfl rfl rfl rfl rfl ‹_› ?_ | apply qR | apply qS)
 refine wops_cons (wop_cmp rfl rfl rfl rfl rfl (fun h => ?_) (fun h => ?_))
 rotate_left
 · have h : ¬ ((k : Int) < (l.length : Nat)) := of_decide_eq_false h
   have e : k = l.length := by omega
   clear h
   rw [List.take_of_length_le (by omega)] at hc
   have hfree : c = true ↔ (i : Int) ∉ l ∧ never m (l ++ [(i : Int)]) n := by
     rw [hc, never_snoc hV (by omega) hev hnev]
     constructor
     · intro h
       exact ⟨fun hm => (h _ hm).1 rfl, fun z hz j => (h z hz).2 j⟩
     · rintro ⟨h1, h2⟩ z hz
       exact ⟨fun e => h1 (e ▸ hz), fun j => h2 z hz j⟩
   repeat (first | apply qN | refine qM rfl rfl ?_ | refine qF rfl ?_ | apply qR | apply qS | apply qE)
   refine wp_cond rfl (fun hct => ?_) (fun hcf => ?_)
   · have hf := hfree.1 hct
     have r4 : H4.next < 2 ^ 39 := by omega
     have hfl := freeL_len m n l i
     repeat (first | refine qM rfl rfl ?_ | apply qR)
     refine wops_cons (o_build1 rfl rfl rfl r4 ?_)
     have k5 := k4.add (.cells [iv (i : Nat)] 3 0) r4
     have G5 := hG.frame (H' := H4.add (.cells [iv (i : Nat)] 3 0)) (Nat.le_succ _) fun b hb => get_add_ne r4 (by have := hG.old b hb; omega)
     refine wops_cons (o_append rfl rfl rfl rfl rfl (by rw [ivs_length]; omega) (by show H4.next + 1 < _; omega) rfl (get_add_eq r4) rfl G5 fun r H6 er n6 gl6 b6 _ G6 => ?_)
     have k6 := keeps_append k5 n6 gl6 b6 hso
     have n6 : H6.next = H4.next + 1 + 1 := n6
     repeat (first | apply qN | refine qM rfl rfl ?_ | refine zq4 rfl rfl rfl rfl (inc (by omega)) ?_ | apply qR)
     refine ⟨4 * n - (i + 1), by omega, i + 1, [_,_,_,_,_,_,_,_,_,_,_,_,_,_,_,_,_,_,_,_,_,_,_,_,_,_,_,_,_,_,_,_,_,_,_,_,_,_,_,_,_,_], r, rfl, by omega, k6, by rw [hA3]; omega, ?_, (fun b hb => by subst er; cases hb; show H1.next ≤ H4.next + 1; omega), rfl, rfl⟩
     rw [freeL_succ, if_pos hf, ivs_snoc]
     exact G6
   · have hf : ¬ ((i : Int) ∉ l ∧ never m (l ++ [(i : Int)]) n) := fun e => by rw [hfree.2 e] at hcf; cases hcf
     repeat (first | apply qN | refine qM rfl rfl ?_ | refine zq4 rfl rfl rfl rfl (inc (by omega)) ?_ | apply qR | apply qK)
     refine ⟨4 * n - (i + 1), by omega, i + 1, [_,_,_,_,_,_,_,_,_,_,_,_,_,_,_,_,_,_,_,_,_,_,_,_,_,_,_,_,_,_,_,_,_,_,_,_,_,_,_,_,_,_], s, rfl, by omega, k4, by rw [hA3]; omega, ?_, hso, rfl, rfl⟩
     rw [freeL_succ, if_neg hf, List.append_nil]
     exact hG
 have h' : (k : Int) < (l.length : Nat) := of_decide_eq_true h
 have hk' : k < l.length := by omega
 clear h
 obtain ⟨z, hz⟩ := l_some hk'
 have hzb := hV.hl z (List.mem_of_getElem? hz)
 obtain ⟨zn, rfl⟩ := Int.eq_ofNat_of_zero_le hzb.1
 have hz : l[k]? = some (zn : Int) := hz
 have hzb : zn < 4 * n := by have := hzb.2; omega
 have htk : ∀ P : Int → Prop, (∀ z ∈ l.take (k + 1), P z) ↔ (∀ z ∈ l.take k, P z) ∧ P (zn : Int) := fun P => by
   rw [List.take_add_one, hz]
   simp [or_imp, forall_and]
 repeat (first | apply qN | refine qT rfl ?_ | apply qS | apply qK | apply qB)
 refine Wp.mono (Q := fun x' T' M' H' => x' = .normal ∧ M' = [] ∧ Keeps H4 H' ∧ H'.next ≤ H4.next + 740000 ∧ ∃ (c' : Bool) (Y : List AV), (c' = true ↔ c = true ∧ ((zn : Int) ≠ (i : Int) ∧ ∀ j, ¬ meetAt m n i zn j)) ∧ T' = (lget Y 0 :: y :: .ptr H.next 0 :: lget Y 1 :: lget Y 2 :: s :: iv (i : Nat) :: .v (.bool c') :: iv (k : Nat) :: lget Y 3 :: lget Y 4 :: lget Y 5 :: lget Y 6 :: lget Y 7 :: lget Y 8 :: lget Y 9 :: lget Y 10 :: lget Y 11 :: lget Y 12 :: lget Y 13 :: lget Y 14 :: lget Y 15 :: lget Y 16 :: lget Y 17 :: lget Y 18 :: lget Y 19 :: lget Y 20 :: lget Y 21 :: lget Y 22 :: lget Y 23 :: lget Y 24 :: lget Y 25 :: lget Y 26 :: lget Y 27 :: lget Y 28 :: lget Y 29 :: lget Y 30 :: lget Y 31 :: lget Y 32 :: lget Y 33 :: lget Y 34 :: lget Y 35 :: lget Y 36 :: lget Y 37 :: lget Y 38 :: lget Y 39 :: [])) (wp_drawK rfl ?_) ?_
 · cases c with
   | false =>
     repeat (first | refine k_skip rfl rfl ?_ | refine k_move rfl rfl rfl ?_ | refine k_pick rfl rfl rfl rfl ?_)
     refine k_loudSkip rfl rfl hk0 ?_
     repeat (first | refine k_nil ?_ | refine k_skip rfl rfl ?_ | refine k_assign rfl rfl rfl ?_ | refine k_pick rfl rfl rfl rfl ?_)
     exact ⟨rfl, rfl, hk0, by omega, false, [_,_,_,_,_,_,_,_,_,_,_,_,_,_,_,_,_,_,_,_,_,_,_,_,_,_,_,_,_,_,_,_,_,_,_,_,_,_,_,_], ⟨(fun h => by cases h), fun h => by cases h.1⟩, rfl⟩
   | true =>
     repeat (first | refine k_move rfl rfl rfl ?_)
     refine k_indexI rfl rfl rfl hys rfl hz hky.lk fun p1 hp1 hl1 => ?_
     repeat (first | refine k_move rfl rfl rfl ?_ | refine k_load rfl rfl rfl ‹_› ‹_› ?_)
     by_cases hzi : zn = i
     · refine k_bin (op := .neq) (v := .bool false) rfl rfl rfl rfl rfl (by simp [binI, hzi]) ?_
       repeat (first | refine k_skip rfl rfl ?_ | refine k_move rfl rfl rfl ?_ | refine k_pick rfl rfl rfl rfl ?_)
       refine k_loudSkip rfl rfl hk0 ?_
       repeat (first | refine k_nil ?_ | refine k_skip rfl rfl ?_ | refine k_assign rfl rfl rfl ?_ | refine k_pick rfl rfl rfl rfl ?_)
       exact ⟨rfl, rfl, hk0, by omega, false, [_,_,_,_,_,_,_,_,_,_,_,_,_,_,_,_,_,_,_,_,_,_,_,_,_,_,_,_,_,_,_,_,_,_,_,_,_,_,_,_], ⟨(fun h => by cases h), fun h => absurd (by rw [hzi]) h.2.1⟩, rfl⟩
     · have hzi2 : ¬ (zn : Int) = (i : Int) := fun e => hzi (Int.ofNat.inj e)
       refine k_bin (op := .neq) (v := .bool true) rfl rfl rfl rfl rfl (by simp [binI]; exact hzi2) ?_
       repeat (first | refine k_move rfl rfl rfl ?_ | refine k_pick rfl rfl rfl rfl ?_ | refine k_load4 rfl rfl rfl rfl ‹_› ‹_› ?_)
       refine k_indexI rfl rfl rfl hys rfl hz hky.lk fun p2 hp2 hl2 => ?_
       repeat (first | refine k_load rfl rfl rfl ‹_› ‹_› ?_)
       refine k_call rfl rfl rfl (fun b h => by cases h) (wop_callF rfl rfl rfl (fn := Tryz.f90) (by rfl) ?_)
       refine cPairN hq H4 _ x m n i zn _ rfl (hx.keep ho k04) (ho.keep k04) hsl hg hV.hn1 hn16 hi' hzb (Nat.lt_of_lt_of_le Nat.zero_lt_one hval.1) (by omega) (hall i hi') (hall zn hzb) (by omega) _ (fun H5 k0 k5 n5 hk1 hme hno => ⟨k5.nx, k5, ?_⟩) (fun H5 k5 n5 hno => ⟨k5.nx, k5, ?_⟩)
       · refine k_bin (op := .lss) (v := .bool false) rfl rfl rfl rfl rfl (by
           show some (Value.bool (decide ((k0 : Int) < 0))) = _
           rw [decide_eq_false (by omega)]) ?_
         repeat (first | refine k_nil ?_ | refine k_assign rfl rfl rfl ?_ | refine k_pick rfl rfl rfl rfl ?_)
         exact ⟨rfl, rfl, k5, (by omega), false, [_,_,_,_,_,_,_,_,_,_,_,_,_,_,_,_,_,_,_,_,_,_,_,_,_,_,_,_,_,_,_,_,_,_,_,_,_,_,_,_], ⟨(fun h => by cases h), fun h => absurd hme (h.2.2 k0)⟩, rfl⟩
       · refine k_bin (op := .lss) (v := .bool true) rfl rfl rfl rfl rfl rfl ?_
         repeat (first | refine k_nil ?_ | refine k_assign rfl rfl rfl ?_ | refine k_pick rfl rfl rfl rfl ?_)
         exact ⟨rfl, rfl, k5, (by omega), true, [_,_,_,_,_,_,_,_,_,_,_,_,_,_,_,_,_,_,_,_,_,_,_,_,_,_,_,_,_,_,_,_,_,_,_,_,_,_,_,_], ⟨fun _ => ⟨rfl, hzi2, hno⟩, fun _ => rfl⟩, rfl⟩
 rintro x' T' M' H5 ⟨rfl, rfl, k5, n5, c', Y, hc', rfl⟩
 show Wp _ _ _ _ _ _ _ _
 repeat (first | apply qN | refine qM rfl rfl ?_ | refine zq4 rfl rfl rfl rfl (inc (by omega)) ?_ | apply qR)
 refine ⟨l.length - (k + 1), by omega, k + 1, [_,_,_,_,_,_,_,_,_,_,_,_,_,_,_,_,_,_,_,_,_,_,_,_,_,_,_,_,_,_,_,_,_,_,_,_,_,_,_,_], c', rfl, by omega, k4.trans k5, by rw [hA2]; omega, hG.frame k5.nx fun b hb => k5.get b (hG.old b hb), ?_, rfl, rfl⟩
 rw [hc', hc, htk]
 exact Iff.rfl
end Go.Ev
namespace Go.Ev
open Go.Proofs
def lastI (l : List Int) : Int := l.getLast?.getD (-1)
def rstep (e : List Int → List Int) (l : List Int) : List Int → List Int → List Int
 | best, [] => best
 | best, s :: t => rstep e l (if lastI l < s ∧ best.length < l.length + (t.length + 1) then (if best.length < (e (l ++ [s])).length then e (l ++ [s]) else best) else best) t
def cR (k : Nat) : Nat := 121000000 * 2 ^ k
theorem cR_succ (k : Nat) : cR (k + 1) = cR k + cR k := by unfold cR; rw [Nat.pow_succ]; omega
theorem cR_mono {a b : Nat} (h : a ≤ b) : cR a ≤ cR b := Nat.mul_le_mul_left _ (Nat.pow_le_pow_right (by decide) h)
theorem cR_lo (k : Nat) : 121000000 ≤ cR k := Nat.le_mul_of_pos_right _ (Nat.pow_pos (by decide))
theorem subX {a b : Int} (h : -1000000 ≤ a - b) (h2 : a - b ≤ 1000000) : binI .sub .i64 .i64 a b = some (.int .i64 (a - b)) := by
 show some (Value.int .i64 (IntKind.i64.wrap (a - b))) = _
 rw [wrap_id (by omega) (by omega)]
theorem addX {a b : Int} (h : -1000000 ≤ a + b) (h2 : a + b ≤ 1000000) : binI .add .i64 .i64 a b = some (.int .i64 (a + b)) := by
 show some (Value.int .i64 (IntKind.i64.wrap (a + b))) = _
 rw [wrap_id (by omega) (by omega)]
theorem first_gr {H : AH} {x : AV} {l : List Int} (h : Gr H 3 x (ivs l)) : lenA x = some l.length ∧ firstA 1 l.length x H = some (ivs l) := by
 rcases h with ⟨rfl, e⟩ | ⟨b, _, _, rfl, h⟩
 · have : l = [] := by cases l with | nil => rfl | cons a l => simp [ivs] at e
   subst this
   exact ⟨rfl, rfl⟩
 · rw [ivs_length]; exact first_slu h
theorem lastI_snoc (l : List Int) (s : Int) : lastI (l ++ [s]) = s := by simp [lastI]
theorem freeL_in {m : Mc} {n : Nat} {l : List Int} {i : Nat} {z : Int} (h : z ∈ freeL m n l i) : z ∉ l ∧ never m (l ++ [z]) n := by
 unfold freeL at h
 obtain ⟨k, hk, rfl⟩ := List.mem_map.1 h
 simpa using (List.mem_filter.1 hk).2
theorem freeL_inc (m : Mc) (n : Nat) (l : List Int) (i : Nat) : (freeL m n l i).Pairwise (· < ·) := by
 unfold freeL
 rw [List.pairwise_map]
 exact (List.pairwise_lt_range.sublist List.filter_sublist).imp fun h => Int.ofNat_lt.2 h
section
variable {O : CallF} {T : List AV} {H H0 : AH} {ops : Array Oper} {o : Oper} {i : Nat} {π : List Stp}
theorem o_appendG {K : AV → AH → Prop} {c : Call} {t xt e' : TypeId} {s x : Operand} {l : List Int} {b : Nat} (ho : o.op = .call c) (hg : wantedA o ops T = true) (hc : c.callee = .builtin .append) (hargs : c.args.toList = [s, x]) (ht : c.argTypes.toList = [t, xt]) [hu : TyS t 3] [hux : TyS xt e']
   (hlen : l.length ≤ 2 ^ 30) (hr : H.next < 2 ^ 39) (hsx : av T s = .slc b 0 0 0) (hbn : b < H.next) (hgb : H.get b = some (.cells [] 3 0)) (hy : Gr H 3 (av T x) (ivs l)) (hb0 : H0.next ≤ b) (hk0 : Keeps H0 H)
   (hk : ∀ a H4, Ap H4 a l → (∀ d, a.own = some d → H0.next ≤ d) → Keeps H0 H4 → H4.next ≤ H.next + 1 → H.next ≤ H4.next → K a H4) : WOp (ENV O) ops o T H K := by
 obtain ⟨f1, f2⟩ := first_gr hy
 have hz : Zero 3 (.int .i64 0) := inferInstance
 have hs : Cell 3 := inferInstance
 have hb39 : b < 2 ^ 39 := by omega
 refine wop_appendE ho hg hc hargs (arg0 ht) (arg1 ht) hu.u hux.u hz.i hs.s hz.z (by rw [hz.c]; rfl) (Nat.le_of_ble_eq_true hz.b) hlen hr hsx hgb f1 f2 (ivs_one l) (ivs_length l) (fun h0 => ?_) (fun h0 => ?_)
 · have e : l = [] := List.eq_nil_of_length_eq_zero h0
   subst e
   exact hk _ _ (.inr (.inl ⟨b, rfl, rfl, hbn, hb39, get_set_eq hb39⟩)) (fun d hd => by cases hd; exact hb0) (hk0.set _ hb0 hb39) (Nat.le_succ _) (Nat.le_refl _)
 · exact hk _ _ (.inr (.inr ⟨H.next, rfl, Nat.lt_succ_self _, hr, get_add_eq hr⟩)) (fun d hd => by cases hd; have := hk0.nx; omega) (hk0.add _ hr) (Nat.le_refl _) (Nat.le_succ _)
end
def RefC (O : CallF) (m : Mc) (n k : Nat) (e : List Int → List Int) : Prop :=
 ∀ (H : AH) (a x y : AV) (l : List Int) (kk : Nat), a.cells = mc m x → Sl H x (ivs m.sw) → Old H x → Gr H 3 y (ivs l) → Vld m l n → never m l n → (kk : Int) = 4 * n - 1 - lastI l → kk < k → H.next + cR kk + 300000000 < 2 ^ 39 →
   ∀ K : AV → AH → Prop, (∀ H' r, Keeps H H' → H'.next + 10 ≤ H.next + cR kk → Gr H' 3 r (ivs (e l)) → (e l).length ≤ 100 → K r H') → Ca (ENV O) 38 [a, y] H K
variable {O : CallF} (hq : Quiet O)
include hq
theorem c38core {m : Mc} {n k : Nat} {e : List Int → List Int} (hn3 : n ≤ 3) (hrec : RefC O m n k e) : RefC O m n (k + 1) (fun l => rstep e l l (freeL m n l (4 * n))) := by
 intro H a x y l kk ha hx ho hy hV hnev hkk hk1 hr K hk
 refine ca_intro (hq _ _ _ rfl) (fn := Tryz.f38) (by rfl) rfl ?_
 have hll : l.length ≤ 12 := by have := hV.hle; omega
 have hlo := cR_lo kk
 repeat (first | apply qR | apply qS)
 refine wops_cons (o_boxM rfl rfl ha (by omega) fun H1 n1 k1 b1 => ?_)
 have hy1 := hy.frame k1.nx fun b hb => k1.get b (hy.old b hb)
 have hs1 : Sl H1 y (ivs l) := hy1.sl
 repeat (first | apply qN | refine qM rfl rfl ?_ | refine zq5 rfl rfl rfl rfl rfl ‹_› ?_ | apply qR | apply qS)
 refine wops_cons (wop_bin (op := .gtr) (v := .bool (decide (0 < l.length))) rfl rfl rfl rfl ?_ ?_)
 · show some (Value.bool (decide ((0 : Int) < (l.length : Int)))) = _
   congr 2
   simp only [decide_eq_decide]
   omega
 repeat (first | apply qN)
 refine Wp.mono (Q := fun x' T' M' H' => x' = .normal ∧ M' = [] ∧ H' = H1 ∧ ∃ (Y : List AV), T' = (lget Y 0 :: y :: .ptr H.next 0 :: lget Y 1 :: lget Y 2 :: y :: iv (lastI l) :: lget Y 3 :: lget Y 4 :: lget Y 5 :: lget Y 6 :: lget Y 7 :: lget Y 8 :: lget Y 9 :: lget Y 10 :: lget Y 11 :: lget Y 12 :: lget Y 13 :: lget Y 14 :: lget Y 15 :: lget Y 16 :: lget Y 17 :: lget Y 18 :: lget Y 19 :: lget Y 20 :: lget Y 21 :: lget Y 22 :: lget Y 23 :: lget Y 24 :: lget Y 25 :: lget Y 26 :: lget Y 27 :: lget Y 28 :: lget Y 29 :: lget Y 30 :: lget Y 31 :: lget Y 32 :: lget Y 33 :: lget Y 34 :: lget Y 35 :: lget Y 36 :: lget Y 37 :: lget Y 38 :: lget Y 39 :: lget Y 40 :: lget Y 41 :: lget Y 42 :: lget Y 43 :: lget Y 44 :: lget Y 45 :: lget Y 46 :: lget Y 47 :: lget Y 48 :: lget Y 49 :: lget Y 50 :: lget Y 51 :: lget Y 52 :: lget Y 53 :: lget Y 54 :: lget Y 55 :: lget Y 56 :: lget Y 57 :: lget Y 58 :: lget Y 59 :: lget Y 60 :: [])) ?_ ?_
 · refine wp_cond rfl (fun h => ?_) (fun h => ?_)
   · have h : 0 < l.length := of_decide_eq_true h
     have hz : l[l.length - 1]? = some (lastI l) := by
       unfold lastI
       rw [List.getLast?_eq_getElem?]
       rw [List.getElem?_eq_getElem (by omega)]
       rfl
     repeat (first | refine qM rfl rfl ?_ | refine zq5 rfl rfl rfl rfl rfl ‹_› ?_ | apply qR)
     refine wops_cons (wop_bin (op := .sub) (v := .int .i64 ((l.length - 1 : Nat) : Int)) rfl rfl rfl rfl ?_ ?_)
     · show binI .sub .i64 .i64 (l.length : Int) 1 = _
       rw [sub1 (by omega)]
       congr 2
       omega
     skip
     refine wops_cons (o_indexI rfl rfl hs1 rfl hz fun pp hpp => ?_)
     repeat (first | apply qN | refine qM rfl rfl ?_ | refine zq6 rfl rfl ‹_› ?_)
     exact ⟨rfl, rfl, rfl, [_,_,_,_,_,_,_,_,_,_,_,_,_,_,_,_,_,_,_,_,_,_,_,_,_,_,_,_,_,_,_,_,_,_,_,_,_,_,_,_,_,_,_,_,_,_,_,_,_,_,_,_,_,_,_,_,_,_,_,_,_], rfl⟩
   · have h : ¬ 0 < l.length := of_decide_eq_false h
     have e0 : l = [] := List.eq_nil_of_length_eq_zero (by omega)
     repeat (first | apply qK)
     exact ⟨rfl, rfl, rfl, [_,_,_,_,_,_,_,_,_,_,_,_,_,_,_,_,_,_,_,_,_,_,_,_,_,_,_,_,_,_,_,_,_,_,_,_,_,_,_,_,_,_,_,_,_,_,_,_,_,_,_,_,_,_,_,_,_,_,_,_,_], by rw [e0]; rfl⟩
 rintro x' T' M' H1' ⟨rfl, rfl, rfl, Y, rfl⟩
 show Wp _ _ _ _ _ _ _ _
 repeat (first | refine qM rfl rfl ?_ | refine zqb rfl rfl rfl ‹_› ?_ | apply qR | apply qS)
 refine wops_cons (wop_callF rfl rfl rfl (fn := Tryz.f40) (by rfl) ?_)
 refine cRefFreeS hq _ _ x y m l n rfl (hx.keep ho k1) (ho.keep k1) (by have := hV.hsw; omega) hy1.ky hV hn3 hll hnev (by omega) _ fun H3 yf k3 n3 hf3 => ⟨k3.nx, ?_⟩
 have k03 := k1.trans k3
 have b3 := b1.keep (by omega) k3
 have hy3 := hy.frame k03.nx fun b hb => k03.get b (hy.old b hb)
 have hB3 : ∀ {H' : AH}, Keeps H3 H' → ∀ c, (AV.ptr H.next 0).own = some c → Lk H' c := fun k => (b3.keep (by have := k3.nx; omega) k).lk (by have := k3.nx; have := k.nx; omega) (hx.keep ho (k03.trans k))
 generalize hfr : freeL m n l (4 * n) = fr at hf3 ⊢
 have hfl : fr.length ≤ 12 := by rw [← hfr]; exact Nat.le_trans (freeL_len _ _ _ _) (by omega)
 repeat (first | apply qN | refine qM rfl rfl ?_ | apply qR | apply qS | apply qB)
 refine wp_loop (fun q T M H' => ∃ (i p : Nat) (vb : AV) (best : List Int) (Y : List AV), q = fr.length - i ∧ i ≤ fr.length ∧ Keeps H3 H' ∧ H'.next + cR p ≤ H3.next + cR kk ∧ (∀ z ∈ fr.drop i, lastI l < z → 4 * (n : Int) - 1 - z < p) ∧ Gr H' 3 vb (ivs best) ∧ best.length ≤ 100 ∧ rstep e l best (fr.drop i) = rstep e l l fr ∧ M = [] ∧ T = (lget Y 0 :: y :: .ptr H.next 0 :: lget Y 1 :: lget Y 2 :: vb :: iv (lastI l) :: yf :: iv (i : Nat) :: lget Y 3 :: lget Y 4 :: lget Y 5 :: lget Y 6 :: lget Y 7 :: lget Y 8 :: lget Y 9 :: lget Y 10 :: lget Y 11 :: lget Y 12 :: lget Y 13 :: lget Y 14 :: lget Y 15 :: lget Y 16 :: lget Y 17 :: lget Y 18 :: lget Y 19 :: lget Y 20 :: lget Y 21 :: lget Y 22 :: lget Y 23 :: lget Y 24 :: lget Y 25 :: lget Y 26 :: lget Y 27 :: lget Y 28 :: lget Y 29 :: lget Y 30 :: lget Y 31 :: lget Y 32 :: lget Y 33 :: lget Y 34 :: lget Y 35 :: lget Y 36 :: lget Y 37 :: lget Y 38 :: lget Y 39 :: lget Y 40 :: lget Y 41 :: lget Y 42 :: lget Y 43 :: lget Y 44 :: lget Y 45 :: lget Y 46 :: lget Y 47 :: lget Y 48 :: lget Y 49 :: lget Y 50 :: lget Y 51 :: lget Y 52 :: lget Y 53 :: lget Y 54 :: lget Y 55 :: lget Y 56 :: lget Y 57 :: lget Y 58 :: [])) fr.length
   ⟨0, kk, y, l, [_,_,_,_,_,_,_,_,_,_,_,_,_,_,_,_,_,_,_,_,_,_,_,_,_,_,_,_,_,_,_,_,_,_,_,_,_,_,_,_,_,_,_,_,_,_,_,_,_,_,_,_,_,_,_,_,_,_,_], rfl, Nat.zero_le _, Keeps.refl _, Nat.le_refl _, fun z hz hl => by omega, hy3, by omega, rfl, rfl, rfl⟩ ?_
 rintro q T M H4 ⟨i, p, vb, best, Y, hq1, hi, k4, n4, hp, hvb, hbl, hrn, rfl, rfl⟩
 have k04 := k03.trans k4
 have hf4 := hf3.frame k4.nx fun b hb => k4.get b (hf3.old b hb)
 have hy4 := hy3.frame k4.nx fun b hb => k4.get b (hy3.old b hb)
 have hsf4 : Sl H4 yf (ivs fr) := hf4.sl
 have hlp := cR_lo p
 repeat (first | refine qM rfl rfl ?_ | refine zq5 rfl rfl rfl rfl rfl ‹_› ?_ | apply qR | apply qS)
 refine wops_cons (wop_cmp rfl rfl rfl rfl rfl (fun h => ?_) (fun h => ?_))
 rotate_left
 · have h : ¬ ((i : Int) < (fr.length : Nat)) := of_decide_eq_false h
   have ei : i = fr.length := by omega
   subst ei
   rw [List.drop_length] at hrn
   have hrn : best = rstep e l l (freeL m n l (4 * n)) := by rw [hfr]; exact hrn
   rw [hrn] at hvb hbl
   repeat (first | apply qN | refine qM rfl rfl ?_ | refine qF rfl ?_ | apply qR | apply qS | apply qE)
   refine wp_ret ?_
   exact ⟨_, _, rfl, hk H4 vb k04 (by omega) hvb hbl⟩
 have h' : (i : Int) < (fr.length : Nat) := of_decide_eq_true h
 have hi' : i < fr.length := by omega
 clear h
 obtain ⟨z, hz⟩ := l_some hi'
 have hdr : fr.drop i = z :: fr.drop (i + 1) := by
   rw [List.drop_eq_getElem_cons hi']
   congr 1
   rw [List.getElem?_eq_getElem hi'] at hz
   exact Option.some.inj hz
 have hdl : (fr.drop (i + 1)).length = fr.length - (i + 1) := List.length_drop
 have hzm : z ∈ fr := List.mem_of_getElem? hz
 have hzr := freeL_mem (m := m) (n := n) (l := l) (i := 4 * n) (by rw [hfr]; exact hzm)
 have hzi := freeL_in (m := m) (n := n) (l := l) (i := 4 * n) (by rw [hfr]; exact hzm)
 have hpz := hp z (by rw [hdr]; exact List.mem_cons_self)
 have hp' : ∀ w ∈ fr.drop (i + 1), lastI l < w → 4 * (n : Int) - 1 - w < p := fun w hw => hp w (by rw [hdr]; exact List.mem_cons_of_mem _ hw)
 have hinc : ∀ w ∈ fr.drop (i + 1), z < w := fun w hw => by
   have := freeL_inc m n l (4 * n)
   rw [hfr] at this
   have := this.sublist (List.drop_sublist i fr)
   rw [hdr] at this
   exact (List.pairwise_cons.1 this).1 w hw
 rw [hdr] at hrn
 have hrn : rstep e l (if lastI l < z ∧ best.length < l.length + ((fr.drop (i + 1)).length + 1) then (if best.length < (e (l ++ [z])).length then e (l ++ [z]) else best) else best) (fr.drop (i + 1)) = rstep e l l fr := hrn
 rw [hdl] at hrn
 repeat (first | apply qN | refine qM rfl rfl ?_ | refine qT rfl ?_ | apply qR | apply qS | apply qK | apply qB)
 refine wops_cons (o_indexI rfl rfl hsf4 rfl hz fun pp hpp => ?_)
 repeat (first | refine qM rfl rfl ?_ | refine zq6 rfl rfl ‹_› ?_)
 have hsy4 : Sl H4 y (ivs l) := hy4.sl
 have hsv4 : Sl H4 vb (ivs best) := hvb.sl
 by_cases hlz : lastI l < z
 rotate_left
 · rw [if_neg (fun e => hlz e.1)] at hrn
   refine wops_cons (wop_bin (op := .gtr) (v := .bool false) rfl rfl rfl rfl (by show some (Value.bool (decide (lastI l < z))) = _; rw [decide_eq_false hlz]) ?_)
   repeat (first | apply qN | refine zq1 rfl rfl ?_ | refine qM rfl rfl ?_ | refine zq4 rfl rfl rfl rfl (inc (by omega)) ?_ | refine zq7 rfl rfl rfl ?_ | refine qF rfl ?_ | apply qR | apply qK)
   exact ⟨fr.length - (i + 1), by omega, i + 1, p, vb, best, [_,_,_,_,_,_,_,_,_,_,_,_,_,_,_,_,_,_,_,_,_,_,_,_,_,_,_,_,_,_,_,_,_,_,_,_,_,_,_,_,_,_,_,_,_,_,_,_,_,_,_,_,_,_,_,_,_,_,_], rfl, by omega, k4, n4, hp', hvb, hbl, hrn, rfl, rfl⟩
 refine wops_cons (wop_bin (op := .gtr) (v := .bool true) rfl rfl rfl rfl (by show some (Value.bool (decide (lastI l < z))) = _; rw [decide_eq_true hlz]) ?_)
 repeat (first | refine qM rfl rfl ?_ | refine zq5 rfl rfl rfl rfl rfl ‹_› ?_)
 refine wops_cons (wop_bin (op := .add) rfl rfl rfl rfl (addX (by omega) (by omega)) ?_)
 repeat (first | refine qM rfl rfl ?_)
 refine wops_cons (wop_bin (op := .sub) rfl rfl rfl rfl (subX (by omega) (by omega)) ?_)
 repeat (first | refine qM rfl rfl ?_ | refine zq5 rfl rfl rfl rfl rfl ‹_› ?_)
 by_cases hlb : best.length < l.length + (fr.length - (i + 1) + 1)
 rotate_left
 · rw [if_neg (fun e => hlb e.2)] at hrn
   refine wops_cons (wop_bin (op := .gtr) (v := .bool false) rfl rfl rfl rfl (by show some (Value.bool (decide ((best.length : Int) < (l.length : Int) + (fr.length : Int) - (i : Int)))) = _; rw [decide_eq_false (by omega)]) ?_)
   repeat (first | apply qN | refine qM rfl rfl ?_ | refine zq4 rfl rfl rfl rfl (inc (by omega)) ?_ | refine zq7 rfl rfl rfl ?_ | refine qF rfl ?_ | apply qR | apply qK)
   exact ⟨fr.length - (i + 1), by omega, i + 1, p, vb, best, [_,_,_,_,_,_,_,_,_,_,_,_,_,_,_,_,_,_,_,_,_,_,_,_,_,_,_,_,_,_,_,_,_,_,_,_,_,_,_,_,_,_,_,_,_,_,_,_,_,_,_,_,_,_,_,_,_,_,_], rfl, by omega, k4, n4, hp', hvb, hbl, hrn, rfl, rfl⟩
 rw [if_pos ⟨hlz, hlb⟩] at hrn
 refine wops_cons (wop_bin (op := .gtr) (v := .bool true) rfl rfl rfl rfl (by show some (Value.bool (decide ((best.length : Int) < (l.length : Int) + (fr.length : Int) - (i : Int)))) = _; rw [decide_eq_true (by omega)]) ?_)
 repeat (first | apply qN | refine zq7 rfl rfl rfl ?_ | refine qT rfl ?_ | apply qS)
 obtain ⟨kz, hkz⟩ : ∃ kz : Nat, (kz : Int) = 4 * (n : Int) - 1 - z := ⟨(4 * (n : Int) - 1 - z).toNat, by omega⟩
 have hkp : kz + 1 ≤ p := by have := hpz hlz; omega
 have hc1 := cR_mono hkp
 have hc2 := cR_succ kz
 have hc3 := cR_lo kz
 have b4 := b3.keep (by have := k3.nx; omega) k4
 have hB4 : ∀ c, (AV.ptr H.next 0).own = some c → Lk H4 c := hB3 k4
 have r4 : H4.next < 2 ^ 39 := by omega
 refine wp_drawK rfl ?_
 repeat (first | refine k_move rfl rfl rfl ?_ | refine k_load4 rfl rfl rfl rfl ‹_› ‹_› ?_)
 refine k_indexI rfl rfl rfl hsf4 rfl hz hf4.ky.lk fun p1 hp1 hl1 => ?_
 repeat (first | refine k_load rfl rfl rfl ‹_› ‹_› ?_)
 refine k_build0 rfl rfl rfl r4 ?_
 refine WK.mem (fun H5 => Keeps H4 H5 ∧ H5.next = H4.next + 1 ∧ H5.get H4.next = some (.cells [] 3 0)) ⟨(Keeps.refl H4).add _ r4, rfl, get_add_eq r4⟩ ?_
 rintro H5 ⟨k5, n5, g5⟩
 have hy5 := hy4.frame k5.nx fun b hb => k5.get b (hy4.old b hb)
 refine k_loud rfl rfl (o_appendG (H0 := H4) (l := l) rfl rfl rfl rfl rfl (by omega) (by omega) rfl (by omega) g5 hy5 (Nat.le_refl _) k5 fun r6 H6 hA6 hn6 k6 n6 _ => ⟨k6, ?_⟩)
 have r6' : H6.next < 2 ^ 39 := by omega
 refine k_build1 rfl rfl rfl rfl r6' ?_
 refine WK.mem (fun H7 => Keeps H4 H7 ∧ H7.next = H6.next + 1 ∧ Ap H7 r6 l ∧ H7.get H6.next = some (.cells [iv z] 3 0)) ⟨k6.add _ r6', rfl, hA6.keep ((Keeps.refl H6).add _ r6'), get_add_eq r6'⟩ ?_
 rintro H7 ⟨k7, n7, hA7, g7⟩
 refine k_loud rfl rfl (o_append1A (H0 := H4) (l := l) (z := z) rfl rfl rfl rfl rfl (by omega) (by omega) rfl g7 hA7 hn6 k7 fun r8 H8 hA8 hn8 k8 n8 _ => ⟨k8, ?_⟩)
 refine k_call rfl rfl rfl (fun b h => by cases h) (wop_callF rfl rfl rfl (fn := Tryz.f38) (by rfl) ?_)
 have k08 := k04.trans k8
 refine hrec H8 _ x r8 (l ++ [z]) kz rfl (hx.keep ho k08) (ho.keep k08) (hA8.gr (by simp)) (hV.snoc ⟨hzr.1, hzr.2⟩ hzi.1) hzi.2 (by rw [lastI_snoc]; exact hkz) (by omega) (by omega) _ fun H9 r9 k9 n9 hg9 hl9 => ⟨k9.nx, k8.trans k9, ?_⟩
 have k89 := k8.trans k9
 have k49 := k4.trans k89
 have hsr9 : Sl H9 r9 (ivs (e (l ++ [z]))) := hg9.sl
 have hvb9 := hvb.frame k89.nx fun b hb => k89.get b (hvb.old b hb)
 have hsv9 : Sl H9 vb (ivs best) := hvb9.sl
 have hp2 : ∀ w ∈ fr.drop (i + 1), lastI l < w → 4 * (n : Int) - 1 - w < kz := fun w hw _ => by have := hinc w hw; omega
 have n9' : H9.next + cR kz ≤ H3.next + cR kk := by omega
 repeat (first | refine qM rfl rfl ?_ | refine zq5 rfl rfl rfl rfl rfl ‹_› ?_ | refine k_nil ?_ | refine k_assign rfl rfl rfl ?_ | apply qR | apply qS)
 by_cases hlo2 : best.length < (e (l ++ [z])).length
 · rw [if_pos hlo2] at hrn
   refine wops_cons (wop_bin (op := .gtr) (v := .bool true) rfl rfl rfl rfl (by show some (Value.bool (decide ((best.length : Int) < ((e (l ++ [z])).length : Int)))) = _; rw [decide_eq_true (by omega)]) ?_)
   repeat (first | apply qN | refine qM rfl rfl ?_ | refine zq4 rfl rfl rfl rfl (inc (by omega)) ?_ | refine qT rfl ?_ | apply qR)
   exact ⟨fr.length - (i + 1), by omega, i + 1, kz, r9, e (l ++ [z]), [_,_,_,_,_,_,_,_,_,_,_,_,_,_,_,_,_,_,_,_,_,_,_,_,_,_,_,_,_,_,_,_,_,_,_,_,_,_,_,_,_,_,_,_,_,_,_,_,_,_,_,_,_,_,_,_,_,_,_], rfl, by omega, k49, n9', hp2, hg9, hl9, hrn, rfl, rfl⟩
 · rw [if_neg hlo2] at hrn
   refine wops_cons (wop_bin (op := .gtr) (v := .bool false) rfl rfl rfl rfl (by show some (Value.bool (decide ((best.length : Int) < ((e (l ++ [z])).length : Int)))) = _; rw [decide_eq_false (by omega)]) ?_)
   repeat (first | apply qN | refine qM rfl rfl ?_ | refine zq4 rfl rfl rfl rfl (inc (by omega)) ?_ | refine qF rfl ?_ | apply qR | apply qK)
   exact ⟨fr.length - (i + 1), by omega, i + 1, kz, vb, best, [_,_,_,_,_,_,_,_,_,_,_,_,_,_,_,_,_,_,_,_,_,_,_,_,_,_,_,_,_,_,_,_,_,_,_,_,_,_,_,_,_,_,_,_,_,_,_,_,_,_,_,_,_,_,_,_,_,_,_], rfl, by omega, k49, n9', hp2, hvb9, hbl, hrn, rfl, rfl⟩
noncomputable def refF (m : Mc) (n : Nat) : Nat → List Int → List Int
 | 0 => fun l => rstep (fun _ => []) l l (freeL m n l (4 * n))
 | k + 1 => fun l => rstep (refF m n k) l l (freeL m n l (4 * n))
theorem c38x (m : Mc) (n : Nat) (hn3 : n ≤ 3) : ∀ k, RefC O m n (k + 1) (refF m n k)
 | 0 => c38core hq hn3 (fun H a x y l kk _ _ _ _ _ _ _ h => absurd h (Nat.not_lt_zero _))
 | k + 1 => c38core hq hn3 (c38x m n hn3 k)
end Go.Ev
namespace Go.Ev
open Go.Proofs
theorem upB_assoc (a b c : List Int) : upB (upB a b) c = upB a (upB b c) := by
 unfold upB
 by_cases h1 : a.length < b.length
 · rw [if_pos h1]
   by_cases h2 : b.length < c.length
   · rw [if_pos h2, if_pos (by omega)]
   · rw [if_neg h2, if_pos h1]
 · rw [if_neg h1]
   by_cases h2 : b.length < c.length
   · rw [if_pos h2]
   · rw [if_neg h2, if_neg h1, if_neg (by omega)]
theorem upB_len {a b : List Int} {k : Nat} (ha : a.length ≤ k) (hb : b.length ≤ k) : (upB a b).length ≤ k := by
 unfold upB; split <;> assumption
theorem upB_nil (b : List Int) : upB [] b = b := by
 unfold upB
 split
 · rfl
 · next h => exact (List.eq_nil_of_length_eq_zero (by simpa using h)).symm
def bstX (w : Int → List Int → List Int) : Nat → List Int → List Int → List Int
 | 0 => fun load _ => load
 | k + 1 => fun load slots => rnd (fun b l s => upB b (bstX w k l s)) w load load slots
theorem rnd_len {w : Int → List Int → List Int} {k : Nat} {load : List Int} {N : Nat} (f : List Int → List Int → List Int) : ∀ (slots best : List Int), best.length ≤ N → (∀ s t, (s :: t) <:+ slots → (f (load ++ [s]) (w s t)).length ≤ N) → (rnd (fun b l s => upB b (f l s)) w load best slots).length ≤ N
 | [], best, hb, _ => hb
 | s :: t, best, hb, h => rnd_len (k := k) f t _ (upB_len hb (h s t (List.suffix_refl _))) fun s' t' h' => h s' t' (h'.trans (List.suffix_cons _ _))
theorem bstX_len {w : Int → List Int → List Int} (hw : ∀ s t, (w s t).length ≤ t.length) : ∀ (k : Nat) (load slots : List Int), (bstX w k load slots).length ≤ load.length + slots.length
 | 0, load, slots => Nat.le_add_right _ _
 | k + 1, load, slots => by
   refine rnd_len (k := k) (bstX w k) slots load (Nat.le_add_right _ _) fun s t h => ?_
   have := bstX_len hw k (load ++ [s]) (w s t)
   have := hw s t
   have := h.length_le
   simp only [List.length_append, List.length_cons, List.length_nil] at *
   omega
theorem rnd_up {w : Int → List Int → List Int} {load b : List Int} {e : List Int → List Int → List Int → List Int} {f : List Int → List Int → List Int} : ∀ (slots c : List Int), (∀ s t, (s :: t) <:+ slots → ∀ b, e b (load ++ [s]) (w s t) = upB b (f (load ++ [s]) (w s t))) → rnd e w load (upB b c) slots = upB b (rnd (fun b l s => upB b (f l s)) w load c slots)
 | [], c, _ => rfl
 | s :: t, c, h => by
   show rnd e w load (e (upB b c) (load ++ [s]) (w s t)) t = upB b (rnd _ w load (upB c (f (load ++ [s]) (w s t))) t)
   rw [h s t (List.suffix_refl _), upB_assoc]
   exact rnd_up t _ fun s' t' h' => h s' t' (h'.trans (List.suffix_cons _ _))
theorem ext_eq {w : Int → List Int → List Int} (hw : ∀ s t, (w s t).length ≤ t.length) : ∀ (k : Nat) (best load slots : List Int), slots.length ≤ k → ext w k best load slots = upB best (bstX w k load slots)
 | 0, best, load, slots, h => by
   have e : slots = [] := List.eq_nil_of_length_eq_zero (by omega)
   subst e
   rfl
 | k + 1, best, load, slots, h => by
   show rnd (ext w k) w load (upB best load) slots = upB best (rnd _ w load load slots)
   refine rnd_up slots load fun s t hs b => ext_eq hw k b _ _ ?_
   have := hw s t
   have := hs.length_le
   simp only [List.length_cons] at this
   omega
open Classical in
noncomputable def cand (m : Mc) (n : Nat) (l : List Int) : List Int := (freeL m n l (4 * n)).filter fun z => decide (lastI l < z)
theorem lastI_nil : lastI [] = -1 := rfl
theorem filter_suffix {l : List Int} {s : Int} {t : List Int} (hl : l.Pairwise (· < ·)) (h : (s :: t) <:+ l) : t = l.filter fun z => decide (s < z) := by
 obtain ⟨p, rfl⟩ := h
 have h2 := List.pairwise_append.1 hl
 have h3 := List.pairwise_cons.1 h2.2.1
 rw [List.filter_append, List.filter_eq_nil_iff.2 fun z hz => by
   have := h2.2.2 z hz s List.mem_cons_self
   simp only [decide_eq_true_eq]; omega, List.filter_cons_of_neg (by simp), List.nil_append]
 exact (List.filter_eq_self.2 fun z hz => by simpa using h3.1 z hz).symm
theorem never_two {m : Mc} {n : Nat} {s z : Int} (hV : Vld m [s] n) (hz : 0 ≤ z ∧ z < ((4 * n : Nat) : Int)) (hev : m.ring = true → n % 2 = 0) (hn : never m [s] n) : never m [s, z] n ↔ ∀ j, ¬ meetAt m n z.toNat s.toNat j := by
 have := never_snoc hV hz hev hn
 simpa using this
theorem never_one {m : Mc} {n : Nat} {s : Int} (hV : Vld m [] n) (hs : 0 ≤ s ∧ s < ((4 * n : Nat) : Int)) (hev : m.ring = true → n % 2 = 0) : never m [s] n :=
 (never_snoc hV hs hev (never_nil m n)).2 fun z hz => by cases hz
open Classical in
theorem cand_snoc {m : Mc} {n : Nat} {l : List Int} {s : Int} {t : List Int} (hV : Vld m l n) (hev : m.ring = true → n % 2 = 0) (hn : never m l n) (hs : (s :: t) <:+ freeL m n l (4 * n)) (hl : lastI l < s) : wmL m n s (t.filter fun z => decide (lastI l < z)) = cand m n (l ++ [s]) := by
 have hsm : s ∈ freeL m n l (4 * n) := hs.subset List.mem_cons_self
 have hsr := freeL_mem hsm
 have hsi := freeL_in hsm
 have hV1 : Vld m (l ++ [s]) n := hV.snoc hsr hsi.1
 have hV0 : Vld m [] n := hV.sub (fun z hz => by cases hz) List.nodup_nil
 have hVs : Vld m [s] n := hV.sub (fun z hz => by rw [List.mem_singleton.1 hz]; exact hsr) (by simp)
 have et := filter_suffix (freeL_inc m n l (4 * n)) hs
 rw [et]
 unfold wmL cand
 rw [lastI_snoc, List.filter_filter, List.filter_filter]
 unfold freeL
 rw [List.filter_map, List.filter_map, List.filter_filter, List.filter_filter]
 congr 1
 refine List.filter_congr fun z hz => ?_
 have hz' : 0 ≤ (z : Int) ∧ (z : Int) < ((4 * n : Nat) : Int) := ⟨by omega, by have := List.mem_range.1 hz; omega⟩
 have e2 := never_two hVs hz' hev (never_one hV0 hsr hev)
 rw [Bool.eq_iff_iff]
 simp only [Function.comp, Bool.and_eq_true, decide_eq_true_eq]
 constructor
 · rintro ⟨⟨⟨h1, h2⟩, h3⟩, h4, h5⟩
   refine ⟨h3, ?_, ?_⟩
   · intro h
     rcases List.mem_append.1 h with h | h
     · exact h4 h
     · have := List.mem_singleton.1 h; omega
   · have g := (never_snoc hV hz' hev hn).1 h5
     refine (never_snoc hV1 hz' hev hsi.2).2 fun y hy => ?_
     rcases List.mem_append.1 hy with hy | hy
     · exact g y hy
     · rw [List.mem_singleton.1 hy]; exact e2.1 h1
 · rintro ⟨h3, h4, h5⟩
   have g := (never_snoc hV1 hz' hev hsi.2).1 h5
   refine ⟨⟨⟨e2.2 (g s (by simp)), by omega⟩, h3⟩, fun h => h4 (List.mem_append_left _ h), ?_⟩
   exact (never_snoc hV hz' hev hn).2 fun y hy => g y (List.mem_append_left _ hy)
theorem rstep_eq {m : Mc} {n k : Nat} {e : List Int → List Int} {l : List Int} : ∀ (u best : List Int), u <:+ freeL m n l (4 * n) →
   (∀ s t, (s :: t) <:+ freeL m n l (4 * n) → lastI l < s → e (l ++ [s]) = bstX (wmL m n) k (l ++ [s]) (wmL m n s (t.filter fun z => decide (lastI l < z)))) →
   rstep e l best u = rnd (fun b l s => upB b (bstX (wmL m n) k l s)) (wmL m n) l best (u.filter fun z => decide (lastI l < z))
 | [], best, _, _ => rfl
 | s :: t, best, hu, he => by
   have ht : t <:+ freeL m n l (4 * n) := (List.suffix_cons _ _).trans hu
   by_cases hs : lastI l < s
   · rw [List.filter_cons_of_pos (by simpa using hs)]
     show rstep e l (if lastI l < s ∧ best.length < l.length + (t.length + 1) then (if best.length < (e (l ++ [s])).length then e (l ++ [s]) else best) else best) t = rnd _ (wmL m n) l (upB best (bstX (wmL m n) k (l ++ [s]) (wmL m n s (t.filter fun z => decide (lastI l < z))))) (t.filter fun z => decide (lastI l < z))
     rw [← he s t hu hs]
     have : (if lastI l < s ∧ best.length < l.length + (t.length + 1) then (if best.length < (e (l ++ [s])).length then e (l ++ [s]) else best) else best) = upB best (e (l ++ [s])) := by
       by_cases hb : best.length < l.length + (t.length + 1)
       · rw [if_pos ⟨hs, hb⟩]; rfl
       · rw [if_neg fun h => hb h.2]
         unfold upB
         rw [if_neg]
         rw [he s t hu hs]
         have := bstX_len (wmL_len m n) k (l ++ [s]) (wmL m n s (t.filter fun z => decide (lastI l < z)))
         have h2 := wmL_len m n s (t.filter fun z => decide (lastI l < z))
         have h3 := List.length_filter_le (fun z => decide (lastI l < z)) t
         simp only [List.length_append, List.length_cons, List.length_nil] at this
         omega
     rw [this]
     exact rstep_eq t _ ht he
   · rw [List.filter_cons_of_neg (by simpa using hs)]
     show rstep e l (if lastI l < s ∧ best.length < l.length + (t.length + 1) then (if best.length < (e (l ++ [s])).length then e (l ++ [s]) else best) else best) t = _
     rw [if_neg fun h => hs h.1]
     exact rstep_eq t _ ht he
theorem refF_eq {m : Mc} {n : Nat} (hev : m.ring = true → n % 2 = 0) : ∀ (k : Nat) (l : List Int), Vld m l n → never m l n → 4 * (n : Int) - 1 - lastI l ≤ k → refF m n k l = bstX (wmL m n) k l (cand m n l)
 | 0, l, hV, hn, hk => by
   have h : ∀ u best, u <:+ freeL m n l (4 * n) → rstep (fun _ => []) l best u = best := by
     intro u
     induction u with
     | nil => intro best _; rfl
     | cons s t ih =>
       intro best hu
       have := freeL_mem (hu.subset List.mem_cons_self)
       show rstep (fun _ => []) l (if lastI l < s ∧ _ then _ else best) t = best
       rw [if_neg fun h => by omega]
       exact ih _ ((List.suffix_cons _ _).trans hu)
   exact h _ _ (List.suffix_refl _)
 | k + 1, l, hV, hn, hk => by
   show rstep (refF m n k) l l (freeL m n l (4 * n)) = rnd _ (wmL m n) l l (cand m n l)
   refine rstep_eq _ _ (List.suffix_refl _) fun s t hs hl => ?_
   have hsm : s ∈ freeL m n l (4 * n) := hs.subset List.mem_cons_self
   have hsi := freeL_in hsm
   rw [cand_snoc hV hev hn hs hl]
   exact refF_eq hev k (l ++ [s]) (hV.snoc (freeL_mem hsm) hsi.1) hsi.2 (by rw [lastI_snoc]; omega)
theorem fill_eq {m : Mc} {n : Nat} (hev : m.ring = true → n % 2 = 0) (hV : Vld m [] n) : fillL m n = refF m n (4 * n) [] := by
 rw [refF_eq hev (4 * n) [] hV (never_nil m n) (by rw [lastI_nil]; omega)]
 unfold fillL
 rw [ext_eq (wmL_len m n) (4 * n) _ _ _ (freeL_len _ _ _ _), upB_nil]
 congr 1
 unfold cand
 refine (List.filter_eq_self.2 fun z hz => ?_).symm
 have := freeL_mem hz
 rw [lastI_nil]
 simp only [decide_eq_true_eq]
 omega
end Go.Ev
namespace Go.Ev
open Go.Proofs
theorem vld_nil {m : Mc} (hs : m.sw.length ≤ 1000) (hm : mE m = 0) : ∃ n, Vld m [] n := by
 have hgb := mE_g hm
 obtain ⟨n, hn⟩ := Int.eq_ofNat_of_zero_le (show 0 ≤ m.g by omega)
 exact ⟨n, hn, by omega, by omega, hm, hs, Nat.zero_le _, (fun z hz => by cases hz), List.nodup_nil⟩
variable {O : CallF} (hq : Quiet O)
include hq
theorem c39e (H : AH) (a x y : AV) (m : Mc) (l : List Int) (ha : a.cells = mc m x) (hx : Sl H x (ivs m.sw)) (ho : Old H x) (hy : Ky H y l) (hsl : m.sw.length ≤ 1000) (hll : l.length ≤ 1000) (he : cE m l ≠ 0) (hr : H.next + 2000000 < 2 ^ 39)
   (K : AV → AH → Prop) (hk : ∀ (H' : AH), Keeps H H' → H'.next ≤ H.next + 3000 → K (.tup [.v (.slice none 0 0), iv (cE m l)]) H') : Ca (ENV O) 39 [a, y] H K := by
 refine ca_intro (hq _ _ _ rfl) (fn := Tryz.f39) (by rfl) rfl ?_
 repeat (first | apply qR | apply qS)
 refine wops_cons (o_boxM rfl rfl ha (by omega) fun H1 n1 k1 b1 => ?_)
 repeat (first | apply qN | refine qM rfl rfl ?_ | refine zqb rfl rfl rfl ‹_› ?_ | apply qR | apply qS)
 refine wops_cons (wop_callF rfl rfl rfl (fn := Tryz.f35) (by rfl) ?_)
 refine c35e hq H1 _ x y m l rfl (hx.keep ho k1) (ho.keep k1) (hy.keep k1) hsl hll he (by omega) _ fun H2 k2 n2 => ⟨k2.nx, ?_⟩
 repeat (first | apply qN | refine qM rfl rfl ?_ | apply qR | apply qS)
 refine wops_cons (wop_bin (op := .neq) (v := .bool true) rfl rfl rfl rfl (by simp [binI, he]) ?_)
 repeat (first | apply qN | refine qM rfl rfl ?_ | refine qT rfl ?_ | apply qR | apply qS)
 refine wp_ret ?_
 exact ⟨_, _, rfl, hk H2 (k1.trans k2) (by omega)⟩
theorem c39m (H : AH) (a x y : AV) (m : Mc) (l : List Int) (n : Nat) (ha : a.cells = mc m x) (hx : Sl H x (ivs m.sw)) (ho : Old H x) (hy : Ky H y l) (hV : Vld m l n) (hnev : ¬ never m l n) (hr : H.next + 10000000 < 2 ^ 39)
   (K : AV → AH → Prop) (hk : ∀ (H' : AH), Keeps H H' → H'.next ≤ H.next + 1000000 → K (.tup [.v (.slice none 0 0), iv 16]) H') : Ca (ENV O) 39 [a, y] H K := by
 refine ca_intro (hq _ _ _ rfl) (fn := Tryz.f39) (by rfl) rfl ?_
 repeat (first | apply qR | apply qS)
 refine wops_cons (o_boxM rfl rfl ha (by omega) fun H1 n1 k1 b1 => ?_)
 repeat (first | apply qN | refine qM rfl rfl ?_ | refine zqb rfl rfl rfl ‹_› ?_ | apply qR | apply qS)
 refine wops_cons (wop_callF rfl rfl rfl (fn := Tryz.f35) (by rfl) ?_)
 have hy1 := hy.keep k1
 refine c35 hq H1 _ x y m l n _ rfl (hx.keep ho k1) (ho.keep k1) hy1.sl hy1.old hy1.cap hy1.lk hV.good (by omega) _ (fun H2 k p k2 n2 f1 => ⟨k2.nx, ?_⟩) (fun H2 k2 n2 f1 => (hnev f1).elim)
 repeat (first | apply qN | refine qM rfl rfl ?_ | apply qR | apply qS)
 refine wops_cons (wop_bin (op := .neq) (v := .bool true) rfl rfl rfl rfl (by simp [binI]) ?_)
 repeat (first | apply qN | refine qM rfl rfl ?_ | refine qT rfl ?_ | apply qR | apply qS)
 refine wp_ret ?_
 exact ⟨_, _, rfl, hk H2 (k1.trans k2) (by omega)⟩
theorem c37e (H : AH) (a x : AV) (m : Mc) (e : Int) (ha : a.cells = mc m x) (hx : Sl H x (ivs m.sw)) (ho : Old H x) (hsl : m.sw.length ≤ 1000) (he : firstNZ [mE m, if decide (m.g ≤ 4) = true then 0 else 22] = e) (he0 : e ≠ 0) (hr : H.next + 2000000 < 2 ^ 39)
   (K : AV → AH → Prop) (hk : ∀ (H' : AH), Keeps H H' → H'.next ≤ H.next + 3000 → K (.tup [.v (.slice none 0 0), iv e]) H') : Ca (ENV O) 37 [a] H K := by
 refine ca_intro (hq _ _ _ rfl) (fn := Tryz.f37) (by rfl) rfl ?_
 repeat (first | apply qR | apply qS)
 refine wops_cons (o_boxM rfl rfl ha (by omega) fun H1 n1 k1 b1 => ?_)
 have hp1 := b1.p1
 have hL1 : ∀ b, (AV.ptr H.next 0).own = some b → Lk H1 b := b1.lk (by omega) (hx.keep ho k1)
 repeat (first | apply qN | refine qM rfl rfl ?_ | apply qS)
 refine Wp.mono (Q := fun x' T' M' H' => x' = .normal ∧ M' = [] ∧ Keeps H1 H' ∧ H'.next ≤ H1.next + 2000 ∧ ∃ (Y : List AV), T' = (lget Y 0 :: .ptr H.next 0 :: lget Y 1 :: lget Y 2 :: iv e :: lget Y 3 :: lget Y 4 :: lget Y 5 :: lget Y 6 :: lget Y 7 :: lget Y 8 :: lget Y 9 :: lget Y 10 :: lget Y 11 :: lget Y 12 :: lget Y 13 :: lget Y 14 :: lget Y 15 :: lget Y 16 :: lget Y 17 :: lget Y 18 :: lget Y 19 :: lget Y 20 :: lget Y 21 :: lget Y 22 :: lget Y 23 :: lget Y 24 :: lget Y 25 :: lget Y 26 :: lget Y 27 :: [])) (wp_drawK rfl ?_) ?_
 · repeat (first | refine k_field rfl rfl rfl rfl ?_ | refine k_load rfl rfl rfl ‹_› ‹_› ?_ | refine k_load4 rfl rfl rfl rfl ‹_› ‹_› ?_)
   refine k_bin (op := .leq) (v := .bool (decide (m.g ≤ 4))) rfl rfl rfl rfl rfl rfl ?_
   skip
   refine k_call rfl rfl rfl (fun b h => by cases h) (wop_callF rfl rfl rfl (fn := Tryz.f17) (by rfl) ?_)
   refine c17 hq H1 _ x m rfl (hx.keep ho k1) (ho.keep k1) (by omega) (by omega) _ fun H2 k2 n2 => ⟨k2.nx, k2, ?_⟩
   skip
   refine k_call rfl rfl rfl (fun b h => by cases h) (wop_callF rfl rfl rfl (fn := Tryz.f74) (by rfl) ?_)
   refine c74 hq H2 (decide (m.g ≤ 4)) 22 _ ⟨Nat.le_refl _, k2, ?_⟩
   have r2 : H2.next < 2 ^ 39 := by omega
   refine k_loud rfl rfl (o_build2 rfl rfl rfl rfl r2 ⟨k2.add _ r2, ?_⟩)
   refine k_call rfl rfl rfl (fun b h => by cases h) (wop_callF rfl rfl rfl (fn := Tryz.f72) (by rfl) ?_)
   refine c72 hq _ _ [mE m, if decide (m.g ≤ 4) = true then 0 else 22] (sl_new (cs := ivs [mE m, if decide (m.g ≤ 4) = true then 0 else 22]) r2 2) (by show 2 ≤ 1000; decide) _ ⟨Nat.le_refl _, k2.add _ r2, ?_⟩
   rw [he]
   repeat (first | refine k_nil ?_ | refine k_assign rfl rfl rfl ?_)
   exact ⟨rfl, rfl, k2.add _ r2, by show H2.next + 1 ≤ _; omega, [_,_,_,_,_,_,_,_,_,_,_,_,_,_,_,_,_,_,_,_,_,_,_,_,_,_,_,_], rfl⟩
 clear hp1 hL1
 rintro x' T' M' H2 ⟨rfl, rfl, k2, n2, Y, rfl⟩
 show Wp _ _ _ _ _ _ _ _
 repeat (first | refine qM rfl rfl ?_ | apply qR | apply qS)
 refine wops_cons (wop_bin (op := .neq) (v := .bool true) rfl rfl rfl rfl (by simp [binI, he0]) ?_)
 repeat (first | apply qN | refine qM rfl rfl ?_ | refine qT rfl ?_ | apply qR | apply qS)
 refine wp_ret ?_
 exact ⟨_, _, rfl, hk H2 (k1.trans k2) (by omega)⟩
end Go.Ev
