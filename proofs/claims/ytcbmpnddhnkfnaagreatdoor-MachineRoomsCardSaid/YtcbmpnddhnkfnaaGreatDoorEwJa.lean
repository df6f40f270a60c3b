/- Part of an evaluator of calls that is proved sound, and of what it gives about this program. No condition of its own. -/
import Derived.Test.YtcbmpnddhnkfnaaGreatDoorEwIb
import Derived.Test.YtcbmpnddhnkfnaaGreatDoorEwHy
set_option linter.unusedVariables false
set_option linter.unusedSimpArgs false
set_option linter.unusedSectionVars false
set_option maxRecDepth 100000
set_option maxHeartbeats 4000000
namespace Go.Ev
def nowL (P l : List Int) : Nat → List Int
 | 0 => l
 | k + 1 => thr P (nowL P l k)
def InR (n : Nat) (l : List Int) : Prop := ∀ z ∈ l, 0 ≤ z ∧ z < (n : Int)
theorem thr_length (p l : List Int) : (thr p l).length = l.length := by simp [thr]
theorem getD_in {n : Nat} {p : List Int} (h : InR n p) (hn : p.length = n) {z : Int} (hz : 0 ≤ z ∧ z < (n : Int)) : 0 ≤ p.getD z.toNat 0 ∧ p.getD z.toNat 0 < (n : Int) := by
 obtain ⟨w, hw⟩ := l_some (l := p) (i := z.toNat) (by omega)
 rw [List.getD_eq_getElem?_getD, hw]
 exact h w (List.mem_of_getElem? hw)
theorem thr_in {n : Nat} {p l : List Int} (h : InR n p) (hn : p.length = n) (hl : InR n l) : InR n (thr p l) := fun z hz => by
 obtain ⟨y, hy, rfl⟩ := List.mem_map.1 hz
 exact getD_in h hn (hl y hy)
theorem thr_thr {n : Nat} {p q l : List Int} (hq : q.length = n) (hl : InR n l) : thr (thr p q) l = thr p (thr q l) := by
 unfold thr
 rw [List.map_map]
 refine List.map_congr_left fun z hz => ?_
 have h1 := hl z hz
 obtain ⟨w, hw⟩ := l_some (l := q) (i := z.toNat) (by omega)
 simp [List.getD_eq_getElem?_getD, hw]
theorem now_length (P l : List Int) : ∀ k, (nowL P l k).length = l.length
 | 0 => rfl
 | k + 1 => (thr_length _ _).trans (now_length P l k)
theorem now_in {n : Nat} {P l : List Int} (h : InR n P) (hn : P.length = n) (hl : InR n l) : ∀ k, InR n (nowL P l k)
 | 0 => hl
 | k + 1 => thr_in h hn (now_in h hn hl k)
theorem now_add (P l : List Int) (b : Nat) : ∀ a, nowL P l (a + b) = nowL P (nowL P l b) a
 | 0 => by rw [Nat.zero_add]; rfl
 | a + 1 => by rw [Nat.add_right_comm]; exact congrArg (thr P) (now_add P l b a)
theorem now_map (P l : List Int) : ∀ k, nowL P l k = l.map fun z => (nowL P [z] k).getD 0 0
 | 0 => by simp [nowL]
 | k + 1 => by
   show thr P (nowL P l k) = _
   rw [now_map P l k]
   unfold thr
   rw [List.map_map]
   refine List.map_congr_left fun z _ => ?_
   have h1 : (nowL P [z] k).length = 1 := now_length P [z] k
   obtain ⟨w, hw⟩ := List.length_eq_one_iff.1 h1
   show P.getD ((nowL P [z] k).getD 0 0).toNat 0 = (thr P (nowL P [z] k)).getD 0 0
   rw [hw]
   rfl
theorem pw_spec {n : Nat} {P : List Int} (h : InR n P) (hn : P.length = n) : ∀ k, (pw P k).length = n ∧ InR n (pw P k) ∧ ∀ l, InR n l → thr (pw P k) l = nowL P l (2 ^ k)
 | 0 => ⟨hn, h, fun _ _ => rfl⟩
 | k + 1 => by
   obtain ⟨h1, h2, h3⟩ := pw_spec h hn k
   refine ⟨(thr_length _ _).trans h1, thr_in h2 h1 h2, fun l hl => ?_⟩
   show thr (thr (pw P k) (pw P k)) l = _
   rw [thr_thr h1 hl, h3 l hl, h3 _ (now_in h hn hl _), ← now_add]
   congr 1
   rw [Nat.pow_succ]; omega
theorem now_240 {n : Nat} {P l : List Int} (h : InR n P) (hn : P.length = n) (hP : p240 P = idL n) (hl : InR n l) : nowL P l 240 = l := by
 have h4 := pw_spec h hn 4
 have h5 := pw_spec h hn 5
 have h6 := pw_spec h hn 6
 have h7 := pw_spec h hn 7
 have e : thr (p240 P) l = nowL P l 240 := by
   unfold p240
   rw [thr_thr (by rw [thr_length, thr_length]; exact h4.1) hl, thr_thr (by rw [thr_length]; exact h4.1) hl, thr_thr h4.1 hl]
   have i4 := now_in h hn hl (2 ^ 4)
   have i5 := now_in h hn i4 (2 ^ 5)
   have i6 := now_in h hn i5 (2 ^ 6)
   rw [h4.2.2 l hl, h5.2.2 _ i4, h6.2.2 _ i5, h7.2.2 _ i6, ← now_add, ← now_add, ← now_add]
 rw [← e, hP]
 unfold thr
 have : ∀ z ∈ l, (idL n).getD z.toNat 0 = z := fun z hz => by
   have := hl z hz
   rw [List.getD_eq_getElem?_getD, idL_get (by omega)]
   show ((z.toNat : Nat) : Int) = z
   omega
 rw [List.map_congr_left this, List.map_id'']
 exact fun _ => rfl
theorem thr_inj {n : Nat} {P : List Int} (h : InR n P) (hn : P.length = n) (hP : p240 P = idL n) {x y : Int} (hx : 0 ≤ x ∧ x < (n : Int)) (hy : 0 ≤ y ∧ y < (n : Int)) (e : P.getD x.toNat 0 = P.getD y.toNat 0) : x = y := by
 have hx1 : InR n [x] := fun z hz => by rw [List.mem_singleton.1 hz]; exact hx
 have hy1 : InR n [y] := fun z hz => by rw [List.mem_singleton.1 hz]; exact hy
 have e1 : nowL P [x] 1 = nowL P [y] 1 := by show [P.getD x.toNat 0] = [P.getD y.toNat 0]; rw [e]
 have h1 := now_240 h hn hP hx1
 have h2 := now_240 h hn hP hy1
 rw [show 240 = 239 + 1 from rfl, now_add] at h1 h2
 rw [e1, h2] at h1
 exact (List.cons.inj h1).1.symm
theorem now_round {n : Nat} {P l : List Int} {r : Nat} (e : nowL P l r = l) : ∀ k, nowL P l (r * k) = l
 | 0 => rfl
 | k + 1 => by rw [Nat.mul_succ, Nat.add_comm, Nat.add_comm, now_add, e]; exact now_round (n := n) e k
theorem now_mod {P l : List Int} {r : Nat} (e : nowL P l r = l) (j : Nat) : nowL P l (j % r) = nowL P l j := by
 have := now_round (n := 0) e (j / r)
 conv => rhs; rw [← Nat.mod_add_div j r, now_add, this]
def mtB (m : Mc) (now : List Int) (p : Nat) : Bool := (psL m p).all fun z => decide (z ∈ now)
def mtF (m : Mc) (now : List Int) (p : Nat) : Prop := fsE m ≤ p ∧ p < m.g ∧ mtB m now p = true ∧ ∀ j, fsE m ≤ j → j < p → mtB m now j = false
def mtN (m : Mc) (now : List Int) : Prop := ∀ j : Nat, fsE m ≤ j → j < m.g → mtB m now j = false
theorem mtF_not {m : Mc} {now : List Int} {p : Nat} (h : mtF m now p) (h2 : mtN m now) : False := by
 have := h2 p h.1 h.2.1
 rw [h.2.2.1] at this; cases this
theorem mtB_sub {m : Mc} {now now' : List Int} {p : Nat} (hs : ∀ z ∈ now', z ∈ now) (h : mtB m now p = false) : mtB m now' p = false := by
 cases hc : mtB m now' p with
 | false => rfl
 | true =>
   unfold mtB at h hc
   rw [List.all_eq_true] at hc
   have : (psL m p).all (fun z => decide (z ∈ now)) = true := List.all_eq_true.2 fun z hz => decide_eq_true (hs z (of_decide_eq_true (hc z hz)))
   rw [this] at h; cases h
theorem mtB_iff {m : Mc} {now : List Int} {p : Nat} : mtB m now p = true ↔ 4 * (((p : Int) + m.g - 1).tmod m.g) + 2 ∈ now ∧ 4 * (p : Int) ∈ now := by
 unfold mtB psL
 simp
def pairB (m : Mc) (s t : Int) : Prop := s.tmod 2 = 0 ∧ t.tmod 2 = 0 ∧ s ≠ t ∧ plE m s = plE m t
theorem emod_cases {a n : Int} (h0 : 0 ≤ a) (h1 : a ≤ n) (hn : 0 < n) : a % n = if a = n then 0 else a := by
 split
 · rename_i e; rw [e, Int.emod_self]
 · exact Int.emod_eq_of_lt h0 (by omega)
theorem tm {a n : Int} (h : 0 ≤ a) : a.tmod n = a % n := Int.tmod_eq_emod_of_nonneg h
theorem before_eq {n : Int} {p : Nat} (hn : 1 ≤ n) (hp : (p : Int) < n) : ((p : Int) + n - 1).tmod n = if p = 0 then n - 1 else (p : Int) - 1 := by
 rw [tm (by omega)]
 split
 · rename_i e; subst e
   rw [show ((0 : Nat) : Int) + n - 1 = n - 1 by omega]
   exact Int.emod_eq_of_lt (by omega) (by omega)
 · rename_i e
   rw [show (p : Int) + n - 1 = (p - 1) + n by omega, Int.add_emod_right]
   exact Int.emod_eq_of_lt (by omega) (by omega)
theorem pair_place {m : Mc} {s t : Int} {n : Nat} (hg : m.g = n) (hn : 1 ≤ n) (hs : 0 ≤ s ∧ s < 4 * (n : Int)) (ht : 0 ≤ t ∧ t < 4 * (n : Int)) (h : pairB m s t) : ∃ p : Nat, fsE m ≤ p ∧ p < n ∧ plE m s = p ∧ (psL m p = [s, t] ∨ psL m p = [t, s]) := by
 have key : ∀ s t : Int, 0 ≤ s → s < 4 * (n : Int) → 0 ≤ t → t < 4 * (n : Int) → s % 4 = 0 → t % 4 = 2 → plE m s = plE m t → ∃ p : Nat, fsE m ≤ p ∧ p < n ∧ plE m s = p ∧ psL m p = [t, s] := by
   intro s t h1 h2 h3 h4 h5 h6 h7
   unfold plE at h7 ⊢
   rw [tm h1, tm h3, h5, h6, Int.tdiv_eq_ediv_of_nonneg h1, Int.tdiv_eq_ediv_of_nonneg h3] at h7
   rw [tm h1, h5, Int.tdiv_eq_ediv_of_nonneg h1]
   simp only [if_true, show ¬ (2 : Int) = 0 by decide, if_false] at h7 ⊢
   refine ⟨(s / 4).toNat, ?_, by omega, by omega, ?_⟩
   · unfold fsE
     cases hr : m.ring with
     | true => simp
     | false =>
       rw [hr] at h7
       simp only [Bool.false_eq_true, if_false] at h7 ⊢
       omega
   · have hp : ((s / 4).toNat : Int) = s / 4 := by omega
     have hb := before_eq (n := m.g) (p := (s / 4).toNat) (by omega) (by omega)
     unfold psL
     rw [hb, hp]
     have e2 : 4 * (s / 4) = s := by omega
     rw [e2]
     congr 1
     cases hr : m.ring with
     | true =>
       rw [hr] at h7
       simp only [if_true] at h7
       rw [tm (by omega), emod_cases (by omega) (by omega) (by omega)] at h7
       split at h7 <;> split <;> omega
     | false =>
       rw [hr] at h7
       simp only [Bool.false_eq_true, if_false] at h7
       split <;> omega
 obtain ⟨e1, e2, e3, e4⟩ := h
 rw [tm hs.1] at e1
 rw [tm ht.1] at e2
 rcases (show s % 4 = 0 ∨ s % 4 = 2 by omega) with a | a <;> rcases (show t % 4 = 0 ∨ t % 4 = 2 by omega) with b | b
 · exfalso
   unfold plE at e4
   rw [tm hs.1, tm ht.1, a, b, Int.tdiv_eq_ediv_of_nonneg hs.1, Int.tdiv_eq_ediv_of_nonneg ht.1] at e4
   simp only [if_true] at e4
   omega
 · obtain ⟨p, h1, h2, h3, h4⟩ := key s t hs.1 hs.2 ht.1 ht.2 a b e4
   exact ⟨p, h1, h2, h3, .inr h4⟩
 · obtain ⟨p, h1, h2, h3, h4⟩ := key t s ht.1 ht.2 hs.1 hs.2 b a e4.symm
   exact ⟨p, h1, h2, e4.trans h3, .inl h4⟩
 · exfalso
   unfold plE at e4
   rw [tm hs.1, tm ht.1, a, b, Int.tdiv_eq_ediv_of_nonneg hs.1, Int.tdiv_eq_ediv_of_nonneg ht.1] at e4
   simp only [show ¬ (2 : Int) = 0 by decide, if_false, if_true] at e4
   cases hr : m.ring with
   | true =>
     rw [hr] at e4
     simp only [if_true] at e4
     rw [tm (by omega), tm (by omega), emod_cases (by omega) (by omega) (by omega), emod_cases (by omega) (by omega) (by omega)] at e4
     split at e4 <;> split at e4 <;> omega
   | false =>
     rw [hr] at e4
     simp only [Bool.false_eq_true, if_false] at e4
     omega
theorem place_pair {m : Mc} {n p : Nat} (hg : m.g = n) (hn : 1 ≤ n) (hev : m.ring = true → n % 2 = 0) (h1 : fsE m ≤ p) (h2 : p < n) : ∃ s t : Int, psL m p = [t, s] ∧ (0 ≤ s ∧ s < 4 * (n : Int)) ∧ (0 ≤ t ∧ t < 4 * (n : Int)) ∧ pairB m s t ∧ plE m s = p ∧ plE m t = p := by
 have hb := before_eq (n := m.g) (p := p) (by omega) (by omega)
 have hpl : plE m (4 * (p : Int)) = p := by
   unfold plE
   rw [tm (by omega), Int.tdiv_eq_ediv_of_nonneg (by omega), show (4 * (p : Int)) % 4 = 0 by omega]
   simp only [if_true]
   omega
 generalize hq : ((p : Int) + m.g - 1).tmod m.g = q at hb
 have hq0 : 0 ≤ q ∧ q < n := by split at hb <;> omega
 have hpr : plE m (4 * q + 2) = p := by
   unfold plE
   rw [tm (by omega), Int.tdiv_eq_ediv_of_nonneg (by omega), show (4 * q + 2) % 4 = 2 by omega, show (4 * q + 2) / 4 = q by omega]
   simp only [show ¬ (2 : Int) = 0 by decide, if_false, if_true]
   cases hr : m.ring with
   | true =>
     simp only [if_true]
     rw [tm (by omega), emod_cases (by omega) (by omega) (by omega)]
     split at hb <;> split <;> omega
   | false =>
     simp only [Bool.false_eq_true, if_false]
     have : fsE m = 1 := by unfold fsE; rw [hr]; rfl
     split at hb <;> omega
 refine ⟨4 * (p : Int), 4 * q + 2, ?_, by omega, by omega, ⟨?_, ?_, ?_, ?_⟩, hpl, hpr⟩
 · unfold psL; rw [hq]
 · rw [tm (by omega)]; omega
 · rw [tm (by omega)]; omega
 · omega
 · rw [hpl, hpr]
def seenP (now : List Int) (a b : Nat) (s t : Int) : Prop := ∃ i j : Nat, j < i ∧ (i < a ∨ (i = a ∧ j < b)) ∧ now[i]? = some s ∧ now[j]? = some t
def BestP (m : Mc) (now : List Int) (a b : Nat) (place : Int) : Prop :=
 (place = -1 ∧ ∀ s t, seenP now a b s t → ¬ pairB m s t) ∨ (0 ≤ place ∧ (∃ s t, seenP now a b s t ∧ pairB m s t ∧ plE m s = place) ∧ ∀ s t, seenP now a b s t → pairB m s t → place ≤ plE m s)
theorem pair_symm {m : Mc} {s t : Int} (h : pairB m s t) : pairB m t s := ⟨h.2.1, h.1, h.2.2.1.symm, h.2.2.2.symm⟩
theorem best_end {m : Mc} {now : List Int} {n : Nat} {place : Int} (hg : m.g = n) (hn : 1 ≤ n) (hev : m.ring = true → n % 2 = 0) (hr : InR (4 * n) now) (h : BestP m now now.length 0 place) : (place = -1 ∧ mtN m now) ∨ (0 ≤ place ∧ mtF m now place.toNat) := by
 have hb : ∀ z ∈ now, 0 ≤ z ∧ z < 4 * (n : Int) := fun z hz => by have := hr z hz; omega
 have two : ∀ s t, s ∈ now → t ∈ now → s ≠ t → seenP now now.length 0 s t ∨ seenP now now.length 0 t s := by
   intro s t hs ht hne
   obtain ⟨i, hi⟩ := List.mem_iff_getElem?.1 hs
   obtain ⟨j, hj⟩ := List.mem_iff_getElem?.1 ht
   have hi' := (List.getElem?_eq_some_iff.1 hi).1
   have hj' := (List.getElem?_eq_some_iff.1 hj).1
   rcases Nat.lt_trichotomy i j with hl | he | hl
   · exact .inr ⟨j, i, hl, .inl hj', hj, hi⟩
   · subst he; rw [hi] at hj; exact (hne (Option.some.inj hj)).elim
   · exact .inl ⟨i, j, hl, .inl hi', hi, hj⟩
 have meet : ∀ p : Nat, fsE m ≤ p → p < n → mtB m now p = true → ∃ s t, seenP now now.length 0 s t ∧ pairB m s t ∧ plE m s = p := by
   intro p h1 h2 h3
   obtain ⟨s, t, e1, _, _, e4, e5, e6⟩ := place_pair hg hn hev h1 h2
   unfold mtB at h3
   rw [e1, List.all_eq_true] at h3
   have ht : t ∈ now := of_decide_eq_true (h3 t (by simp))
   have hs : s ∈ now := of_decide_eq_true (h3 s (by simp))
   rcases two s t hs ht e4.2.2.1 with h | h
   · exact ⟨s, t, h, e4, e5⟩
   · exact ⟨t, s, h, pair_symm e4, e6⟩
 have back : ∀ s t, seenP now now.length 0 s t → pairB m s t → ∃ p : Nat, fsE m ≤ p ∧ p < n ∧ plE m s = p ∧ mtB m now p = true := by
   rintro s t ⟨i, j, _, _, h3, h4⟩ hp
   have hs := List.mem_of_getElem? h3
   have ht := List.mem_of_getElem? h4
   obtain ⟨p, e1, e2, e3, e4⟩ := pair_place hg hn (hb s hs) (hb t ht) hp
   refine ⟨p, e1, e2, e3, ?_⟩
   unfold mtB
   rcases e4 with e | e <;> rw [e] <;> simp [hs, ht]
 rcases h with ⟨h1, h2⟩ | ⟨h1, ⟨s, t, h3, h4, h5⟩, h6⟩
 · refine .inl ⟨h1, fun j hj1 hj2 => ?_⟩
   cases hc : mtB m now j with
   | false => rfl
   | true =>
     obtain ⟨s, t, k1, k2, _⟩ := meet j hj1 (by omega) hc
     exact (h2 s t k1 k2).elim
 · obtain ⟨p, e1, e2, e3, e4⟩ := back s t h3 h4
   have ep : place.toNat = p := by omega
   refine .inr ⟨h1, ?_⟩
   rw [ep]
   refine ⟨e1, by omega, e4, fun j hj1 hj2 => ?_⟩
   cases hc : mtB m now j with
   | false => rfl
   | true =>
     obtain ⟨s', t', k1, k2, k3⟩ := meet j hj1 (by omega) hc
     have := h6 s' t' k1 k2
     omega
end Go.Ev
namespace Go.Ev
open Go.Proofs
theorem permL_length (m : Mc) (n : Nat) : (permL m n).length = 4 * m.g.toNat := by unfold permL; rw [List.length_map]; exact trnL_length m n
theorem takeMarks_ok : ∀ {M : List Nat} {H : AH}, M.Nodup → (∀ b ∈ M, H.get b = some .dfd ∧ b < 2 ^ 39) → ∃ H', takeMarks M H = some H' ∧ H'.next = H.next ∧ H'.gl = H.gl ∧ ∀ b, b ∉ M → H'.get b = H.get b
 | [], H, _, _ => ⟨H, rfl, rfl, rfl, fun _ _ => rfl⟩
 | b :: M, H, hn, h => by
   obtain ⟨h1, h2⟩ := h b (by simp)
   obtain ⟨hb, hn⟩ := List.nodup_cons.1 hn
   obtain ⟨H', k1, k2, k3, k4⟩ := takeMarks_ok (M := M) (H := H.set b (some .shut)) hn fun c hc => by
     rw [AH.get_set _ _ _ _ h2, if_neg (fun e => hb (by rw [← e]; exact hc))]
     exact h c (by simp [hc])
   refine ⟨H', ?_, k2, k3, fun c hc => ?_⟩
   · unfold takeMarks; rw [h1]; exact k1
   · rw [k4 c (fun e => hc (by simp [e])), AH.get_set _ _ _ _ h2, if_neg (fun e => hc (by simp [e]))]
section
variable {O : CallF} {T : List AV} {H : AH}
theorem yl_any {lb : Nat} {g : FuncId} {ps : Array Tmp} {asg bo : Code} {args : List AV} {KK : AV → AH → Prop} (hL : H.get lb = some (.lp .ready none g T ps asg bo)) (hl : args.length = ps.size) (hp1 : plansC Tryz.prog TPl g asg = true) (hp2 : plansC Tryz.prog TPl g bo = true)
   (h : Wp (ENV O) g true asg (setArgs ps.toList args T) [] H fun x T1 M1 H1 => x = .normal ∧ H1.get lb = some (.lp .ready none g T ps asg bo) ∧
     Wp (ENV O) g true bo T1 M1 (H1.set lb (some (.lp .busy none g T ps asg bo))) fun x _ _ H3 => H3.get lb = some (.lp .busy none g T ps asg bo) ∧ KK (.v (.bool (jumpOf x).isNone)) (H3.set lb (some (.lp (if (jumpOf x).isNone then .ready else .done) (jumpOf x) g T ps asg bo)))) : Yl (ENV O) lb args H KK := by
 refine yl_intro hL hl hp1 hp2 (h.mono ?_)
 rintro x T1 M1 H1 ⟨rfl, h1, h2⟩
 refine ⟨rfl, none, g, T, ps, asg, bo, h1, h2.mono ?_⟩
 rintro x T2 M2 H3 ⟨h4, h5⟩
 exact ⟨.busy, none, g, T, ps, asg, bo, h4, h5⟩
end
structure RdM (H0 : AH) (m : Mc) (now : List Int) (L : AB) (k : Nat) (H : AH) : Prop where
 nx : H.next + fsE m = H0.next + 3 + k
 gl : H.gl = H0.gl
 get : ∀ b, b < H0.next → H.get b = H0.get b
 dfd : H.get H0.next = some .dfd
 lp : H.get (H0.next + 1) = some L
 no : ∀ j, fsE m ≤ j → j < k → mtB m now j = false
structure StM (H0 : AH) (bp : Nat) (m : Mc) (now : List Int) (L : AB) (H : AH) : Prop where
 nx1 : H0.next + 3 ≤ H.next
 nx2 : H.next ≤ H0.next + 20
 gl : H.gl = H0.gl
 get : ∀ b, b < H0.next → b ≠ bp → H.get b = H0.get b
 dfd : H.get H0.next = some .dfd
 lp : H.get (H0.next + 1) = some L
 ex : ∃ p : Nat, mtF m now p ∧ p < 16 ∧ H.get bp = some (.cells [iv (p : Int)] 3 0)
theorem rngM {O : CallF} (hq : Quiet O) {H0 : AH} {bs bp n : Nat} {m : Mc} {x : AV} {now : List Int} {T : List AV} {ps : Array Tmp} {asg bo : Code} {KK : AV → AH → Prop} (hg : m.g = n) (hn1 : 1 ≤ n) (hn : n ≤ 16) (hbs : Bx H0 bs 24 m x) (hbsl : bs < H0.next) (hr : H0.next + 100 < 2 ^ 39)
   (hy : ∀ (k : Nat) (Hm : AH), fsE m ≤ k → k < n → RdM H0 m now (.lp .ready none 88 T ps asg bo) k Hm → ∀ K : AV → AH → Prop, (∀ H', RdM H0 m now (.lp .ready none 88 T ps asg bo) (k + 1) H' → Hm.next ≤ H'.next → K (.v (.bool true)) H') → (∀ H', StM H0 bp m now (.lp .done (some (.exit 0)) 88 T ps asg bo) H' → Hm.next ≤ H'.next → K (.v (.bool false)) H') → Yl (ENV O) (H0.next + 1) [iv k, .agg (ivs (psL m k))] Hm K)
   (hk : ∀ r H', RdM H0 m now (.lp .ready none 88 T ps asg bo) n H' → KK r H') (hk2 : ∀ r H', StM H0 bp m now (.lp .done (some (.exit 0)) 88 T ps asg bo) H' → KK r H') : Ca (ENV O) 160 [.yl (H0.next + 1), .ptr bs 0] ((H0.add .dfd).add (.lp .ready none 88 T ps asg bo)) KK := by
 have h39 : H0.next < 2 ^ 39 := by omega
 have h39' : (H0.add .dfd).next < 2 ^ 39 := by show H0.next + 1 < _; omega
 have hgt : ∀ b, b < H0.next → ((H0.add .dfd).add (.lp .ready none 88 T ps asg bo)).get b = H0.get b := fun b hb => by
   rw [get_add_ne h39' (by show b ≠ H0.next + 1; omega), get_add_ne h39 (by omega)]
 refine c159 hq (H0.next + 1) bs m x n hg hn1 hn (RdM H0 m now (.lp .ready none 88 T ps asg bo)) (StM H0 bp m now (.lp .done (some (.exit 0)) 88 T ps asg bo)) (fun k H h => ⟨hbs.lt, (h.get bs hbsl).trans hbs.g⟩) hy _ ⟨hbs.lt, (hgt bs hbsl).trans hbs.g⟩ (by show H0.next + 2 + 10 < _; omega) (fun H1 k1 n1 => ?_) KK hk hk2
 have n1 : H1.next = H0.next + 2 + 1 := n1
 refine ⟨by omega, k1.gl, fun b hb => (k1.get b (by show b < H0.next + 2; omega)).trans (hgt b hb), ?_, ?_, fun j h1 h2 => by omega⟩
 · refine (k1.get _ (by show H0.next < H0.next + 2; omega)).trans ?_
   rw [get_add_ne h39' (by show H0.next ≠ H0.next + 1; omega), get_add_eq h39]
 · refine (k1.get _ (by show H0.next + 1 < H0.next + 2; omega)).trans ?_
   exact get_add_eq h39'
theorem rdm_next {H7 Hm H10 : AH} {m : Mc} {now : List Int} {L : AB} {k : Nat} (hR : RdM H7 m now L k Hm) (h39 : H7.next + 100 < 2 ^ 39 ∧ fsE m ≤ 1 ∧ k ≤ 16 ∧ fsE m ≤ k) (n10 : H10.next = Hm.next + 1) (gl10 : H10.gl = Hm.gl) (g10 : ∀ b, b ≠ Hm.next → b ≠ H7.next + 1 → H10.get b = Hm.get b) (hno : mtB m now k = false) : RdM H7 m now L (k + 1) (H10.set (H7.next + 1) (some L)) := by
 have hnx := hR.nx
 refine ⟨?_, gl10.trans hR.gl, fun b hb => ?_, ?_, get_set_eq (by omega), fun j h3 h4 => ?_⟩
 · show H10.next + _ = _; omega
 · rw [get_set_ne (by omega) (by omega), g10 b (by omega) (by omega)]; exact hR.get b hb
 · rw [get_set_ne (by omega) (by omega), g10 _ (by omega) (by omega)]; exact hR.dfd
 · by_cases e : j = k
   · rw [e]; exact hno
   · exact hR.no j h3 (by omega)
variable {O : CallF} (hq : Quiet O)
include hq
theorem c88 (H : AH) (a x y : AV) (m : Mc) (l : List Int) (n N : Nat) (most : Int) (ha : a.cells = mc m x) (hx : Sl H x (ivs m.sw)) (ho : Old H x) (hsl : m.sw.length ≤ 1000) (hg : m.g = n) (hn1 : 1 ≤ n) (hn : n ≤ 16) (hm0 : mE m = 0)
   (hy : Sl H y (ivs l)) (hoy : Old H y) (hLy : ∀ b, y.own = some b → Lk H b) (hl : InR (4 * n) l) (hll : l.length ≤ 1000) (hP : InR (4 * n) (permL m n)) (hN0 : 0 < N) (hN : nowL (permL m n) l N = l) (hN1 : N ≤ 10000) (hmost : 0 ≤ most ∧ most ≤ 9223372036854775807) (hr : H.next + 1000000 < 2 ^ 39)
   (K : AV → AH → Prop) (hk1 : ∀ (H' : AH) (k p : Nat), Keeps H H' → H'.next ≤ H.next + 600000 → mtF m (nowL (permL m n) l k) p → (∀ j, j < k → mtN m (nowL (permL m n) l j)) → k < N → (k : Int) ≤ most → p < 16 → K (.tup [iv (k : Int), iv (p : Int), iv 0]) H')
   (hk2 : ∀ H' : AH, Keeps H H' → H'.next ≤ H.next + 600000 → (∀ j : Nat, (j : Int) ≤ most → mtN m (nowL (permL m n) l j)) → K (.tup [iv 0, iv 0, iv 7]) H') : Ca (ENV O) 88 [a, y, iv most] H K := by
 have hPl : (permL m n).length = 4 * n := by rw [permL_length, hg]; rfl
 have hin := now_in hP hPl hl
 have hlen := now_length (permL m n) l
 refine ca_intro (hq _ _ _ rfl) (fn := Tryz.f88) (by rfl) rfl ?_
 repeat (first | apply qR | apply qS)
 refine wops_cons (o_boxM rfl rfl ha (by omega) fun H1 n1 k1 b1 => ?_)
 repeat (first | apply qN | refine qM rfl rfl ?_)
 refine wp_scope ?_
 repeat (first | refine zqb rfl rfl rfl ‹_› ?_ | apply qR | apply qS)
 refine wops_cons (wop_callF rfl rfl rfl (fn := Tryz.f18) (by rfl) ?_)
 refine c18 hq H1 _ x m n rfl (hx.keep ho k1) (ho.keep k1) hsl hg hn1 hn hm0 (by omega) _ fun H2 P k2 n2 hw => ⟨k2.nx, ?_⟩
 repeat (first | apply qN | refine qM rfl rfl ?_ | refine zq9 rfl rfl rfl rfl ?_ | apply qR | apply qS)
 have r2 : H2.next < 2 ^ 39 := by omega
 refine wops_cons (o_alloc rfl rfl r2 ?_)
 repeat (first | refine qM rfl rfl ?_)
 refine wops_cons (o_store rfl rfl rfl (get_add_eq (x := .cells [iv 0] 3 0) r2) (Nat.succ_pos _) rfl ?_)
 have k12 := k1.trans k2
 have h2n := k2.nx
 refine WOps.mem (fun H3 => Keeps H H3 ∧ H3.next = H2.next + 1 ∧ Bx H3 H.next 24 m x ∧ Nw H3 P (permL m n) ∧ H3.get H2.next = some (.cells [iv 0] 3 0)) ⟨(k12.add _ r2).set _ (by omega) r2, rfl, ?_, ?_, get_set_eq r2⟩ ?_
 · exact b1.keep (by omega) ((k2.add _ r2).set _ (by omega) r2)
 · exact hw.keep (((Keeps.refl H2).add _ r2).set _ (Nat.le_refl _) r2)
 rintro H3 ⟨k3, n3, b3, hw3, g3⟩
 have hbp : H.next < H2.next := by omega
 have hbp2 : H2.next ≤ H.next + 1501 := by omega
 generalize H2.next = bp at r2 n3 g3 hbp hbp2 ⊢
 clear b1 k1 k2 k12 hw n1 n2 h2n
 repeat (first | apply qN | refine qM rfl rfl ?_ | apply qR | apply qS)
 refine wp_label ?_
 repeat (first | apply qS | apply qB)
 refine wp_loop (fun q T M H' => ∃ (i : Nat) (Y : List AV) (v : AV), q = N - i ∧ i < N ∧ (i : Int) ≤ most ∧ Keeps H H' ∧ bp < H'.next ∧ H'.next ≤ bp + 1 + 50 * i ∧ Bx H' H.next 24 m x ∧ Nw H' P (permL m n) ∧ H'.get bp = some (.cells [iv 0] 3 0) ∧ Sl H' v (ivs (nowL (permL m n) l i)) ∧ Old H' v ∧ (∀ b, v.own = some b → Lk H' b) ∧ (∀ j, j < i → mtN m (nowL (permL m n) l j)) ∧ M.Nodup ∧ (∀ b ∈ M, bp < b ∧ b < H'.next ∧ H'.get b = some .dfd) ∧ T = (lget Y 0 :: y :: iv most :: .ptr H.next 0 :: lget Y 1 :: lget Y 2 :: lget Y 3 :: lget Y 4 :: lget Y 5 :: P :: lget Y 6 :: iv (i : Nat) :: .ptr bp 0 :: v :: lget Y 7 :: lget Y 8 :: lget Y 9 :: lget Y 10 :: lget Y 11 :: lget Y 12 :: lget Y 13 :: lget Y 14 :: lget Y 15 :: lget Y 16 :: lget Y 17 :: lget Y 18 :: lget Y 19 :: lget Y 20 :: lget Y 21 :: lget Y 22 :: lget Y 23 :: lget Y 24 :: lget Y 25 :: lget Y 26 :: lget Y 27 :: lget Y 28 :: lget Y 29 :: lget Y 30 :: lget Y 31 :: lget Y 32 :: lget Y 33 :: lget Y 34 :: lget Y 35 :: lget Y 36 :: lget Y 37 :: lget Y 38 :: lget Y 39 :: lget Y 40 :: lget Y 41 :: lget Y 42 :: lget Y 43 :: lget Y 44 :: lget Y 45 :: lget Y 46 :: lget Y 47 :: lget Y 48 :: lget Y 49 :: lget Y 50 :: lget Y 51 :: lget Y 52 :: [])) N
   ⟨0, [_,_,_,_,_,_,_,_,_,_,_,_,_,_,_,_,_,_,_,_,_,_,_,_,_,_,_,_,_,_,_,_,_,_,_,_,_,_,_,_,_,_,_,_,_,_,_,_,_,_,_,_,_], y, rfl, hN0, by omega, k3, by omega, by omega, b3, hw3, g3, hy.keep hoy k3, hoy.keep k3, fun b hb => (hLy b hb).keep k3, fun j h => absurd h (by omega), List.nodup_nil, fun b hb => by simp at hb, rfl⟩ ?_
 clear hw3 g3 b3 k3 n3 H3
 rintro q T M H4 ⟨i, Y, v, hq1, hiN, him, k4, hb4, n4, b4, hw4, g4, hv, hov, hLv, hno, hMn, hM, rfl⟩
 have hini := hin i
 have hleni := hlen i
 repeat (first | refine qM rfl rfl ?_ | refine zqb rfl rfl rfl ‹_› ?_ | apply qR | apply qS | apply qB)
 refine wops_cons (wop_callF rfl rfl rfl (fn := Tryz.f140) (by rfl) ?_)
 refine c139 hq H4 _ x v m (nowL (permL m n) l i) n rfl hg hn1 hn hv hov hini (by omega) (by omega) _ fun H5 r k5 n5 hw5 => ⟨k5.nx, ?_⟩
 have r5 : H5.next < 2 ^ 39 := by omega
 skip
 refine wops_cons (o_alloc rfl rfl r5 ?_)
 refine wops_cons (o_store rfl rfl rfl (get_add_eq (x := .cells [.v (.slice none 0 0)] 22 0) r5) (Nat.succ_pos _) hw5.sl.one ?_)
 refine WOps.mem (fun H6 => Keeps H4 H6 ∧ H6.next = H4.next + 4 ∧ Nw H6 r (cinL (4 * n) (nowL (permL m n) l i) (nowL (permL m n) l i).length) ∧ H6.get (H4.next + 3) = some (.cells [r] 22 0)) ⟨(k5.add _ r5).set _ (by omega) r5, by show H5.next + 1 = _; omega, hw5.keep (((Keeps.refl H5).add _ r5).set _ (Nat.le_refl _) r5), by rw [show H4.next + 3 = H5.next by omega]; exact get_set_eq r5⟩ ?_
 rintro H6 ⟨k6, n6, hw6, g6⟩
 rw [show H5.next = H4.next + 3 by omega]
 clear hw5 k5 n5 r5
 have b6 := b4.keep (by have := k4.nx; omega) k6
 repeat (first | apply qN | refine zqb rfl rfl rfl ‹_› ?_ | apply qR | apply qS)
 refine wops_cons (wop_callF rfl rfl rfl (fn := Tryz.f129) (by rfl) ?_)
 refine c128 hq H6 _ x m rfl (by omega) _ fun H7 k7 n7 b7 => ⟨k7.nx, ?_⟩
 have k67 := k6.trans k7
 have k07 := k4.trans k67
 have hw7 := hw6.keep k7
 have g7 := (k7.get (H4.next + 3) (by omega)).trans g6
 have g7p := (k67.get bp hb4).trans g4
 have b67 := b6.keep (by have := k4.nx; omega) k7
 have h4n := k4.nx
 have n7' : H7.next = H4.next + 5 := by omega
 have hin1 := hin (i + 1)
 have fin : ∀ H' : AH, H7.next < H'.next → H'.next < 2 ^ 39 → H'.gl = H4.gl → (∀ b, b < H4.next → b ≠ bp → H'.get b = H4.get b) → H'.get H7.next = some .dfd → ∃ H'', takeMarks (H7.next :: M) H' = some H'' ∧ Keeps H H'' ∧ H''.next = H'.next := by
   intro H' h1 h2 h3 h4 h5
   obtain ⟨H'', t1, t2, t3, t4⟩ := takeMarks_ok (M := H7.next :: M) (H := H') (List.nodup_cons.2 ⟨fun hb => by have := hM _ hb; omega, hMn⟩) (fun b hb => by
     rcases List.mem_cons.1 hb with rfl | hb
     · exact ⟨h5, by omega⟩
     · have h6 := hM b hb
       exact ⟨(h4 b h6.2.1 (by omega)).trans h6.2.2, by omega⟩)
   refine ⟨H'', t1, ⟨by omega, t3.trans (h3.trans k4.gl), fun b hb => ?_⟩, t2⟩
   rw [t4 b (fun hb2 => by
     rcases List.mem_cons.1 hb2 with rfl | hb2
     · omega
     · have := hM b hb2; omega), h4 b (by omega) (by omega)]
   exact k4.get b hb
 have hf1 : fsE m ≤ 1 := by unfold fsE; split <;> omega
 repeat (first | apply qN | apply qB)
 refine wp_range (fn := Tryz.f160) rfl (by omega) (by rfl) ?_
 refine rngM hq (bp := bp) (now := nowL (permL m n) l i) hg hn1 hn b7 (by omega) (by omega) (fun k Hm hk1' hk2' hR K hKt hKf => ?_) (fun r' H8 hR => ?_) (fun r' H8 hS => ?_)
 · have hnx := hR.nx
   have rm : Hm.next < 2 ^ 39 := by omega
   refine yl_any hR.lp rfl (by kernel_rfl) (by kernel_rfl) ?_
   repeat (first | apply qN | refine qM rfl rfl ?_ | apply qR | apply qS)
   refine wops_cons (o_allocA (zs := [iv 0, iv 0]) rfl rfl (z := .agg #[.int .i64 0, .int .i64 0]) (by kernel_rfl) rfl rm ?_)
   refine wops_cons (o_storeA (n := 2) (vs := ivs (psL m k)) rfl rfl (by kernel_rfl) rfl rfl rfl rfl (get_add_eq rm) (by decide) ?_)
   refine WOps.mem (fun H9 => H9.next = Hm.next + 1 ∧ H9.gl = Hm.gl ∧ (∀ b, b ≠ Hm.next → H9.get b = Hm.get b) ∧ H9.get Hm.next = some (.cells (ivs (psL m k)) 93 0)) ⟨rfl, rfl, fun b hb => (get_set_ne rm hb).trans (get_add_ne rm hb), get_set_eq rm⟩ ?_
   rintro H9 ⟨n9, gl9, g9, g9p⟩
   repeat (first | apply qN)
   refine ⟨rfl, (g9 _ (by omega)).trans hR.lp, ?_⟩
   refine Wp.mem (fun H10 => H10.next = Hm.next + 1 ∧ H10.gl = Hm.gl ∧ (∀ b, b ≠ Hm.next → b ≠ H7.next + 1 → H10.get b = Hm.get b) ∧ H10.get Hm.next = some (.cells (ivs (psL m k)) 93 0) ∧ H10.get (H7.next + 1) = some (.lp .busy none 88 _ _ _ _)) ⟨n9, gl9, fun b h1 h2 => (get_set_ne (by omega) h2).trans (g9 b h1), (get_set_ne (by omega) (by omega)).trans g9p, get_set_eq (by omega)⟩ ?_
   rintro H10 ⟨n10, gl10, g10, g10p, g10l⟩
   have hold : ∀ b, b < H7.next → H10.get b = H7.get b := fun b h1 => (g10 b (by omega) (by omega)).trans (hR.get b h1)
   have hw10 : Nw H10 r (cinL (4 * n) (nowL (permL m n) l i) (nowL (permL m n) l i).length) := by
     obtain ⟨b, e1, e2, e3, e4⟩ := hw7
     exact ⟨b, e1, by omega, e3, (hold b e2).trans e4⟩
   have g10r : H10.get (H4.next + 3) = some (.cells [r] 22 0) := (hold _ (by omega)).trans g7
   have g10b : H10.get bp = some (.cells [iv 0] 3 0) := (hold _ (by omega)).trans g7p
   have hpr : At H10 (.ptr (H4.next + 3) 0) r := at_ptr (by omega) g10r rfl
   have hpa : At H10 (.ptr Hm.next 0) (iv (4 * (((k : Int) + m.g - 1).tmod m.g) + 2)) := at_ptr (by omega) g10p rfl
   have hpd : At H10 (.ptr Hm.next 1) (iv (4 * (k : Int))) := at_ptr (by omega) g10p rfl
   have hpb := ps_bounds hg hn1 hk2'
   obtain ⟨qn, hqn⟩ := Int.eq_ofNat_of_zero_le hpb.1
   have hj1 : 4 * (((k : Int) + m.g - 1).tmod m.g) + 2 = ((4 * qn + 2 : Nat) : Int) := by rw [hqn]; omega
   have hj2 : 4 * (k : Int) = ((4 * k : Nat) : Int) := by omega
   obtain ⟨v1, hv1, hv1'⟩ := cinL_spec hini _ (Nat.le_refl _) (4 * qn + 2) (by omega)
   obtain ⟨v2, hv2, hv2'⟩ := cinL_spec hini _ (Nat.le_refl _) (4 * k) (by omega)
   rw [List.take_length, ← hj1] at hv1'
   rw [List.take_length, ← hj2] at hv2'
   repeat (first | refine zq6 rfl rfl ‹_› ?_ | apply qR | apply qS | apply qB)
   refine wops_cons (o_indexP (j := 0) rfl rfl rfl rfl (by decide) ?_)
   repeat (first | refine zq6 rfl rfl ‹_› ?_)
   refine wops_cons (o_indexI (j := 4 * qn + 2) rfl rfl hw10.sl (congrArg iv hj1) hv1 fun p hp => ?_)
   repeat (first | refine zq6 rfl rfl ‹_› ?_)
   refine wops_cons (wop_cmp rfl rfl rfl rfl rfl (fun h => ?_) (fun h => ?_))
   rotate_left
   · have h : v1 = -1 := by simpa using h
     repeat (first | apply qN | refine zq1 rfl rfl ?_ | refine qM rfl rfl ?_ | refine zq7 rfl rfl rfl ?_ | refine qF rfl ?_ | apply qK)
     refine ⟨g10l, hKt _ (rdm_next hR (by omega) n10 gl10 g10 ?_) (by show Hm.next ≤ H10.next; omega)⟩
     cases hc : mtB m (nowL (permL m n) l i) k with
     | false => rfl
     | true => exact absurd h (hv1'.2 (mtB_iff.1 hc).1)
   have h1 : v1 ≠ -1 := by simpa using h
   clear h
   repeat (first | refine qM rfl rfl ?_ | refine zq6 rfl rfl ‹_› ?_)
   refine wops_cons (o_indexP (j := 1) rfl rfl rfl rfl (by decide) ?_)
   repeat (first | refine zq6 rfl rfl ‹_› ?_)
   refine wops_cons (o_indexI (j := 4 * k) rfl rfl hw10.sl (congrArg iv hj2) hv2 fun p hp => ?_)
   repeat (first | refine zq6 rfl rfl ‹_› ?_)
   refine wops_cons (wop_cmp rfl rfl rfl rfl rfl (fun h => ?_) (fun h => ?_))
   rotate_left
   · have h : v2 = -1 := by simpa using h
     repeat (first | apply qN | refine zq7 rfl rfl rfl ?_ | refine qF rfl ?_ | apply qK)
     refine ⟨g10l, hKt _ (rdm_next hR (by omega) n10 gl10 g10 ?_) (by show Hm.next ≤ H10.next; omega)⟩
     cases hc : mtB m (nowL (permL m n) l i) k with
     | false => rfl
     | true => exact absurd h (hv2'.2 (mtB_iff.1 hc).2)
   have h2 : v2 ≠ -1 := by simpa using h
   clear h
   repeat (first | apply qN | refine qM rfl rfl ?_ | refine zq7 rfl rfl rfl ?_ | refine qT rfl ?_ | apply qR | apply qS)
   refine wops_cons (o_store rfl rfl rfl g10b (Nat.succ_pos _) rfl ?_)
   have hb39 : bp < 2 ^ 39 := by omega
   repeat (first | apply qN | apply qE)
   refine ⟨(get_set_ne hb39 (by omega)).trans g10l, hKf _ ⟨?_, ?_, ?_, fun b hb hne => ?_, ?_, get_set_eq (by omega), k, ⟨hk1', by omega, mtB_iff.2 ⟨hv1'.1 h1, hv2'.1 h2⟩, hR.no⟩, by omega, ?_⟩ ?_⟩
   · show H7.next + 3 ≤ H10.next; omega
   · show H10.next ≤ _; omega
   · exact gl10.trans hR.gl
   · rw [get_set_ne (by omega) (by omega), get_set_ne hb39 hne]; exact hold b hb
   · rw [get_set_ne (by omega) (by omega), get_set_ne hb39 (by omega), g10 _ (by omega) (by omega)]; exact hR.dfd
   · rw [get_set_ne (by omega) (by omega)]; exact get_set_eq hb39
   · show Hm.next ≤ H10.next; omega
 · have hnx := hR.nx
   have hnoi : mtN m (nowL (permL m n) l i) := fun j h1 h2 => hR.no j h1 (by omega)
   have hnoS : ∀ j, j < i + 1 → mtN m (nowL (permL m n) l j) := fun j hj => by
     by_cases e : j = i
     · rw [e]; exact hnoi
     · exact hno j (by omega)
   refine ⟨by omega, .ready, none, _, _, _, _, _, .normal, hR.lp, by simp, rfl, ?_⟩
   refine Wp.mem (fun H9 => Keeps H4 H9 ∧ H9.next = H8.next ∧ H9.get H7.next = some .dfd) ⟨⟨by show H4.next ≤ H8.next; omega, hR.gl.trans k67.gl, fun b hb => ?_⟩, rfl, (get_set_ne (by omega) (by omega)).trans hR.dfd⟩ ?_
   · rw [get_set_ne (by omega) (by omega), hR.get b (by omega)]; exact k67.get b hb
   rintro H9 ⟨k9, n9, g9d⟩
   have hw9 := hw4.keep k9
   have hv9 := hv.keep hov k9
   repeat (first | apply qN | refine qM rfl rfl ?_ | refine zq4 rfl rfl rfl rfl (inc (by omega)) ?_ | apply qR | apply qS)
   refine wops_cons (wop_callF rfl rfl rfl (fn := Tryz.f78) (by rfl) ?_)
   refine c78 hq H9 P v (permL m n) (nowL (permL m n) l i) hw9.sl hw9.old hv9 (hov.keep k9) (fun z hz => by rw [hPl]; exact hini z hz) (by omega) (by omega) _ fun H11 r11 k11 n11 hw11 => ⟨k11.nx, ?_⟩
   have hw11 : Nw H11 r11 (nowL (permL m n) l (i + 1)) := hw11
   have k49 := k9.trans k11
   have k09 := k4.trans k49
   have g11d := (k11.get _ (by omega)).trans g9d
   obtain ⟨H12, t1, t2, t3⟩ := fin H11 (by omega) (by omega) k49.gl (fun b hb _ => k49.get b hb) g11d
   repeat (first | apply qN | refine qM rfl rfl ?_ | apply qR | apply qS)
   refine wops_cons (wop_cmp rfl rfl rfl rfl rfl (fun h => ?_) (fun h => ?_))
   · have h : ((i + 1 : Nat) : Int) > most := of_decide_eq_true h
     repeat (first | apply qN | refine zq1 rfl rfl ?_ | refine qM rfl rfl ?_ | refine zq7 rfl rfl rfl ?_ | refine qT rfl ?_ | apply qR | apply qS)
     refine wp_ret ?_
     exact ⟨_, H12, by unfold leaveM; rw [t1]; rfl, hk2 H12 t2 (by omega) fun j hj => hnoS j (by omega)⟩
   have h : ¬ ((i + 1 : Nat) : Int) > most := of_decide_eq_false h
   have hmo : ((i + 1 : Nat) : Int) ≤ most := by omega
   clear h
   repeat (first | refine qM rfl rfl ?_)
   refine wops_cons (wop_callF rfl rfl rfl (fn := Tryz.f141) (by rfl) ?_)
   refine c140 hq H11 r11 y (nowL (permL m n) l (i + 1)) l hw11.sl hw11.lk (hy.keep hoy k09) (fun b hb => (hLy b hb).keep k09) (by rw [hlen]; omega) _ ⟨Nat.le_refl _, ?_⟩
   repeat (first | apply qN | refine zq7 rfl rfl rfl ?_)
   refine wp_cond rfl (fun h => ?_) (fun h => ?_)
   · have h : nowL (permL m n) l (i + 1) = l := of_decide_eq_true h
     repeat (first | apply qN | refine qM rfl rfl ?_ | apply qR | apply qS)
     refine wp_ret ?_
     refine ⟨_, H12, by unfold leaveM; rw [t1]; rfl, hk2 H12 t2 (by omega) fun j hj => ?_⟩
     have := now_mod h j
     rw [← this]
     exact hnoS _ (Nat.mod_lt _ (by omega))
   · have h : ¬ nowL (permL m n) l (i + 1) = l := of_decide_eq_false h
     have hiN1 : i + 1 < N := by
       rcases Nat.lt_or_ge (i + 1) N with h1 | h1
       · exact h1
       · have e : i + 1 = N := by omega
         rw [e] at h
         exact (h hN).elim
     repeat (first | apply qK)
     refine ⟨N - (i + 1), by omega, i + 1, [_,_,_,_,_,_,_,_,_,_,_,_,_,_,_,_,_,_,_,_,_,_,_,_,_,_,_,_,_,_,_,_,_,_,_,_,_,_,_,_,_,_,_,_,_,_,_,_,_,_,_,_,_], r11, rfl, hiN1, hmo, k09, by omega, by omega, b4.keep (by omega) k49, hw4.keep k49, (k49.get bp hb4).trans g4, hw11.sl, hw11.old, hw11.lk, hnoS, List.nodup_cons.2 ⟨fun hb => by have := hM _ hb; omega, hMn⟩, fun b hb => ?_, rfl⟩
     rcases List.mem_cons.1 hb with rfl | hb
     · exact ⟨by omega, by omega, g11d⟩
     · have h6 := hM b hb
       exact ⟨h6.1, by omega, (k49.get b h6.2.1).trans h6.2.2⟩
 · have hnx1 := hS.nx1
   have hnx2 := hS.nx2
   obtain ⟨p, hp1, hp16, hp2⟩ := hS.ex
   refine ⟨by omega, .done, some (.exit 0), _, _, _, _, _, .exit 0, hS.lp, by simp, rfl, ?_⟩
   refine Wp.mem (fun H9 => H9.gl = H4.gl ∧ H9.next = H8.next ∧ (∀ b, b < H4.next → b ≠ bp → H9.get b = H4.get b) ∧ H9.get H7.next = some .dfd ∧ H9.get bp = some (.cells [iv (p : Int)] 3 0)) ⟨hS.gl.trans k67.gl, rfl, fun b hb hne => ?_, (get_set_ne (by omega) (by omega)).trans hS.dfd, (get_set_ne (by omega) (by omega)).trans hp2⟩ ?_
   · rw [get_set_ne (by omega) (by omega), hS.get b (by omega) hne]; exact k67.get b hb
   rintro H9 ⟨gl9, n9, g9, g9d, g9p⟩
   have hpp : At H9 (.ptr bp 0) (iv (p : Int)) := at_ptr (by omega) g9p rfl
   have hLp : ∀ b, (AV.ptr bp 0).own = some b → Lk H9 b := fun b hb => by
     cases hb
     refine ⟨by omega, ?_⟩
     rw [g9p]; simp [sameBlk, beqs, AV.beq, vbeq, iv]
   obtain ⟨H12, t1, t2, t3⟩ := fin H9 (by omega) (by omega) gl9 g9 g9d
   repeat (first | apply qS)
   refine wp_drawK rfl ?_
   repeat (first | refine k_nil ?_ | refine k_move rfl rfl rfl ?_ | refine k_assign rfl rfl rfl ?_ | refine k_load rfl rfl rfl ‹_› ‹_› ?_)
   refine wp_ret ?_
   exact ⟨_, H12, by unfold leaveM; rw [t1]; rfl, hk1 H12 i p t2 (by omega) hp1 hno hiN him hp16⟩
end Go.Ev
namespace Go.Ev
open Go.Proofs
structure GoodL (m : Mc) (l : List Int) (n N : Nat) : Prop where
 hg : m.g = n
 hn1 : 1 ≤ n
 hn : n ≤ 16
 hm0 : mE m = 0
 hsl : m.sw.length ≤ 1000
 hll : l.length ≤ 1000
 hc : cE m l = 0
 hl : InR (4 * n) l
 hP : InR (4 * n) (permL m n)
 hN0 : 0 < N
 hN : nowL (permL m n) l N = l
 hN1 : N ≤ 10000
def never (m : Mc) (l : List Int) (n : Nat) : Prop := ∀ j, mtN m (nowL (permL m n) l j)
variable {O : CallF} (hq : Quiet O)
include hq
theorem c89 (H : AH) (a x y : AV) (m : Mc) (l : List Int) (n N : Nat) (ha : a.cells = mc m x) (hx : Sl H x (ivs m.sw)) (ho : Old H x) (hy : Sl H y (ivs l)) (hoy : Old H y) (hLy : ∀ b, y.own = some b → Lk H b) (hG : GoodL m l n N) (hr : H.next + 2000000 < 2 ^ 39)
   (K : AV → AH → Prop) (hk1 : ∀ (H' : AH) (k p : Nat), Keeps H H' → H'.next ≤ H.next + 700000 → mtF m (nowL (permL m n) l k) p → K (.v (.bool false)) H')
   (hk2 : ∀ H' : AH, Keeps H H' → H'.next ≤ H.next + 700000 → never m l n → K (.v (.bool true)) H') : Ca (ENV O) 89 [a, y] H K := by
 have hll := hG.hll
 have hsl := hG.hsl
 refine ca_intro (hq _ _ _ rfl) (fn := Tryz.f89) (by rfl) rfl ?_
 repeat (first | apply qR | apply qS)
 refine wops_cons (o_boxM rfl rfl ha (by omega) fun H1 n1 k1 b1 => ?_)
 repeat (first | apply qN | refine qM rfl rfl ?_ | refine zqb rfl rfl rfl ‹_› ?_ | apply qR | apply qS)
 refine wops_cons (wop_callF rfl rfl rfl (fn := Tryz.f88) (by rfl) ?_)
 refine c88 hq H1 _ x y m l n N 9223372036854775807 rfl (hx.keep ho k1) (ho.keep k1) hsl hG.hg hG.hn1 hG.hn hG.hm0 (hy.keep hoy k1) (hoy.keep k1) (fun b hb => (hLy b hb).keep k1) hG.hl hll hG.hP hG.hN0 hG.hN hG.hN1 (by omega) (by omega) _ (fun H3 k p k3 n3 e1 e2 e3 e4 e5 => ⟨k3.nx, ?_⟩) (fun H3 k3 n3 e1 => ⟨k3.nx, ?_⟩)
 · repeat (first | apply qN | refine qM rfl rfl ?_ | refine zq9 rfl rfl rfl rfl ?_ | apply qR | apply qS)
   refine wops_cons (wop_bin (op := .eql) (v := .bool false) rfl rfl rfl rfl rfl ?_)
   repeat (first | apply qN | refine qM rfl rfl ?_)
   refine wp_ret ?_
   exact ⟨_, _, rfl, hk1 H3 k p (k1.trans k3) (by omega) e1⟩
 · repeat (first | apply qN | refine qM rfl rfl ?_ | refine zq9 rfl rfl rfl rfl ?_ | apply qR | apply qS)
   refine wops_cons (wop_bin (op := .eql) (v := .bool true) rfl rfl rfl rfl rfl ?_)
   repeat (first | apply qN | refine qM rfl rfl ?_)
   refine wp_ret ?_
   refine ⟨_, _, rfl, hk2 H3 (k1.trans k3) (by omega) fun j => ?_⟩
   have h1 := now_mod hG.hN j
   have h2 := Nat.mod_lt j hG.hN0
   have h3 := hG.hN1
   rw [← h1]
   exact e1 _ (by omega)
theorem c35 (H : AH) (a x y : AV) (m : Mc) (l : List Int) (n N : Nat) (ha : a.cells = mc m x) (hx : Sl H x (ivs m.sw)) (ho : Old H x) (hy : Sl H y (ivs l)) (hoy : Old H y) (hcap : CapOk y) (hLy : ∀ b, y.own = some b → Lk H b) (hG : GoodL m l n N) (hr : H.next + 3000000 < 2 ^ 39)
   (K : AV → AH → Prop) (hk1 : ∀ (H' : AH) (k p : Nat), Keeps H H' → H'.next ≤ H.next + 800000 → mtF m (nowL (permL m n) l k) p → K (iv 16) H')
   (hk2 : ∀ H' : AH, Keeps H H' → H'.next ≤ H.next + 800000 → never m l n → K (iv 0) H') : Ca (ENV O) 35 [a, y] H K := by
 have hll := hG.hll
 have hsl := hG.hsl
 refine ca_intro (hq _ _ _ rfl) (fn := Tryz.f35) (by rfl) rfl ?_
 repeat (first | apply qR | apply qS)
 refine wops_cons (o_boxM rfl rfl ha (by omega) fun H1 n1 k1 b1 => ?_)
 repeat (first | apply qN | refine qM rfl rfl ?_ | refine zqb rfl rfl rfl ‹_› ?_ | apply qR | apply qS)
 refine wops_cons (wop_callF rfl rfl rfl (fn := Tryz.f27) (by rfl) ?_)
 refine c27 hq H1 _ x y m l rfl (hx.keep ho k1) (ho.keep k1) (hy.keep hoy k1) (hoy.keep k1) hcap (by omega) (by omega) (by omega) _ fun H2 k2 n2 => ⟨k2.nx, ?_⟩
 rw [hG.hc]
 have k12 := k1.trans k2
 have b2 := b1.keep (by omega) k2
 repeat (first | apply qN | refine qM rfl rfl ?_ | apply qR | apply qS)
 refine wops_cons (wop_bin (op := .neq) (v := .bool false) rfl rfl rfl rfl rfl ?_)
 repeat (first | apply qN | refine qM rfl rfl ?_ | refine zqb rfl rfl rfl ‹_› ?_ | refine qF rfl ?_ | apply qR | apply qS | apply qK)
 refine wops_cons (wop_callF rfl rfl rfl (fn := Tryz.f89) (by rfl) ?_)
 refine c89 hq H2 _ x y m l n N rfl (hx.keep ho k12) (ho.keep k12) (hy.keep hoy k12) (hoy.keep k12) (fun b hb => (hLy b hb).keep k12) hG (by omega) _ (fun H3 k p k3 n3 e1 => ⟨k3.nx, ?_⟩) (fun H3 k3 n3 e1 => ⟨k3.nx, ?_⟩)
 · skip
   refine wops_cons (wop_callF rfl rfl rfl (fn := Tryz.f74) (by rfl) ?_)
   refine c74 hq H3 false 16 _ ⟨Nat.le_refl _, ?_⟩
   repeat (first | apply qN | refine qM rfl rfl ?_)
   refine wp_ret ?_
   exact ⟨_, _, rfl, hk1 H3 k p (k12.trans k3) (by omega) e1⟩
 · skip
   refine wops_cons (wop_callF rfl rfl rfl (fn := Tryz.f74) (by rfl) ?_)
   refine c74 hq H3 true 16 _ ⟨Nat.le_refl _, ?_⟩
   repeat (first | apply qN | refine qM rfl rfl ?_)
   refine wp_ret ?_
   exact ⟨_, _, rfl, hk2 H3 (k12.trans k3) (by omega) e1⟩
end Go.Ev
