/- Part of an evaluator of calls that is proved sound, and of what it gives about this program. No condition of its own. -/
import Derived.Test.YtcbmpnddhnkfnaaGreatDoorEwUe
set_option linter.unusedVariables false
set_option linter.unusedSimpArgs false
set_option linter.unusedSectionVars false
set_option maxRecDepth 100000
set_option maxHeartbeats 4000000
namespace Go.Ev
open Go.Proofs
section
variable {m : Mc} {n : Nat} {l : List Int}
theorem mt_pairs (hg : m.g = n) (hn : 1 ≤ n) (hev : m.ring = true → n % 2 = 0) (hl : InR (4 * n) l) (k : Nat) : (∃ p : Nat, mtF m (nowL (permL m n) l k) p) ↔ ∃ s t, seenP l l.length 0 s t ∧ meetAt m n s.toNat t.toNat k := by
 have hPl := permL_len (m := m) hg
 have hok := permL_okP (m := m) hg
 have hlP : InR (permL m n).length l := by rw [hPl]; exact hl
 have hin : InR (4 * n) (nowL (permL m n) l k) := now_in (fun z hz => by have := hok.mem hz; rw [hPl] at this; exact this) hPl hl k
 have hnl := now_length (permL m n) l k
 have hget : ∀ (i : Nat) (z : Int), l[i]? = some z → (nowL (permL m n) l k)[i]? = some ((it (fOf (permL m n)) k z.toNat : Nat) : Int) := fun i z hz => by
   obtain ⟨w, hw1, hw2⟩ := now_getP hok hlP hz k
   have hzb := hl z (List.mem_of_getElem? hz)
   have hx : z.toNat < (permL m n).length := by omega
   rw [hw2, ← hw1, powL_get hx]
   have h1 : stp (k : Int) (per (fOf (permL m n)) (permL m n).length z.toNat) = k % per (fOf (permL m n)) (permL m n).length z.toNat := by
     have : ((stp (k : Int) (per (fOf (permL m n)) (permL m n).length z.toNat) : Nat) : Int) = ((k % per (fOf (permL m n)) (permL m n).length z.toNat : Nat) : Int) := by rw [stp_emod k (per_pos _ _ _)]; rfl
     exact Int.ofNat.inj this
   rw [h1, hok.pm.it_mod hx]
 have hseen : ∀ s t, seenP (nowL (permL m n) l k) l.length 0 s t → pairB m s t → ∃ s t, seenP l l.length 0 s t ∧ meetAt m n s.toNat t.toNat k := by
   rintro s t ⟨i, j, h1, h2, h3, h4⟩ hp
   obtain ⟨z, hz⟩ := l_some (l := l) (show i < l.length by omega)
   obtain ⟨w, hw⟩ := l_some (l := l) (show j < l.length by omega)
   rw [hget i z hz] at h3
   rw [hget j w hw] at h4
   cases h3; cases h4
   exact ⟨z, w, ⟨i, j, h1, h2, hz, hw⟩, hp⟩
 constructor
 · rintro ⟨p, hp⟩
   by_cases hex : ∃ s t, seenP l l.length 0 s t ∧ meetAt m n s.toNat t.toNat k
   · exact hex
   · exfalso
     have hb : BestP m (nowL (permL m n) l k) (nowL (permL m n) l k).length 0 (-1) := .inl ⟨rfl, fun s t hs hp2 => by
       rw [hnl] at hs
       exact hex (hseen s t hs hp2)⟩
     rcases best_end hg hn hev hin hb with ⟨_, h⟩ | ⟨h, _⟩
     · exact mtF_not hp h
     · omega
 · rintro ⟨s, t, ⟨i, j, h1, h2, h3, h4⟩, hm⟩
   have hp : pairB m ((it (fOf (permL m n)) k s.toNat : Nat) : Int) ((it (fOf (permL m n)) k t.toNat : Nat) : Int) := hm
   have g3 := hget i s h3
   have g4 := hget j t h4
   have hs := hin _ (List.mem_of_getElem? g3)
   have ht := hin _ (List.mem_of_getElem? g4)
   obtain ⟨p, f1, f2, f3, f4⟩ := pair_place hg hn (s := ((it (fOf (permL m n)) k s.toNat : Nat) : Int)) (t := ((it (fOf (permL m n)) k t.toNat : Nat) : Int)) (by omega) (by omega) hp
   have hmt : mtB m (nowL (permL m n) l k) p = true := by
     unfold mtB
     rw [List.all_eq_true]
     intro z hz
     refine decide_eq_true ?_
     rcases f4 with f4 | f4 <;> rw [f4] at hz <;> simp only [List.mem_cons, List.not_mem_nil, or_false] at hz <;> rcases hz with rfl | rfl
     · exact List.mem_of_getElem? g3
     · exact List.mem_of_getElem? g4
     · exact List.mem_of_getElem? g4
     · exact List.mem_of_getElem? g3
   by_cases hN : mtN m (nowL (permL m n) l k)
   · have := hN p f1 (by omega)
     rw [hmt] at this; cases this
   · have least : ∀ q : Nat, (∃ p, fsE m ≤ p ∧ p ≤ q ∧ p < m.g ∧ mtB m (nowL (permL m n) l k) p = true) → ∃ p : Nat, mtF m (nowL (permL m n) l k) p := by
       intro q
       induction q using Nat.strongRecOn with
       | ind q ih =>
         rintro ⟨p, e1, e2, e3, e4⟩
         by_cases hlt : ∃ j : Nat, fsE m ≤ j ∧ j < p ∧ mtB m (nowL (permL m n) l k) j = true
         · obtain ⟨j, j1, j2, j3⟩ := hlt
           exact ih j (by omega) ⟨j, j1, Nat.le_refl _, by omega, j3⟩
         · refine ⟨p, e1, e3, e4, fun j j1 j2 => ?_⟩
           cases hc : mtB m (nowL (permL m n) l k) j with
           | false => rfl
           | true => exact absurd ⟨j, j1, j2, hc⟩ hlt
     exact least p ⟨p, f1, Nat.le_refl _, by omega, hmt⟩
theorem mtN_iff {now : List Int} : mtN m now ↔ ¬ ∃ p : Nat, mtF m now p := by
 constructor
 · rintro h ⟨p, hp⟩
   exact mtF_not hp h
 · intro h
   have least : ∀ q : Nat, (∃ p : Nat, fsE m ≤ p ∧ p ≤ q ∧ p < m.g ∧ mtB m now p = true) → ∃ p : Nat, mtF m now p := by
     intro q
     induction q using Nat.strongRecOn with
     | ind q ih =>
       rintro ⟨p, e1, e2, e3, e4⟩
       by_cases hlt : ∃ j : Nat, fsE m ≤ j ∧ j < p ∧ mtB m now j = true
       · obtain ⟨j, j1, j2, j3⟩ := hlt
         exact ih j (by omega) ⟨j, j1, Nat.le_refl _, by omega, j3⟩
       · refine ⟨p, e1, e3, e4, fun j j1 j2 => ?_⟩
         cases hc : mtB m now j with
         | false => rfl
         | true => exact absurd ⟨j, j1, j2, hc⟩ hlt
   intro p h1 h2
   cases hc : mtB m now p with
   | false => rfl
   | true => exact absurd (least p ⟨p, h1, Nat.le_refl _, h2, hc⟩) h
end
variable {O : CallF} (hq : Quiet O)
include hq
end Go.Ev
