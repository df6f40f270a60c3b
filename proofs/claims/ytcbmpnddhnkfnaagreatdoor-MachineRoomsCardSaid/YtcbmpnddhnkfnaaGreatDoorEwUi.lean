/- Part of an evaluator of calls that is proved sound, and of what it gives about this program. No condition of its own. -/
import Derived.Test.YtcbmpnddhnkfnaaGreatDoorEwUh
import Derived.Test.YtcbmpnddhnkfnaaGreatDoorEwPc
set_option linter.unusedVariables false
set_option linter.unusedSimpArgs false
set_option linter.unusedSectionVars false
set_option maxRecDepth 100000
set_option maxHeartbeats 4000000
namespace Go.Ev
open Go.Proofs
theorem now_it {P l : List Int} (h : OkPq P) (hl : InR P.length l) (k : Nat) : nowL P l k = l.map fun z => ((it (fOf P) k z.toNat : Nat) : Int) := by
 rw [now_map P l k]
 refine List.map_congr_left fun z hz => ?_
 have hzb := hl z hz
 have hx : z.toNat < P.length := by omega
 induction k with
 | zero => show z = ((z.toNat : Nat) : Int); omega
 | succ k ih =>
   have h1 : (nowL P [z] k).length = 1 := now_length P [z] k
   obtain ⟨w, hw⟩ := List.length_eq_one_iff.1 h1
   rw [hw] at ih
   have ih : w = ((it (fOf P) k z.toNat : Nat) : Int) := ih
   show (thr P (nowL P [z] k)).getD 0 0 = _
   rw [hw]
   show P.getD w.toNat 0 = _
   rw [ih, Int.toNat_natCast, List.getD_eq_getElem?_getD, h.f_get (h.pm.it_lt hx k)]
   rfl
structure Vld (m : Mc) (l : List Int) (n : Nat) : Prop where
 hg : m.g = n
 hn1 : 1 ≤ n
 hn : n ≤ 16
 hm0 : mE m = 0
 hsw : m.sw.length ≤ 1000
 hle : l.length ≤ 4 * n
 hl : InR (4 * n) l
 hd : l.Nodup
theorem vld_of {m : Mc} {l : List Int} (hs : m.sw.length ≤ 1000) (h : cE m l = 0) : ∃ n, Vld m l n := by
 have hm : mE m = 0 := by
   unfold cE at h
   split at h
   · rename_i h6; exact absurd h h6
   · rename_i h6; simpa using h6
 have hlE : lE m l = 0 := by
   unfold cE at h
   rw [if_neg (by simp [hm])] at h
   exact h
 have hgb := mE_g hm
 obtain ⟨n, hn⟩ := Int.eq_ofNat_of_zero_le (show 0 ≤ m.g by omega)
 have hgn : m.g = (n : Int) := hn
 obtain ⟨e1, e2, e3⟩ := (lE_zero hgn).1 hlE
 exact ⟨n, hgn, by omega, by omega, hm, hs, e1, e2, e3⟩
theorem valsL_pos : ∀ v ∈ valsL, 1 ≤ v ∧ v ≤ 560 := by decide
theorem valsL_le {v : Nat} (h : v ∈ valsL) : 1 ≤ v ∧ v ≤ 560 := valsL_pos v h
section
variable {m : Mc} {l : List Int} {n : Nat}
theorem Vld.ok (h : Vld m l n) : OkPq (permL m n) := permL_okP h.hg
theorem Vld.len (h : Vld m l n) : (permL m n).length = 4 * n := permL_len h.hg
theorem Vld.fr (h : Vld m l n) : Fr (fOf (permL m n)) n := permL_fr h.hg h.hn1 h.hn h.hm0
theorem Vld.inr (h : Vld m l n) : InR (4 * n) (permL m n) := fun z hz => by
 obtain ⟨i, hi⟩ := List.mem_iff_getElem?.1 hz
 have := h.ok.1 i z hi
 rw [h.len] at this
 omega
theorem Vld.lr (h : Vld m l n) : InR (permL m n).length l := by rw [h.len]; exact h.hl
theorem Vld.cE (h : Vld m l n) : cE m l = 0 := by
 unfold Go.Ev.cE
 rw [if_neg (by simp [h.hm0])]
 exact (lE_zero h.hg).2 ⟨h.hle, h.hl, h.hd⟩
theorem Vld.back (h : Vld m l n) : ∀ z ∈ l, it (fOf (permL m n)) (perd (fOf (permL m n)) (4 * n)) z.toNat = z.toNat := fun z hz => by
 have hz := h.hl z hz
 exact (h.ok.pm.round (i := perd (fOf (permL m n)) (4 * n))).2 (by rw [h.len]; exact Nat.dvd_refl _) z.toNat (by rw [h.len]; omega)
theorem Vld.good (h : Vld m l n) : GoodL m l n (perd (fOf (permL m n)) (4 * n)) := by
 have hv := valsL_le h.fr.perd_mem
 refine ⟨h.hg, h.hn1, h.hn, h.hm0, h.hsw, by have := h.hle; have := h.hn; omega, h.cE, h.hl, h.inr, by omega, ?_, by omega⟩
 rw [now_it h.ok h.lr]
 refine (List.map_congr_left fun z hz => ?_).trans (List.map_id _)
 rw [h.back z hz]
 have hz := h.hl z hz
 show ((z.toNat : Nat) : Int) = z
 omega
end
variable {O : CallF} (hq : Quiet O)
include hq
end Go.Ev
