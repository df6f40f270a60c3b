/- Part of an evaluator of calls that is proved sound, and of what it gives about this program. No condition of its own. -/
import Derived.Test.YthmbdpdojjcgkaaGreatDoorEwIb
import Derived.Test.YthmbdpdojjcgkaaGreatDoorEwHy
set_option linter.unusedVariables false
set_option linter.unusedSimpArgs false
set_option linter.unusedSectionVars false
set_option maxRecDepth 100000
set_option maxHeartbeats 4000000
namespace Go.Ev
def nowL (P l : List Int) : Nat → List Int
  | 0 => l
  | k + 1 => thr P (nowL P l k)
def InR (n : Nat) (l : List Int) : Prop := ∀ z ∈ l, 0 ≤ z ∧ z < (n : Int)
theorem thr_length (p l : List Int) : (thr p l).length = l.length := by simp [thr]
theorem getD_in {n : Nat} {p : List Int} (h : InR n p) (hn : p.length = n) {z : Int} (hz : 0 ≤ z ∧ z < (n : Int)) : 0 ≤ p.getD z.toNat 0 ∧ p.getD z.toNat 0 < (n : Int) := by
  obtain ⟨w, hw⟩ := l_some (l := p) (i := z.toNat) (by omega)
  rw [List.getD_eq_getElem?_getD, hw]
  exact h w (List.mem_of_getElem? hw)
theorem thr_in {n : Nat} {p l : List Int} (h : InR n p) (hn : p.length = n) (hl : InR n l) : InR n (thr p l) := fun z hz => by
  obtain ⟨y, hy, rfl⟩ := List.mem_map.1 hz
  exact getD_in h hn (hl y hy)
theorem thr_thr {n : Nat} {p q l : List Int} (hq : q.length = n) (hl : InR n l) : thr (thr p q) l = thr p (thr q l) := by
  unfold thr
  rw [List.map_map]
  refine List.map_congr_left fun z hz => ?_
  have h1 := hl z hz
  obtain ⟨w, hw⟩ := l_some (l := q) (i := z.toNat) (by omega)
  simp [List.getD_eq_getElem?_getD, hw]
theorem now_length (P l : List Int) : ∀ k, (nowL P l k).length = l.length
  | 0 => rfl
  | k + 1 => (thr_length _ _).trans (now_length P l k)
theorem now_in {n : Nat} {P l : List Int} (h : InR n P) (hn : P.length = n) (hl : InR n l) : ∀ k, InR n (nowL P l k)
  | 0 => hl
  | k + 1 => thr_in h hn (now_in h hn hl k)
theorem now_add (P l : List Int) (b : Nat) : ∀ a, nowL P l (a + b) = nowL P (nowL P l b) a
  | 0 => by rw [Nat.zero_add]; rfl
  | a + 1 => by rw [Nat.add_right_comm]; exact congrArg (thr P) (now_add P l b a)
theorem now_map (P l : List Int) : ∀ k, nowL P l k = l.map fun z => (nowL P [z] k).getD 0 0
  | 0 => by simp [nowL]
  | k + 1 => by
    show thr P (nowL P l k) = _
    rw [now_map P l k]
    unfold thr
    rw [List.map_map]
    refine List.map_congr_left fun z _ => ?_
    have h1 : (nowL P [z] k).length = 1 := now_length P [z] k
    obtain ⟨w, hw⟩ := List.length_eq_one_iff.1 h1
    show P.getD ((nowL P [z] k).getD 0 0).toNat 0 = (thr P (nowL P [z] k)).getD 0 0
    rw [hw]
    rfl
theorem pw_spec {n : Nat} {P : List Int} (h : InR n P) (hn : P.length = n) : ∀ k, (pw P k).length = n ∧ InR n (pw P k) ∧ ∀ l, InR n l → thr (pw P k) l = nowL P l (2 ^ k)
  | 0 => ⟨hn, h, fun _ _ => rfl⟩
  | k + 1 => by
    obtain ⟨h1, h2, h3⟩ := pw_spec h hn k
    refine ⟨(thr_length _ _).trans h1, thr_in h2 h1 h2, fun l hl => ?_⟩
    show thr (thr (pw P k) (pw P k)) l = _
    rw [thr_thr h1 hl, h3 l hl, h3 _ (now_in h hn hl _), ← now_add]
    congr 1
    rw [Nat.pow_succ]; omega
theorem now_240 {n : Nat} {P l : List Int} (h : InR n P) (hn : P.length = n) (hP : p240 P = idL n) (hl : InR n l) : nowL P l 240 = l := by
  have h4 := pw_spec h hn 4
  have h5 := pw_spec h hn 5
  have h6 := pw_spec h hn 6
  have h7 := pw_spec h hn 7
  have e : thr (p240 P) l = nowL P l 240 := by
    unfold p240
    rw [thr_thr (by rw [thr_length, thr_length]; exact h4.1) hl, thr_thr (by rw [thr_length]; exact h4.1) hl, thr_thr h4.1 hl]
    have i4 := now_in h hn hl (2 ^ 4)
    have i5 := now_in h hn i4 (2 ^ 5)
    have i6 := now_in h hn i5 (2 ^ 6)
    rw [h4.2.2 l hl, h5.2.2 _ i4, h6.2.2 _ i5, h7.2.2 _ i6, ← now_add, ← now_add, ← now_add]
  rw [← e, hP]
  unfold thr
  have : ∀ z ∈ l, (idL n).getD z.toNat 0 = z := fun z hz => by
    have := hl z hz
    rw [List.getD_eq_getElem?_getD, idL_get (by omega)]
    show ((z.toNat : Nat) : Int) = z
    omega
  rw [List.map_congr_left this, List.map_id'']
  exact fun _ => rfl
end Go.Ev
namespace Go.Ev
open Go.Proofs
theorem permL_length (m : Mc) (n : Nat) : (permL m n).length = 4 * m.g.toNat := by unfold permL; rw [List.length_map]; exact trnL_length m n
theorem takeMarks_ok : ∀ {M : List Nat} {H : AH}, M.Nodup → (∀ b ∈ M, H.get b = some .dfd ∧ b < 2 ^ 39) → ∃ H', takeMarks M H = some H' ∧ H'.next = H.next ∧ H'.gl = H.gl ∧ ∀ b, b ∉ M → H'.get b = H.get b
  | [], H, _, _ => ⟨H, rfl, rfl, rfl, fun _ _ => rfl⟩
  | b :: M, H, hn, h => by
    obtain ⟨h1, h2⟩ := h b (by simp)
    obtain ⟨hb, hn⟩ := List.nodup_cons.1 hn
    obtain ⟨H', k1, k2, k3, k4⟩ := takeMarks_ok (M := M) (H := H.set b (some .shut)) hn fun c hc => by
      rw [AH.get_set _ _ _ _ h2, if_neg (fun e => hb (by rw [← e]; exact hc))]
      exact h c (by simp [hc])
    refine ⟨H', ?_, k2, k3, fun c hc => ?_⟩
    · unfold takeMarks; rw [h1]; exact k1
    · rw [k4 c (fun e => hc (by simp [e])), AH.get_set _ _ _ _ h2, if_neg (fun e => hc (by simp [e]))]
section
variable {O : CallF} {T : List AV} {H : AH}
end
variable {O : CallF} (hq : Quiet O)
include hq
end Go.Ev
namespace Go.Ev
open Go.Proofs
structure GoodL (m : Mc) (l : List Int) (n N : Nat) : Prop where
  hg : m.g = n
  hn1 : 1 ≤ n
  hn : n ≤ 16
  hm0 : mE m = 0
  hsl : m.sw.length ≤ 1000
  hll : l.length ≤ 1000
  hc : cE m l = 0
  hl : InR (4 * n) l
  hP : InR (4 * n) (permL m n)
  hN0 : 0 < N
  hN : nowL (permL m n) l N = l
  hN1 : N ≤ 10000
variable {O : CallF} (hq : Quiet O)
include hq
end Go.Ev
