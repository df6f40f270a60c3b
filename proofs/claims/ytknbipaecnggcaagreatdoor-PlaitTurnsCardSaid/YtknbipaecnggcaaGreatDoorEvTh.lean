/- Part of an evaluator of calls that is proved sound, and of what it gives about this program. No condition of its own. -/
import Derived.Test.YtknbipaecnggcaaGreatDoorEvTc
import Derived.Test.YtknbipaecnggcaaGreatDoorEvRe
set_option linter.unusedVariables false
set_option linter.unusedSimpArgs false
set_option linter.unusedSectionVars false
set_option maxRecDepth 100000
set_option maxHeartbeats 4000000
namespace Go.Ev
open Go.Proofs
theorem addN {a b : Nat} (h : a + b ≤ 4000000) : binI .add .i64 .i64 (a : Int) (b : Int) = some (.int .i64 ((a + b : Nat) : Int)) := by
 show some (Value.int .i64 (IntKind.i64.wrap ((a : Int) + b))) = _
 rw [wrap_id (by omega) (by omega)]
 rfl
theorem addI {a b : Int} (h : -4000000 ≤ a + b ∧ a + b ≤ 4000000) : binI .add .i64 .i64 a b = some (.int .i64 (a + b)) := by
 show some (Value.int .i64 (IntKind.i64.wrap (a + b))) = _
 rw [wrap_id (by omega) (by omega)]
theorem subI {a b : Int} (h : -4000000 ≤ a - b ∧ a - b ≤ 4000000) : binI .sub .i64 .i64 a b = some (.int .i64 (a - b)) := by
 show some (Value.int .i64 (IntKind.i64.wrap (a - b))) = _
 rw [wrap_id (by omega) (by omega)]
theorem tm1 {x n : Int} (h0 : 0 ≤ x) (h : x < n) : x.tmod n = x := Int.tmod_eq_of_lt h0 h
theorem tm2 {x n : Int} (h0 : n ≤ x) (h : x < 2 * n) : x.tmod n = x - n := by
 have hn : 0 < n := by omega
 rw [Int.tmod_eq_emod_of_nonneg (by omega), ← Int.sub_emod_right, Int.emod_eq_of_lt (by omega) (by omega)]
theorem tmb {z n : Int} (h : 0 < n) : -n < z.tmod n ∧ z.tmod n < n := ⟨Int.lt_tmod_of_pos z h, Int.tmod_lt_of_pos z h⟩
theorem tmm {x n : Int} (h0 : 0 ≤ x) (h : x < 2 * n) : x.tmod n = if x < n then x else x - n := by
 split
 · exact tm1 h0 (by assumption)
 · exact tm2 (by omega) h
def trK (n : Nat) (z : Int) : Nat := ((z.tmod n + n).tmod n).toNat
def cutK (n k : Nat) : Nat := if k = 0 then 0 else n - k
theorem trK_lt {n : Nat} (h : 0 < n) (z : Int) : trK n z < n ∧ (z.tmod n + n).tmod n = ((trK n z : Nat) : Int) := by
 have hb := tmb (z := z) (n := (n : Int)) (by omega)
 have he := tmm (x := z.tmod n + n) (n := (n : Int)) (by omega) (by omega)
 unfold trK
 rw [he]
 split <;> omega
theorem cut_eq {n : Nat} (h : 0 < n) (z : Int) : ((n : Int) - z.tmod n).tmod n = ((cutK n (trK n z) : Nat) : Int) ∧ cutK n (trK n z) < n := by
 have hb := tmb (z := z) (n := (n : Int)) (by omega)
 have he := tmm (x := z.tmod n + n) (n := (n : Int)) (by omega) (by omega)
 have hc := tmm (x := (n : Int) - z.tmod n) (n := (n : Int)) (by omega) (by omega)
 unfold trK cutK
 rw [he, hc]
 repeat' split
 all_goals omega
def rotL (l : List Int) (k : Nat) : List Int := l.drop (cutK l.length k) ++ l.take (cutK l.length k)
theorem rotL_len (l : List Int) (k : Nat) : (rotL l k).length = l.length := by
 unfold rotL
 rw [List.length_append, List.length_drop, List.length_take]
 omega
theorem rotL_get {l : List Int} {k j : Nat} (hk : k < l.length) (hj : j < l.length) : (rotL l k)[j]? = l[if j < k then j + l.length - k else j - k]? := by
 unfold rotL cutK
 rw [List.getElem?_append, List.length_drop]
 by_cases h0 : k = 0
 · subst h0
   rw [if_pos rfl, if_pos (by omega), if_neg (by omega), List.getElem?_drop]
   congr 1; omega
 · rw [if_neg h0]
   by_cases h : j < k
   · rw [if_pos (by omega), if_pos h, List.getElem?_drop]
     congr 1; omega
   · rw [if_neg (by omega), if_neg h, List.getElem?_take, if_pos (by omega)]
     congr 1; omega
section
variable {O : CallF} {T : List AV} {H H0 : AH} {ops : Array Oper} {o : Oper} {i : Nat} {π : List Stp} {K : List AV → AH → Prop}
theorem sing_own {b : Nat} {x : AB} (hb : b < 2 ^ 39) (h : H0.get b = some x) : (sing H0 (some b)).get b = some x := by
 unfold sing
 simp only [h]
 exact get_set_eq hb
theorem k_slFromU {t e : TypeId} {x l : Operand} {b n k : Nat} {cs : List AV} {e' : TypeId} {g : Nat} (h1 : ops.toList[i]? = some o) (ho : o.op = .slice t x (some l) none none) (hg : wantedA o ops T = true) [hu : TyS t e] [hs : Cell e] (hx : av T x = .slu b 0 n 1) (hl : av T l = iv k) (hkn : k < n)
   (hb : b < 2 ^ 39) (hgb : H0.get b = some (.cells cs e' g)) (hn : n ≤ cs.length) (hB : Lk H0 b) (hk : WK (ENV O) ops H0 π (putA T o.dst (.slu b k (n - k) 1)) H K) : WK (ENV O) ops H0 (.mob i :: π) T H K := by
 have hr : rdA T o = some b := by unfold rdA; rw [ho]; simp only [hx]
 refine k_mob h1 hg (r := .slu b k (n - k) 1) ?_ (fun d hd => by rw [hr] at hd; cases hd; exact hB) hk
 rw [hr]
 unfold mobEval
 rw [ho]
 have h2 := hu.u
 have h3 := hs.s
 have h4 := sing_own hb hgb
 simp only [ENV, hx, isV, Bool.false_eq_true, if_false, sliceA, boundA, hl, natA, Option.map_some, h2, h3, h4, Option.getD_none, Option.getD_some]
 rw [if_pos (by simp [Nat.ble_eq_true_of_le, Nat.blt_eq, hn, hkn, Nat.le_of_lt hkn])]
 simp
theorem k_slToU {t e : TypeId} {x l : Operand} {b n k : Nat} {cs : List AV} {e' : TypeId} {g : Nat} (h1 : ops.toList[i]? = some o) (ho : o.op = .slice t x none (some l) none) (hg : wantedA o ops T = true) [hu : TyS t e] [hs : Cell e] (hx : av T x = .slu b 0 n 1) (hl : av T l = iv k)
   (hb : b < 2 ^ 39) (hgb : H0.get b = some (.cells cs e' g)) (hn : k ≤ cs.length) (hB : Lk H0 b) (hk : WK (ENV O) ops H0 π (putA T o.dst (.slu b 0 k 1)) H K) : WK (ENV O) ops H0 (.mob i :: π) T H K := by
 have hr : rdA T o = some b := by unfold rdA; rw [ho]; simp only [hx]
 refine k_mob h1 hg (r := .slu b 0 k 1) ?_ (fun d hd => by rw [hr] at hd; cases hd; exact hB) hk
 rw [hr]
 unfold mobEval
 rw [ho]
 have h2 := hu.u
 have h3 := hs.s
 have h4 := sing_own hb hgb
 simp only [ENV, hx, isV, Bool.false_eq_true, if_false, sliceA, boundA, hl, natA, Option.map_some, h2, h3, h4, Option.getD_none, Option.getD_some]
 rw [if_pos (by simp [Nat.ble_eq_true_of_le, hn])]
 simp
theorem first_slu2 {H : AH} {b c m : Nat} {l : List Int} (h : H.get b = some (.cells (ivs l) 3 1)) (hm : c + m ≤ l.length) : firstA 1 m (.slu b c m 1) H = some (ivs ((l.drop c).take m)) := by
 simp only [firstA, h]
 rw [if_pos (Nat.ble_eq_true_of_le (by rw [ivs_length]; omega))]
 simp [ivs, List.map_drop, List.map_take]
theorem o_appendL {K : AV → AH → Prop} {c : Call} {t xt e' : TypeId} {s x : Operand} {cs new : List AV} {n b : Nat} (ho : o.op = .call c) (hg : wantedA o ops T = true) (hc : c.callee = .builtin .append) (hargs : c.args.toList = [s, x]) (ht : c.argTypes.toList = [t, xt]) [hu : TyS t 3] [hux : TyS xt e']
   (hlen : cs.length + n ≤ 2 ^ 30) (hr : H.next < 2 ^ 39) (hlx : lenA (av T x) = some n) (hfx : firstA 1 n (av T x) H = some new) (h1 : new.all AV.one = true) (hnl : new.length = n) (hs0 : av T s = .slu b 0 cs.length 1) (hb39 : b < 2 ^ 39) (hgb : H.get b = some (.cells cs 3 1))
   (hk : K (.slu H.next 0 (cs.length + n) 1) ((H.set b none).add (.cells (cs ++ new) 3 1))) : WOp (ENV O) ops o T H K := by
 have hlt : Nat.blt H.next (2 ^ 39) = true := Nat.ble_eq_true_of_le hr
 have hz : Zero 3 (.int .i64 0) := inferInstance
 have hs : Cell 3 := inferInstance
 have ht0 := arg0 ht
 have ht1 := arg1 ht
 have hux' := hux.u
 have hu' := hu.u
 have hi := hz.i
 have hss := hs.s
 have hzz := hz.z
 have hz0 : (Value.int .i64 0).cells.size = 1 := by rw [hz.c]; rfl
 have e1 : Nat.ble ((cs.length + n) * (ti 3).bytes) (2 ^ 40) = true := Nat.ble_eq_true_of_le (by
   have := Nat.mul_le_mul hlen (Nat.le_of_ble_eq_true hz.b)
   exact Nat.le_trans this (by decide))
 have e2 : Nat.ble (cs.length + n) (2 ^ 40) = true := Nat.ble_eq_true_of_le (Nat.le_trans hlen (by decide))
 have hf' : firstA (0 + 1) n (av T x) H = some new := hfx
 have hall : (new.all AV.one && Nat.beq new.length (n * (0 + 1))) = true := by rw [h1, hnl]; simp
 refine wop_val (by rw [ho]; simp only [still, hc]) hg (r := .slu H.next 0 (cs.length + n) 1) (H' := (H.set b none).add (.cells (cs ++ new) 3 1)) ?_ (Nat.le_succ _) hk
 unfold opEval; rw [ho]
 simp only [ENV, oCall, hc, oBuiltin, hargs, appendA, ht0, ht1, hu', hux', isIntD, hi, hss, hzz, hz0, hlx]
 rw [if_pos (by decide), hf']
 simp only
 rw [if_pos hall]
 simp only [hs0, hgb]
 rw [if_pos (by rw [e1, e2]; simp)]
 simp only [newU, show (H.set b none).next = H.next from rfl, hlt, if_true, Option.map_some]
end
def GrowsO (O : CallF) : Prop := ∀ (H : AH) (n : Nat), 1 ≤ n → n ≤ 1000000 → H.next < 2 ^ 39 → O 170 [.v (.slice none 0 0), iv (n : Nat)] H = some (.slu H.next 0 0 1, H.add (.cells [] 3 1))
def cat2 (l : List Int) (c i : Nat) : List Int := if i = 0 then [] else if i = 1 then l.drop c else l.drop c ++ l.take c
variable {O : CallF} (hq : Quiet O) (hG : GrowsO O)
include hq hG
theorem c137 (H : AH) (xb b c : Nat) (l : List Int) (hc : c < l.length) (hl : l.length ≤ 1000) (hb : b < H.next) (hgb : H.get b = some (.cells (ivs l) 3 1)) (hxb : xb < H.next) (hgx : H.get xb = some (.cells [.slu b c (l.length - c) 1, .slu b 0 c 1] 22 0)) (hr : H.next + 10 < 2 ^ 39) (K : AV → AH → Prop)
   (hk : ∀ H' d, Keeps H H' → H'.next ≤ H.next + 3 → H.next ≤ d → d < H'.next → H'.get d = some (.cells (ivs (l.drop c ++ l.take c)) 3 1) → K (.slu d 0 l.length 1) H') : Ca (ENV O) 137 [.slc xb 0 2 2] H K := by
 refine ca_intro (hq _ _ _ rfl) (fn := Tryz.f137) (by rfl) rfl ?_
 have hS : Sl H (.slc xb 0 2 2) [.slu b c (l.length - c) 1, .slu b 0 c 1] := ⟨rfl, by omega, _, _, _, hgx, fun j v hv => by rw [Nat.zero_add]; exact hv⟩
 have hS0 : Sl H (.slu b c (l.length - c) 1) (ivs (l.drop c)) := ⟨by rw [ivs_length, List.length_drop], by omega, rfl, _, _, _, hgb, fun j v hv => by simp only [ivs, List.getElem?_map, List.getElem?_drop] at hv ⊢; exact hv⟩
 have hS1 : Sl H (.slu b 0 c 1) (ivs (l.take c)) := ⟨by rw [ivs_length, List.length_take]; omega, by omega, rfl, _, _, _, hgb, fun j v hv => by
   simp only [ivs, List.getElem?_map, List.getElem?_take, Nat.zero_add] at hv ⊢
   split at hv
   · exact hv
   · cases hv⟩
 have r0 : H.next < 2 ^ 39 := by omega
 repeat (first | apply qN | refine qM rfl rfl ?_ | apply qR | apply qS)
 refine wops_cons (o_len rfl rfl rfl rfl rfl hS ?_)
 repeat (first | apply qN | refine qM rfl rfl ?_ | apply qB)
 refine wp_loop (fun q T M H' => ∃ (i s : Nat) (Y : List AV), q = 2 - i ∧ i ≤ 2 ∧ H' = H ∧ s = (if i = 0 then 0 else if i = 1 then l.length - c else l.length) ∧ M = [] ∧ T = (.slc xb 0 2 2 :: lget Y 0 :: lget Y 1 :: iv (s : Nat) :: lget Y 2 :: lget Y 3 :: lget Y 4 :: lget Y 5 :: lget Y 6 :: .slc xb 0 2 2 :: iv (2 : Nat) :: iv (i : Nat) :: lget Y 7 :: lget Y 8 :: lget Y 9 :: lget Y 10 :: lget Y 11 :: lget Y 12 :: lget Y 13 :: lget Y 14 :: lget Y 15 :: lget Y 16 :: lget Y 17 :: lget Y 18 :: lget Y 19 :: lget Y 20 :: lget Y 21 :: lget Y 22 :: lget Y 23 :: lget Y 24 :: lget Y 25 :: lget Y 26 :: lget Y 27 :: lget Y 28 :: lget Y 29 :: lget Y 30 :: [])) 2
   ⟨0, 0, [_,_,_,_,_,_,_,_,_,_,_,_,_,_,_,_,_,_,_,_,_,_,_,_,_,_,_,_,_,_,_], rfl, by decide, rfl, rfl, rfl, rfl⟩ ?_
 rintro q T M H' ⟨i, s, Y, hq1, hi, rfl, hs, rfl, rfl⟩
 repeat (first | apply qR | apply qS)
 refine wops_cons (wop_cmp rfl rfl rfl rfl rfl (fun h => ?_) (fun h => ?_))
 · have h : (i : Int) < (2 : Nat) := of_decide_eq_true h
   obtain rfl | rfl : i = 0 ∨ i = 1 := by omega
   · have hs : s = 0 := hs
     subst hs
     repeat (first | apply qN | refine qT rfl ?_ | apply qR | apply qS | apply qK | apply qB)
     refine wops_cons (o_indexOwn rfl rfl rfl rfl (by decide) ?_)
     refine wops_cons (o_load rfl rfl (at_ptr (by omega) hgx rfl) ?_)
     repeat (first | apply qN | refine qM rfl rfl ?_ | refine zq5 rfl rfl rfl rfl rfl ‹_› ?_ | apply qR | apply qS)
     refine wops_cons (wop_bin (op := .add) (v := .int .i64 ((0 + (l.drop c).length : Nat) : Int)) rfl rfl rfl rfl (addN (by rw [List.length_drop]; omega)) ?_)
     repeat (first | apply qN | refine qM rfl rfl ?_ | apply qR | apply qS)
     refine wops_cons (wop_bin (op := .lss) (v := .bool false) rfl rfl rfl rfl (by first | (simp [binI]; done) | (simp [binI]; omega)) ?_)
     repeat (first | apply qN | refine qM rfl rfl ?_ | refine zq4 rfl rfl rfl rfl (inc (by omega)) ?_ | refine qF rfl ?_ | apply qR | apply qK)
     exact ⟨1, by omega, 1, _, [_,_,_,_,_,_,_,_,_,_,_,_,_,_,_,_,_,_,_,_,_,_,_,_,_,_,_,_,_,_,_], rfl, by decide, rfl, by rw [List.length_drop]; simp, rfl, rfl⟩
   · have hs : s = l.length - c := hs
     subst hs
     repeat (first | apply qN | refine qT rfl ?_ | apply qR | apply qS | apply qK | apply qB)
     refine wops_cons (o_indexOwn rfl rfl rfl rfl (by decide) ?_)
     refine wops_cons (o_load rfl rfl (at_ptr (by omega) hgx rfl) ?_)
     repeat (first | apply qN | refine qM rfl rfl ?_ | refine zq5 rfl rfl rfl rfl rfl ‹_› ?_ | apply qR | apply qS)
     refine wops_cons (wop_bin (op := .add) (v := .int .i64 ((l.length - c + (l.take c).length : Nat) : Int)) rfl rfl rfl rfl (addN (by rw [List.length_take]; omega)) ?_)
     repeat (first | apply qN | refine qM rfl rfl ?_ | apply qR | apply qS)
     refine wops_cons (wop_bin (op := .lss) (v := .bool false) rfl rfl rfl rfl (by first | (simp [binI]; done) | (simp [binI]; omega)) ?_)
     repeat (first | apply qN | refine qM rfl rfl ?_ | refine zq4 rfl rfl rfl rfl (inc (by omega)) ?_ | refine qF rfl ?_ | apply qR | apply qK)
     exact ⟨0, by omega, 2, _, [_,_,_,_,_,_,_,_,_,_,_,_,_,_,_,_,_,_,_,_,_,_,_,_,_,_,_,_,_,_,_], rfl, by decide, rfl, by rw [List.length_take]; simp; omega, rfl, rfl⟩
 · have h : ¬ ((i : Int) < (2 : Nat)) := of_decide_eq_false h
   obtain rfl : i = 2 := by omega
   have hs : s = l.length := hs
   subst hs
   repeat (first | apply qN | refine qM rfl rfl ?_ | refine qF rfl ?_ | apply qR | apply qS | apply qE)
   refine wops_cons (wop_callF rfl rfl rfl (fn := Tryz.f170) (by rfl) ?_)
   refine ca_oracle (hG H' l.length (by omega) (by omega) (by omega)) ⟨Nat.le_succ _, ?_⟩
   refine WOps.mem (fun H1 => Keeps H' H1 ∧ H1.next = H'.next + 1 ∧ H1.get H'.next = some (.cells [] 3 1)) ⟨(Keeps.refl H').add _ r0, rfl, get_add_eq r0⟩ ?_
   rintro H1 ⟨k1, n1, g1⟩
   have hS' : Sl H1 (.slc xb 0 2 2) [.slu b c (l.length - c) 1, .slu b 0 c 1] := hS.keep (fun d hd => by cases hd; exact hxb) k1
   repeat (first | apply qN | refine qM rfl rfl ?_ | apply qR | apply qS)
   refine wops_cons (o_len rfl rfl rfl rfl rfl hS' ?_)
   repeat (first | apply qN | refine qM rfl rfl ?_ | apply qB)
   refine wp_loop (fun q T M H2 => ∃ (i d : Nat) (Y : List AV), q = 2 - i ∧ i ≤ 2 ∧ Keeps H' H2 ∧ H2.next = H'.next + 1 + i ∧ H'.next ≤ d ∧ d < H2.next ∧ H2.get d = some (.cells (ivs (cat2 l c i)) 3 1) ∧ M = [] ∧ T = (lget Y 0 :: lget Y 1 :: lget Y 2 :: lget Y 3 :: lget Y 4 :: lget Y 5 :: .slu d 0 (cat2 l c i).length 1 :: lget Y 6 :: lget Y 7 :: lget Y 8 :: lget Y 9 :: lget Y 10 :: lget Y 11 :: lget Y 12 :: lget Y 13 :: lget Y 14 :: lget Y 15 :: lget Y 16 :: lget Y 17 :: lget Y 18 :: lget Y 19 :: lget Y 20 :: lget Y 21 :: lget Y 22 :: lget Y 23 :: .slc xb 0 2 2 :: iv (2 : Nat) :: iv (i : Nat) :: lget Y 24 :: lget Y 25 :: lget Y 26 :: lget Y 27 :: lget Y 28 :: lget Y 29 :: lget Y 30 :: lget Y 31 :: [])) 2
     ⟨0, H'.next, [_,_,_,_,_,_,_,_,_,_,_,_,_,_,_,_,_,_,_,_,_,_,_,_,_,_,_,_,_,_,_,_], rfl, by decide, k1, n1, Nat.le_refl _, by omega, g1, rfl, rfl⟩ ?_
   rintro q T M H2 ⟨i, d, Y, hq2, hi2, k2, n2, hd1, hd2, gd, rfl, rfl⟩
   have hd39 : d < 2 ^ 39 := by omega
   have r2 : H2.next < 2 ^ 39 := by omega
   have gb2 := (k2.get b hb).trans hgb
   have gx2 := (k2.get xb hxb).trans hgx
   repeat (first | apply qR | apply qS)
   refine wops_cons (wop_cmp rfl rfl rfl rfl rfl (fun h => ?_) (fun h => ?_))
   · have h : (i : Int) < (2 : Nat) := of_decide_eq_true h
     have hcl : (cat2 l c i).length + 1000 ≤ 2 ^ 30 := by
       unfold cat2
       split
       · decide
       · split
         · rw [List.length_drop]; omega
         · rw [List.length_append, List.length_drop, List.length_take]; omega
     obtain rfl | rfl : i = 0 ∨ i = 1 := by omega
     · repeat (first | apply qN | refine qT rfl ?_ | apply qR | apply qS | apply qK | apply qB)
       refine wops_cons (o_indexOwn rfl rfl rfl rfl (by decide) ?_)
       refine wops_cons (o_load rfl rfl (at_ptr (by omega) gx2 rfl) ?_)
       repeat (first | apply qN | refine qM rfl rfl ?_ | apply qR)
       refine wops_cons (o_appendL (n := l.length - c) (new := ivs ((l.drop c).take (l.length - c))) (cs := ivs (cat2 l c 0)) rfl rfl rfl rfl rfl (by rw [ivs_length]; omega) r2 rfl (first_slu2 gb2 (by omega)) (ivs_one _) (by rw [ivs_length, List.length_take, List.length_drop]; omega) (by rw [ivs_length]; rfl) hd39 gd ?_)
       refine WOps.mem (fun H3 => Keeps H' H3 ∧ H3.next = H2.next + 1 ∧ H3.get H2.next = some (.cells (ivs (cat2 l c 1)) 3 1)) ⟨(k2.set _ hd1 hd39).add _ r2, rfl, ?_⟩ ?_
       · refine (get_add_eq (H := H2.set d none) r2).trans ?_
         rw [show (l.drop c).take (l.length - c) = l.drop c by rw [← List.length_drop]; exact List.take_length]
         rfl
       rintro H3 ⟨k3, n3, g3⟩
       rw [show (ivs (cat2 l c 0)).length + (l.length - c) = (cat2 l c 1).length by show 0 + _ = (l.drop c).length; rw [List.length_drop, Nat.zero_add]]
       repeat (first | apply qN | refine qM rfl rfl ?_ | refine zq4 rfl rfl rfl rfl (inc (by omega)) ?_ | apply qR)
       exact ⟨1, by omega, 1, H2.next, [_,_,_,_,_,_,_,_,_,_,_,_,_,_,_,_,_,_,_,_,_,_,_,_,_,_,_,_,_,_,_,_], rfl, by decide, k3, by omega, by omega, by omega, g3, rfl, rfl⟩
     · repeat (first | apply qN | refine qT rfl ?_ | apply qR | apply qS | apply qK | apply qB)
       refine wops_cons (o_indexOwn rfl rfl rfl rfl (by decide) ?_)
       refine wops_cons (o_load rfl rfl (at_ptr (by omega) gx2 rfl) ?_)
       repeat (first | apply qN | refine qM rfl rfl ?_ | apply qR)
       refine wops_cons (o_appendL (n := c) (new := ivs ((l.drop 0).take c)) (cs := ivs (cat2 l c 1)) rfl rfl rfl rfl rfl (by rw [ivs_length]; omega) r2 rfl (first_slu2 gb2 (by omega)) (ivs_one _) (by rw [ivs_length, List.length_take, List.length_drop]; omega) (by rw [ivs_length]; rfl) hd39 gd ?_)
       refine WOps.mem (fun H3 => Keeps H' H3 ∧ H3.next = H2.next + 1 ∧ H3.get H2.next = some (.cells (ivs (cat2 l c 2)) 3 1)) ⟨(k2.set _ hd1 hd39).add _ r2, rfl, ?_⟩ ?_
       · refine (get_add_eq (H := H2.set d none) r2).trans ?_
         show some (AB.cells (ivs (l.drop c) ++ ivs (l.take c)) 3 1) = some (AB.cells (ivs (l.drop c ++ l.take c)) 3 1)
         rw [show ivs (l.drop c) ++ ivs (l.take c) = ivs (l.drop c ++ l.take c) by simp [ivs]]
       rintro H3 ⟨k3, n3, g3⟩
       rw [show (ivs (cat2 l c 1)).length + c = (cat2 l c 2).length by show (ivs (l.drop c)).length + c = (l.drop c ++ l.take c).length; rw [ivs_length, List.length_append, List.length_take]; omega]
       repeat (first | apply qN | refine qM rfl rfl ?_ | refine zq4 rfl rfl rfl rfl (inc (by omega)) ?_ | apply qR)
       exact ⟨0, by omega, 2, H2.next, [_,_,_,_,_,_,_,_,_,_,_,_,_,_,_,_,_,_,_,_,_,_,_,_,_,_,_,_,_,_,_,_], rfl, by decide, k3, by omega, by omega, by omega, g3, rfl, rfl⟩
   · have h : ¬ ((i : Int) < (2 : Nat)) := of_decide_eq_false h
     obtain rfl : i = 2 := by omega
     rw [show (cat2 l c 2).length = l.length by show (l.drop c ++ l.take c).length = _; rw [List.length_append, List.length_drop, List.length_take]; omega]
     repeat (first | apply qN | refine qM rfl rfl ?_ | refine qF rfl ?_ | apply qR | apply qS | apply qE)
     refine wp_ret ?_
     exact ⟨_, _, rfl, hk H2 d k2 (by omega) hd1 hd2 gd⟩
theorem c91 (H : AH) (b : Nat) (l : List Int) (z : Int) (hl0 : 0 < l.length) (hl : l.length ≤ 1000) (hb : b < H.next) (hgb : H.get b = some (.cells (ivs l) 3 1)) (hr : H.next + 20 < 2 ^ 39) (K : AV → AH → Prop)
   (hk : ∀ H' d, Keeps H H' → H'.next ≤ H.next + 4 → H.next ≤ d → d < H'.next → H'.get d = some (.cells (ivs (rotL l (trK l.length z))) 3 1) → K (.slu d 0 l.length 1) H') : Ca (ENV O) 91 [.slu b 0 l.length 1, iv z] H K := by
 refine ca_intro (hq _ _ _ rfl) (fn := Tryz.f91) (by rfl) rfl ?_
 have hS : Sl H (.slu b 0 l.length 1) (ivs l) := ⟨by rw [ivs_length], by omega, rfl, _, _, _, hgb, fun j v hv => by rw [Nat.zero_add]; exact hv⟩
 have hA : Lk H b := ⟨hb, by rw [hgb]; simp [sameBlk, beqs_ivs]⟩
 have hb39 : b < 2 ^ 39 := by omega
 have hne : (l.length : Int) ≠ 0 := by omega
 obtain ⟨hcut, hclt⟩ := cut_eq hl0 z
 have hbd := tmb (z := z) (n := (l.length : Int)) (by omega)
 unfold rotL at hk
 have hnz : binI .eql .i64 .i64 (l.length : Int) 0 = some (.bool false) := by
   generalize (l.length : Int) = m at hne
   simp [binI, hne]
 repeat (first | apply qN | refine qM rfl rfl ?_ | refine zq5 rfl rfl rfl rfl rfl ‹_› ?_ | apply qR | apply qS)
 refine wops_cons (wop_bin (op := .eql) (v := .bool false) rfl rfl rfl rfl hnz ?_)
 repeat (first | apply qN | refine qM rfl rfl ?_ | refine qF rfl ?_ | apply qR | apply qS | apply qK)
 refine wops_cons (wop_rem rfl rfl rfl rfl hne ?_)
 refine wops_cons (wop_bin (op := .sub) (v := .int .i64 ((l.length : Int) - z.tmod l.length)) rfl rfl rfl rfl (subI (by omega)) ?_)
 repeat (first | refine qM rfl rfl ?_)
 refine wops_cons (wop_rem rfl rfl rfl rfl hne ?_)
 rw [hcut]
 generalize cutK l.length (trK l.length z) = c at hclt hk
 repeat (first | apply qN | refine qM rfl rfl ?_ | apply qS)
 refine wp_drawK rfl ?_
 repeat (first | refine k_move rfl rfl rfl ?_)
 refine k_slFromU rfl rfl rfl rfl rfl hclt hb39 hgb (by rw [ivs_length]; omega) hA ?_
 repeat (first | refine k_move rfl rfl rfl ?_)
 refine k_slToU rfl rfl rfl rfl rfl hb39 hgb (by rw [ivs_length]; omega) hA ?_
 have r0 : H.next < 2 ^ 39 := by omega
 refine k_build2 rfl rfl rfl rfl rfl r0 ?_
 refine WK.mem (fun H1 => Keeps H H1 ∧ H1.next = H.next + 1 ∧ H1.get H.next = some (.cells [.slu b c (l.length - c) 1, .slu b 0 c 1] 22 0)) ⟨(Keeps.refl H).add _ r0, rfl, get_add_eq r0⟩ ?_
 rintro H1 ⟨k1, n1, g1⟩
 refine k_call rfl rfl rfl (fun b h => by cases h) (wop_callF rfl rfl rfl (fn := Tryz.f137) (by rfl) ?_)
 refine c137 hq hG H1 H.next b c l hclt hl (by omega) ((k1.get b hb).trans hgb) (by omega) g1 (by omega) _ fun H2 d k2 n2 hd1 hd2 gd => ⟨k2.nx, k1.trans k2, ?_⟩
 repeat (first | refine k_nil ?_ | refine k_assign rfl rfl rfl ?_)
 refine wp_ret ?_
 exact ⟨_, _, rfl, hk H2 d (k1.trans k2) (by omega) (by omega) hd2 gd⟩
theorem cTurned (H : AH) (y : AV) (l : List Int) (z : Int) (hy : Ap H y l) (hl : l.length ≤ 1000) (hr : H.next + 5000 < 2 ^ 39) (K : AV → AH → Prop)
   (hke : chkE l ≠ 0 → ∀ H', Keeps H H' → H'.next ≤ H.next + 1100 → K (.tup [.v (.slice none 0 0), iv (chkE l)]) H')
   (hk : chkE l = 0 → ∀ H' d, Keeps H H' → H'.next ≤ H.next + 1100 → H.next ≤ d → d < H'.next → H'.get d = some (.cells (ivs (rotL l (trK l.length z))) 3 1) → K (.tup [.slu d 0 l.length 1, iv 0]) H') : Ca (ENV O) 33 [y, iv z] H K := by
 refine ca_intro (hq _ _ _ rfl) (fn := Tryz.f33) (by rfl) rfl ?_
 repeat (first | apply qN | refine qM rfl rfl ?_ | apply qR | apply qS)
 refine wops_cons (wop_callF rfl rfl rfl (fn := Tryz.f17) (by rfl) ?_)
 refine cChk hq H y l hy.ky.sl hy.ky.old hl (by omega) _ fun H1 k1 n1 => ⟨k1.nx, ?_⟩
 by_cases h0 : chkE l = 0
 · obtain ⟨h4, h64⟩ := chkE_len h0
   have hne : l ≠ [] := fun e => by rw [e] at h4; simp at h4
   have hG1 := (hy.keep k1).gr hne
   rcases hG1 with ⟨_, e⟩ | ⟨b, hb, hb9, rfl, hgb⟩
   · exact absurd (by cases l with | nil => rfl | cons => simp [ivs] at e) hne
   have hk := hk h0
   rw [h0, ivs_length]
   repeat (first | apply qN | refine qM rfl rfl ?_ | apply qR | apply qS)
   refine wops_cons (wop_bin (op := .neq) (v := .bool false) rfl rfl rfl rfl rfl ?_)
   repeat (first | apply qN | refine qM rfl rfl ?_ | refine qF rfl ?_ | apply qR | apply qS | apply qK)
   refine wops_cons (wop_callF rfl rfl rfl (fn := Tryz.f91) (by rfl) ?_)
   refine c91 hq hG H1 b l z (by omega) hl hb hgb (by omega) _ fun H2 d k2 n2 hd1 hd2 gd => ⟨k2.nx, ?_⟩
   repeat (first | apply qN | refine qM rfl rfl ?_)
   refine wp_ret ?_
   exact ⟨_, _, rfl, hk H2 d (k1.trans k2) (by omega) (by have := k1.nx; omega) hd2 gd⟩
 · have hke := hke h0 H1 k1 (by omega)
   generalize chkE l = w at h0 hke ⊢
   repeat (first | apply qN | refine qM rfl rfl ?_ | apply qR | apply qS)
   refine wops_cons (wop_bin (op := .neq) (v := .bool true) rfl rfl rfl rfl (by simp [binI, h0]) ?_)
   repeat (first | apply qN | refine qM rfl rfl ?_ | refine qT rfl ?_ | apply qR | apply qS)
   refine wp_ret ?_
   exact ⟨_, _, rfl, hke⟩
end Go.Ev
namespace Go.Ev
open Go.Proofs
section
variable {O : CallF} {T : List AV} {H H0 : AH} {ops : Array Oper} {o : Oper} {i : Nat} {π : List Stp} {K : List AV → AH → Prop} {B : Nat → Nat → Prop}
theorem y_rem {t yt : TypeId} {x y : Operand} {k : IntKind} {a b : Int} (h1 : ops.toList[i]? = some o) (ho : o.op = .binOp .rem t x y yt) (hg : wantedA o ops T = true) (hx : av T x = .v (.int k a)) (hy : av T y = .v (.int k b)) (hb : b ≠ 0) (hk : WY (ENV O) ops H0 B π (putA T o.dst (.v (.int k (a.tmod b)))) H K) : WY (ENV O) ops H0 B (.mob i :: π) T H K :=
 y_0 h1 (by unfold looksB; rw [ho]) hg (wd_rem h1 ho hg hx hy hb rfl) hk
theorem y_indexO {t e : TypeId} {x y : Operand} {j b n cap : Nat} (h1 : ops.toList[i]? = some o) (ho : o.op = .indexAddr t x y) (hg : wantedA o ops T = true) [hu : TyS t e] [hs : Cell e] (hx : av T x = .slc b 0 n cap) (hy : av T y = iv j) (hl : j < n)
   (hk : WY (ENV O) ops H0 B π (putA T o.dst (.ptr b j)) H K) : WY (ENV O) ops H0 B (.mob i :: π) T H K := by
 refine y_mob (r := .ptr b j) h1 hg ?_ (fun b hb => by rw [rdA_none (by unfold looksB; rw [ho])] at hb; cases hb) hk
 unfold mobEval
 rw [ho]
 have h2 := hu.u
 have h3 := hs.s
 have hm : indexAddrA (ENV O).P t (.slc b 0 n cap) (.v (.int .i64 (j : Int))) = some (.ptr b j) := by
   unfold indexAddrA
   simp only [ENV, natA, h2, h3, show Nat.blt j n = true from Nat.ble_eq_true_of_le hl, if_true, Nat.mul_one, Nat.zero_add]
 simp only [hx, hy, isV, hm, Bool.false_eq_true, if_false]
end
def srcK (n k j : Nat) : Nat := if j < k then j + n - k else j - k
def dstK (n k i : Nat) : Nat := if i + k < n then i + k else i + k - n
theorem dst_eq {n k i : Nat} (hk : k < n) (hi : i < n) : ((i + k : Nat) : Int).tmod n = ((dstK n k i : Nat) : Int) ∧ dstK n k i < n ∧ srcK n k (dstK n k i) = i := by
 have he := tmm (x := ((i + k : Nat) : Int)) (n := (n : Int)) (by omega) (by omega)
 unfold dstK srcK
 rw [he]
 refine ⟨?_, ?_, ?_⟩
 all_goals (repeat' split)
 all_goals omega
theorem src_ok {n k j : Nat} (hk : k < n) (hj : j < n) : srcK n k j < n ∧ dstK n k (srcK n k j) = j := by
 unfold dstK srcK
 refine ⟨?_, ?_⟩
 all_goals (repeat' split)
 all_goals omega
theorem rotL_src {l : List Int} {k j : Nat} (hk : k < l.length) (hj : j < l.length) : (rotL l k)[j]? = l[srcK l.length k j]? := rotL_get hk hj
theorem trK_nat {n i : Nat} (h : i < n) : trK n (i : Int) = i := by
 unfold trK
 rw [tm1 (x := (i : Int)) (by omega) (by omega), tm2 (by omega) (by omega)]
 omega
def alkG (l l2 : List Int) : Nat → Nat → Int
 | _, 0 => -1
 | i, m + 1 => if rotL l i = l2 then (i : Int) else alkG l l2 (i + 1) m
def alkZ (l l2 : List Int) : Int := alkG l l2 0 l.length
theorem rot_iff {l l2 : List Int} {k : Nat} (hk : k < l.length) (hl : l2.length = l.length) : rotL l k = l2 ↔ ∀ s, s < l.length → l2[dstK l.length k s]? = l[s]? := by
 constructor
 · rintro rfl s hs
   obtain ⟨_, h2, h3⟩ := dst_eq hk hs
   rw [rotL_src hk h2, h3]
 · intro h
   refine List.ext_getElem? fun j => ?_
   by_cases hj : j < l.length
   · obtain ⟨h1, h2⟩ := src_ok hk hj
     have := h _ h1
     rw [h2] at this
     rw [rotL_src hk hj, this]
   · rw [List.getElem?_eq_none (by rw [rotL_len]; omega), List.getElem?_eq_none (by omega)]
def eqE (l l2 : List Int) : Int := if decide ((l.length : Int) = l2.length) = true then 0 else 2
def akE (l l2 : List Int) : Int := firstNZ [chkE l, chkE l2, eqE l l2]
theorem first3 {a b c : Int} (h : firstNZ [a, b, c] = 0) : a = 0 ∧ b = 0 ∧ c = 0 := by
 rw [firstNZ_cons] at h
 by_cases ha : a = 0
 · rw [if_neg (by simpa using ha)] at h
   exact ⟨ha, first2 h⟩
 · rw [if_pos ha] at h; exact absurd h ha
variable {O : CallF} (hq : Quiet O)
include hq
theorem cRTurned (H : AH) (yv : Value) (l : List Int) (z : Int) (hy : Sl H (.v yv) (ivs l)) (hl0 : 0 < l.length) (hl : l.length ≤ 1000) (hr : H.next + 10 < 2 ^ 39) (K : AV → AH → Prop)
   (hk : ∀ H', Keeps H H' → H'.next = H.next + 1 → H'.get H.next = some (.cells (ivs (rotL l (trK l.length z))) 3 0) → K (.slc H.next 0 l.length l.length) H') : Ca (ENV O) 35 [.v yv, iv z] H K := by
 refine ca_intro (hq _ _ _ rfl) (fn := Tryz.f35) (by rfl) rfl ?_
 have r0 : H.next < 2 ^ 39 := by omega
 have hn0 : (l.length : Int) ≠ 0 := by omega
 obtain ⟨hk0, htr⟩ := trK_lt hl0 z
 have hbd := tmb (z := z) (n := (l.length : Int)) (by omega)
 generalize trK l.length z = k at hk hk0 htr
 repeat (first | apply qN | refine qM rfl rfl ?_ | refine zq5 rfl rfl rfl rfl rfl ‹_› ?_ | apply qR | apply qS)
 refine wops_cons (o_make (n := l.length) rfl rfl rfl rfl (by omega) r0 ?_)
 refine WOps.mem (fun H1 => Keeps H H1 ∧ H1.next = H.next + 1 ∧ H1.get H.next = some (.cells (ivs (List.replicate l.length 0)) 3 0)) ⟨(Keeps.refl H).add _ r0, rfl, ?_⟩ ?_
 · rw [← ivs_rep]; exact get_add_eq r0
 rintro H1 ⟨k1, n1, g1⟩
 repeat (first | apply qN | refine qM rfl rfl ?_ | apply qR | apply qS | apply qB)
 refine wp_loop (fun q T M H' => ∃ (i : Nat) (cur : List Int) (Y : List AV), q = l.length - i ∧ i ≤ l.length ∧ Keeps H H' ∧ H'.next = H.next + 1 ∧ cur.length = l.length ∧ (∀ j, j < l.length → srcK l.length k j < i → cur[j]? = l[srcK l.length k j]?) ∧ H'.get H.next = some (.cells (ivs cur) 3 0) ∧ M = [] ∧ T = (.v yv :: iv z :: lget Y 0 :: lget Y 1 :: lget Y 2 :: iv (l.length : Nat) :: .slc H.next 0 l.length l.length :: iv (i : Nat) :: lget Y 3 :: lget Y 4 :: lget Y 5 :: lget Y 6 :: lget Y 7 :: lget Y 8 :: lget Y 9 :: lget Y 10 :: lget Y 11 :: lget Y 12 :: lget Y 13 :: lget Y 14 :: lget Y 15 :: lget Y 16 :: lget Y 17 :: lget Y 18 :: lget Y 19 :: lget Y 20 :: lget Y 21 :: lget Y 22 :: lget Y 23 :: lget Y 24 :: lget Y 25 :: lget Y 26 :: lget Y 27 :: lget Y 28 :: lget Y 29 :: [])) l.length
   ⟨0, List.replicate l.length 0, [_,_,_,_,_,_,_,_,_,_,_,_,_,_,_,_,_,_,_,_,_,_,_,_,_,_,_,_,_,_], rfl, Nat.zero_le _, k1, n1, List.length_replicate, (fun j hj h => by omega), g1, rfl, rfl⟩ ?_
 rintro q T M H2 ⟨i, cur, Y, hq2, hi, k2, n2, hcl, hcur, g2, rfl, rfl⟩
 repeat (first | refine qM rfl rfl ?_ | apply qR | apply qS)
 refine wops_cons (wop_cmp rfl rfl rfl rfl rfl (fun h => ?_) (fun h => ?_))
 rotate_left
 · have h : ¬ ((i : Int) < (l.length : Nat)) := of_decide_eq_false h
   have e : i = l.length := by omega
   subst e
   have hcr : cur = rotL l k := by
     refine List.ext_getElem? fun j => ?_
     by_cases hj : j < l.length
     · rw [rotL_src hk0 hj]
       exact hcur j hj (src_ok hk0 hj).1
     · rw [List.getElem?_eq_none (by omega), List.getElem?_eq_none (by rw [rotL_len]; omega)]
   rw [hcr] at g2
   repeat (first | apply qN | refine qM rfl rfl ?_ | refine qF rfl ?_ | apply qR | apply qS | apply qE)
   refine wp_ret ?_
   exact ⟨_, _, rfl, hk H2 k2 n2 g2⟩
 have hi' : i < l.length := by have h : (i : Int) < (l.length : Nat) := of_decide_eq_true h; omega
 clear h
 obtain ⟨w, hw⟩ := l_some hi'
 obtain ⟨hd1, hd2, hd3⟩ := dst_eq hk0 hi'
 have hy2 : Sl H2 (.v yv) (ivs l) := hy.keep (Old.v _) k2
 repeat (first | apply qN | refine qT rfl ?_ | apply qS | apply qK | apply qB)
 refine wp_drawY (fun j b => False) rfl ?_
 refine y_move rfl rfl rfl ?_
 refine y_move rfl rfl rfl ?_
 refine y_move rfl rfl rfl ?_
 refine y_move rfl rfl rfl ?_
 refine y_rem rfl rfl rfl rfl rfl hn0 ?_
 refine y_move rfl rfl rfl ?_
 refine y_bin (op := .add) (v := .int .i64 (z.tmod l.length + l.length)) rfl rfl rfl rfl rfl (addI (by omega)) ?_
 refine y_move rfl rfl rfl ?_
 refine y_rem rfl rfl rfl rfl rfl hn0 ?_
 rw [htr]
 refine y_bin (op := .add) (v := .int .i64 ((i + k : Nat) : Int)) rfl rfl rfl rfl rfl (addN (by omega)) ?_
 refine y_move rfl rfl rfl ?_
 refine y_rem rfl rfl rfl rfl rfl hn0 ?_
 rw [hd1]
 refine y_move rfl rfl rfl ?_
 refine y_move rfl rfl rfl ?_
 refine y_indexI rfl rfl rfl hy2 rfl hw fun p hp hpo => ?_
 refine y_load rfl rfl rfl hp (fun b hb => by have := hpo b hb; cases this) ?_
 refine y_indexO rfl rfl rfl rfl rfl hd2 ?_
 refine y_loud rfl rfl (o_store rfl rfl rfl g2 (by rw [ivs_length]; omega) rfl ⟨fun j b hb => hb.elim, ?_⟩)
 refine y_nil ?_
 refine Wp.mem (fun H3 => Keeps H H3 ∧ H3.next = H.next + 1 ∧ H3.get H.next = some (.cells (ivs (cur.set (dstK l.length k i) w)) 3 0)) ⟨k2.set _ (Nat.le_refl _) r0, n2, ?_⟩ ?_
 · refine (get_set_eq r0).trans ?_
   rw [← ivs_set]; rfl
 rintro H3 ⟨k3, n3, g3⟩
 repeat (first | apply qN | refine qM rfl rfl ?_ | refine zq4 rfl rfl rfl rfl (inc (by omega)) ?_ | apply qR)
 refine ⟨l.length - (i + 1), by omega, i + 1, _, [_,_,_,_,_,_,_,_,_,_,_,_,_,_,_,_,_,_,_,_,_,_,_,_,_,_,_,_,_,_], rfl, by omega, k3, n3, by rw [List.length_set]; exact hcl, (fun j hj h => ?_), g3, rfl, rfl⟩
 rw [List.getElem?_set]
 by_cases e : dstK l.length k i = j
 · rw [if_pos e, if_pos (by omega), ← e, hd3, hw]
 · rw [if_neg e]
   refine hcur j hj ?_
   rcases Nat.lt_or_ge (srcK l.length k j) i with h2 | h2
   · exact h2
   · have : srcK l.length k j = i := by omega
     exact absurd (by rw [← this]; exact (src_ok hk0 hj).2) e
theorem cRAlike (H : AH) (yv xv : Value) (l l2 : List Int) (hy : Sl H (.v yv) (ivs l)) (hx : Sl H (.v xv) (ivs l2)) (hl0 : 0 < l.length) (hl : l.length ≤ 1000) (hl2 : l2.length ≤ 1000) (hr : H.next + 2000 < 2 ^ 39) (K : AV → AH → Prop)
   (hk : ∀ H', Keeps H H' → H'.next ≤ H.next + 1000 → K (iv (alkZ l l2)) H') : Ca (ENV O) 36 [.v yv, .v xv] H K := by
 refine ca_intro (hq _ _ _ rfl) (fn := Tryz.f36) (by rfl) rfl ?_
 repeat (first | apply qN | refine qM rfl rfl ?_ | apply qR | apply qS | apply qB)
 refine wp_loop (fun q T M H' => ∃ (i : Nat) (Y : List AV), q = l.length - i ∧ i ≤ l.length ∧ Keeps H H' ∧ H'.next = H.next + i ∧ alkZ l l2 = alkG l l2 i (l.length - i) ∧ M = [] ∧ T = (.v yv :: .v xv :: lget Y 0 :: lget Y 1 :: lget Y 2 :: iv (i : Nat) :: lget Y 3 :: lget Y 4 :: lget Y 5 :: lget Y 6 :: lget Y 7 :: lget Y 8 :: lget Y 9 :: lget Y 10 :: lget Y 11 :: lget Y 12 :: lget Y 13 :: lget Y 14 :: [])) l.length
   ⟨0, [_,_,_,_,_,_,_,_,_,_,_,_,_,_,_], rfl, Nat.zero_le _, Keeps.refl H, rfl, rfl, rfl, rfl⟩ ?_
 rintro q T M H2 ⟨i, Y, hq2, hi, k2, n2, ha, rfl, rfl⟩
 have hy2 : Sl H2 (.v yv) (ivs l) := hy.keep (Old.v _) k2
 repeat (first | refine qM rfl rfl ?_ | refine zq5 rfl rfl rfl rfl rfl ‹_› ?_ | apply qR | apply qS)
 refine wops_cons (wop_cmp rfl rfl rfl rfl rfl (fun h => ?_) (fun h => ?_))
 rotate_left
 · have h : ¬ ((i : Int) < (l.length : Nat)) := of_decide_eq_false h
   have e : i = l.length := by omega
   subst e
   rw [Nat.sub_self] at ha
   have hk := hk H2 k2 (by omega)
   rw [show alkZ l l2 = -1 from ha] at hk
   repeat (first | apply qN | refine qM rfl rfl ?_ | refine qF rfl ?_ | apply qR | apply qS | apply qE)
   refine wp_ret ?_
   exact ⟨_, _, rfl, hk⟩
 have hi' : i < l.length := by have h : (i : Int) < (l.length : Nat) := of_decide_eq_true h; omega
 clear h
 obtain ⟨m, hm⟩ : ∃ m, l.length - i = m + 1 := ⟨l.length - i - 1, by omega⟩
 rw [hm, alkG] at ha
 repeat (first | apply qN | refine qM rfl rfl ?_ | refine qT rfl ?_ | apply qR | apply qS | apply qK | apply qB)
 refine wops_cons (wop_callF rfl rfl rfl (fn := Tryz.f35) (by rfl) ?_)
 refine cRTurned hq H2 yv l i hy2 hl0 hl (by omega) _ fun H3 k3 n3 g3 => ⟨k3.nx, ?_⟩
 rw [trK_nat hi'] at g3
 have hS : Sl H3 (.slc H2.next 0 l.length l.length) (ivs (rotL l i)) := ⟨by rw [ivs_length, rotL_len], by omega, _, _, _, g3, fun j v hv => by rw [Nat.zero_add]; exact hv⟩
 have hx3 : Sl H3 (.v xv) (ivs l2) := hx.keep (Old.v _) (k2.trans k3)
 repeat (first | refine qM rfl rfl ?_)
 refine wops_cons (wop_callF rfl rfl rfl (fn := Tryz.f19) (by rfl) ?_)
 refine cSameI hq H3 _ _ (rotL l i) l2 hS hx3 (by rw [rotL_len]; omega) (by omega) _ ⟨Nat.le_refl _, ?_⟩
 by_cases he : rotL l i = l2
 · rw [decide_eq_true he]
   rw [if_pos he] at ha
   have hk := hk H3 (k2.trans k3) (by omega)
   rw [ha] at hk
   repeat (first | apply qN | refine qM rfl rfl ?_ | refine qT rfl ?_ | apply qR | apply qS)
   refine wp_ret ?_
   exact ⟨_, _, rfl, hk⟩
 · rw [decide_eq_false he]
   rw [if_neg he] at ha
   repeat (first | apply qN | refine qM rfl rfl ?_ | refine zq4 rfl rfl rfl rfl (inc (by omega)) ?_ | refine qF rfl ?_ | apply qR | apply qK)
   exact ⟨l.length - (i + 1), by omega, i + 1, [_,_,_,_,_,_,_,_,_,_,_,_,_,_,_], rfl, by omega, k2.trans k3, by omega, by rw [ha]; congr 1; omega, rfl, rfl⟩
theorem cAlike (H : AH) (y x : AV) (l l2 : List Int) (hy : Ap H y l) (hx : Ap H x l2) (hl : l.length ≤ 1000) (hl2 : l2.length ≤ 1000) (hr : H.next + 5000 < 2 ^ 39) (K : AV → AH → Prop)
   (hke : akE l l2 ≠ 0 → ∀ H', Keeps H H' → H'.next ≤ H.next + 2100 → K (.tup [iv 0, iv (akE l l2)]) H')
   (hk : akE l l2 = 0 → ∀ H', Keeps H H' → H'.next ≤ H.next + 2100 → K (.tup [iv (if alkZ l l2 < 0 then 0 else alkZ l l2), iv (if alkZ l l2 < 0 then 7 else 0)]) H') : Ca (ENV O) 34 [y, x] H K := by
 refine ca_intro (hq _ _ _ rfl) (fn := Tryz.f34) (by rfl) rfl ?_
 repeat (first | apply qN | refine qM rfl rfl ?_ | apply qR | apply qS | refine wp_scope ?_)
 refine wops_cons (wop_callF rfl rfl rfl (fn := Tryz.f17) (by rfl) ?_)
 refine cChk hq H y l hy.ky.sl hy.ky.old hl (by omega) _ fun H1 k1 n1 => ⟨k1.nx, ?_⟩
 have hy1 := hy.keep k1
 have hx1 := hx.keep k1
 repeat (first | refine qM rfl rfl ?_)
 refine wops_cons (wop_callF rfl rfl rfl (fn := Tryz.f17) (by rfl) ?_)
 refine cChk hq H1 x l2 hx1.ky.sl hx1.ky.old hl2 (by omega) _ fun H2 k2 n2 => ⟨k2.nx, ?_⟩
 have hy2 := (hy1.keep k2).ky.sl
 have hx2 := (hx1.keep k2).ky.sl
 have k02 := k1.trans k2
 repeat (first | refine qM rfl rfl ?_ | refine zq5 rfl rfl rfl rfl rfl ‹_› ?_)
 refine wops_cons (wop_bin (op := .eql) (v := .bool (decide ((l.length : Int) = l2.length))) rfl rfl rfl rfl (by simp [binI]; rfl) ?_)
 refine wops_cons (wop_callF rfl rfl rfl (fn := Tryz.f82) (by rfl) ?_)
 refine cThat hq H2 _ 2 _ ⟨Nat.le_refl _, ?_⟩
 have r2 : H2.next < 2 ^ 39 := by omega
 refine wops_cons (o_build3 rfl rfl rfl rfl rfl r2 ?_)
 refine WOps.mem (fun H3 => Keeps H2 H3 ∧ H3.next = H2.next + 1 ∧ Sl H3 (.slc H2.next 0 3 3) (ivs [chkE l, chkE l2, eqE l l2])) ⟨(Keeps.refl H2).add _ r2, rfl, sl_new (cs := ivs [chkE l, chkE l2, eqE l l2]) r2 3⟩ ?_
 rintro H3 ⟨k3, n3, hs3⟩
 refine wops_cons (wop_callF rfl rfl rfl (fn := Tryz.f81) (by rfl) ?_)
 refine cFirst hq H3 _ _ hs3 (by show 3 ≤ 1000; decide) _ ⟨Nat.le_refl _, ?_⟩
 clear hs3
 show WOps _ _ _ _ _ _
 rw [show firstNZ [chkE l, chkE l2, eqE l l2] = akE l l2 from rfl]
 have k03 := k02.trans k3
 have hyA := hy.keep k03
 have hxA := hx.keep k03
 have hyS := hyA.ky.sl
 have hxS := hxA.ky.sl
 clear hy1 hx1 hy2 hx2
 repeat (first | apply qN | refine qM rfl rfl ?_ | apply qR | apply qS)
 refine WOps.cut (fun T => ∃ Y : List AV, T = (y :: x :: lget Y 0 :: lget Y 1 :: lget Y 2 :: lget Y 3 :: iv (akE l l2) :: lget Y 4 :: lget Y 5 :: lget Y 6 :: lget Y 7 :: lget Y 8 :: lget Y 9 :: lget Y 10 :: lget Y 11 :: lget Y 12 :: lget Y 13 :: lget Y 14 :: lget Y 15 :: lget Y 16 :: lget Y 17 :: lget Y 18 :: iv (akE l l2) :: lget Y 19 :: lget Y 20 :: lget Y 21 :: lget Y 22 :: lget Y 23 :: lget Y 24 :: lget Y 25 :: lget Y 26 :: lget Y 27 :: lget Y 28 :: lget Y 29 :: lget Y 30 :: lget Y 31 :: lget Y 32 :: lget Y 33 :: lget Y 34 :: lget Y 35 :: lget Y 36 :: lget Y 37 :: lget Y 38 :: lget Y 39 :: lget Y 40 :: lget Y 41 :: lget Y 42 :: lget Y 43 :: lget Y 44 :: lget Y 45 :: lget Y 46 :: [])) ⟨[_,_,_,_,_,_,_,_,_,_,_,_,_,_,_,_,_,_,_,_,_,_,_,_,_,_,_,_,_,_,_,_,_,_,_,_,_,_,_,_,_,_,_,_,_,_,_], rfl⟩ ?_
 rintro T ⟨Y, rfl⟩
 by_cases h0 : akE l l2 = 0
 rotate_left
 · have hke := hke h0 H3 k03 (by omega)
   generalize akE l l2 = w at h0 hke ⊢
   refine wops_cons (wop_bin (op := .neq) (v := .bool true) rfl rfl rfl rfl (by simp [binI, h0]) ?_)
   repeat (first | apply qN | refine qM rfl rfl ?_ | refine qT rfl ?_ | apply qR | apply qS)
   refine wp_ret ?_
   exact ⟨_, _, rfl, hke⟩
 have hk := hk h0 H3 k03 (by omega)
 obtain ⟨hc1, hc2, hc3⟩ := first3 h0
 obtain ⟨h4, h64⟩ := chkE_len hc1
 have hll : l2.length = l.length := by
   unfold eqE at hc3
   by_cases h : (l.length : Int) = l2.length
   · omega
   · rw [decide_eq_false h] at hc3; simp at hc3
 have hn0 : (l.length : Int) ≠ 0 := by omega
 rw [h0]
 refine wops_cons (wop_bin (op := .neq) (v := .bool false) rfl rfl rfl rfl rfl ?_)
 repeat (first | apply qN | refine qM rfl rfl ?_ | refine zq5 rfl rfl rfl rfl rfl ‹_› ?_ | refine qF rfl ?_ | apply qR | apply qS | apply qK | refine wp_label ?_ | apply qB)
 refine wp_loop (fun q T M H' => ∃ (i : Nat) (Y : List AV), q = l.length - i ∧ i ≤ l.length ∧ H' = H3 ∧ alkZ l l2 = alkG l l2 i (l.length - i) ∧ M = [] ∧ T = (y :: x :: lget Y 0 :: lget Y 1 :: lget Y 2 :: lget Y 3 :: lget Y 4 :: lget Y 5 :: lget Y 6 :: lget Y 7 :: lget Y 8 :: lget Y 9 :: lget Y 10 :: lget Y 11 :: lget Y 12 :: lget Y 13 :: lget Y 14 :: lget Y 15 :: lget Y 16 :: lget Y 17 :: lget Y 18 :: lget Y 19 :: lget Y 20 :: lget Y 21 :: lget Y 22 :: lget Y 23 :: iv (l.length : Nat) :: iv (i : Nat) :: lget Y 24 :: lget Y 25 :: lget Y 26 :: lget Y 27 :: lget Y 28 :: lget Y 29 :: lget Y 30 :: lget Y 31 :: lget Y 32 :: lget Y 33 :: lget Y 34 :: lget Y 35 :: lget Y 36 :: lget Y 37 :: lget Y 38 :: lget Y 39 :: lget Y 40 :: lget Y 41 :: lget Y 42 :: lget Y 43 :: lget Y 44 :: lget Y 45 :: lget Y 46 :: [])) l.length
   ⟨0, [_,_,_,_,_,_,_,_,_,_,_,_,_,_,_,_,_,_,_,_,_,_,_,_,_,_,_,_,_,_,_,_,_,_,_,_,_,_,_,_,_,_,_,_,_,_,_], rfl, Nat.zero_le _, rfl, rfl, rfl, rfl⟩ ?_
 rintro q T M H4 ⟨i, Y, hq2, hi, rfl, ha, rfl, rfl⟩
 repeat (first | apply qR | apply qS)
 refine wops_cons (wop_cmp rfl rfl rfl rfl rfl (fun h => ?_) (fun h => ?_))
 rotate_left
 · have h : ¬ ((i : Int) < (l.length : Nat)) := of_decide_eq_false h
   have e : i = l.length := by omega
   subst e
   rw [Nat.sub_self] at ha
   rw [show alkZ l l2 = -1 from ha, if_pos (by decide), if_pos (by decide)] at hk
   repeat (first | apply qN | refine qM rfl rfl ?_ | refine qF rfl ?_ | apply qR | apply qS | apply qE)
   refine wp_ret ?_
   exact ⟨_, _, rfl, hk⟩
 have hi' : i < l.length := by have h : (i : Int) < (l.length : Nat) := of_decide_eq_true h; omega
 clear h
 obtain ⟨m, hm⟩ : ∃ m, l.length - i = m + 1 := ⟨l.length - i - 1, by omega⟩
 rw [hm, alkG] at ha
 repeat (first | apply qN | refine qM rfl rfl ?_ | refine zq5 rfl rfl rfl rfl rfl ‹_› ?_ | refine qT rfl ?_ | apply qR | apply qS | apply qK | apply qB)
 refine wp_loop (fun q T M H' => ∃ (j : Nat) (Y : List AV), q = l.length - j ∧ j ≤ l.length ∧ H' = H4 ∧ (∀ s, s < j → l2[dstK l.length i s]? = l[s]?) ∧ M = [] ∧ T = (y :: x :: lget Y 0 :: lget Y 1 :: lget Y 2 :: lget Y 3 :: lget Y 4 :: iv (i : Nat) :: lget Y 5 :: lget Y 6 :: lget Y 7 :: lget Y 8 :: lget Y 9 :: lget Y 10 :: lget Y 11 :: lget Y 12 :: lget Y 13 :: lget Y 14 :: lget Y 15 :: lget Y 16 :: lget Y 17 :: lget Y 18 :: lget Y 19 :: lget Y 20 :: lget Y 21 :: lget Y 22 :: iv (l.length : Nat) :: iv (i : Nat) :: lget Y 23 :: lget Y 24 :: y :: iv (l.length : Nat) :: iv (j : Nat) :: lget Y 25 :: lget Y 26 :: lget Y 27 :: lget Y 28 :: lget Y 29 :: lget Y 30 :: lget Y 31 :: lget Y 32 :: lget Y 33 :: lget Y 34 :: lget Y 35 :: lget Y 36 :: lget Y 37 :: lget Y 38 :: lget Y 39 :: lget Y 40 :: lget Y 41 :: lget Y 42 :: [])) l.length
   ⟨0, [_,_,_,_,_,_,_,_,_,_,_,_,_,_,_,_,_,_,_,_,_,_,_,_,_,_,_,_,_,_,_,_,_,_,_,_,_,_,_,_,_,_,_], rfl, Nat.zero_le _, rfl, (fun s hs => by omega), rfl, rfl⟩ ?_
 rintro q2 T M H5 ⟨j, Y, hq3, hj, rfl, hall, rfl, rfl⟩
 repeat (first | apply qR | apply qS)
 refine wops_cons (wop_cmp rfl rfl rfl rfl rfl (fun h => ?_) (fun h => ?_))
 rotate_left
 · have h : ¬ ((j : Int) < (l.length : Nat)) := of_decide_eq_false h
   have e : j = l.length := by omega
   subst e
   have he : rotL l i = l2 := (rot_iff hi' hll).2 hall
   rw [if_pos he] at ha
   rw [ha, if_neg (by omega), if_neg (by omega)] at hk
   repeat (first | apply qN | refine qM rfl rfl ?_ | refine qF rfl ?_ | apply qR | apply qS | apply qE)
   refine wp_ret ?_
   exact ⟨_, _, rfl, hk⟩
 have hj' : j < l.length := by have h : (j : Int) < (l.length : Nat) := of_decide_eq_true h; omega
 clear h
 obtain ⟨w, hw⟩ := l_some hj'
 obtain ⟨hd1, hd2, hd3⟩ := dst_eq hi' hj'
 obtain ⟨w2, hw2⟩ := l_some (show dstK l.length i j < l2.length by omega)
 repeat (first | apply qN | refine qM rfl rfl ?_ | refine qT rfl ?_ | apply qR | apply qS | apply qK | apply qB)
 refine wops_cons (o_indexI rfl rfl hyS rfl hw fun p hp => ?_)
 repeat (first | apply qN | refine qM rfl rfl ?_ | refine zq6 rfl rfl ‹_› ?_ | apply qR | apply qS)
 refine wops_cons (wop_bin (op := .add) (v := .int .i64 ((j + i : Nat) : Int)) rfl rfl rfl rfl (addN (by omega)) ?_)
 repeat (first | refine qM rfl rfl ?_ | refine zq5 rfl rfl rfl rfl rfl ‹_› ?_)
 rw [hll]
 refine wops_cons (wop_rem rfl rfl rfl rfl hn0 ?_)
 rw [hd1]
 refine wops_cons (o_indexI rfl rfl hxS rfl hw2 fun p2 hp2 => ?_)
 repeat (first | refine qM rfl rfl ?_ | refine zq6 rfl rfl ‹_› ?_)
 by_cases he : w2 = w
 · subst he
   refine wops_cons (wop_bin (op := .neq) (v := .bool false) rfl rfl rfl rfl (by simp [binI]) ?_)
   repeat (first | apply qN | refine qM rfl rfl ?_ | refine zq4 rfl rfl rfl rfl (inc (by omega)) ?_ | refine qF rfl ?_ | apply qR | apply qK)
   refine ⟨l.length - (j + 1), by omega, j + 1, [_,_,_,_,_,_,_,_,_,_,_,_,_,_,_,_,_,_,_,_,_,_,_,_,_,_,_,_,_,_,_,_,_,_,_,_,_,_,_,_,_,_,_], rfl, by omega, rfl, (fun s hs => ?_), rfl, rfl⟩
   rcases Nat.lt_or_ge s j with h | h
   · exact hall s h
   · have : s = j := by omega
     rw [this, hw, hw2]
 · refine wops_cons (wop_bin (op := .neq) (v := .bool true) rfl rfl rfl rfl (by simp [binI, he]) ?_)
   have hne : ¬ rotL l i = l2 := fun e => by
     have := (rot_iff hi' hll).1 e j hj'
     rw [hw, hw2] at this
     exact he (Option.some.inj this)
   rw [if_neg hne] at ha
   repeat (first | apply qN | refine qM rfl rfl ?_ | refine zq4 rfl rfl rfl rfl (inc (by omega)) ?_ | refine qT rfl ?_ | apply qR | apply qE)
   exact ⟨l.length - (i + 1), by omega, i + 1, [_,_,_,_,_,_,_,_,_,_,_,_,_,_,_,_,_,_,_,_,_,_,_,_,_,_,_,_,_,_,_,_,_,_,_,_,_,_,_,_,_,_,_,_,_,_,_], rfl, by omega, rfl, by rw [ha]; congr 1; omega, rfl, rfl⟩
end Go.Ev
