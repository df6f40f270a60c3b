/- Part of an evaluator of calls that is proved sound, and of what it gives about this program. No condition of its own. -/
import Derived.Test.YtanaplokhjgfmaaGreatDoorEvEi
set_option linter.unusedVariables false
set_option linter.unusedSimpArgs false
set_option linter.unusedSectionVars false
set_option maxRecDepth 100000
set_option maxHeartbeats 4000000
namespace Go.Ev
open Go.Proofs
variable {O : CallF} (hq : Quiet O)
include hq
theorem c23 (H : AH) (r : Ru) (k : Tk) (rv kv x y : AV) (tk gp : List Int) (j : Nat) (z g : Int) (hrv : rv.cells = r.cs) (hkv : kv.cells = k.cs) (hT : Tkd r tk gp k j z g) (hx : Ky H x tk) (hy : Ky H y gp) (hr : H.next + 200 < 2 ^ 59) (K : AV → AH → Prop) (hk : ∀ H', Keeps H H' → H'.next ≤ H.next + 60 → K (iv (legE r tk gp k z g)) H') : Ca (ENV O) 23 [rv, .agg [x, y], kv] H K := by
 refine ca_intro (hq _ _ _ rfl) (fn := Tryz.f23) (by rfl) rfl ?_
 have r0 : H.next < 2 ^ 59 := by omega
 have hR := hT.st.ru
 have hl := hT.lens
 have hzb := hT.zb
 have hs2 := hT.st.lt
 repeat (first | apply qR | apply qS)
 refine wops_cons (o_boxS (cs := r.cs) rfl rfl hrv r0 fun H1 n1 k1 b1 => ?_)
 have r1 : H1.next < 2 ^ 59 := by omega
 refine wops_cons (o_boxS (cs := [x, y]) rfl rfl rfl r1 fun H2 n2 k2 b2 => ?_)
 have r2 : H2.next < 2 ^ 59 := by omega
 refine wops_cons (o_boxS (cs := k.cs) rfl rfl hkv r2 fun H3 n3 k3 b3 => ?_)
 have r3 : H3.next < 2 ^ 59 := by omega
 have x1 := k1.nx
 have x2 := k2.nx
 have x3 := k3.nx
 have k03 := (k1.trans k2).trans k3
 have b1 := b1.keep (by omega) (k2.trans k3)
 have b2 := b2.keep (by omega) k3
 have hx3 := hx.keep k03
 have hy3 := hy.keep k03
 have hsx := hx3.sl
 have hsy := hy3.sl
 have hxb : x.beq x = true := hsx.beq
 have hx1 : x.one = true := hsx.one
 have sb : beqs [x, y] [x, y] = true := by simp [beqs, hsx.beq, hsy.beq]
 have p0 : At H3 (.ptr H.next 0) (iv r.s) := b1.at rfl
 have p1 : At H3 (.ptr H.next 1) (iv r.o) := b1.at rfl
 have p2 : At H3 (.ptr H.next 2) (iv r.u) := b1.at rfl
 have p3 : At H3 (.ptr H.next 3) (iv r.f) := b1.at rfl
 have p4 : At H3 (.ptr H.next 4) (iv r.t) := b1.at rfl
 have s0 : At H3 (.ptr H1.next 0) x := b2.at rfl
 have q0 : At H3 (.ptr H2.next 0) (iv (j : Nat)) := by rw [← hT.a]; exact b3.at rfl
 have q1 : At H3 (.ptr H2.next 1) (iv k.b) := b3.at rfl
 have q2 : At H3 (.ptr H2.next 2) (iv k.c) := b3.at rfl
 repeat (first | apply qN | refine qM rfl rfl ?_ | refine zqa rfl rfl rfl ?_ | refine zq6 rfl rfl ‹_› ?_ | apply qR | apply qS)
 refine wops_cons (o_indexI rfl rfl hsx rfl hT.z fun pp hpp => ?_)
 repeat (first | apply qN | refine qM rfl rfl ?_ | refine zqa rfl rfl rfl ?_ | refine zq6 rfl rfl ‹_› ?_ | apply qR | apply qS)
 refine wops_cons (wop_bin (op := .add) (v := .int .i64 (r.f + r.t)) rfl rfl rfl rfl (addI (by omega)) ?_)
 by_cases h1 : z < r.f + r.t
 rotate_left
 · refine wops_cons (wop_bin (op := .geq) (v := .bool true) rfl rfl rfl rfl (by simp [binI]; omega) ?_)
   have hk := hk H3 k03 (by omega)
   rw [show legE r tk gp k z g = 1 by unfold legE; rw [if_neg h1]] at hk
   repeat (first | apply qN | refine qM rfl rfl ?_ | refine qT rfl ?_ | apply qR | apply qS)
   refine wp_ret ?_
   exact ⟨_, _, rfl, hk⟩
 refine wops_cons (wop_bin (op := .geq) (v := .bool false) rfl rfl rfl rfl (by simp [binI]; omega) ?_)
 repeat (first | apply qN | refine qM rfl rfl ?_ | refine qF rfl ?_ | apply qR | apply qS | apply qK | apply qB)
 have hmin := mnL_min hT.ne (List.mem_of_getElem? hT.z)
 refine wp_loop (fun q T M' H' => ∃ (i : Nat) (Y : List AV), q = tk.length - i ∧ i ≤ tk.length ∧ (∀ (m : Nat) (a : Int), m < i → tk[m]? = some a → ¬ a < z) ∧ H3 = H' ∧ M' = [] ∧ T = (lget Y 0 :: lget Y 1 :: lget Y 2 :: .ptr H.next 0 :: .ptr H1.next 0 :: .ptr H2.next 0 :: lget Y 3 :: iv z :: iv (i : Nat) :: lget Y 4 :: lget Y 5 :: lget Y 6 :: lget Y 7 :: lget Y 8 :: lget Y 9 :: lget Y 10 :: lget Y 11 :: lget Y 12 :: lget Y 13 :: lget Y 14 :: lget Y 15 :: lget Y 16 :: lget Y 17 :: lget Y 18 :: lget Y 19 :: lget Y 20 :: lget Y 21 :: lget Y 22 :: lget Y 23 :: lget Y 24 :: lget Y 25 :: lget Y 26 :: lget Y 27 :: lget Y 28 :: lget Y 29 :: lget Y 30 :: lget Y 31 :: lget Y 32 :: lget Y 33 :: lget Y 34 :: lget Y 35 :: lget Y 36 :: lget Y 37 :: lget Y 38 :: lget Y 39 :: lget Y 40 :: lget Y 41 :: lget Y 42 :: lget Y 43 :: lget Y 44 :: lget Y 45 :: lget Y 46 :: lget Y 47 :: lget Y 48 :: lget Y 49 :: lget Y 50 :: lget Y 51 :: lget Y 52 :: lget Y 53 :: lget Y 54 :: lget Y 55 :: lget Y 56 :: lget Y 57 :: lget Y 58 :: lget Y 59 :: lget Y 60 :: lget Y 61 :: lget Y 62 :: lget Y 63 :: lget Y 64 :: lget Y 65 :: lget Y 66 :: lget Y 67 :: lget Y 68 :: lget Y 69 :: lget Y 70 :: lget Y 71 :: lget Y 72 :: lget Y 73 :: lget Y 74 :: lget Y 75 :: lget Y 76 :: lget Y 77 :: lget Y 78 :: lget Y 79 :: lget Y 80 :: lget Y 81 :: lget Y 82 :: lget Y 83 :: lget Y 84 :: lget Y 85 :: lget Y 86 :: lget Y 87 :: [])) tk.length
   ⟨0, [_,_,_,_,_,_,_,_,_,_,_,_,_,_,_,_,_,_,_,_,_,_,_,_,_,_,_,_,_,_,_,_,_,_,_,_,_,_,_,_,_,_,_,_,_,_,_,_,_,_,_,_,_,_,_,_,_,_,_,_,_,_,_,_,_,_,_,_,_,_,_,_,_,_,_,_,_,_,_,_,_,_,_,_,_,_,_,_], rfl, Nat.zero_le _, fun m a h => absurd h (Nat.not_lt_zero _), rfl, rfl, rfl⟩ ?_
 rintro q T M' H' ⟨i, Y, hq1, hi, hall, rfl, rfl, rfl⟩
 repeat (first | refine qM rfl rfl ?_ | refine zqa rfl rfl rfl ?_ | refine zq6 rfl rfl ‹_› ?_ | apply qR | apply qS)
 refine wops_cons (wop_cmp rfl rfl rfl rfl rfl (fun h => ?_) (fun h => ?_))
 · have hi' : i < tk.length := by have h : (i : Int) < r.s := of_decide_eq_true h; omega
   clear h
   obtain ⟨a, ha⟩ := l_some hi'
   repeat (first | apply qN | refine qM rfl rfl ?_ | refine zqa rfl rfl rfl ?_ | refine zq6 rfl rfl ‹_› ?_ | refine qT rfl ?_ | apply qR | apply qS | apply qK | apply qB)
   refine wops_cons (o_indexI rfl rfl hsx rfl ha fun pp hpp => ?_)
   repeat (first | refine qM rfl rfl ?_ | refine zq6 rfl rfl ‹_› ?_)
   by_cases h2 : a < z
   · refine wops_cons (wop_bin (op := .lss) (v := .bool true) rfl rfl rfl rfl (by simp [binI, h2]) ?_)
     have hne : ¬ z = mnL tk := fun e => hmin.1 e a (List.mem_of_getElem? ha) h2
     have hk := hk H3 k03 (by omega)
     rw [show legE r tk gp k z g = 2 by unfold legE; rw [if_pos h1, if_neg hne]] at hk
     repeat (first | apply qN | refine qM rfl rfl ?_ | refine qT rfl ?_ | apply qR | apply qS)
     refine wp_ret ?_
     exact ⟨_, _, rfl, hk⟩
   · refine wops_cons (wop_bin (op := .lss) (v := .bool false) rfl rfl rfl rfl (by simp [binI]; omega) ?_)
     repeat (first | apply qN | refine qM rfl rfl ?_ | refine zq4 rfl rfl rfl rfl (inc (by omega)) ?_ | refine qF rfl ?_ | apply qR | apply qK)
     refine ⟨tk.length - (i + 1), by omega, i + 1, [_,_,_,_,_,_,_,_,_,_,_,_,_,_,_,_,_,_,_,_,_,_,_,_,_,_,_,_,_,_,_,_,_,_,_,_,_,_,_,_,_,_,_,_,_,_,_,_,_,_,_,_,_,_,_,_,_,_,_,_,_,_,_,_,_,_,_,_,_,_,_,_,_,_,_,_,_,_,_,_,_,_,_,_,_,_,_,_], rfl, by omega, fun m a' hm ha' => ?_, rfl, rfl, rfl⟩
     by_cases e : m = i
     · subst e
       rw [ha] at ha'; cases ha'
       exact h2
     · exact hall m a' (by omega) ha'
 have h2 : z = mnL tk := by
   have h : ¬ ((i : Int) < r.s) := of_decide_eq_false h
   refine hmin.2 fun a ha => ?_
   obtain ⟨m, hm⟩ := List.mem_iff_getElem?.1 ha
   obtain ⟨lm, _⟩ := List.getElem?_eq_some_iff.1 hm
   exact hall m a (by omega) hm
 clear hall h
 repeat (first | apply qN | refine zqa rfl rfl rfl ?_ | refine zq6 rfl rfl ‹_› ?_ | refine qF rfl ?_ | apply qR | apply qS | apply qE)
 refine WOps.mono (K := fun T' H' => H3 = H' ∧ ∃ Y : List AV, T' = (lget Y 0 :: lget Y 1 :: lget Y 2 :: .ptr H.next 0 :: .ptr H1.next 0 :: .ptr H2.next 0 :: lget Y 3 :: iv z :: lget Y 4 :: lget Y 5 :: lget Y 6 :: lget Y 7 :: lget Y 8 :: lget Y 9 :: lget Y 10 :: lget Y 11 :: lget Y 12 :: lget Y 13 :: lget Y 14 :: lget Y 15 :: lget Y 16 :: lget Y 17 :: lget Y 18 :: lget Y 19 :: lget Y 20 :: lget Y 21 :: lget Y 22 :: lget Y 23 :: lget Y 24 :: lget Y 25 :: lget Y 26 :: lget Y 27 :: lget Y 28 :: lget Y 29 :: lget Y 30 :: lget Y 31 :: lget Y 32 :: lget Y 33 :: lget Y 34 :: lget Y 35 :: lget Y 36 :: lget Y 37 :: lget Y 38 :: lget Y 39 :: lget Y 40 :: lget Y 41 :: lget Y 42 :: lget Y 43 :: lget Y 44 :: lget Y 45 :: lget Y 46 :: lget Y 47 :: lget Y 48 :: lget Y 49 :: lget Y 50 :: lget Y 51 :: lget Y 52 :: lget Y 53 :: lget Y 54 :: lget Y 55 :: lget Y 56 :: lget Y 57 :: lget Y 58 :: lget Y 59 :: lget Y 60 :: lget Y 61 :: .v (.bool (!ruled r k (decide (z < r.f)))) :: lget Y 62 :: lget Y 63 :: lget Y 64 :: lget Y 65 :: lget Y 66 :: lget Y 67 :: lget Y 68 :: lget Y 69 :: lget Y 70 :: lget Y 71 :: lget Y 72 :: lget Y 73 :: lget Y 74 :: lget Y 75 :: lget Y 76 :: lget Y 77 :: lget Y 78 :: lget Y 79 :: lget Y 80 :: lget Y 81 :: lget Y 82 :: lget Y 83 :: lget Y 84 :: lget Y 85 :: lget Y 86 :: lget Y 87 :: [])) ?_ ?_
 · by_cases hb : k.b = r.o
   rotate_left
   · have e : ruled r k (decide (z < r.f)) = false := by rw [Bool.eq_false_iff]; intro h; exact hb (ruled_iff.1 h).1
     rw [e]
     refine wops_cons (wop_bin (op := .neq) (v := .bool true) rfl rfl rfl rfl (by simp [binI, hb]) ?_)
     repeat (first | apply qN | refine zq1 rfl rfl ?_ | refine qM rfl rfl ?_ | refine zq7 rfl rfl rfl ?_)
     exact ⟨rfl, [_,_,_,_,_,_,_,_,_,_,_,_,_,_,_,_,_,_,_,_,_,_,_,_,_,_,_,_,_,_,_,_,_,_,_,_,_,_,_,_,_,_,_,_,_,_,_,_,_,_,_,_,_,_,_,_,_,_,_,_,_,_,_,_,_,_,_,_,_,_,_,_,_,_,_,_,_,_,_,_,_,_,_,_,_,_,_,_], rfl⟩
   refine wops_cons (wop_bin (op := .neq) (v := .bool false) rfl rfl rfl rfl (by simp [binI, hb]) ?_)
   repeat (first | refine qM rfl rfl ?_ | refine zqa rfl rfl rfl ?_ | refine zq6 rfl rfl ‹_› ?_)
   by_cases hf : z < r.f
   · refine wops_cons (wop_bin (op := .lss) (v := .bool true) rfl rfl rfl rfl (by simp [binI, hf]) ?_)
     repeat (first | refine qM rfl rfl ?_ | refine zqa rfl rfl rfl ?_ | refine zq6 rfl rfl ‹_› ?_)
     by_cases hc : k.c = r.u
     · have e : ruled r k (decide (z < r.f)) = true := ruled_iff.2 ⟨hb, by rw [if_pos (decide_eq_true hf)]; omega, by omega⟩
       rw [e]
       refine wops_cons (wop_bin (op := .neq) (v := .bool false) rfl rfl rfl rfl (by simp [binI, hc]) ?_)
       repeat (first | refine qM rfl rfl ?_ | refine zqa rfl rfl rfl ?_ | refine zq6 rfl rfl ‹_› ?_ | refine zq7 rfl rfl rfl ?_)
       refine wops_cons (wop_bin (op := .geq) (v := .bool false) rfl rfl rfl rfl (by simp [binI]; omega) ?_)
       repeat (first | apply qN | refine zq1 rfl rfl ?_ | refine qM rfl rfl ?_ | refine zq7 rfl rfl rfl ?_)
       exact ⟨rfl, [_,_,_,_,_,_,_,_,_,_,_,_,_,_,_,_,_,_,_,_,_,_,_,_,_,_,_,_,_,_,_,_,_,_,_,_,_,_,_,_,_,_,_,_,_,_,_,_,_,_,_,_,_,_,_,_,_,_,_,_,_,_,_,_,_,_,_,_,_,_,_,_,_,_,_,_,_,_,_,_,_,_,_,_,_,_,_,_], rfl⟩
     · have e : ruled r k (decide (z < r.f)) = false := by
         rw [Bool.eq_false_iff]; intro h
         have h2 := (ruled_iff.1 h).2
         rw [if_pos (decide_eq_true hf)] at h2
         omega
       rw [e]
       refine wops_cons (wop_bin (op := .neq) (v := .bool true) rfl rfl rfl rfl (by simp [binI, hc]) ?_)
       repeat (first | apply qN | refine zq1 rfl rfl ?_ | refine qM rfl rfl ?_ | refine zq7 rfl rfl rfl ?_)
       exact ⟨rfl, [_,_,_,_,_,_,_,_,_,_,_,_,_,_,_,_,_,_,_,_,_,_,_,_,_,_,_,_,_,_,_,_,_,_,_,_,_,_,_,_,_,_,_,_,_,_,_,_,_,_,_,_,_,_,_,_,_,_,_,_,_,_,_,_,_,_,_,_,_,_,_,_,_,_,_,_,_,_,_,_,_,_,_,_,_,_,_,_], rfl⟩
   · refine wops_cons (wop_bin (op := .lss) (v := .bool false) rfl rfl rfl rfl (by simp [binI]; omega) ?_)
     repeat (first | refine zq1 rfl rfl ?_ | refine qM rfl rfl ?_ | refine zqa rfl rfl rfl ?_ | refine zq6 rfl rfl ‹_› ?_ | refine zq7 rfl rfl rfl ?_)
     refine wops_cons (wop_bin (op := .geq) (v := .bool true) rfl rfl rfl rfl (by simp [binI]; omega) ?_)
     repeat (first | refine qM rfl rfl ?_ | refine zqa rfl rfl rfl ?_ | refine zq6 rfl rfl ‹_› ?_)
     refine wops_cons (wop_callF rfl rfl rfl (fn := Tryz.f67) (by rfl) ?_)
     refine cOut hq H3 k.c 1 r.u _ ⟨Nat.le_refl _, ?_⟩
     have e : ruled r k (decide (z < r.f)) = inB k.c 1 r.u := by
       rw [Bool.eq_iff_iff, ruled_iff, inB_iff, decide_eq_false hf, if_neg (by decide)]
       exact ⟨fun h => h.2, fun h => ⟨hb, h⟩⟩
     rw [e]
     generalize inB k.c 1 r.u = v
     repeat (first | apply qN | refine zq7 rfl rfl rfl ?_)
     exact ⟨rfl, [_,_,_,_,_,_,_,_,_,_,_,_,_,_,_,_,_,_,_,_,_,_,_,_,_,_,_,_,_,_,_,_,_,_,_,_,_,_,_,_,_,_,_,_,_,_,_,_,_,_,_,_,_,_,_,_,_,_,_,_,_,_,_,_,_,_,_,_,_,_,_,_,_,_,_,_,_,_,_,_,_,_,_,_,_,_,_,_], rfl⟩
 rintro T' H' ⟨rfl, Y, rfl⟩
 have hle : ruled r k (decide (z < r.f)) = false → legE r tk gp k z g = 3 := fun h => by unfold legE; rw [if_pos h1, if_pos h2, if_neg (by rw [h]; decide)]
 have hlt : ruled r k (decide (z < r.f)) = true → legE r tk gp k z g = if (z + 1, gapA r k g) ∈ prs tk gp then 4 else 0 := fun h => by unfold legE; rw [if_pos h1, if_pos h2, if_pos h]
 generalize ruled r k (decide (z < r.f)) = v at hle hlt ⊢
 cases v with
 | false =>
   have hk := hk H3 k03 (by omega)
   rw [hle rfl] at hk
   repeat (first | apply qN | refine qM rfl rfl ?_ | refine qT rfl ?_ | apply qR | apply qS)
   refine wp_ret ?_
   exact ⟨_, _, rfl, hk⟩
 | true =>
 rw [hlt rfl] at hk
 clear hle hlt
 show Wp _ _ _ _ _ _ _ _
 repeat (first | apply qN | refine qM rfl rfl ?_ | refine qF rfl ?_ | apply qR | apply qS | apply qK | apply qB)
 refine wp_loop (fun q T M' H' => ∃ (i : Nat) (Y : List AV), q = tk.length - i ∧ i ≤ tk.length ∧ (∀ (m : Nat) (a b : Int), m < i → tk[m]? = some a → gp[m]? = some b → ¬ (a = z + 1 ∧ b = gapA r k g)) ∧ Keeps H3 H' ∧ H'.next ≤ H3.next + 4 * i ∧ M' = [] ∧ T = (lget Y 0 :: lget Y 1 :: lget Y 2 :: .ptr H.next 0 :: .ptr H1.next 0 :: .ptr H2.next 0 :: lget Y 3 :: iv z :: lget Y 4 :: iv (i : Nat) :: lget Y 5 :: lget Y 6 :: lget Y 7 :: lget Y 8 :: lget Y 9 :: lget Y 10 :: lget Y 11 :: lget Y 12 :: lget Y 13 :: lget Y 14 :: lget Y 15 :: lget Y 16 :: lget Y 17 :: lget Y 18 :: lget Y 19 :: lget Y 20 :: lget Y 21 :: lget Y 22 :: lget Y 23 :: lget Y 24 :: lget Y 25 :: lget Y 26 :: lget Y 27 :: lget Y 28 :: lget Y 29 :: lget Y 30 :: lget Y 31 :: lget Y 32 :: lget Y 33 :: lget Y 34 :: lget Y 35 :: lget Y 36 :: lget Y 37 :: lget Y 38 :: lget Y 39 :: lget Y 40 :: lget Y 41 :: lget Y 42 :: lget Y 43 :: lget Y 44 :: lget Y 45 :: lget Y 46 :: lget Y 47 :: lget Y 48 :: lget Y 49 :: lget Y 50 :: lget Y 51 :: lget Y 52 :: lget Y 53 :: lget Y 54 :: lget Y 55 :: lget Y 56 :: lget Y 57 :: lget Y 58 :: lget Y 59 :: lget Y 60 :: lget Y 61 :: lget Y 62 :: lget Y 63 :: lget Y 64 :: lget Y 65 :: lget Y 66 :: lget Y 67 :: lget Y 68 :: lget Y 69 :: lget Y 70 :: lget Y 71 :: lget Y 72 :: lget Y 73 :: lget Y 74 :: lget Y 75 :: lget Y 76 :: lget Y 77 :: lget Y 78 :: lget Y 79 :: lget Y 80 :: lget Y 81 :: lget Y 82 :: lget Y 83 :: lget Y 84 :: lget Y 85 :: lget Y 86 :: lget Y 87 :: [])) tk.length
   ⟨0, [_,_,_,_,_,_,_,_,_,_,_,_,_,_,_,_,_,_,_,_,_,_,_,_,_,_,_,_,_,_,_,_,_,_,_,_,_,_,_,_,_,_,_,_,_,_,_,_,_,_,_,_,_,_,_,_,_,_,_,_,_,_,_,_,_,_,_,_,_,_,_,_,_,_,_,_,_,_,_,_,_,_,_,_,_,_,_,_], rfl, Nat.zero_le _, fun m a b h => absurd h (Nat.not_lt_zero _), Keeps.refl _, Nat.le_refl _, rfl, rfl⟩ ?_
 rintro q T M' H4 ⟨i, Y, hq1, hi, hall, k4, n4, rfl, rfl⟩
 have x4 := k4.nx
 have b14 := b1.keep (by omega) k4
 have b24 := b2.keep (by omega) k4
 have b34 := b3.keep (by omega) k4
 have hx4 := hx3.keep k4
 have hy4 := hy3.keep k4
 have hsx4 := hx4.sl
 have hsy4 := hy4.sl
 have p04 : At H4 (.ptr H.next 0) (iv r.s) := b14.at rfl
 have s04 : At H4 (.ptr H1.next 0) x := b24.at rfl
 have s14 : At H4 (.ptr H1.next 1) y := b24.at rfl
 have L := fun n => lkP (n := n) b14 (by omega) (ru_beq r)
 have M := fun n => lkP (n := n) b24 (by omega) sb
 have N := fun n => lkP (n := n) b34 (by omega) (tk_beq k)
 repeat (first | refine qM rfl rfl ?_ | refine zqa rfl rfl rfl ?_ | refine zq6 rfl rfl ‹_› ?_ | apply qR | apply qS)
 refine wops_cons (wop_cmp rfl rfl rfl rfl rfl (fun h => ?_) (fun h => ?_))
 rotate_left
 · have h : ¬ ((i : Int) < r.s) := of_decide_eq_false h
   have hnm : ¬ (z + 1, gapA r k g) ∈ prs tk gp := fun hm => by
     obtain ⟨m, e1, e2⟩ := prs_mem.1 hm
     obtain ⟨lm, _⟩ := List.getElem?_eq_some_iff.1 e1
     exact hall m _ _ (by omega) e1 e2 ⟨rfl, rfl⟩
   have hk := hk H4 (k03.trans k4) (by omega)
   rw [if_neg hnm] at hk
   repeat (first | apply qN | refine qM rfl rfl ?_ | refine qF rfl ?_ | apply qR | apply qS | apply qE)
   refine wp_ret ?_
   exact ⟨_, _, rfl, hk⟩
 have hi' : i < tk.length := by have h : (i : Int) < r.s := of_decide_eq_true h; omega
 clear h
 obtain ⟨a, ha⟩ := l_some hi'
 obtain ⟨b, hb⟩ := l_some (show i < gp.length by omega)
 have hgo : ¬ (a = z + 1 ∧ b = gapA r k g) → ∀ (m : Nat) (a' b' : Int), m < i + 1 → tk[m]? = some a' → gp[m]? = some b' → ¬ (a' = z + 1 ∧ b' = gapA r k g) := fun hn m a' b' hm ha' hb' => by
   by_cases e : m = i
   · subst e
     rw [ha] at ha'; rw [hb] at hb'; cases ha'; cases hb'
     exact hn
   · exact hall m a' b' (by omega) ha' hb'
 repeat (first | apply qN | refine qT rfl ?_ | apply qS | apply qK | apply qB)
 refine wp_drawK rfl ?_
 refine k_field rfl rfl rfl rfl ?_
 refine k_load rfl rfl rfl s04 (M _) ?_
 refine k_move rfl rfl rfl ?_
 refine k_indexI rfl rfl rfl hsx4 rfl ha hx4.lk fun pp hpp hpo => ?_
 refine k_load rfl rfl rfl hpp hpo ?_
 refine k_move rfl rfl rfl ?_
 refine k_bin (op := .add) (v := .int .i64 (z + 1)) rfl rfl rfl rfl rfl (addI (by omega)) ?_
 by_cases h6 : a = z + 1
 rotate_left
 · refine k_bin (op := .eql) (v := .bool false) rfl rfl rfl rfl rfl (by simp [binI]; omega) ?_
   repeat (first | refine k_skip rfl rfl ?_ | refine k_move rfl rfl rfl ?_)
   refine k_loudSkip rfl rfl (Keeps.refl _) ?_
   repeat (first | apply qN | refine qM rfl rfl ?_ | refine zq4 rfl rfl rfl rfl (inc (by omega)) ?_ | refine k_nil ?_ | refine k_skip rfl rfl ?_ | refine k_pick rfl rfl rfl rfl ?_ | refine qF rfl ?_ | apply qR | apply qK)
   exact ⟨tk.length - (i + 1), by omega, i + 1, [_,_,_,_,_,_,_,_,_,_,_,_,_,_,_,_,_,_,_,_,_,_,_,_,_,_,_,_,_,_,_,_,_,_,_,_,_,_,_,_,_,_,_,_,_,_,_,_,_,_,_,_,_,_,_,_,_,_,_,_,_,_,_,_,_,_,_,_,_,_,_,_,_,_,_,_,_,_,_,_,_,_,_,_,_,_,_,_], rfl, by omega, hgo (fun h => h6 h.1), k4, by omega, rfl, rfl⟩
 refine k_bin (op := .eql) (v := .bool true) rfl rfl rfl rfl rfl (by simp [binI]; omega) ?_
 refine k_move rfl rfl rfl ?_
 refine k_field rfl rfl rfl rfl ?_
 refine k_load rfl rfl rfl s14 (M _) ?_
 refine k_move rfl rfl rfl ?_
 refine k_indexI rfl rfl rfl hsy4 rfl hb hy4.lk fun pp2 hpp2 hpo2 => ?_
 refine k_load rfl rfl rfl hpp2 hpo2 ?_
 refine k_load4 rfl rfl rfl rfl b14 (L 0) ?_
 refine k_load4 rfl rfl rfl rfl b24 (M 0) ?_
 refine k_load4 rfl rfl rfl rfl b34 (N 0) ?_
 refine k_call rfl rfl rfl (fun b h => by cases h) (wop_callF rfl rfl rfl (fn := Tryz.f81) (by rfl) ?_)
 refine c81 hq H4 r k _ _ x y tk gp j z g rfl rfl hT hy4 hxb hx1 (by omega) _ fun H5 k5 n5 => ⟨k5.nx, k5, ?_⟩
 have x5 := k5.nx
 by_cases h7 : b = gapA r k g
 rotate_left
 · refine k_bin (op := .eql) (v := .bool false) rfl rfl rfl rfl rfl (by simp [binI]; omega) ?_
   repeat (first | apply qN | refine qM rfl rfl ?_ | refine zq4 rfl rfl rfl rfl (inc (by omega)) ?_ | refine k_nil ?_ | refine k_pick rfl rfl rfl rfl ?_ | refine qF rfl ?_ | apply qR | apply qK)
   exact ⟨tk.length - (i + 1), by omega, i + 1, [_,_,_,_,_,_,_,_,_,_,_,_,_,_,_,_,_,_,_,_,_,_,_,_,_,_,_,_,_,_,_,_,_,_,_,_,_,_,_,_,_,_,_,_,_,_,_,_,_,_,_,_,_,_,_,_,_,_,_,_,_,_,_,_,_,_,_,_,_,_,_,_,_,_,_,_,_,_,_,_,_,_,_,_,_,_,_,_], rfl, by omega, hgo (fun h => h7 h.2), k4.trans k5, by omega, rfl, rfl⟩
 refine k_bin (op := .eql) (v := .bool true) rfl rfl rfl rfl rfl (by simp [binI]; omega) ?_
 have hk := hk H5 ((k03.trans k4).trans k5) (by omega)
 rw [if_pos (prs_mem.2 ⟨i, by rw [ha, h6], by rw [hb, h7]⟩)] at hk
 repeat (first | apply qN | refine qM rfl rfl ?_ | refine k_nil ?_ | refine k_pick rfl rfl rfl rfl ?_ | refine qT rfl ?_ | apply qR | apply qS)
 refine wp_ret ?_
 exact ⟨_, _, rfl, hk⟩
end Go.Ev
