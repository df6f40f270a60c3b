/- Part of an evaluator of calls that is proved sound, and of what it gives about this program. No condition of its own. -/
import Derived.Test.YtcbmpnddhnkfnaaGreatDoorExHa
set_option linter.unusedVariables false
set_option linter.unusedSimpArgs false
set_option linter.unusedSectionVars false
set_option maxRecDepth 100000
set_option maxHeartbeats 4000000
namespace Go.Ev
open Go.Proofs
def inB (n lo hi : Int) : Bool := decide (lo ≤ n ∧ n ≤ hi)
def shB (m : Mc) (p : Int) : Bool := inB p (if m.ring = true then 0 else 1) (m.g - 1)
theorem mul4 {g : Int} (h : -1000000 ≤ g ∧ g ≤ 1000000) : binI .mul .i64 .i64 4 g = some (.int .i64 (4 * g)) := by
 show some (Value.int .i64 (IntKind.i64.wrap (4 * g))) = _
 rw [wrap_id (by omega) (by omega)]
theorem sub1 {g : Int} (h : -1000000 ≤ g ∧ g ≤ 1000000) : binI .sub .i64 .i64 g 1 = some (.int .i64 (g - 1)) := by
 show some (Value.int .i64 (IntKind.i64.wrap (g - 1))) = _
 rw [wrap_id (by omega) (by omega)]
variable {O : CallF} (hq : Quiet O)
include hq
theorem c31 (H : AH) (n lo hi : Int) (K : AV → AH → Prop) (hk : K (.v (.bool (!inB n lo hi))) H) : Ca (ENV O) 31 [iv n, iv lo, iv hi] H K := by
 refine ca_intro (hq _ _ _ rfl) (fn := Tryz.f31) (by rfl) rfl ?_
 repeat (first | apply qN | refine qM rfl rfl ?_ | apply qR | apply qS)
 refine wops_cons (wop_cmp rfl rfl rfl rfl rfl (fun h => ?_) (fun h => ?_))
 · have h : n < lo := of_decide_eq_true h
   rw [show (!inB n lo hi) = true by simp [inB]; omega] at hk
   repeat (first | apply qN | refine zq1 rfl rfl ?_ | refine qM rfl rfl ?_ | refine zq7 rfl rfl rfl ?_)
   refine wp_ret ?_
   exact ⟨_, _, rfl, hk⟩
 have h0 : ¬ n < lo := of_decide_eq_false h
 clear h
 repeat (first | refine qM rfl rfl ?_)
 refine wops_cons (wop_cmp rfl rfl rfl rfl rfl (fun h => ?_) (fun h => ?_))
 · have h : n > hi := of_decide_eq_true h
   rw [show (!inB n lo hi) = true by simp [inB]; omega] at hk
   repeat (first | apply qN | refine qM rfl rfl ?_ | refine zq7 rfl rfl rfl ?_)
   refine wp_ret ?_
   exact ⟨_, _, rfl, hk⟩
 have h1 : ¬ n > hi := of_decide_eq_false h
 rw [show (!inB n lo hi) = false by simp [inB]; omega] at hk
 repeat (first | apply qN | refine qM rfl rfl ?_ | refine zq7 rfl rfl rfl ?_)
 refine wp_ret ?_
 exact ⟨_, _, rfl, hk⟩
theorem c81 (H : AH) (a x : AV) (m : Mc) (ha : a.cells = mc m x) (hg : 1 ≤ m.g ∧ m.g ≤ 16) (hr : H.next < 2 ^ 39) (K : AV → AH → Prop) (hk : ∀ H', Keeps H H' → H'.next = H.next + 1 → K (iv (4 * m.g)) H') : Ca (ENV O) 81 [a] H K := by
 refine ca_intro (hq _ _ _ rfl) (fn := Tryz.f81) (by rfl) rfl ?_
 repeat (first | apply qR | apply qS)
 refine wops_cons (o_boxM rfl rfl ha hr fun H1 n1 k1 b1 => ?_)
 have hp1 := b1.p1
 repeat (first | apply qN | refine qM rfl rfl ?_ | refine zqa rfl rfl rfl ?_ | refine zq6 rfl rfl ‹_› ?_ | apply qR | apply qS)
 refine wops_cons (wop_bin (op := .mul) rfl rfl rfl rfl (mul4 (by omega)) ?_)
 repeat (first | apply qN | refine qM rfl rfl ?_)
 refine wp_ret ?_
 exact ⟨_, _, rfl, hk _ k1 n1⟩
theorem c71 (H : AH) (a x : AV) (m : Mc) (p : Int) (ha : a.cells = mc m x) (hg : 1 ≤ m.g ∧ m.g ≤ 16) (hr : H.next < 2 ^ 39) (K : AV → AH → Prop) (hk : ∀ H', Keeps H H' → H'.next = H.next + 1 → K (.v (.bool (shB m p))) H') : Ca (ENV O) 71 [a, iv p] H K := by
 refine ca_intro (hq _ _ _ rfl) (fn := Tryz.f71) (by rfl) rfl ?_
 repeat (first | apply qR | apply qS)
 refine wops_cons (o_boxM rfl rfl ha hr fun H1 n1 k1 b1 => ?_)
 have hp0 := b1.p0
 have hp1 := b1.p1
 repeat (first | apply qN | refine qM rfl rfl ?_ | refine zqa rfl rfl rfl ?_ | refine zq6 rfl rfl ‹_› ?_ | apply qR | apply qS)
 refine wp_cond rfl (fun h => ?_) (fun h => ?_)
 · repeat (first | refine qM rfl rfl ?_ | refine zqa rfl rfl rfl ?_ | refine zq6 rfl rfl ‹_› ?_ | apply qR | apply qS)
   refine wops_cons (wop_bin (op := .sub) rfl rfl rfl rfl (sub1 (by omega)) ?_)
   refine wops_cons (wop_callF rfl rfl rfl (fn := Tryz.f31) (by rfl) ?_)
   refine c31 hq H1 p 0 (m.g - 1) _ ⟨Nat.le_refl _, ?_⟩
   repeat (first | apply qN | refine qM rfl rfl ?_ | refine zq8 rfl rfl rfl ?_)
   refine wp_ret ?_
   refine ⟨_, _, rfl, ?_⟩
   have := hk H1 k1 n1
   unfold shB at this
   rw [if_pos h] at this
   exact (show K (.v (.bool (!(!inB p 0 (m.g - 1))))) H1 by rw [Bool.not_not]; exact this)
 · repeat (first | refine qM rfl rfl ?_ | refine zqa rfl rfl rfl ?_ | refine zq6 rfl rfl ‹_› ?_ | apply qR | apply qS | apply qK)
   refine wops_cons (wop_bin (op := .sub) rfl rfl rfl rfl (sub1 (by omega)) ?_)
   refine wops_cons (wop_callF rfl rfl rfl (fn := Tryz.f31) (by rfl) ?_)
   refine c31 hq H1 p 1 (m.g - 1) _ ⟨Nat.le_refl _, ?_⟩
   repeat (first | apply qN | refine qM rfl rfl ?_ | refine zq8 rfl rfl rfl ?_)
   refine wp_ret ?_
   refine ⟨_, _, rfl, ?_⟩
   have := hk H1 k1 n1
   unfold shB at this
   rw [if_neg (by simp [h])] at this
   exact (show K (.v (.bool (!(!inB p 1 (m.g - 1))))) H1 by rw [Bool.not_not]; exact this)
end Go.Ev
namespace Go.Ev
open Go.Proofs
section
variable {E : Env} {T : List AV} {H H0 : AH} {ops : Array Oper} {o : Oper} {i : Nat} {π : List Stp} {K : List AV → AH → Prop}
theorem k_not {t : TypeId} {x : Operand} {b : Bool} (h1 : ops.toList[i]? = some o) (ho : o.op = .unOp .not t x) (hg : wantedA o ops T = true) (hx : av T x = .v (.bool b)) (hk : WK E ops H0 π (putA T o.dst (.v (.bool (!b)))) H K) : WK E ops H0 (.mob i :: π) T H K := by
 refine k_mob h1 hg ?_ (fun b hb => by rw [rdA_none (by unfold looksB; rw [ho])] at hb; cases hb) hk
 unfold mobEval
 rw [ho]
 simp only
 unfold plainVal
 have h2 : runPure E.P (execOp (fun x => ((av T x).plain).getD undef) o) = some (.value (.bool (!b))) := by
   obtain ⟨dst, op', type, pos, after, guard⟩ := o
   simp only at ho
   subst ho
   simp only [execOp, hx, AV.plain, Option.getD_some, Op.unary, runPure_bind, runPure_pure, Option.bind_some]
 rw [h2, ho]
 simp [Op.operands, hx, AV.plain]
theorem k_rem {t yt : TypeId} {x y : Operand} {k : IntKind} {a b : Int} (h1 : ops.toList[i]? = some o) (ho : o.op = .binOp .rem t x y yt) (hg : wantedA o ops T = true) (hx : av T x = .v (.int k a)) (hy : av T y = .v (.int k b)) (hb : b ≠ 0) (hk : WK E ops H0 π (putA T o.dst (.v (.int k (a.tmod b)))) H K) : WK E ops H0 (.mob i :: π) T H K :=
 k_0 h1 (by unfold looksB; rw [ho]) hg (wd_rem h1 ho hg hx hy hb rfl) hk
end
def swE (m : Mc) : Option Int → List Int → Int
 | _, [] => 0
 | p, z :: l => if shB m z = false then 10 else if (match p with | some y => decide (z ≤ y) | none => false) = true then 11 else swE m (some z) l
theorem swE_cons (m : Mc) (p : Option Int) (z : Int) (l : List Int) : swE m p (z :: l) = if shB m z = false then 10 else if (match p with | some y => decide (z ≤ y) | none => false) = true then 11 else swE m (some z) l := rfl
def mE (m : Mc) : Int := if inB m.g 1 16 = false then 3 else if m.ring = true ∧ m.g.tmod 2 = 1 then 17 else if m.t ≠ 1 ∧ m.t ≠ -1 then 3 else if m.g < m.sw.length then 5 else swE m none m.sw
def prv (l : List Int) (i : Nat) : Option Int := if i = 0 then none else l[i - 1]?
theorem drop_cons {l : List Int} {i : Nat} {z : Int} (h : l[i]? = some z) : l.drop i = z :: l.drop (i + 1) := by
 have hi := (List.getElem?_eq_some_iff.1 h).1
 rw [List.drop_eq_getElem_cons hi]
 congr 1
 exact (List.getElem?_eq_some_iff.1 h).2
theorem prv_succ {l : List Int} {i : Nat} {z : Int} (h : l[i]? = some z) : prv l (i + 1) = some z := by simp [prv, h]
theorem dec1 {i : Nat} (h : 0 < i) (h2 : i < 4611686018427387904) : binI .sub .i64 .i64 (i : Int) 1 = some (.int .i64 ((i - 1 : Nat) : Int)) := by
 show some (Value.int .i64 (IntKind.i64.wrap ((i : Int) - 1))) = _
 rw [wrap_id (by omega) (by omega)]
 congr 2
 omega
variable {O : CallF} (hq : Quiet O)
include hq
theorem c16 (H : AH) (a x : AV) (m : Mc) (ha : a.cells = mc m x) (hx : Sl H x (ivs m.sw)) (ho : Old H x) (hL : ∀ b, x.own = some b → Lk H b) (hl : m.sw.length ≤ 100000) (hr : H.next + m.sw.length + 10 < 2 ^ 39) (K : AV → AH → Prop) (hk : ∀ H', Keeps H H' → H'.next ≤ H.next + 1 + m.sw.length → K (iv (mE m)) H') : Ca (ENV O) 16 [a] H K := by
 refine ca_intro (hq _ _ _ rfl) (fn := Tryz.f16) (by rfl) rfl ?_
 have r0 : H.next < 2 ^ 39 := by omega
 repeat (first | apply qR | apply qS)
 refine wops_cons (o_boxM rfl rfl ha r0 fun H1 n1 k1 b1 => ?_)
 have hp0 := b1.p0
 have hp1 := b1.p1
 have hp2 := b1.p2
 have hp3 := b1.p3
 have hx1 := hx.keep ho k1
 have ho1 := ho.keep k1
 have hB := b1.lk (by omega) hx1
 have hL1 : ∀ b, x.own = some b → Lk H1 b := fun b hb => (hL b hb).keep k1
 repeat (first | apply qN | refine qM rfl rfl ?_ | refine zqa rfl rfl rfl ?_ | refine zq6 rfl rfl ‹_› ?_ | apply qR | apply qS)
 refine wops_cons (wop_callF rfl rfl rfl (fn := Tryz.f31) (by rfl) ?_)
 refine c31 hq H1 m.g 1 16 _ ⟨Nat.le_refl _, ?_⟩
 repeat (first | apply qN)
 refine wp_cond rfl (fun h => ?_) (fun h => ?_)
 · have h : inB m.g 1 16 = false := by simpa using h
   have hk := hk H1 k1 (by omega)
   rw [mE, if_pos h] at hk
   repeat (first | apply qN | refine qM rfl rfl ?_ | apply qR | apply qS)
   refine wp_ret ?_
   exact ⟨_, _, rfl, hk⟩
 have hg0 : inB m.g 1 16 = true := by simpa using h
 have hg : 1 ≤ m.g ∧ m.g ≤ 16 := of_decide_eq_true hg0
 clear h
 rw [mE, if_neg (by simp [hg0])] at hk
 repeat (first | refine qM rfl rfl ?_ | refine zqa rfl rfl rfl ?_ | refine zq6 rfl rfl ‹_› ?_ | apply qR | apply qS | apply qK)
 refine wops_split 5 ?_
 refine WOps.mono (K := fun T' H' => H1 = H' ∧ ∃ (Y : List AV), T' = (lget Y 0 :: .ptr H.next 0 :: lget Y 1 :: lget Y 2 :: lget Y 3 :: lget Y 4 :: lget Y 5 :: lget Y 6 :: lget Y 7 :: lget Y 8 :: lget Y 9 :: lget Y 10 :: lget Y 11 :: lget Y 12 :: .v (.bool (decide (m.ring = true ∧ m.g.tmod 2 = 1))) :: lget Y 13 :: lget Y 14 :: lget Y 15 :: lget Y 16 :: lget Y 17 :: lget Y 18 :: lget Y 19 :: lget Y 20 :: lget Y 21 :: lget Y 22 :: lget Y 23 :: lget Y 24 :: lget Y 25 :: lget Y 26 :: lget Y 27 :: lget Y 28 :: lget Y 29 :: lget Y 30 :: lget Y 31 :: lget Y 32 :: lget Y 33 :: lget Y 34 :: lget Y 35 :: lget Y 36 :: lget Y 37 :: lget Y 38 :: lget Y 39 :: lget Y 40 :: lget Y 41 :: lget Y 42 :: lget Y 43 :: lget Y 44 :: lget Y 45 :: lget Y 46 :: lget Y 47 :: lget Y 48 :: lget Y 49 :: lget Y 50 :: lget Y 51 :: lget Y 52 :: lget Y 53 :: lget Y 54 :: lget Y 55 :: lget Y 56 :: lget Y 57 :: [])) ?_ ?_
 · cases hring : m.ring with
   | true =>
     repeat (first | refine zqa rfl rfl rfl ?_ | refine zq6 rfl rfl ‹_› ?_)
     refine wops_cons (wop_rem rfl rfl rfl rfl (by decide) ?_)
     refine wops_cons (wop_cmp rfl rfl rfl rfl rfl (fun h => ?_) (fun h => ?_))
     · have h : m.g.tmod 2 = 1 := by simpa using h
       rw [decide_eq_true (show true = true ∧ m.g.tmod 2 = 1 from ⟨rfl, h⟩)]
       repeat (first | apply qN | refine zq7 rfl rfl rfl ?_)
       exact ⟨rfl, [_,_,_,_,_,_,_,_,_,_,_,_,_,_,_,_,_,_,_,_,_,_,_,_,_,_,_,_,_,_,_,_,_,_,_,_,_,_,_,_,_,_,_,_,_,_,_,_,_,_,_,_,_,_,_,_,_,_], rfl⟩
     · have h : ¬ m.g.tmod 2 = 1 := by simpa using h
       rw [decide_eq_false (show ¬ (true = true ∧ m.g.tmod 2 = 1) from fun e => h e.2)]
       repeat (first | apply qN | refine zq7 rfl rfl rfl ?_)
       exact ⟨rfl, [_,_,_,_,_,_,_,_,_,_,_,_,_,_,_,_,_,_,_,_,_,_,_,_,_,_,_,_,_,_,_,_,_,_,_,_,_,_,_,_,_,_,_,_,_,_,_,_,_,_,_,_,_,_,_,_,_,_], rfl⟩
   | false =>
     rw [decide_eq_false (show ¬ (false = true ∧ m.g.tmod 2 = 1) from fun e => by cases e.1)]
     repeat (first | apply qN | refine zq1 rfl rfl ?_ | refine zq7 rfl rfl rfl ?_)
     exact ⟨rfl, [_,_,_,_,_,_,_,_,_,_,_,_,_,_,_,_,_,_,_,_,_,_,_,_,_,_,_,_,_,_,_,_,_,_,_,_,_,_,_,_,_,_,_,_,_,_,_,_,_,_,_,_,_,_,_,_,_,_], rfl⟩
 rintro T' H' ⟨rfl, Y, rfl⟩
 repeat (first | apply qN)
 refine wp_cond rfl (fun h => ?_) (fun h => ?_)
 · have hk := hk H1 k1 (by omega)
   rw [if_pos (of_decide_eq_true h)] at hk
   repeat (first | apply qN | refine qM rfl rfl ?_ | apply qR | apply qS)
   refine wp_ret ?_
   exact ⟨_, _, rfl, hk⟩
 rw [if_neg (of_decide_eq_false h)] at hk
 clear h
 repeat (first | refine zqa rfl rfl rfl ?_ | refine zq6 rfl rfl ‹_› ?_ | apply qR | apply qS | apply qK)
 refine wops_split 6 ?_
 refine WOps.mono (K := fun T' H' => H1 = H' ∧ ∃ (Y : List AV), T' = (lget Y 0 :: .ptr H.next 0 :: lget Y 1 :: lget Y 2 :: lget Y 3 :: lget Y 4 :: lget Y 5 :: lget Y 6 :: lget Y 7 :: lget Y 8 :: lget Y 9 :: lget Y 10 :: lget Y 11 :: lget Y 12 :: lget Y 13 :: lget Y 14 :: lget Y 15 :: lget Y 16 :: lget Y 17 :: lget Y 18 :: lget Y 19 :: lget Y 20 :: .v (.bool (decide (m.t ≠ 1 ∧ m.t ≠ -1))) :: lget Y 21 :: lget Y 22 :: lget Y 23 :: lget Y 24 :: lget Y 25 :: lget Y 26 :: lget Y 27 :: lget Y 28 :: lget Y 29 :: lget Y 30 :: lget Y 31 :: lget Y 32 :: lget Y 33 :: lget Y 34 :: lget Y 35 :: lget Y 36 :: lget Y 37 :: lget Y 38 :: lget Y 39 :: lget Y 40 :: lget Y 41 :: lget Y 42 :: lget Y 43 :: lget Y 44 :: lget Y 45 :: lget Y 46 :: lget Y 47 :: lget Y 48 :: lget Y 49 :: lget Y 50 :: lget Y 51 :: lget Y 52 :: lget Y 53 :: lget Y 54 :: lget Y 55 :: lget Y 56 :: lget Y 57 :: [])) ?_ ?_
 · refine wops_cons (wop_cmp rfl rfl rfl rfl rfl (fun h => ?_) (fun h => ?_))
   · have h1 : m.t ≠ 1 := by simpa using h
     clear h
     repeat (first | refine qM rfl rfl ?_ | refine zqa rfl rfl rfl ?_ | refine zq6 rfl rfl ‹_› ?_)
     refine wops_cons (wop_cmp rfl rfl rfl rfl rfl (fun h => ?_) (fun h => ?_))
     · have h2 : m.t ≠ -1 := by simpa using h
       rw [decide_eq_true (show m.t ≠ 1 ∧ m.t ≠ -1 from ⟨h1, h2⟩)]
       repeat (first | apply qN | refine zq7 rfl rfl rfl ?_)
       exact ⟨rfl, [_,_,_,_,_,_,_,_,_,_,_,_,_,_,_,_,_,_,_,_,_,_,_,_,_,_,_,_,_,_,_,_,_,_,_,_,_,_,_,_,_,_,_,_,_,_,_,_,_,_,_,_,_,_,_,_,_,_], rfl⟩
     · have h2 : ¬ m.t ≠ -1 := by simpa using h
       rw [decide_eq_false (show ¬ (m.t ≠ 1 ∧ m.t ≠ -1) from fun e => h2 e.2)]
       repeat (first | apply qN | refine zq7 rfl rfl rfl ?_)
       exact ⟨rfl, [_,_,_,_,_,_,_,_,_,_,_,_,_,_,_,_,_,_,_,_,_,_,_,_,_,_,_,_,_,_,_,_,_,_,_,_,_,_,_,_,_,_,_,_,_,_,_,_,_,_,_,_,_,_,_,_,_,_], rfl⟩
   · have h1 : ¬ m.t ≠ 1 := by simpa using h
     rw [decide_eq_false (show ¬ (m.t ≠ 1 ∧ m.t ≠ -1) from fun e => h1 e.1)]
     repeat (first | apply qN | refine zq1 rfl rfl ?_ | refine qM rfl rfl ?_ | refine zq7 rfl rfl rfl ?_)
     exact ⟨rfl, [_,_,_,_,_,_,_,_,_,_,_,_,_,_,_,_,_,_,_,_,_,_,_,_,_,_,_,_,_,_,_,_,_,_,_,_,_,_,_,_,_,_,_,_,_,_,_,_,_,_,_,_,_,_,_,_,_,_], rfl⟩
 rintro T' H' ⟨rfl, Y2, rfl⟩
 repeat (first | apply qN)
 refine wp_cond rfl (fun h => ?_) (fun h => ?_)
 · have hk := hk H1 k1 (by omega)
   rw [if_pos (of_decide_eq_true h)] at hk
   repeat (first | apply qN | refine qM rfl rfl ?_ | apply qR | apply qS)
   refine wp_ret ?_
   exact ⟨_, _, rfl, hk⟩
 rw [if_neg (of_decide_eq_false h)] at hk
 clear h
 repeat (first | refine zqa rfl rfl rfl ?_ | refine zq5 rfl rfl rfl rfl rfl ‹_› ?_ | refine zq6 rfl rfl ‹_› ?_ | apply qR | apply qS | apply qK)
 refine wops_cons (wop_cmp rfl rfl rfl rfl rfl (fun h => ?_) (fun h => ?_))
 · have hk := hk H1 k1 (by omega)
   rw [if_pos (show m.g < m.sw.length from of_decide_eq_true h)] at hk
   repeat (first | apply qN | refine qM rfl rfl ?_ | refine qT rfl ?_ | apply qR | apply qS)
   refine wp_ret ?_
   exact ⟨_, _, rfl, hk⟩
 have hmany : ¬ m.g < m.sw.length := of_decide_eq_false h
 rw [if_neg hmany] at hk
 clear h
 repeat (first | apply qN | refine qM rfl rfl ?_ | refine qF rfl ?_ | apply qR | apply qS | apply qK | apply qB)
 refine wp_loop (fun q T M H' => ∃ (i : Nat) (Y : List AV), q = m.sw.length - i ∧ i ≤ m.sw.length ∧ swE m none m.sw = swE m (prv m.sw i) (m.sw.drop i) ∧ Keeps H1 H' ∧ H'.next ≤ H1.next + i ∧ M = [] ∧ T = (lget Y 0 :: .ptr H.next 0 :: lget Y 1 :: iv (i : Nat) :: lget Y 2 :: lget Y 3 :: lget Y 4 :: lget Y 5 :: lget Y 6 :: lget Y 7 :: lget Y 8 :: lget Y 9 :: lget Y 10 :: lget Y 11 :: lget Y 12 :: lget Y 13 :: lget Y 14 :: lget Y 15 :: lget Y 16 :: lget Y 17 :: lget Y 18 :: lget Y 19 :: lget Y 20 :: lget Y 21 :: lget Y 22 :: lget Y 23 :: lget Y 24 :: lget Y 25 :: lget Y 26 :: lget Y 27 :: lget Y 28 :: lget Y 29 :: lget Y 30 :: lget Y 31 :: lget Y 32 :: lget Y 33 :: lget Y 34 :: lget Y 35 :: lget Y 36 :: lget Y 37 :: lget Y 38 :: lget Y 39 :: lget Y 40 :: lget Y 41 :: lget Y 42 :: lget Y 43 :: lget Y 44 :: lget Y 45 :: lget Y 46 :: lget Y 47 :: lget Y 48 :: lget Y 49 :: lget Y 50 :: lget Y 51 :: lget Y 52 :: lget Y 53 :: lget Y 54 :: lget Y 55 :: lget Y 56 :: lget Y 57 :: [])) m.sw.length
   ⟨0, [_,_,_,_,_,_,_,_,_,_,_,_,_,_,_,_,_,_,_,_,_,_,_,_,_,_,_,_,_,_,_,_,_,_,_,_,_,_,_,_,_,_,_,_,_,_,_,_,_,_,_,_,_,_,_,_,_,_], rfl, Nat.zero_le _, by simp [prv], Keeps.refl _, Nat.le_refl _, rfl, rfl⟩ ?_
 rintro q T M H2 ⟨i, Y, hq1, hi, hsw, k2, n2, rfl, rfl⟩
 have b2 := b1.keep (by omega) k2
 have hx2 := hx1.keep ho1 k2
 clear hp0 hp1 hp2 hp3
 have hp0 := b2.p0
 have hp3 := b2.p3
 have hB2 : ∀ c, (AV.ptr H.next 0).own = some c → Lk H2 c := fun c hc => (hB c hc).keep k2
 have hL2 : ∀ b, x.own = some b → Lk H2 b := fun b hb => (hL1 b hb).keep k2
 repeat (first | refine qM rfl rfl ?_ | refine zqa rfl rfl rfl ?_ | refine zq5 rfl rfl rfl rfl rfl ‹_› ?_ | refine zq6 rfl rfl ‹_› ?_ | apply qR | apply qS)
 refine wops_cons (wop_cmp rfl rfl rfl rfl rfl (fun h => ?_) (fun h => ?_))
 rotate_left
 · have h : ¬ ((i : Int) < m.sw.length) := of_decide_eq_false h
   have e : i = m.sw.length := by omega
   have hk := hk H2 (k1.trans k2) (by omega)
   rw [hsw, e, List.drop_length] at hk
   repeat (first | apply qN | refine qM rfl rfl ?_ | refine qF rfl ?_ | apply qR | apply qS | apply qE)
   refine wp_ret ?_
   exact ⟨_, _, rfl, hk⟩
 have h : (i : Int) < m.sw.length := of_decide_eq_true h
 obtain ⟨z, hz⟩ := l_some (show i < m.sw.length by omega)
 rw [drop_cons hz] at hsw
 repeat (first | apply qN | refine qT rfl ?_ | apply qS | apply qK | apply qB)
 refine wp_drawK rfl ?_
 repeat (first | refine k_move rfl rfl rfl ?_ | refine k_field rfl rfl rfl rfl ?_ | refine k_load rfl rfl rfl ‹_› ‹_› ?_ | refine k_load4 rfl rfl rfl rfl ‹_› ‹_› ?_)
 refine k_indexI rfl rfl rfl hx2 rfl hz hL2 fun p hp hpl => ?_
 repeat (first | refine k_load rfl rfl rfl ‹_› ‹_› ?_)
 refine k_call rfl rfl rfl (fun b h => by cases h) (wop_callF rfl rfl rfl (fn := Tryz.f71) (by rfl) ?_)
 refine c71 hq H2 _ x m z rfl hg (by omega) _ fun H3 k3 n3 => ⟨k3.nx, k3, ?_⟩
 refine k_not rfl rfl rfl rfl ?_
 repeat (first | refine k_nil ?_)
 refine wp_cond rfl (fun h => ?_) (fun h => ?_)
 · have h : shB m z = false := by simpa using h
   have hk := hk H3 ((k1.trans k2).trans k3) (by omega)
   rw [hsw, swE_cons, if_pos h] at hk
   repeat (first | apply qN | refine qM rfl rfl ?_ | apply qR | apply qS)
   refine wp_ret ?_
   exact ⟨_, _, rfl, hk⟩
 have hsh : shB m z = true := by simpa using h
 rw [swE_cons, if_neg (by simp [hsh])] at hsw
 clear h hp0 hp3 hp hpl
 have b3 := b2.keep (by have := k2.nx; omega) k3
 have hx3 := hx2.keep (ho1.keep k2) k3
 have hp3 := b3.p3
 have hB3 : ∀ c, (AV.ptr H.next 0).own = some c → Lk H3 c := fun c hc => (hB2 c hc).keep k3
 have hL3 : ∀ b, x.own = some b → Lk H3 b := fun b hb => (hL2 b hb).keep k3
 repeat (first | apply qS | apply qK)
 refine wp_drawK rfl ?_
 repeat (first | refine k_move rfl rfl rfl ?_)
 refine k_cmp rfl rfl rfl rfl rfl rfl (fun h => ?_) (fun h => ?_)
 · have h0 : 0 < i := by have : (i : Int) > 0 := of_decide_eq_true h
                         omega
   clear h
   obtain ⟨y, hy⟩ := l_some (show i - 1 < m.sw.length by omega)
   have hpr : prv m.sw i = some y := by rw [prv, if_neg (by omega)]; exact hy
   rw [hpr] at hsw
   repeat (first | refine k_move rfl rfl rfl ?_ | refine k_field rfl rfl rfl rfl ?_ | refine k_load rfl rfl rfl ‹_› ‹_› ?_)
   refine k_indexI rfl rfl rfl hx3 rfl hz hL3 fun p hp hpl => ?_
   repeat (first | refine k_move rfl rfl rfl ?_ | refine k_field rfl rfl rfl rfl ?_ | refine k_load rfl rfl rfl ‹_› ‹_› ?_)
   refine k_bin (op := .sub) rfl rfl rfl rfl rfl (dec1 h0 (by omega)) ?_
   skip
   refine k_indexI rfl rfl rfl hx3 rfl hy hL3 fun p2 hp2 hpl2 => ?_
   repeat (first | refine k_load rfl rfl rfl ‹_› ‹_› ?_)
   refine k_cmp rfl rfl rfl rfl rfl rfl (fun h => ?_) (fun h => ?_)
   · have h : z ≤ y := of_decide_eq_true h
     have hk := hk H3 ((k1.trans k2).trans k3) (by omega)
     rw [hsw, if_pos (by simpa using h)] at hk
     repeat (first | apply qN | refine qM rfl rfl ?_ | refine k_nil ?_ | refine k_pick rfl rfl rfl rfl ?_ | refine qT rfl ?_ | apply qR | apply qS)
     refine wp_ret ?_
     exact ⟨_, _, rfl, hk⟩
   have h : ¬ z ≤ y := of_decide_eq_false h
   rw [if_neg (by simpa using h)] at hsw
   repeat (first | apply qN | refine qM rfl rfl ?_ | refine zq4 rfl rfl rfl rfl (inc (by omega)) ?_ | refine k_nil ?_ | refine k_pick rfl rfl rfl rfl ?_ | refine qF rfl ?_ | apply qR | apply qK)
   exact ⟨m.sw.length - (i + 1), by omega, i + 1, [_,_,_,_,_,_,_,_,_,_,_,_,_,_,_,_,_,_,_,_,_,_,_,_,_,_,_,_,_,_,_,_,_,_,_,_,_,_,_,_,_,_,_,_,_,_,_,_,_,_,_,_,_,_,_,_,_,_], rfl, by omega, by rw [hsw, prv_succ hz], k2.trans k3, by omega, rfl, rfl⟩
 have h0 : i = 0 := by have : ¬ (i : Int) > 0 := of_decide_eq_false h
                       omega
 rw [if_neg (by simp [prv, h0])] at hsw
 repeat (first | apply qN | refine qM rfl rfl ?_ | refine zq4 rfl rfl rfl rfl (inc (by omega)) ?_ | refine k_nil ?_ | refine k_skip rfl rfl ?_ | refine k_move rfl rfl rfl ?_ | refine k_pick rfl rfl rfl rfl ?_ | refine qF rfl ?_ | apply qR | apply qK)
 exact ⟨m.sw.length - (i + 1), by omega, i + 1, [_,_,_,_,_,_,_,_,_,_,_,_,_,_,_,_,_,_,_,_,_,_,_,_,_,_,_,_,_,_,_,_,_,_,_,_,_,_,_,_,_,_,_,_,_,_,_,_,_,_,_,_,_,_,_,_,_,_], rfl, by omega, by rw [hsw, prv_succ hz], k2.trans k3, by omega, rfl, rfl⟩
end Go.Ev
namespace Go.Ev
open Go.Proofs
def ldE (m : Mc) : List Int → List Int → Int
 | _, [] => 0
 | s, z :: l => if inB z 0 (4 * m.g - 1) = false then 10 else if s.contains z = true then 9 else ldE m (s ++ [z]) l
theorem ldE_cons (m : Mc) (s : List Int) (z : Int) (l : List Int) : ldE m s (z :: l) = if inB z 0 (4 * m.g - 1) = false then 10 else if s.contains z = true then 9 else ldE m (s ++ [z]) l := rfl
def lE (m : Mc) (l : List Int) : Int := if 4 * m.g < l.length then 5 else ldE m [] l
theorem take_snoc {l : List Int} {i : Nat} {z : Int} (h : l[i]? = some z) : l.take i ++ [z] = l.take (i + 1) := by
 rw [List.take_add_one, h]; rfl
variable {O : CallF} (hq : Quiet O)
include hq
theorem c69 (H : AH) (a x y : AV) (m : Mc) (l : List Int) (ha : a.cells = mc m x) (hg : 1 ≤ m.g ∧ m.g ≤ 16) (hxb : x.beq x = true) (hy : Sl H y (ivs l)) (hoy : Old H y) (hLy : ∀ b, y.own = some b → Lk H b) (hl : l.length ≤ 100000) (hr : H.next + l.length + 10 < 2 ^ 39) (K : AV → AH → Prop) (hk : ∀ H', Keeps H H' → H'.next ≤ H.next + 2 + l.length → K (iv (lE m l)) H') : Ca (ENV O) 69 [a, y] H K := by
 refine ca_intro (hq _ _ _ rfl) (fn := Tryz.f69) (by rfl) rfl ?_
 have r0 : H.next < 2 ^ 39 := by omega
 repeat (first | apply qR | apply qS)
 refine wops_cons (o_boxM rfl rfl ha r0 fun H1 n1 k1 b1 => ?_)
 have hy1 := hy.keep hoy k1
 have hB : ∀ c, (AV.ptr H.next 0).own = some c → Lk H1 c := fun c hc => by
   cases hc
   refine ⟨by omega, ?_⟩
   rw [b1.g]
   simp [sameBlk, mc, beqs, AV.beq, vbeq, iv, hxb]
 have hL1 : ∀ b, y.own = some b → Lk H1 b := fun b hb => (hLy b hb).keep k1
 repeat (first | apply qN | refine qM rfl rfl ?_ | refine zq5 rfl rfl rfl rfl rfl ‹_› ?_ | refine zqb rfl rfl rfl ‹_› ?_ | apply qR | apply qS)
 refine wops_cons (wop_callF rfl rfl rfl (fn := Tryz.f81) (by rfl) ?_)
 refine c81 hq H1 _ x m rfl hg (by omega) _ fun H2 k2 n2 => ⟨k2.nx, ?_⟩
 skip
 refine wops_cons (wop_cmp rfl rfl rfl rfl rfl (fun h => ?_) (fun h => ?_))
 · have hk := hk H2 (k1.trans k2) (by omega)
   rw [lE, if_pos (show 4 * m.g < l.length from of_decide_eq_true h)] at hk
   repeat (first | apply qN | refine qM rfl rfl ?_ | refine qT rfl ?_ | apply qR | apply qS)
   refine wp_ret ?_
   exact ⟨_, _, rfl, hk⟩
 have hlen : ¬ 4 * m.g < l.length := of_decide_eq_false h
 rw [lE, if_neg hlen] at hk
 clear h
 have b2 := b1.keep (by omega) k2
 have hy2 := hy1.keep (hoy.keep k1) k2
 have hoy2 := (hoy.keep k1).keep k2
 have hB2 : ∀ c, (AV.ptr H.next 0).own = some c → Lk H2 c := fun c hc => (hB c hc).keep k2
 have hL2 : ∀ b, y.own = some b → Lk H2 b := fun b hb => (hL1 b hb).keep k2
 clear hy1
 repeat (first | apply qN | refine qM rfl rfl ?_ | refine qF rfl ?_ | apply qR | apply qS | apply qK | apply qB)
 refine wp_loop (fun q T M H' => ∃ (i : Nat) (Y : List AV), q = l.length - i ∧ i ≤ l.length ∧ ldE m [] l = ldE m (l.take i) (l.drop i) ∧ Keeps H2 H' ∧ H'.next ≤ H2.next + i ∧ M = [] ∧ T = (lget Y 0 :: y :: .ptr H.next 0 :: lget Y 1 :: lget Y 2 :: iv (i : Nat) :: lget Y 3 :: lget Y 4 :: lget Y 5 :: lget Y 6 :: lget Y 7 :: lget Y 8 :: lget Y 9 :: lget Y 10 :: lget Y 11 :: lget Y 12 :: lget Y 13 :: lget Y 14 :: lget Y 15 :: lget Y 16 :: lget Y 17 :: lget Y 18 :: lget Y 19 :: lget Y 20 :: lget Y 21 :: lget Y 22 :: lget Y 23 :: lget Y 24 :: lget Y 25 :: lget Y 26 :: lget Y 27 :: lget Y 28 :: lget Y 29 :: lget Y 30 :: lget Y 31 :: lget Y 32 :: lget Y 33 :: lget Y 34 :: lget Y 35 :: lget Y 36 :: [])) l.length
   ⟨0, [_,_,_,_,_,_,_,_,_,_,_,_,_,_,_,_,_,_,_,_,_,_,_,_,_,_,_,_,_,_,_,_,_,_,_,_,_], rfl, Nat.zero_le _, by simp, Keeps.refl _, Nat.le_refl _, rfl, rfl⟩ ?_
 rintro q T M H3 ⟨i, Y, hq1, hi, hsw, k3, n3, rfl, rfl⟩
 have b3 := b2.keep (by omega) k3
 have hy3 := hy2.keep hoy2 k3
 have hB3 : ∀ c, (AV.ptr H.next 0).own = some c → Lk H3 c := fun c hc => (hB2 c hc).keep k3
 have hL3 : ∀ b, y.own = some b → Lk H3 b := fun b hb => (hL2 b hb).keep k3
 repeat (first | refine qM rfl rfl ?_ | refine zq5 rfl rfl rfl rfl rfl ‹_› ?_ | apply qR | apply qS)
 refine wops_cons (wop_cmp rfl rfl rfl rfl rfl (fun h => ?_) (fun h => ?_))
 rotate_left
 · have h : ¬ ((i : Int) < l.length) := of_decide_eq_false h
   have e : i = l.length := by omega
   have hk := hk H3 ((k1.trans k2).trans k3) (by omega)
   rw [hsw, e, List.drop_length] at hk
   repeat (first | apply qN | refine qM rfl rfl ?_ | refine qF rfl ?_ | apply qR | apply qS | apply qE)
   refine wp_ret ?_
   exact ⟨_, _, rfl, hk⟩
 have h : (i : Int) < l.length := of_decide_eq_true h
 obtain ⟨z, hz⟩ := l_some (show i < l.length by omega)
 rw [drop_cons hz, ldE_cons] at hsw
 repeat (first | apply qN | refine qT rfl ?_ | apply qS | apply qK | apply qB)
 refine wp_drawK rfl ?_
 repeat (first | refine k_move rfl rfl rfl ?_)
 refine k_indexI rfl rfl rfl hy3 rfl hz hL3 fun p hp hpl => ?_
 repeat (first | refine k_load rfl rfl rfl ‹_› ‹_› ?_ | refine k_load4 rfl rfl rfl rfl ‹_› ‹_› ?_)
 refine k_call rfl rfl rfl (fun b h => by cases h) (wop_callF rfl rfl rfl (fn := Tryz.f81) (by rfl) ?_)
 refine c81 hq H3 _ x m rfl hg (by omega) _ fun H4 k4 n4 => ⟨k4.nx, k4, ?_⟩
 refine k_bin (op := .sub) rfl rfl rfl rfl rfl (sub1 (by omega)) ?_
 refine k_call rfl rfl rfl (fun b h => by cases h) (wop_callF rfl rfl rfl (fn := Tryz.f31) (by rfl) ?_)
 refine c31 hq H4 z 0 (4 * m.g - 1) _ ⟨Nat.le_refl _, k4, ?_⟩
 repeat (first | refine k_nil ?_)
 refine wp_cond rfl (fun h => ?_) (fun h => ?_)
 · have h : inB z 0 (4 * m.g - 1) = false := by simpa using h
   have hk := hk H4 (((k1.trans k2).trans k3).trans k4) (by omega)
   rw [hsw, if_pos h] at hk
   repeat (first | apply qN | refine qM rfl rfl ?_ | apply qR | apply qS)
   refine wp_ret ?_
   exact ⟨_, _, rfl, hk⟩
 have hin : inB z 0 (4 * m.g - 1) = true := by simpa using h
 rw [if_neg (by simp [hin])] at hsw
 clear h hp hpl
 have hy4 := hy3.keep (hoy2.keep k3) k4
 have hL4 : ∀ b, y.own = some b → Lk H4 b := fun b hb => (hL3 b hb).keep k4
 clear hy3
 repeat (first | apply qN | refine qM rfl rfl ?_ | apply qR | apply qS | apply qK | apply qB)
 refine wp_loop (fun q T M H' => ∃ (k : Nat) (Y : List AV), q = i - k ∧ k ≤ i ∧ (∀ j, j < k → l[j]? ≠ some z) ∧ H' = H4 ∧ M = [] ∧ T = (lget Y 0 :: y :: .ptr H.next 0 :: lget Y 1 :: lget Y 2 :: iv (i : Nat) :: iv (k : Nat) :: lget Y 3 :: lget Y 4 :: lget Y 5 :: lget Y 6 :: lget Y 7 :: lget Y 8 :: lget Y 9 :: lget Y 10 :: lget Y 11 :: lget Y 12 :: lget Y 13 :: lget Y 14 :: lget Y 15 :: lget Y 16 :: lget Y 17 :: lget Y 18 :: lget Y 19 :: lget Y 20 :: lget Y 21 :: lget Y 22 :: lget Y 23 :: lget Y 24 :: lget Y 25 :: lget Y 26 :: lget Y 27 :: lget Y 28 :: lget Y 29 :: lget Y 30 :: lget Y 31 :: lget Y 32 :: lget Y 33 :: lget Y 34 :: lget Y 35 :: [])) i
   ⟨0, [_,_,_,_,_,_,_,_,_,_,_,_,_,_,_,_,_,_,_,_,_,_,_,_,_,_,_,_,_,_,_,_,_,_,_,_], rfl, Nat.zero_le _, fun j hj => absurd hj (Nat.not_lt_zero _), rfl, rfl, rfl⟩ ?_
 rintro q2 T M H' ⟨k, Y, hq2, hk2, hne, rfl, rfl, rfl⟩
 repeat (first | refine qM rfl rfl ?_ | apply qR | apply qS)
 refine wops_cons (wop_cmp rfl rfl rfl rfl rfl (fun h => ?_) (fun h => ?_))
 rotate_left
 · have h : ¬ ((k : Int) < i) := of_decide_eq_false h
   have e : k = i := by omega
   have hc : (l.take i).contains z = false := by
     rw [Bool.eq_false_iff]
     intro hc
     rw [List.contains_iff_mem] at hc
     obtain ⟨j, hj⟩ := List.getElem?_of_mem hc
     rw [List.getElem?_take] at hj
     split at hj
     · exact hne j (by omega) hj
     · cases hj
   rw [if_neg (show ¬ (l.take i).contains z = true from fun e => by rw [hc] at e; cases e), take_snoc hz] at hsw
   repeat (first | apply qN | refine qM rfl rfl ?_ | refine zq4 rfl rfl rfl rfl (inc (by omega)) ?_ | refine qF rfl ?_ | apply qR | apply qE)
   exact ⟨l.length - (i + 1), by omega, i + 1, [_,_,_,_,_,_,_,_,_,_,_,_,_,_,_,_,_,_,_,_,_,_,_,_,_,_,_,_,_,_,_,_,_,_,_,_,_], rfl, by omega, hsw, k3.trans k4, by omega, rfl, rfl⟩
 have h : (k : Int) < i := of_decide_eq_true h
 obtain ⟨w, hw⟩ := l_some (show k < l.length by omega)
 repeat (first | apply qN | refine qT rfl ?_ | apply qS | apply qK | apply qB)
 refine wp_drawK rfl ?_
 repeat (first | refine k_move rfl rfl rfl ?_)
 refine k_indexI rfl rfl rfl hy4 rfl hw hL4 fun p hp hpl => ?_
 repeat (first | refine k_move rfl rfl rfl ?_ | refine k_load rfl rfl rfl ‹_› ‹_› ?_)
 refine k_indexI rfl rfl rfl hy4 rfl hz hL4 fun p2 hp2 hpl2 => ?_
 repeat (first | refine k_load rfl rfl rfl ‹_› ‹_› ?_)
 refine k_cmp rfl rfl rfl rfl rfl rfl (fun h => ?_) (fun h => ?_)
 · have h : w = z := by simpa using h
   have hc : (l.take i).contains z = true := by
     rw [List.contains_iff_mem]
     refine List.mem_of_getElem? (i := k) ?_
     rw [List.getElem?_take, if_pos (by omega), hw, h]
   have hk := hk H' (((k1.trans k2).trans k3).trans k4) (by omega)
   rw [hsw, if_pos hc] at hk
   repeat (first | apply qN | refine qM rfl rfl ?_ | refine k_nil ?_ | refine qT rfl ?_ | apply qR | apply qS)
   refine wp_ret ?_
   exact ⟨_, _, rfl, hk⟩
 have hwz : w ≠ z := by simpa using h
 clear h
 repeat (first | apply qN | refine qM rfl rfl ?_ | refine zq4 rfl rfl rfl rfl (inc (by omega)) ?_ | refine k_nil ?_ | refine qF rfl ?_ | apply qR | apply qK)
 refine ⟨i - (k + 1), by omega, k + 1, [_,_,_,_,_,_,_,_,_,_,_,_,_,_,_,_,_,_,_,_,_,_,_,_,_,_,_,_,_,_,_,_,_,_,_,_], rfl, by omega, fun j hj => ?_, rfl, rfl, rfl⟩
 by_cases e : j = k
 · subst e; rw [hw]; exact fun e => hwz (Option.some.inj e)
 · exact hne j (by omega)
end Go.Ev
