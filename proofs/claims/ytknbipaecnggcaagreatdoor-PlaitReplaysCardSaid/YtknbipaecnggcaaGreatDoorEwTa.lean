/- Part of an evaluator of calls that is proved sound, and of what it gives about this program. No condition of its own. -/
import Derived.Test.YtknbipaecnggcaaGreatDoorEwRh
import Derived.Laws.StructEq
set_option linter.unusedVariables false
set_option linter.unusedSimpArgs false
set_option linter.unusedSectionVars false
set_option maxRecDepth 100000
set_option maxHeartbeats 4000000
namespace Go.Ev
open Go.Proofs
def W2 (H : AH) (y : Value) (ms : List (Int × Int)) : Prop := ∃ a c, y = .slice a ms.length c ∧ (ms = [] ∨ ∃ b off vs, a = some ⟨b, off, none⟩ ∧ H.gl b = some vs ∧ ∀ (j : Nat) (p : Int × Int), ms[j]? = some p → (vs.drop (off + j * 2)).take 2 = [.int .i64 p.1, .int .i64 p.2] ∧ off + j * 2 + 2 ≤ vs.length)
theorem W2.keep {H H' : AH} {y : Value} {ms : List (Int × Int)} (h : W2 H y ms) (k : Keeps H H') : W2 H' y ms := by
 obtain ⟨a, c, h1, h2⟩ := h
 refine ⟨a, c, h1, ?_⟩
 rcases h2 with h2 | ⟨b, off, vs, h3, h4, h5⟩
 · exact .inl h2
 · exact .inr ⟨b, off, vs, h3, by rw [k.gl]; exact h4, h5⟩
def P2 (H : AH) (p : AV) (q : Int × Int) : Prop := ∃ b off vs, p = .v (.pointer (some ⟨b, off, none⟩)) ∧ H.gl b = some vs ∧ (vs.drop off).take 2 = [.int .i64 q.1, .int .i64 q.2] ∧ off + 2 ≤ vs.length
theorem plain_indexAt2 {P : Program} {t e : TypeId} {b off n cap : Nat} {kd : IntKind} {j : Int} (hu : runPure P (underlying t) = some (.slice e)) (hs : runPure P (sizeOf e) = some 2) (hj : 0 ≤ j ∧ j < n) :
   runPure P (Instr.indexAt t (.slice (some ⟨b, off, none⟩) n cap) (.int kd j)) = some (.pointer (some ⟨b, off + j.toNat * 2, none⟩)) := by
 unfold Instr.indexAt
 simp only [asIntOf, runPure_bind, hu, runPure_pure, Option.bind_some, hj, and_self, if_true, hs, addr_plus]
section
variable {O : CallF} {T : List AV} {H H0 : AH} {ops : Array Oper} {o : Oper} {i : Nat} {π : List Stp} {K : AV → AH → Prop} {B : Nat → Nat → Prop} {KD : List AV → AH → Prop}
theorem o_lenW {c : Call} {t e : TypeId} {x : Operand} {y : Value} {ms : List (Int × Int)} (ho : o.op = .call c) (hg : wantedA o ops T = true) (hc : c.callee = .builtin .len) (hargs : c.args.toList = [x]) (ht : c.argTypes.toList = [t]) [hu : TyP t e] (hx : av T x = .v y) (hy : W2 H y ms) (hk : K (iv ms.length) H) : WOp (ENV O) ops o T H K := by
 refine wop_val (by rw [ho]; simp only [still, hc]) hg (r := iv ms.length) ?_ (Nat.le_refl _) hk
 unfold opEval; rw [ho]
 have h2 := hu.u
 obtain ⟨a, cp, rfl, _⟩ := hy
 simp only [ENV, oCall, hc, oBuiltin, hargs, oLen, lenOpA, arg0 ht, h2]
 rw [hx]; rfl
theorem idxW {t e : TypeId} {x k : Operand} {j : Nat} {y : Value} {ms : List (Int × Int)} {q : Int × Int} (ho : o.op = .indexAddr t x k) [hu : TyP t e] (hx : av T x = .v y) (hy : W2 H0 y ms) (hi : av T k = iv j) (hl : ms[j]? = some q) :
   ∃ p, (∀ H, opEval Tryz.prog TF T H o = some (.val p H)) ∧ (∀ H, mobEval Tryz.prog T H o = some p) ∧ P2 H0 p q := by
 obtain ⟨a, cp, rfl, h⟩ := hy
 have hj := (List.getElem?_eq_some_iff.1 hl).1
 rcases h with rfl | ⟨b, off, vs, rfl, hgl, hv⟩
 · simp at hl
 have hidx := plain_indexAt2 (P := Tryz.prog) (t := t) (b := b) (off := off) (cap := cp) (kd := .i64) (j := (j : Int)) (n := ms.length) hu.u hu.s ⟨by omega, by omega⟩
 simp only [Int.toNat_natCast] at hidx
 have hp : ∀ H' : AH, plainOp Tryz.prog T H' o = some (.val (.v (.pointer (some ⟨b, off + j * 2, none⟩))) H') := fun H' => by
   unfold plainOp
   rw [ho]
   simp only [Op.operands, execOp, ho, hx, hi, AV.plain, Option.getD_some, runPure_bind, hidx, Option.bind_some, runPure_pure]
   simp [hx, hi, AV.plain]
 have hp2 : plainVal Tryz.prog T o = some (.v (.pointer (some ⟨b, off + j * 2, none⟩))) := by
   unfold plainVal
   rw [ho]
   simp only [Op.operands, execOp, ho, hx, hi, AV.plain, Option.getD_some, runPure_bind, hidx, Option.bind_some, runPure_pure]
   simp [hx, hi, AV.plain]
 obtain ⟨h1, h2⟩ := hv j q hl
 exact ⟨_, fun H' => by unfold opEval; rw [ho]; simp only [oIndexAddr, hx, isV, hp H'], fun H' => by unfold mobEval; rw [ho]; simp only [hx, isV, if_true, hp2], b, _, vs, rfl, hgl, h1, h2⟩
theorem o_indexW {t e : TypeId} {x k : Operand} {j : Nat} {y : Value} {ms : List (Int × Int)} {q : Int × Int} (ho : o.op = .indexAddr t x k) (hg : wantedA o ops T = true) [hu : TyP t e] (hx : av T x = .v y) (hy : W2 H y ms) (hi : av T k = iv j) (hl : ms[j]? = some q) (hk : ∀ p, P2 H p q → K p H) : WOp (ENV O) ops o T H K := by
 obtain ⟨p, h1, h2, h3⟩ := idxW (e := e) ho hx hy hi hl
 exact wop_val (by rw [ho]; rfl) hg (r := p) (h1 H) (Nat.le_refl _) (hk p h3)
theorem o_loadW {t : TypeId} {x : Operand} {q : Int × Int} {p : AV} (ho : o.op = .load t x) (hg : wantedA o ops T = true) [h4 : Stru t 2] (hp : P2 H p q) (hx : av T x = p) (hk : K (.v (.agg #[.int .i64 q.1, .int .i64 q.2])) H) : WOp (ENV O) ops o T H K := by
 obtain ⟨b, off, vs, rfl, hgl, h1, h2⟩ := hp
 refine wop_val (by rw [ho]; rfl) hg (H' := H) (r := .v (.agg #[.int .i64 q.1, .int .i64 q.2])) ?_ (Nat.le_refl _) hk
 unfold opEval; rw [ho]
 have h3 := h4.a
 have h5 := h4.s
 simp only [ENV, oLoad, hx, loadG, hgl, h3, h5]
 rw [if_pos (Nat.ble_eq_true_of_le h2), h1]
 rfl
end
theorem o_appendP {O : CallF} {T : List AV} {H H0 : AH} {ops : Array Oper} {o : Oper} {K : AV → AH → Prop} {c : Call} {t xt e e' : TypeId} {s x : Operand} {ms : List (Int × Int)} {p : Int × Int} {bx : Nat} {ex : TypeId} {gx : Nat} (ho : o.op = .call c) (hg : wantedA o ops T = true) (hc : c.callee = .builtin .append) (hargs : c.args.toList = [s, x]) (ht : c.argTypes.toList = [t, xt]) [hu : TyP t e] [hux : TyP xt e'] (hlen : ms.length < 2 ^ 30) (hr : H.next < 2 ^ 39)
   (hx : av T x = .slc bx 0 1 1) (hbx : H.get bx = some (.cells [iv p.1, iv p.2] ex gx)) (hG : G2 H e (av T s) ms) (hno : ∀ d, (av T s).own = some d → H0.next ≤ d) (hk0 : Keeps H0 H)
   (hk : ∀ r H1, H1.next = H.next + 1 → Keeps H0 H1 → (∀ d, r.own = some d → H0.next ≤ d) → G2 H1 e r (ms ++ [p]) → K r H1) : WOp (ENV O) ops o T H K := by
 refine o_append2 ho hg hc hargs ht hlen hr hx hbx hG fun r H1 n1 gl1 f1 hr1 hG1 => hk r H1 n1 ⟨by have := hk0.nx; omega, gl1.trans hk0.gl, fun d hd => (f1 d (by have := hk0.nx; omega) (fun e => by have := hno d e; omega)).trans (hk0.get d hd)⟩ (fun d hd => ?_) hG1
 subst hr1
 cases hd
 exact hk0.nx
variable {O : CallF} (hq : Quiet O)
include hq
theorem cShortM (H : AH) (y : Value) (ms : List (Int × Int)) (hy : W2 H y ms) (K : AV → AH → Prop) (hk : K (.v (.bool (decide ((ms.length : Int) ≤ 40) || (decide ((ms.length : Int) > 1000) && decide ((ms.length : Int) ≤ 1002))))) H) : Ca (ENV O) 21 [.v y] H K := by
 refine ca_intro (hq _ _ _ rfl) (fn := Tryz.f21) (by rfl) rfl ?_
 repeat (first | apply qN | refine qM rfl rfl ?_ | apply qR | apply qS)
 refine wops_cons (o_lenW rfl rfl rfl rfl rfl rfl hy ?_)
 refine wops_cons (wop_bin (op := .leq) (v := .bool (decide ((ms.length : Int) ≤ 40))) rfl rfl rfl rfl rfl ?_)
 by_cases h : (ms.length : Int) ≤ 40
 · rw [decide_eq_true h] at hk ⊢
   repeat (first | apply qN | refine zq1 rfl rfl ?_ | refine qM rfl rfl ?_ | refine zq7 rfl rfl rfl ?_)
   refine wp_ret ?_
   exact ⟨_, _, rfl, hk⟩
 · rw [decide_eq_false h] at hk ⊢
   repeat (first | refine qM rfl rfl ?_)
   refine wops_cons (o_lenW rfl rfl rfl rfl rfl rfl hy ?_)
   refine wops_cons (wop_bin (op := .gtr) (v := .bool (decide ((ms.length : Int) > 1000))) rfl rfl rfl rfl rfl ?_)
   by_cases h2 : (ms.length : Int) > 1000
   · rw [decide_eq_true h2] at hk ⊢
     repeat (first | refine qM rfl rfl ?_)
     refine wops_cons (o_lenW rfl rfl rfl rfl rfl rfl hy ?_)
     refine wops_cons (wop_bin (op := .leq) (v := .bool (decide ((ms.length : Int) ≤ 1002))) rfl rfl rfl rfl rfl ?_)
     repeat (first | apply qN | refine qM rfl rfl ?_ | refine zq7 rfl rfl rfl ?_)
     refine wp_ret ?_
     exact ⟨_, _, rfl, hk⟩
   · rw [decide_eq_false h2] at hk ⊢
     repeat (first | apply qN | refine zq1 rfl rfl ?_ | refine qM rfl rfl ?_ | refine zq7 rfl rfl rfl ?_)
     refine wp_ret ?_
     exact ⟨_, _, rfl, hk⟩
theorem cRCkM (H : AH) (y : Value) (ms : List (Int × Int)) (hy : W2 H y ms) (K : AV → AH → Prop) (hk : K (iv (mvE ms)) H) : Ca (ENV O) 25 [.v y] H K := by
 refine ca_intro (hq _ _ _ rfl) (fn := Tryz.f25) (by rfl) rfl ?_
 unfold mvE at hk
 repeat (first | apply qN | refine qM rfl rfl ?_ | apply qR | apply qS)
 refine wops_cons (o_lenW rfl rfl rfl rfl rfl rfl hy ?_)
 by_cases h : (ms.length : Int) ≤ 1000
 · rw [decide_eq_true h] at hk
   refine wops_cons (wop_bin (op := .gtr) (v := .bool false) rfl rfl rfl rfl (by simp [binI]; omega) ?_)
   repeat (first | apply qN | refine qM rfl rfl ?_ | refine qF rfl ?_ | apply qR | apply qS | apply qK)
   refine wp_ret ?_
   exact ⟨_, _, rfl, hk⟩
 · rw [decide_eq_false h] at hk
   refine wops_cons (wop_bin (op := .gtr) (v := .bool true) rfl rfl rfl rfl (by simp [binI]; omega) ?_)
   repeat (first | apply qN | refine qM rfl rfl ?_ | refine qT rfl ?_ | apply qR | apply qS)
   refine wp_ret ?_
   exact ⟨_, _, rfl, hk⟩
theorem cMoves (H : AH) (y : Value) (ms : List (Int × Int)) (hy : W2 H y ms) (hml : ms.length ≤ 100000) (hr : H.next + 500000 < 2 ^ 39) (K : AV → AH → Prop)
   (hk : ∀ H' r, Keeps H H' → H'.next ≤ H.next + 3 * ms.length → G2 H' 31 r ms → (∀ d, r.own = some d → H.next ≤ d) → K r H') : Ca (ENV O) 23 [.v y] H K := by
 refine ca_intro (hq _ _ _ rfl) (fn := Tryz.f23) (by rfl) rfl ?_
 repeat (first | apply qN | refine qM rfl rfl ?_ | apply qR | apply qS)
 refine wops_cons (o_lenW rfl rfl rfl rfl rfl rfl hy ?_)
 repeat (first | apply qN | refine qM rfl rfl ?_ | apply qB)
 refine wp_loop (fun q T M H' => ∃ (i : Nat) (rr : AV) (Y : List AV), q = ms.length - i ∧ i ≤ ms.length ∧ Keeps H H' ∧ H'.next ≤ H.next + 3 * i ∧ G2 H' 31 rr (ms.take i) ∧ (∀ d, rr.own = some d → H.next ≤ d) ∧ M = [] ∧ T = (lget Y 0 :: lget Y 1 :: lget Y 2 :: rr :: lget Y 3 :: lget Y 4 :: .v y :: iv (ms.length : Nat) :: iv (i : Nat) :: lget Y 5 :: lget Y 6 :: lget Y 7 :: lget Y 8 :: lget Y 9 :: lget Y 10 :: lget Y 11 :: lget Y 12 :: lget Y 13 :: [])) ms.length
   ⟨0, .v (.slice none 0 0), [_,_,_,_,_,_,_,_,_,_,_,_,_,_], rfl, Nat.zero_le _, Keeps.refl _, Nat.le_refl _, .inl ⟨rfl, rfl⟩, (fun d hd => by cases hd), rfl, rfl⟩ ?_
 rintro q T M H1 ⟨i, rr, Y, hq1, hi, k1, n1, hG1, hno, rfl, rfl⟩
 repeat (first | apply qR | apply qS)
 refine wops_cons (wop_cmp rfl rfl rfl rfl rfl (fun h => ?_) (fun h => ?_))
 rotate_left
 · have h : ¬ ((i : Int) < (ms.length : Nat)) := of_decide_eq_false h
   have e : i = ms.length := by omega
   subst e
   rw [List.take_length] at hG1
   repeat (first | apply qN | refine qM rfl rfl ?_ | refine qF rfl ?_ | apply qR | apply qS | apply qE)
   refine wp_ret ?_
   exact ⟨_, _, rfl, hk H1 rr k1 n1 hG1 hno⟩
 have hi' : i < ms.length := by have h : (i : Int) < (ms.length : Nat) := of_decide_eq_true h; omega
 clear h
 obtain ⟨⟨a, b⟩, hp⟩ : ∃ p, ms[i]? = some p := ⟨ms[i], List.getElem?_eq_getElem hi'⟩
 have htk : ms.take (i + 1) = ms.take i ++ [(a, b)] := by rw [List.take_add_one, hp]; rfl
 have r1 : H1.next < 2 ^ 39 := by omega
 repeat (first | apply qN | refine qT rfl ?_ | apply qR | apply qS | apply qK | apply qB)
 refine wops_cons (o_indexW rfl rfl rfl (hy.keep k1) rfl hp fun pp hpp => ?_)
 refine wops_cons (o_loadW rfl rfl hpp rfl ?_)
 refine wops_cons (o_allocA (zs := [iv 0, iv 0]) rfl rfl (z := .agg #[.int .i64 0, .int .i64 0]) (by kernel_rfl) rfl r1 ?_)
 refine wops_cons (o_storeA (n := 2) (vs := [iv a, iv b]) rfl rfl (by kernel_rfl) rfl rfl rfl rfl (get_add_eq r1) (Nat.le_refl _) ?_)
 refine WOps.mem (fun H2 => Keeps H1 H2 ∧ H2.next = H1.next + 1 ∧ Bk H2 H1.next 24 [iv a, iv b]) ⟨((Keeps.refl H1).add _ r1).set _ (Nat.le_refl _) r1, rfl, ⟨r1, get_set_eq r1⟩⟩ ?_
 rintro H2 ⟨k2, n2, b2⟩
 have r2 : H2.next < 2 ^ 39 := by omega
 show WOps _ _ _ _ _ _
 repeat (first | apply qN | refine qM rfl rfl ?_ | refine zqb rfl rfl rfl ‹_› ?_ | apply qR)
 refine wops_cons (o_build1S (a := a) (b := b) rfl rfl rfl r2 ?_)
 refine WOps.mem (fun H3 => Keeps H2 H3 ∧ H3.next = H2.next + 1 ∧ H3.get H2.next = some (.cells [iv a, iv b] 31 0)) ⟨(Keeps.refl H2).add _ r2, rfl, get_add_eq r2⟩ ?_
 rintro H3 ⟨k3, n3, g3⟩
 have k13 := k2.trans k3
 refine wops_cons (o_appendP (H0 := H) (p := (a, b)) (ms := ms.take i) rfl rfl rfl rfl rfl (by rw [List.length_take]; omega) (by omega) rfl g3 (hG1.keep k13) hno (k1.trans k13) fun r4 H4 n4 k4 hn4 hG4 => ?_)
 repeat (first | apply qN | refine qM rfl rfl ?_ | refine zq4 rfl rfl rfl rfl (inc (by omega)) ?_ | apply qR)
 exact ⟨ms.length - (i + 1), by omega, i + 1, r4, [_,_,_,_,_,_,_,_,_,_,_,_,_,_], rfl, by omega, k4, by omega, by rw [htk]; exact hG4, hn4, rfl, rfl⟩
end Go.Ev
namespace Go.Ev
open Go.Proofs
theorem eqInt (d : Nat) (t : TypeId) (a c : Int) (h : runPure Tryz.prog (underlying t) = some (.int .i64)) : runPure Tryz.prog (Op.equalIn (d + 1) t (.int .i64 a) (.int .i64 c)) = some (a == c) := by
 simp only [Op.equalIn, runPure_bind, h, Option.bind_some, if_true]
 rfl
theorem eqStr (d : Nat) (t : TypeId) (fs : Array Field) (f0 f1 : Field) (a b c e : Int) (hu : runPure Tryz.prog (underlying t) = some (.struct fs)) (hl : fs.toList = [f0, f1]) (n0 : f0.name ≠ "_") (n1 : f1.name ≠ "_")
   (p0 : ∀ x y : Value, runPure Tryz.prog (part f0.type #[x, y] f0.offset) = some x) (p1 : ∀ x y : Value, runPure Tryz.prog (part f1.type #[x, y] f1.offset) = some y) (hs : Tryz.prog.stoodInHeld t = false)
   (u0 : runPure Tryz.prog (underlying f0.type) = some (.int .i64)) (u1 : runPure Tryz.prog (underlying f1.type) = some (.int .i64)) :
   runPure Tryz.prog (Op.equalIn (d + 2) t (.agg #[.int .i64 a, .int .i64 b]) (.agg #[.int .i64 c, .int .i64 e])) = some (a == c && b == e) := by
 have hpr : runPure Tryz.prog program = some Tryz.prog := rfl
 rw [show d + 2 = (d + 1) + 1 from rfl, Op.equalIn]
 simp only [runPure_bind, hu, Option.bind_some, hpr, hs, Bool.false_eq_true, if_false]
 rw [← Array.forIn_toList, hl]
 simp only [List.forIn_cons, List.forIn_nil, runPure_bind, if_pos n0, if_pos n1, p0, p1, Option.bind_some, eqInt d _ _ _ u0, eqInt d _ _ _ u1]
 cases a == c
 · rfl
 · simp only [Bool.not_true, Bool.false_eq_true, if_false, runPure_pure, Option.bind_some, runPure_bind, p1, eqInt d _ _ _ u1]
   cases b == e
   · rfl
   · rfl
noncomputable def fd (t : TypeId) (i : Nat) : Field := ((flds t)[i]?).getD ⟨"", 0, 0, false, "", "", 0⟩
class EqS (t : TypeId) : Prop where
 u : runPure Tryz.prog (underlying t) = some (.struct (flds t))
 l : (flds t).toList = [fd t 0, fd t 1]
 n0 : (fd t 0).name ≠ "_"
 n1 : (fd t 1).name ≠ "_"
 p0 : ∀ x y : Value, runPure Tryz.prog (part (fd t 0).type #[x, y] (fd t 0).offset) = some x
 p1 : ∀ x y : Value, runPure Tryz.prog (part (fd t 1).type #[x, y] (fd t 1).offset) = some y
 s : Tryz.prog.stoodInHeld t = false
 i0 : runPure Tryz.prog (underlying (fd t 0).type) = some (.int .i64)
 i1 : runPure Tryz.prog (underlying (fd t 1).type) = some (.int .i64)
 g : Tryz.prog.eqGuardType Tryz.prog.depth t = false
instance : EqS 24 := ⟨by kernel_rfl, by kernel_rfl, of_decide_eq_true (by kernel_rfl), of_decide_eq_true (by kernel_rfl), fun _ _ => by kernel_rfl, fun _ _ => by kernel_rfl, by kernel_rfl, by kernel_rfl, by kernel_rfl, by kernel_rfl⟩
instance : EqS 137 := ⟨by kernel_rfl, by kernel_rfl, of_decide_eq_true (by kernel_rfl), of_decide_eq_true (by kernel_rfl), fun _ _ => by kernel_rfl, fun _ _ => by kernel_rfl, by kernel_rfl, by kernel_rfl, by kernel_rfl, by kernel_rfl⟩
theorem neq_struct (t : TypeId) [h : EqS t] (x y : Operand) (a b c e : Int) :
   runPure Tryz.prog (do Go.eqGuard .neq t x y (.agg #[.int .i64 a, .int .i64 b]) (.agg #[.int .i64 c, .int .i64 e]); Go.binOp .neq t (.agg #[.int .i64 a, .int .i64 b]) (.agg #[.int .i64 c, .int .i64 e])) = some (.bool (!(a == c && b == e))) := by
 have hpr : runPure Tryz.prog program = some Tryz.prog := rfl
 have hg : runPure Tryz.prog (Go.eqGuard .neq t x y (.agg #[.int .i64 a, .int .i64 b]) (.agg #[.int .i64 c, .int .i64 e])) = some () := by
   unfold Go.eqGuard
   simp only [Bool.not_true, Bool.false_eq_true, if_false, runPure_bind, hpr, Option.bind_some, h.g, Bool.not_false, if_true, runPure_pure]
 rw [runPure_bind, hg]
 show runPure Tryz.prog (do pure (Value.bool (!(← Op.equal t (.agg #[.int .i64 a, .int .i64 b]) (.agg #[.int .i64 c, .int .i64 e]))))) = _
 rw [runPure_bind, show Op.equal t (.agg #[.int .i64 a, .int .i64 b]) (.agg #[.int .i64 c, .int .i64 e]) = Op.equalIn (9998 + 2) t (.agg #[.int .i64 a, .int .i64 b]) (.agg #[.int .i64 c, .int .i64 e]) from rfl, eqStr 9998 t _ _ _ a b c e h.u h.l h.n0 h.n1 h.p0 h.p1 h.s h.i0 h.i1]
 rfl
section
variable {O : CallF} {T : List AV} {H H0 : AH} {ops : Array Oper} {o : Oper} {i : Nat} {π : List Stp} {K : List AV → AH → Prop} {B : Nat → Nat → Prop}
theorem y_neqS {t yt : TypeId} {x y : Operand} {a b c e : Int} (h1 : ops.toList[i]? = some o) (ho : o.op = .binOp .neq t x y yt) (hg : wantedA o ops T = true) [hs : EqS t] (hx : av T x = .agg [iv a, iv b]) (hy : av T y = .agg [iv c, iv e]) (hk : WY (ENV O) ops H0 B π (putA T o.dst (.v (.bool (!(a == c && b == e))))) H K) : WY (ENV O) ops H0 B (.mob i :: π) T H K := by
 refine y_mob (r := .v (.bool (!(a == c && b == e)))) h1 hg ?_ (fun b hb => by rw [rdA_none (by unfold looksB; rw [ho])] at hb; cases hb) hk
 unfold mobEval
 rw [ho]
 simp only
 unfold plainVal
 have p1 : (AV.agg [iv a, iv b]).plain = some (.agg #[.int .i64 a, .int .i64 b]) := rfl
 have p2 : (AV.agg [iv c, iv e]).plain = some (.agg #[.int .i64 c, .int .i64 e]) := rfl
 have h2 : runPure (ENV O).P (execOp (fun x => ((av T x).plain).getD undef) o) = some (.value (.bool (!(a == c && b == e)))) := by
   obtain ⟨dst, op', type, pos, after, guard⟩ := o
   simp only at ho
   subst ho
   have h3 := neq_struct t x y a b c e
   simp only [execOp, hx, hy, p1, p2, Option.getD_some]
   rw [runPure_bind]
   show Option.bind (runPure Tryz.prog _) _ = _
   rw [h3]
   rfl
 rw [h2, ho]
 simp [Op.operands, hx, hy, p1, p2]
theorem y_index2 {t e : TypeId} {x k : Operand} {j : Nat} {ms : List (Int × Int)} {p : Int × Int} {t' : TypeId} (h1 : ops.toList[i]? = some o) (ho : o.op = .indexAddr t x k) (hg : wantedA o ops T = true) [hu : TyP t e] (hx : S2 H0 t' (av T x) ms) (hi : av T k = iv j) (hl : ms[j]? = some p)
   (hk : ∀ b gr, b < 2 ^ 39 → H0.get b = some (.cells (fl2 ms) t' gr) → (av T x).own = some b → WY (ENV O) ops H0 B π (putA T o.dst (.ptr b (0 + j * 2))) H K) : WY (ENV O) ops H0 B (.mob i :: π) T H K := by
 have hj := (List.getElem?_eq_some_iff.1 hl).1
 have h2 := hu.u
 have h3 := hu.s
 have hb : Nat.blt j ms.length = true := Nat.ble_eq_true_of_le hj
 have key : ∀ b gr, b < 2 ^ 39 → H0.get b = some (.cells (fl2 ms) t' gr) → (av T x).own = some b → isV (av T x) = false → indexAddrA Tryz.prog t (av T x) (av T k) = some (.ptr b (0 + j * 2)) → WY (ENV O) ops H0 B (.mob i :: π) T H K := fun b gr h39 hgb ho2 hv hm => by
   refine y_mob (r := .ptr b (0 + j * 2)) h1 hg ?_ (fun b hb => by rw [rdA_none (by unfold looksB; rw [ho])] at hb; cases hb) (hk b gr h39 hgb ho2)
   unfold mobEval
   rw [ho]
   simp only [hv, Bool.false_eq_true, if_false]
   exact hm
 rcases hx with ⟨_, rfl⟩ | ⟨b, hbn, h39, ⟨c, hx, hgb⟩ | ⟨hx, hgb⟩⟩
 · simp at hl
 · refine key b 0 h39 hgb (by rw [hx]; rfl) (by rw [hx]; rfl) ?_
   rw [hx, hi]
   unfold indexAddrA
   simp only [natA, h2, h3, hb, if_true, iv]
 · refine key b 2 h39 hgb (by rw [hx]; rfl) (by rw [hx]; rfl) ?_
   rw [hx, hi]
   unfold indexAddrA
   simp only [natA, h2, h3, hb, if_true, iv]
theorem y_loadA {t : TypeId} {n : Nat} {x : Operand} {b off : Nat} {cs r : List AV} {e : TypeId} {g : Nat} (h1 : ops.toList[i]? = some o) (ho : o.op = .load t x) (hg : wantedA o ops T = true) [h4 : Stru t n] (hx : av T x = .ptr b off) (h39 : b < 2 ^ 39) (hc : H0.get b = some (.cells cs e g)) (hr : (cs.drop off).take n = r) (hl : off + n ≤ cs.length) (hB : B i b) (hk : WY (ENV O) ops H0 B π (putA T o.dst (.agg r)) H K) : WY (ENV O) ops H0 B (.mob i :: π) T H K := by
 have hrd : rdA T o = some b := by unfold rdA; rw [ho]; simp only [hx]
 refine y_mob (r := .agg r) h1 hg ?_ (fun c hc => by rw [hrd] at hc; cases hc; exact hB) hk
 have h3 := h4.a
 have h2 := h4.s
 rw [hrd]
 unfold mobEval
 rw [ho]
 simp only [hx]
 have : (sing H0 (some b)).get b = some (.cells cs e g) := by
   unfold sing
   simp only [hc]
   rw [AH.get_set _ _ _ _ h39, if_pos rfl]
 simp only [ENV, loadA, this, h3, h2]
 rw [if_pos (Nat.ble_eq_true_of_le hl), hr]
end
instance : Stru 105 2 := ⟨by kernel_rfl, by kernel_rfl⟩
instance : Stru 137 2 := ⟨by kernel_rfl, by kernel_rfl⟩
variable {O : CallF} (hq : Quiet O)
include hq
theorem cSameM (H : AH) (t1 t2 : TypeId) (x y : AV) (l l2 : List (Int × Int)) (hx : S2 H t1 x l) (hy : S2 H t2 y l2) (hlen : l.length ≤ 100000) (hlen2 : l2.length ≤ 100000) (K : AV → AH → Prop) (hk : K (.v (.bool (decide (l = l2)))) H) : Ca (ENV O) 27 [x, y] H K := by
 refine ca_intro (hq _ _ _ rfl) (fn := Tryz.f27) (by rfl) rfl ?_
 repeat (first | apply qN | refine qM rfl rfl ?_ | apply qR | apply qS)
 refine wops_cons (o_len2 rfl rfl rfl rfl rfl hx ?_)
 repeat (first | refine qM rfl rfl ?_)
 refine wops_cons (o_len2 rfl rfl rfl rfl rfl hy ?_)
 refine wops_cons (wop_cmp rfl rfl rfl rfl rfl (fun h => ?_) (fun h => ?_))
 · have h1 : ¬ (l.length : Int) = l2.length := by simpa [binI] using h
   have h1 : ¬ l.length = l2.length := fun e => h1 (by rw [e])
   have e : decide (l = l2) = false := decide_eq_false fun e => h1 (by rw [e])
   rw [e] at hk
   repeat (first | apply qN | refine qM rfl rfl ?_ | refine qT rfl ?_ | apply qR | apply qS)
   refine wp_ret ?_
   exact ⟨_, _, rfl, hk⟩
 have hL : (l.length : Int) = l2.length := by simpa [binI] using h
 have hL : l.length = l2.length := by omega
 clear h
 repeat (first | apply qN | refine qM rfl rfl ?_ | refine qF rfl ?_ | apply qR | apply qS | apply qK | apply qB)
 refine wp_loop (fun k T M H' => ∃ (i : Nat) (Y : List AV), k = l.length - i ∧ i ≤ l.length ∧ (∀ j, j < i → l[j]? = l2[j]?) ∧ M = [] ∧ H' = H ∧ T = (x :: y :: lget Y 0 :: lget Y 1 :: lget Y 2 :: iv (i : Nat) :: lget Y 3 :: lget Y 4 :: lget Y 5 :: lget Y 6 :: lget Y 7 :: lget Y 8 :: lget Y 9 :: lget Y 10 :: lget Y 11 :: lget Y 12 :: lget Y 13 :: lget Y 14 :: lget Y 15 :: lget Y 16 :: lget Y 17 :: lget Y 18 :: lget Y 19 :: lget Y 20 :: lget Y 21 :: lget Y 22 :: [])) l.length
   ⟨0, [_,_,_,_,_,_,_,_,_,_,_,_,_,_,_,_,_,_,_,_,_,_,_], rfl, Nat.zero_le _, fun j h => absurd h (Nat.not_lt_zero _), rfl, rfl, rfl⟩ ?_
 rintro k T M H' ⟨i, Y, hk1, hi, hpre, rfl, rfl, rfl⟩
 repeat (first | refine qM rfl rfl ?_ | apply qR | apply qS)
 refine wops_cons (o_len2 rfl rfl rfl rfl rfl hx ?_)
 refine wops_cons (wop_cmp rfl rfl rfl rfl rfl (fun h => ?_) (fun h => ?_))
 rotate_left
 · have h : ¬ ((i : Int) < l.length) := of_decide_eq_false h
   have e : l = l2 := List.ext_getElem? fun j => by
     by_cases hj : j < i
     · exact hpre j hj
     · rw [List.getElem?_eq_none (by omega), List.getElem?_eq_none (by omega)]
   rw [decide_eq_true e] at hk
   repeat (first | apply qN | refine qM rfl rfl ?_ | refine qF rfl ?_ | apply qR | apply qS | apply qE)
   refine wp_ret ?_
   exact ⟨_, _, rfl, hk⟩
 have h : (i : Int) < l.length := of_decide_eq_true h
 obtain ⟨⟨a, b⟩, hz⟩ : ∃ p, l[i]? = some p := ⟨l[i], List.getElem?_eq_getElem (by omega)⟩
 obtain ⟨⟨c, d⟩, hw⟩ : ∃ p, l2[i]? = some p := ⟨l2[i], List.getElem?_eq_getElem (by omega)⟩
 repeat (first | apply qN | refine qT rfl ?_ | apply qS | apply qK | apply qB)
 refine Wp.mono (Q := fun x' T' M' H1 => x' = .normal ∧ M' = [] ∧ H1 = H' ∧ ∃ (Y : List AV), T' = (x :: y :: lget Y 0 :: lget Y 1 :: lget Y 2 :: iv (i : Nat) :: lget Y 3 :: lget Y 4 :: lget Y 5 :: lget Y 6 :: lget Y 7 :: lget Y 8 :: lget Y 9 :: lget Y 10 :: lget Y 11 :: lget Y 12 :: lget Y 13 :: lget Y 14 :: lget Y 15 :: lget Y 16 :: lget Y 17 :: lget Y 18 :: lget Y 19 :: lget Y 20 :: lget Y 21 :: .v (.bool (!(a == c && b == d))) :: [])) ?_ ?_
 · refine wp_drawY (fun _ _ => True) rfl ?_
   refine y_move rfl rfl rfl ?_
   refine y_move rfl rfl rfl ?_
   refine y_index2 rfl rfl rfl hx rfl hz fun b1 g1 h91 hg1 _ => ?_
   refine y_loadA (r := [iv a, iv b]) rfl rfl rfl rfl h91 hg1 (by rw [Nat.zero_add]; exact fl2_get hz) (by rw [fl2_len]; omega) trivial ?_
   refine y_move rfl rfl rfl ?_
   refine y_move rfl rfl rfl ?_
   refine y_index2 rfl rfl rfl hy rfl hw fun b2 g2 h92 hg2 _ => ?_
   refine y_loadA (r := [iv c, iv d]) rfl rfl rfl rfl h92 hg2 (by rw [Nat.zero_add]; exact fl2_get hw) (by rw [fl2_len]; omega) trivial ?_
   refine y_neqS rfl rfl rfl rfl rfl ?_
   refine y_nil ?_
   exact ⟨rfl, rfl, rfl, [_,_,_,_,_,_,_,_,_,_,_,_,_,_,_,_,_,_,_,_,_,_], rfl⟩
 rintro x' T' M' H1 ⟨rfl, rfl, rfl, Y, rfl⟩
 by_cases e : a = c ∧ b = d
 · obtain ⟨rfl, rfl⟩ := e
   rw [show (!(a == a && b == b)) = false by simp]
   repeat (first | apply qN | refine qM rfl rfl ?_ | refine zq4 rfl rfl rfl rfl (inc (by omega)) ?_ | refine qF rfl ?_ | apply qR | apply qK)
   refine ⟨l.length - (i + 1), by omega, i + 1, [_,_,_,_,_,_,_,_,_,_,_,_,_,_,_,_,_,_,_,_,_,_,_], rfl, by omega, fun j hj => ?_, rfl, rfl, rfl⟩
   by_cases ej : j = i
   · rw [ej, hz, hw]
   · exact hpre j (by omega)
 · rw [show (!(a == c && b == d)) = true by
     by_cases h1 : a = c
     · have h2 : ¬ b = d := fun h2 => e ⟨h1, h2⟩
       simp [h2]
     · simp [h1]]
   have e2 : decide (l = l2) = false := decide_eq_false fun e3 => e (by
     rw [e3, hw] at hz
     have := Option.some.inj hz
     simp only [Prod.mk.injEq] at this
     exact ⟨this.1.symm, this.2.symm⟩)
   rw [e2] at hk
   repeat (first | apply qN | refine qM rfl rfl ?_ | refine qT rfl ?_ | apply qR | apply qS)
   refine wp_ret ?_
   exact ⟨_, _, rfl, hk⟩
theorem cSameR (H : AH) (t1 t2 : TypeId) (x y : AV) (l l2 : List (Int × Int)) (hx : S2 H t1 x l) (hy : S2 H t2 y l2) (hlen : l.length ≤ 100000) (hlen2 : l2.length ≤ 100000) (K : AV → AH → Prop) (hk : K (.v (.bool (decide (l = l2)))) H) : Ca (ENV O) 31 [x, y] H K := by
 refine ca_intro (hq _ _ _ rfl) (fn := Tryz.f31) (by rfl) rfl ?_
 repeat (first | apply qN | refine qM rfl rfl ?_ | apply qR | apply qS)
 refine wops_cons (o_len2 rfl rfl rfl rfl rfl hx ?_)
 repeat (first | refine qM rfl rfl ?_)
 refine wops_cons (o_len2 rfl rfl rfl rfl rfl hy ?_)
 refine wops_cons (wop_cmp rfl rfl rfl rfl rfl (fun h => ?_) (fun h => ?_))
 · have h1 : ¬ (l.length : Int) = l2.length := by simpa [binI] using h
   have h1 : ¬ l.length = l2.length := fun e => h1 (by rw [e])
   have e : decide (l = l2) = false := decide_eq_false fun e => h1 (by rw [e])
   rw [e] at hk
   repeat (first | apply qN | refine qM rfl rfl ?_ | refine qT rfl ?_ | apply qR | apply qS)
   refine wp_ret ?_
   exact ⟨_, _, rfl, hk⟩
 have hL : (l.length : Int) = l2.length := by simpa [binI] using h
 have hL : l.length = l2.length := by omega
 clear h
 repeat (first | apply qN | refine qM rfl rfl ?_ | refine qF rfl ?_ | apply qR | apply qS | apply qK | apply qB)
 refine wp_loop (fun k T M H' => ∃ (i : Nat) (Y : List AV), k = l.length - i ∧ i ≤ l.length ∧ (∀ j, j < i → l[j]? = l2[j]?) ∧ M = [] ∧ H' = H ∧ T = (x :: y :: lget Y 0 :: lget Y 1 :: lget Y 2 :: iv (i : Nat) :: lget Y 3 :: lget Y 4 :: lget Y 5 :: lget Y 6 :: lget Y 7 :: lget Y 8 :: lget Y 9 :: lget Y 10 :: lget Y 11 :: lget Y 12 :: lget Y 13 :: lget Y 14 :: lget Y 15 :: lget Y 16 :: lget Y 17 :: lget Y 18 :: lget Y 19 :: lget Y 20 :: lget Y 21 :: lget Y 22 :: [])) l.length
   ⟨0, [_,_,_,_,_,_,_,_,_,_,_,_,_,_,_,_,_,_,_,_,_,_,_], rfl, Nat.zero_le _, fun j h => absurd h (Nat.not_lt_zero _), rfl, rfl, rfl⟩ ?_
 rintro k T M H' ⟨i, Y, hk1, hi, hpre, rfl, rfl, rfl⟩
 repeat (first | refine qM rfl rfl ?_ | apply qR | apply qS)
 refine wops_cons (o_len2 rfl rfl rfl rfl rfl hx ?_)
 refine wops_cons (wop_cmp rfl rfl rfl rfl rfl (fun h => ?_) (fun h => ?_))
 rotate_left
 · have h : ¬ ((i : Int) < l.length) := of_decide_eq_false h
   have e : l = l2 := List.ext_getElem? fun j => by
     by_cases hj : j < i
     · exact hpre j hj
     · rw [List.getElem?_eq_none (by omega), List.getElem?_eq_none (by omega)]
   rw [decide_eq_true e] at hk
   repeat (first | apply qN | refine qM rfl rfl ?_ | refine qF rfl ?_ | apply qR | apply qS | apply qE)
   refine wp_ret ?_
   exact ⟨_, _, rfl, hk⟩
 have h : (i : Int) < l.length := of_decide_eq_true h
 obtain ⟨⟨a, b⟩, hz⟩ : ∃ p, l[i]? = some p := ⟨l[i], List.getElem?_eq_getElem (by omega)⟩
 obtain ⟨⟨c, d⟩, hw⟩ : ∃ p, l2[i]? = some p := ⟨l2[i], List.getElem?_eq_getElem (by omega)⟩
 repeat (first | apply qN | refine qT rfl ?_ | apply qS | apply qK | apply qB)
 refine Wp.mono (Q := fun x' T' M' H1 => x' = .normal ∧ M' = [] ∧ H1 = H' ∧ ∃ (Y : List AV), T' = (x :: y :: lget Y 0 :: lget Y 1 :: lget Y 2 :: iv (i : Nat) :: lget Y 3 :: lget Y 4 :: lget Y 5 :: lget Y 6 :: lget Y 7 :: lget Y 8 :: lget Y 9 :: lget Y 10 :: lget Y 11 :: lget Y 12 :: lget Y 13 :: lget Y 14 :: lget Y 15 :: lget Y 16 :: lget Y 17 :: lget Y 18 :: lget Y 19 :: lget Y 20 :: lget Y 21 :: .v (.bool (!(a == c && b == d))) :: [])) ?_ ?_
 · refine wp_drawY (fun _ _ => True) rfl ?_
   refine y_move rfl rfl rfl ?_
   refine y_move rfl rfl rfl ?_
   refine y_index2 rfl rfl rfl hx rfl hz fun b1 g1 h91 hg1 _ => ?_
   refine y_loadA (r := [iv a, iv b]) rfl rfl rfl rfl h91 hg1 (by rw [Nat.zero_add]; exact fl2_get hz) (by rw [fl2_len]; omega) trivial ?_
   refine y_move rfl rfl rfl ?_
   refine y_move rfl rfl rfl ?_
   refine y_index2 rfl rfl rfl hy rfl hw fun b2 g2 h92 hg2 _ => ?_
   refine y_loadA (r := [iv c, iv d]) rfl rfl rfl rfl h92 hg2 (by rw [Nat.zero_add]; exact fl2_get hw) (by rw [fl2_len]; omega) trivial ?_
   refine y_neqS rfl rfl rfl rfl rfl ?_
   refine y_nil ?_
   exact ⟨rfl, rfl, rfl, [_,_,_,_,_,_,_,_,_,_,_,_,_,_,_,_,_,_,_,_,_,_], rfl⟩
 rintro x' T' M' H1 ⟨rfl, rfl, rfl, Y, rfl⟩
 by_cases e : a = c ∧ b = d
 · obtain ⟨rfl, rfl⟩ := e
   rw [show (!(a == a && b == b)) = false by simp]
   repeat (first | apply qN | refine qM rfl rfl ?_ | refine zq4 rfl rfl rfl rfl (inc (by omega)) ?_ | refine qF rfl ?_ | apply qR | apply qK)
   refine ⟨l.length - (i + 1), by omega, i + 1, [_,_,_,_,_,_,_,_,_,_,_,_,_,_,_,_,_,_,_,_,_,_,_], rfl, by omega, fun j hj => ?_, rfl, rfl, rfl⟩
   by_cases ej : j = i
   · rw [ej, hz, hw]
   · exact hpre j (by omega)
 · rw [show (!(a == c && b == d)) = true by
     by_cases h1 : a = c
     · have h2 : ¬ b = d := fun h2 => e ⟨h1, h2⟩
       simp [h2]
     · simp [h1]]
   have e2 : decide (l = l2) = false := decide_eq_false fun e3 => e (by
     rw [e3, hw] at hz
     have := Option.some.inj hz
     simp only [Prod.mk.injEq] at this
     exact ⟨this.1.symm, this.2.symm⟩)
   rw [e2] at hk
   repeat (first | apply qN | refine qM rfl rfl ?_ | refine qT rfl ?_ | apply qR | apply qS)
   refine wp_ret ?_
   exact ⟨_, _, rfl, hk⟩
theorem cOwnM (H : AH) (x : AV) (ms : List (Int × Int)) (hx : S2 H 31 x ms) (hml : ms.length ≤ 100000) (hr : H.next + 500000 < 2 ^ 39) (K : AV → AH → Prop)
   (hk : ∀ H' r, Keeps H H' → H'.next ≤ H.next + 3 * ms.length → G2 H' 24 r ms → (∀ d, r.own = some d → H.next ≤ d) → K r H') : Ca (ENV O) 28 [x] H K := by
 refine ca_intro (hq _ _ _ rfl) (fn := Tryz.f28) (by rfl) rfl ?_
 repeat (first | apply qN | refine qM rfl rfl ?_ | apply qR | apply qS)
 refine wops_cons (o_len2 rfl rfl rfl rfl rfl hx ?_)
 repeat (first | apply qN | refine qM rfl rfl ?_ | apply qB)
 refine wp_loop (fun q T M H' => ∃ (i : Nat) (rr : AV) (Y : List AV), q = ms.length - i ∧ i ≤ ms.length ∧ Keeps H H' ∧ H'.next ≤ H.next + 3 * i ∧ G2 H' 24 rr (ms.take i) ∧ (∀ d, rr.own = some d → H.next ≤ d) ∧ M = [] ∧ T = (lget Y 0 :: lget Y 1 :: lget Y 2 :: rr :: lget Y 3 :: lget Y 4 :: x :: iv (ms.length : Nat) :: iv (i : Nat) :: lget Y 5 :: lget Y 6 :: lget Y 7 :: lget Y 8 :: lget Y 9 :: lget Y 10 :: lget Y 11 :: lget Y 12 :: lget Y 13 :: [])) ms.length
   ⟨0, .v (.slice none 0 0), [_,_,_,_,_,_,_,_,_,_,_,_,_,_], rfl, Nat.zero_le _, Keeps.refl _, Nat.le_refl _, .inl ⟨rfl, rfl⟩, (fun d hd => by cases hd), rfl, rfl⟩ ?_
 rintro q T M H1 ⟨i, rr, Y, hq1, hi, k1, n1, hG1, hno, rfl, rfl⟩
 repeat (first | apply qR | apply qS)
 refine wops_cons (wop_cmp rfl rfl rfl rfl rfl (fun h => ?_) (fun h => ?_))
 rotate_left
 · have h : ¬ ((i : Int) < (ms.length : Nat)) := of_decide_eq_false h
   have e : i = ms.length := by omega
   subst e
   rw [List.take_length] at hG1
   repeat (first | apply qN | refine qM rfl rfl ?_ | refine qF rfl ?_ | apply qR | apply qS | apply qE)
   refine wp_ret ?_
   exact ⟨_, _, rfl, hk H1 rr k1 n1 hG1 hno⟩
 have hi' : i < ms.length := by have h : (i : Int) < (ms.length : Nat) := of_decide_eq_true h; omega
 clear h
 obtain ⟨⟨a, b⟩, hp⟩ : ∃ p, ms[i]? = some p := ⟨ms[i], List.getElem?_eq_getElem hi'⟩
 have htk : ms.take (i + 1) = ms.take i ++ [(a, b)] := by rw [List.take_add_one, hp]; rfl
 have r1 : H1.next < 2 ^ 39 := by omega
 have hx1 := hx.keep k1
 repeat (first | apply qN | refine qT rfl ?_ | apply qR | apply qS | apply qK | apply qB)
 refine wops_cons (o_index2 rfl rfl hx1 rfl hp fun xb gr hxb hxg => ?_)
 refine wops_cons (o_loadA (r := [iv a, iv b]) (n := 2) rfl rfl (by kernel_rfl) (by kernel_rfl) rfl hxg (by rw [Nat.zero_add]; exact fl2_get hp) (by rw [fl2_len]; omega) ?_)
 refine wops_cons (o_allocA (zs := [iv 0, iv 0]) rfl rfl (z := .agg #[.int .i64 0, .int .i64 0]) (by kernel_rfl) rfl r1 ?_)
 refine wops_cons (o_storeA (n := 2) (vs := [iv a, iv b]) rfl rfl (by kernel_rfl) rfl rfl rfl rfl (get_add_eq r1) (Nat.le_refl _) ?_)
 refine WOps.mem (fun H2 => Keeps H1 H2 ∧ H2.next = H1.next + 1 ∧ Bk H2 H1.next 31 [iv a, iv b]) ⟨((Keeps.refl H1).add _ r1).set _ (Nat.le_refl _) r1, rfl, ⟨r1, get_set_eq r1⟩⟩ ?_
 rintro H2 ⟨k2, n2, b2⟩
 have r2 : H2.next < 2 ^ 39 := by omega
 show WOps _ _ _ _ _ _
 repeat (first | apply qN | refine qM rfl rfl ?_ | refine zqb rfl rfl rfl ‹_› ?_ | apply qR)
 refine wops_cons (o_build1S (a := a) (b := b) rfl rfl rfl r2 ?_)
 refine WOps.mem (fun H3 => Keeps H2 H3 ∧ H3.next = H2.next + 1 ∧ H3.get H2.next = some (.cells [iv a, iv b] 24 0)) ⟨(Keeps.refl H2).add _ r2, rfl, get_add_eq r2⟩ ?_
 rintro H3 ⟨k3, n3, g3⟩
 have k13 := k2.trans k3
 refine wops_cons (o_appendP (H0 := H) (p := (a, b)) (ms := ms.take i) rfl rfl rfl rfl rfl (by rw [List.length_take]; omega) (by omega) rfl g3 (hG1.keep k13) hno (k1.trans k13) fun r4 H4 n4 k4 hn4 hG4 => ?_)
 repeat (first | apply qN | refine qM rfl rfl ?_ | refine zq4 rfl rfl rfl rfl (inc (by omega)) ?_ | apply qR)
 exact ⟨ms.length - (i + 1), by omega, i + 1, r4, [_,_,_,_,_,_,_,_,_,_,_,_,_,_], rfl, by omega, k4, by omega, by rw [htk]; exact hG4, hn4, rfl, rfl⟩
theorem cOwnR (H : AH) (x : AV) (ms : List (Int × Int)) (hx : S2 H 105 x ms) (hml : ms.length ≤ 100000) (hr : H.next + 500000 < 2 ^ 39) (K : AV → AH → Prop)
   (hk : ∀ H' r, Keeps H H' → H'.next ≤ H.next + 3 * ms.length → G2 H' 137 r ms → (∀ d, r.own = some d → H.next ≤ d) → K r H') : Ca (ENV O) 32 [x] H K := by
 refine ca_intro (hq _ _ _ rfl) (fn := Tryz.f32) (by rfl) rfl ?_
 repeat (first | apply qN | refine qM rfl rfl ?_ | apply qR | apply qS)
 refine wops_cons (o_len2 rfl rfl rfl rfl rfl hx ?_)
 repeat (first | apply qN | refine qM rfl rfl ?_ | apply qB)
 refine wp_loop (fun q T M H' => ∃ (i : Nat) (rr : AV) (Y : List AV), q = ms.length - i ∧ i ≤ ms.length ∧ Keeps H H' ∧ H'.next ≤ H.next + 3 * i ∧ G2 H' 137 rr (ms.take i) ∧ (∀ d, rr.own = some d → H.next ≤ d) ∧ M = [] ∧ T = (lget Y 0 :: lget Y 1 :: lget Y 2 :: rr :: lget Y 3 :: lget Y 4 :: x :: iv (ms.length : Nat) :: iv (i : Nat) :: lget Y 5 :: lget Y 6 :: lget Y 7 :: lget Y 8 :: lget Y 9 :: lget Y 10 :: lget Y 11 :: lget Y 12 :: lget Y 13 :: [])) ms.length
   ⟨0, .v (.slice none 0 0), [_,_,_,_,_,_,_,_,_,_,_,_,_,_], rfl, Nat.zero_le _, Keeps.refl _, Nat.le_refl _, .inl ⟨rfl, rfl⟩, (fun d hd => by cases hd), rfl, rfl⟩ ?_
 rintro q T M H1 ⟨i, rr, Y, hq1, hi, k1, n1, hG1, hno, rfl, rfl⟩
 repeat (first | apply qR | apply qS)
 refine wops_cons (wop_cmp rfl rfl rfl rfl rfl (fun h => ?_) (fun h => ?_))
 rotate_left
 · have h : ¬ ((i : Int) < (ms.length : Nat)) := of_decide_eq_false h
   have e : i = ms.length := by omega
   subst e
   rw [List.take_length] at hG1
   repeat (first | apply qN | refine qM rfl rfl ?_ | refine qF rfl ?_ | apply qR | apply qS | apply qE)
   refine wp_ret ?_
   exact ⟨_, _, rfl, hk H1 rr k1 n1 hG1 hno⟩
 have hi' : i < ms.length := by have h : (i : Int) < (ms.length : Nat) := of_decide_eq_true h; omega
 clear h
 obtain ⟨⟨a, b⟩, hp⟩ : ∃ p, ms[i]? = some p := ⟨ms[i], List.getElem?_eq_getElem hi'⟩
 have htk : ms.take (i + 1) = ms.take i ++ [(a, b)] := by rw [List.take_add_one, hp]; rfl
 have r1 : H1.next < 2 ^ 39 := by omega
 have hx1 := hx.keep k1
 repeat (first | apply qN | refine qT rfl ?_ | apply qR | apply qS | apply qK | apply qB)
 refine wops_cons (o_index2 rfl rfl hx1 rfl hp fun xb gr hxb hxg => ?_)
 refine wops_cons (o_loadA (r := [iv a, iv b]) (n := 2) rfl rfl (by kernel_rfl) (by kernel_rfl) rfl hxg (by rw [Nat.zero_add]; exact fl2_get hp) (by rw [fl2_len]; omega) ?_)
 refine wops_cons (o_allocA (zs := [iv 0, iv 0]) rfl rfl (z := .agg #[.int .i64 0, .int .i64 0]) (by kernel_rfl) rfl r1 ?_)
 refine wops_cons (o_storeA (n := 2) (vs := [iv a, iv b]) rfl rfl (by kernel_rfl) rfl rfl rfl rfl (get_add_eq r1) (Nat.le_refl _) ?_)
 refine WOps.mem (fun H2 => Keeps H1 H2 ∧ H2.next = H1.next + 1 ∧ Bk H2 H1.next 105 [iv a, iv b]) ⟨((Keeps.refl H1).add _ r1).set _ (Nat.le_refl _) r1, rfl, ⟨r1, get_set_eq r1⟩⟩ ?_
 rintro H2 ⟨k2, n2, b2⟩
 have r2 : H2.next < 2 ^ 39 := by omega
 show WOps _ _ _ _ _ _
 repeat (first | apply qN | refine qM rfl rfl ?_ | refine zqb rfl rfl rfl ‹_› ?_ | apply qR)
 refine wops_cons (o_build1S (a := a) (b := b) rfl rfl rfl r2 ?_)
 refine WOps.mem (fun H3 => Keeps H2 H3 ∧ H3.next = H2.next + 1 ∧ H3.get H2.next = some (.cells [iv a, iv b] 137 0)) ⟨(Keeps.refl H2).add _ r2, rfl, get_add_eq r2⟩ ?_
 rintro H3 ⟨k3, n3, g3⟩
 have k13 := k2.trans k3
 refine wops_cons (o_appendP (H0 := H) (p := (a, b)) (ms := ms.take i) rfl rfl rfl rfl rfl (by rw [List.length_take]; omega) (by omega) rfl g3 (hG1.keep k13) hno (k1.trans k13) fun r4 H4 n4 k4 hn4 hG4 => ?_)
 repeat (first | apply qN | refine qM rfl rfl ?_ | refine zq4 rfl rfl rfl rfl (inc (by omega)) ?_ | apply qR)
 exact ⟨ms.length - (i + 1), by omega, i + 1, r4, [_,_,_,_,_,_,_,_,_,_,_,_,_,_], rfl, by omega, k4, by omega, by rw [htk]; exact hG4, hn4, rfl, rfl⟩
theorem cFst (H : AH) (x : AV) (l : List Int) (hx : Sl H x (ivs l)) (hlen : l.length ≤ 1000) (K : AV → AH → Prop) (hk : K (iv (firstNZ l)) H) : Ca (ENV O) 29 [x] H K := by
 refine ca_intro (hq _ _ _ rfl) (fn := Tryz.f29) (by rfl) rfl ?_
 repeat (first | apply qN | refine qM rfl rfl ?_ | refine zq5 rfl rfl rfl rfl rfl ‹_› ?_ | apply qR | apply qS | apply qB)
 refine wp_loop (fun q T M H' => ∃ (i : Nat) (Y : List AV), q = l.length - i ∧ i ≤ l.length ∧ firstNZ l = firstNZ (l.drop i) ∧ H' = H ∧ M = [] ∧ T = (lget Y 0 :: lget Y 1 :: lget Y 2 :: lget Y 3 :: lget Y 4 :: x :: iv l.length :: iv (i : Nat) :: lget Y 5 :: lget Y 6 :: lget Y 7 :: lget Y 8 :: lget Y 9 :: lget Y 10 :: lget Y 11 :: [])) l.length
   ⟨0, [_,_,_,_,_,_,_,_,_,_,_,_], rfl, Nat.zero_le _, rfl, rfl, rfl, rfl⟩ ?_
 rintro q T M H' ⟨i, Y, hq1, hi, hsw, rfl, rfl, rfl⟩
 repeat (first | apply qR | apply qS)
 refine wops_cons (wop_cmp rfl rfl rfl rfl rfl (fun h => ?_) (fun h => ?_))
 rotate_left
 · have h : ¬ ((i : Int) < l.length) := of_decide_eq_false h
   have e : i = l.length := by omega
   rw [hsw, e, List.drop_length] at hk
   repeat (first | apply qN | refine qM rfl rfl ?_ | refine qF rfl ?_ | apply qR | apply qS | apply qE)
   refine wp_ret ?_
   exact ⟨_, _, rfl, hk⟩
 have h : (i : Int) < l.length := of_decide_eq_true h
 obtain ⟨z, hz⟩ := l_some (show i < l.length by omega)
 rw [drop_cons hz, firstNZ_cons] at hsw
 repeat (first | apply qN | refine qT rfl ?_ | apply qR | apply qS | apply qK | apply qB)
 refine wops_cons (o_indexI rfl rfl hx rfl hz fun p hp => ?_)
 repeat (first | apply qN | refine qM rfl rfl ?_ | refine zq6 rfl rfl ‹_› ?_ | apply qR | apply qS)
 refine wops_cons (wop_cmp rfl rfl rfl rfl rfl (fun h => ?_) (fun h => ?_))
 · have h : z ≠ 0 := by simpa using h
   rw [hsw, if_pos h] at hk
   repeat (first | apply qN | refine qM rfl rfl ?_ | refine qT rfl ?_ | apply qR | apply qS)
   refine wp_ret ?_
   exact ⟨_, _, rfl, hk⟩
 have h : ¬ z ≠ 0 := by simpa using h
 rw [if_neg h] at hsw
 repeat (first | apply qN | refine qM rfl rfl ?_ | refine zq4 rfl rfl rfl rfl (inc (by omega)) ?_ | refine qF rfl ?_ | apply qR | apply qK)
 exact ⟨l.length - (i + 1), by omega, i + 1, [_,_,_,_,_,_,_,_,_,_,_,_], rfl, by omega, hsw, rfl, rfl, rfl⟩
end Go.Ev
