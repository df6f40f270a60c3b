/- Part of an evaluator of calls that is proved sound, and of what it gives about this program. No condition of its own. -/
import Derived.Test.YtanaplokhjgfmaaGreatDoorEvFive
set_option linter.unusedVariables false
set_option linter.unusedSimpArgs false
set_option linter.unusedSectionVars false
namespace Go.Ev
def CLe (c c' : CallF) : Prop := ∀ g a H r, c g a H = some r → c' g a H = some r
def YLe (y y' : YieldF) : Prop := ∀ b a H r, y b a H = some r → y' b a H = some r
def FLe (f f' : EvF) : Prop := ∀ g rd c T M H r, f g rd c T M H = some r → f' g rd c T M H = some r
section
variable {P : Program} {F : Fs} {O : CallF} {pl : Plans}
theorem evOp_le {c c' : CallF} (h : CLe c c') {ops : Array Oper} {o : Oper} {T : List AV} {H : AH} {r : AV × AH} (e : evOp P F c ops o T H = some r) : evOp P F c' ops o T H = some r := by
 unfold evOp at e ⊢
 cases hw : wantedA o ops T with
 | false => rw [hw] at e; exact e
 | true =>
   rw [hw] at e
   cases ho : opEval P F T H o with
   | none => rw [ho] at e; cases e
   | some q =>
     rw [ho] at e
     cases q with
     | val x H' => exact e
     | call g a =>
       simp only at e ⊢
       cases hc : c g a H with
       | none => rw [hc] at e; cases e
       | some q => rw [hc] at e; rw [h _ _ _ _ hc]; exact e
theorem evYield_le {y y' : YieldF} (h : YLe y y') {ops : Array Oper} {o : Oper} {b : Nat} {args T : List AV} {H : AH} {r : AV × AH} (e : evYield y ops o b args T H = some r) : evYield y' ops o b args T H = some r := by
 unfold evYield at e ⊢
 cases hw : wantedA o ops T with
 | false => rw [hw] at e; exact e
 | true =>
   rw [hw] at e
   simp only at e ⊢
   cases hc : y b args H with
   | none => rw [hc] at e; cases e
   | some q => rw [hc] at e; rw [h _ _ _ _ hc]; exact e
theorem evOpY_le {c c' : CallF} (h : CLe c c') {y y' : YieldF} (hy : YLe y y') {ops : Array Oper} {o : Oper} {T : List AV} {H : AH} {r : AV × AH} (e : evOpY P F c y ops o T H = some r) : evOpY P F c' y' ops o T H = some r := by
 unfold evOpY at e ⊢
 split at e
 · cases e
 · split at e
   · split at e
     · exact evYield_le hy e
     · exact evOp_le h e
   · exact evOp_le h e
 · exact evOp_le h e
theorem evOpsY_le {c c' : CallF} (h : CLe c c') {y y' : YieldF} (hy : YLe y y') {ops : Array Oper} : ∀ {l : List Oper} {T : List AV} {H : AH} {r : List AV × AH}, evOpsY P F c y ops l T H = some r → evOpsY P F c' y' ops l T H = some r
 | [], _, _, _, e => e
 | o :: l, T, H, r, e => by
   rw [evOpsY_cons] at e ⊢
   cases ho : evOpY P F c y ops o T H with
   | none => rw [ho] at e; cases e
   | some q => rw [ho] at e; rw [evOpY_le h hy ho]; exact evOpsY_le h hy e
theorem evDraw_le {c c' : CallF} (h : CLe c c') {ops : Array Oper} {H0 : AH} : ∀ {π : List Stp} {T : List AV} {H : AH} {r : List AV × AH × List (Nat × Option Nat) × List (Nat × AH)}, evDraw P F c ops H0 π T H = some r → evDraw P F c' ops H0 π T H = some r
 | [], _, _, _, e => e
 | .mob i :: π, T, H, r, e => by
   simp only [evDraw] at e ⊢
   split at e
   · cases e
   · split at e
     · exact evDraw_le h e
     · split at e
       · cases e
       · cases hd : evDraw P F c ops H0 π (putA T _ _) H with
         | none => rw [hd] at e; cases e
         | some q => rw [hd] at e; rw [evDraw_le h hd]; exact e
 | .loud i :: π, T, H, r, e => by
   simp only [evDraw] at e ⊢
   split at e
   · cases e
   · rename_i o ho
     cases hq : evOp P F c ops o T H with
     | none => rw [hq] at e; cases e
     | some q =>
       rw [hq] at e
       rw [evOp_le h hq]
       simp only at e ⊢
       cases hd : evDraw P F c ops H0 π (putA T o.dst q.1) q.2 with
       | none => rw [hd] at e; cases e
       | some q' => rw [hd] at e; rw [evDraw_le h hd]; exact e
 | .alc i :: π, T, H, r, e => by
   simp only [evDraw] at e ⊢
   split at e
   · cases e
   · split at e
     · exact evDraw_le h e
     · split at e
       · cases e
       · split at e
         · cases e
         · exact evDraw_le h e
theorem evRegion_le {c c' : CallF} (h : CLe c c') {ops : Array Oper} {π : List Stp} {T : List AV} {H : AH} {r : List AV × AH} (e : evRegion P F c ops π T H = some r) : evRegion P F c' ops π T H = some r := by
 unfold evRegion at e ⊢
 cases hd : evDraw P F c ops H π T H with
 | none => rw [hd] at e; cases e
 | some q => rw [hd] at e; rw [evDraw_le h hd]; exact e
theorem callBy_le {f f' : EvF} (h : FLe f f') : CLe (callBy P F O f) (callBy P F O f') := by
 intro g a H r e
 unfold callBy at e ⊢
 split at e
 · exact e
 · split at e
   · cases e
   · rename_i fn hfn
     split at e
     · cases e
     · rename_i c hbody
       cases hf : f g false c (enterA fn a) [] H with
       | none => rw [hf] at e; cases e
       | some q => rw [hf] at e; rw [h _ _ _ _ _ _ _ hf]; exact e
theorem ylBy_le {f f' : EvF} (h : FLe f f') : YLe (ylBy P pl f) (ylBy P pl f') := by
 intro b a H r e
 unfold ylBy at e ⊢
 split at e
 · rename_i g T ps asg bo hb
   split at e
   · rename_i hc
     rw [if_pos hc]
     cases h1 : f g true asg (setArgs ps.toList a T) [] H with
     | none => rw [h1] at e; cases e
     | some q =>
       rw [h1] at e; rw [h _ _ _ _ _ _ _ h1]
       obtain ⟨x, T1, M1, H1⟩ := q
       cases x with
       | normal =>
         simp only [roundBody] at e ⊢
         split at e
         · split at e
           · rename_i pend1 g1 Tq ps1 as1 bo1 hb2 hst
             cases h2 : f g true bo T1 M1 (H1.set b (some (.lp .busy pend1 g1 Tq ps1 as1 bo1))) with
             | none => rw [h2] at e; cases e
             | some q2 => rw [h2] at e; rw [h _ _ _ _ _ _ _ h2]; exact e
           · cases e
         · cases e
       | exit id => exact e
       | ret => exact e
   · cases e
 · cases e
theorem sThen_le {f f' : EvF} (h : FLe f f') {g : FuncId} {rd : Bool} {c : Code} {q : EvR} {r : EX × List AV × List Nat × AH} (e : sThen f g rd c q = some r) : sThen f' g rd c q = some r := by
 unfold sThen at e ⊢
 split at e
 · cases e
 · rename_i x T' M' H'
   cases x with
   | normal => exact h _ _ _ _ _ _ _ e
   | exit id => exact e
   | ret => exact e
theorem evStep_le {f f' : EvF} (h : FLe f f') : FLe (evStep P F O pl f) (evStep P F O pl f') := by
 intro g rd c T M H r e
 cases c with
 | skip => exact e
 | label l => exact e
 | exit id => exact e
 | ret => exact e
 | region id ops d =>
   cases d with
   | false =>
     have e : toNormal M (evOpsY P F (callBy P F O f) (ylBy P pl f) ops ops.toList T H) = some r := e
     show toNormal M (evOpsY P F (callBy P F O f') (ylBy P pl f') ops ops.toList T H) = some r
     cases hq : evOpsY P F (callBy P F O f) (ylBy P pl f) ops ops.toList T H with
     | none => rw [hq] at e; cases e
     | some q => rw [hq] at e; rw [evOpsY_le (callBy_le h) (ylBy_le h) hq]; exact e
   | true =>
     have e : sDraw P F O pl f g id ops T M H = some r := e
     show sDraw P F O pl f' g id ops T M H = some r
     unfold sDraw at e ⊢
     split at e
     · cases e
     · rename_i π _
       cases hq : evRegion P F (callBy P F O f) ops π T H with
       | none => rw [hq] at e; cases e
       | some q => rw [hq] at e; rw [evRegion_le (callBy_le h) hq]; exact e
 | seq a b =>
   have e : sThen f g rd b (f g rd a T M H) = some r := e
   show sThen f' g rd b (f' g rd a T M H) = some r
   cases hq : f g rd a T M H with
   | none => rw [hq] at e; cases e
   | some q => rw [hq] at e; rw [h _ _ _ _ _ _ _ hq]; exact sThen_le h e
 | cond c a b =>
   have e : sCond f g rd a b T M H (av T c) = some r := e
   show sCond f' g rd a b T M H (av T c) = some r
   unfold sCond at e ⊢
   split at e
   · exact h _ _ _ _ _ _ _ e
   · exact h _ _ _ _ _ _ _ e
   · cases e
 | block id b =>
   have e : sBlock id (f g rd b T M H) = some r := e
   show sBlock id (f' g rd b T M H) = some r
   cases hq : f g rd b T M H with
   | none => rw [hq] at e; cases e
   | some q => rw [hq] at e; rw [h _ _ _ _ _ _ _ hq]; exact e
 | loop b =>
   have e : sThen f g rd (.loop b) (f g rd b T M H) = some r := e
   show sThen f' g rd (.loop b) (f' g rd b T M H) = some r
   cases hq : f g rd b T M H with
   | none => rw [hq] at e; cases e
   | some q => rw [hq] at e; rw [h _ _ _ _ _ _ _ hq]; exact sThen_le h e
 | scope b => exact h g rd b T M H r e
 | rangeFunc x ps asg bo =>
   cases rd with
   | true => exact e
   | false =>
     have e : sRange F (callBy P F O f) g x ps asg bo T M H = some r := e
     show sRange F (callBy P F O f') g x ps asg bo T M H = some r
     unfold sRange at e ⊢
     split at e
     · rename_i gf cap hca
       split at e
       · rename_i hb
         rw [if_pos hb]
         cases hq : callBy P F O f gf (.yl (H.next + 1) :: cap) ((H.add .dfd).add (.lp .ready none g T ps asg bo)) with
         | none => rw [hq] at e; cases e
         | some q => rw [hq] at e; rw [callBy_le h _ _ _ _ hq]; exact e
       · cases e
     · cases e
 | goto l => cases e
 | refuse s => cases e
theorem ev_le_succ (n : Nat) : FLe (ev P F O pl n) (ev P F O pl (n + 1)) := by
 induction n with
 | zero => intro g rd c T M H r e; cases e
 | succ n ih => exact evStep_le ih
theorem ev_le {n m : Nat} (h : n ≤ m) : FLe (ev P F O pl n) (ev P F O pl m) := by
 induction h with
 | refl => exact fun _ _ _ _ _ _ _ e => e
 | step _ ih => exact fun g rd c T M H r e => ev_le_succ _ g rd c T M H r (ih g rd c T M H r e)
theorem evCall_le {n m : Nat} (h : n ≤ m) : CLe (evCall P F O pl n) (evCall P F O pl m) := callBy_le (ev_le h)
theorem evYl_le {n m : Nat} (h : n ≤ m) : YLe (evYl P F O pl n) (evYl P F O pl m) := ylBy_le (ev_le h)
end
end Go.Ev
namespace Go.Ev
structure Env where
 P : Program
 F : Fs
 O : CallF
 pl : Plans
abbrev QX := EX → List AV → List Nat → AH → Prop
namespace Env
variable (E : Env)
noncomputable abbrev ev (n : Nat) : EvF := Ev.ev E.P E.F E.O E.pl n
noncomputable abbrev evCall (n : Nat) : CallF := Ev.evCall E.P E.F E.O E.pl n
noncomputable abbrev evYl (n : Nat) : YieldF := Ev.evYl E.P E.F E.O E.pl n
end Env
def Wp (E : Env) (g : FuncId) (rd : Bool) (c : Code) (T : List AV) (M : List Nat) (H : AH) (Q : QX) : Prop :=
 ∃ n x T' M' H', E.ev n g rd c T M H = some (x, T', M', H') ∧ Q x T' M' H'
def Ca (E : Env) (g : FuncId) (args : List AV) (H : AH) (K : AV → AH → Prop) : Prop :=
 ∃ n r H', E.evCall n g args H = some (r, H') ∧ K r H'
def Yl (E : Env) (b : Nat) (args : List AV) (H : AH) (K : AV → AH → Prop) : Prop :=
 ∃ n r H', E.evYl n b args H = some (r, H') ∧ K r H'
def WOp (E : Env) (ops : Array Oper) (o : Oper) (T : List AV) (H : AH) (K : AV → AH → Prop) : Prop :=
 ∃ n r H', evOpY E.P E.F (E.evCall n) (E.evYl n) ops o T H = some (r, H') ∧ K r H'
def WOps (E : Env) (ops : Array Oper) (l : List Oper) (T : List AV) (H : AH) (K : List AV → AH → Prop) : Prop :=
 ∃ n T' H', evOpsY E.P E.F (E.evCall n) (E.evYl n) ops l T H = some (T', H') ∧ K T' H'
section
variable {E : Env} {g : FuncId} {rd : Bool} {T : List AV} {M : List Nat} {H : AH} {Q : QX}
theorem Wp.mono {c : Code} {Q' : QX} (h : Wp E g rd c T M H Q) (hq : ∀ x T' M' H', Q x T' M' H' → Q' x T' M' H') : Wp E g rd c T M H Q' := by
 obtain ⟨n, x, T', M', H', h1, h2⟩ := h
 exact ⟨n, x, T', M', H', h1, hq _ _ _ _ h2⟩
theorem Ca.mono {args : List AV} {K K' : AV → AH → Prop} (h : Ca E g args H K) (hq : ∀ r H', K r H' → K' r H') : Ca E g args H K' := by
 obtain ⟨n, r, H', h1, h2⟩ := h
 exact ⟨n, r, H', h1, hq _ _ h2⟩
theorem WOps.mono {ops : Array Oper} {l : List Oper} {K K' : List AV → AH → Prop} (h : WOps E ops l T H K) (hq : ∀ r H', K r H' → K' r H') : WOps E ops l T H K' := by
 obtain ⟨n, r, H', h1, h2⟩ := h
 exact ⟨n, r, H', h1, hq _ _ h2⟩
theorem wp_skip (h : Q .normal T M H) : Wp E g rd .skip T M H Q := ⟨1, _, _, _, _, rfl, h⟩
theorem wp_label {l : Nat} (h : Q .normal T M H) : Wp E g rd (.label l) T M H Q := ⟨1, _, _, _, _, rfl, h⟩
theorem wp_exit {id : Nat} (h : Q (.exit id) T M H) : Wp E g rd (.exit id) T M H Q := ⟨1, _, _, _, _, rfl, h⟩
theorem wp_ret (h : Q .ret T M H) : Wp E g rd .ret T M H Q := ⟨1, _, _, _, _, rfl, h⟩
def seqQ (E : Env) (g : FuncId) (rd : Bool) (b : Code) (Q : QX) : QX
 | .normal, T, M, H => Wp E g rd b T M H Q
 | .exit id, T, M, H => Q (.exit id) T M H
 | .ret, T, M, H => Q .ret T M H
theorem wp_seq {a b : Code} (h : Wp E g rd a T M H (seqQ E g rd b Q)) : Wp E g rd (.seq a b) T M H Q := by
 obtain ⟨n, x, T', M', H', h1, h2⟩ := h
 cases x with
 | normal =>
   obtain ⟨m, x, T2, M2, H2, k1, k2⟩ := h2
   refine ⟨n + m + 1, x, T2, M2, H2, ?_, k2⟩
   show Ev.ev E.P E.F E.O E.pl (n + m + 1) g rd (.seq a b) T M H = _
   rw [ev_seq, ev_le (Nat.le_add_right n m) _ _ _ _ _ _ _ h1]
   exact ev_le (Nat.le_add_left m n) _ _ _ _ _ _ _ k1
 | exit id =>
   refine ⟨n + 1, _, _, _, _, ?_, h2⟩
   show Ev.ev E.P E.F E.O E.pl (n + 1) g rd (.seq a b) T M H = _
   have h1 : Ev.ev E.P E.F E.O E.pl n g rd a T M H = _ := h1
   rw [ev_seq, h1]
 | ret =>
   refine ⟨n + 1, _, _, _, _, ?_, h2⟩
   show Ev.ev E.P E.F E.O E.pl (n + 1) g rd (.seq a b) T M H = _
   have h1 : Ev.ev E.P E.F E.O E.pl n g rd a T M H = _ := h1
   rw [ev_seq, h1]
theorem wp_cond {c : Operand} {a b : Code} {x : Bool} (hc : av T c = .v (.bool x)) (h1 : x = true → Wp E g rd a T M H Q) (h2 : x = false → Wp E g rd b T M H Q) : Wp E g rd (.cond c a b) T M H Q := by
 cases x with
 | true =>
   obtain ⟨n, x, T', M', H', k1, k2⟩ := h1 rfl
   refine ⟨n + 1, x, T', M', H', ?_, k2⟩
   show Ev.ev E.P E.F E.O E.pl (n + 1) g rd (.cond c a b) T M H = _
   rw [ev_cond, hc]; exact k1
 | false =>
   obtain ⟨n, x, T', M', H', k1, k2⟩ := h2 rfl
   refine ⟨n + 1, x, T', M', H', ?_, k2⟩
   show Ev.ev E.P E.F E.O E.pl (n + 1) g rd (.cond c a b) T M H = _
   rw [ev_cond, hc]; exact k1
def blockQ (id : Nat) (Q : QX) : QX
 | .normal, T, M, H => Q .normal T M H
 | .exit id', T, M, H => match Nat.beq id' id with | true => Q .normal T M H | false => Q (.exit id') T M H
 | .ret, T, M, H => Q .ret T M H
theorem wp_block {id : Nat} {b : Code} (h : Wp E g rd b T M H (blockQ id Q)) : Wp E g rd (.block id b) T M H Q := by
 obtain ⟨n, x, T', M', H', h1, h2⟩ := h
 have e : Ev.ev E.P E.F E.O E.pl (n + 1) g rd (.block id b) T M H = sBlock id (some (x, T', M', H')) := by rw [← h1]; rfl
 cases x with
 | normal => exact ⟨n + 1, _, _, _, _, e, h2⟩
 | ret => exact ⟨n + 1, _, _, _, _, e, h2⟩
 | exit id' =>
   simp only [blockQ] at h2
   simp only [sBlock] at e
   cases hb : Nat.beq id' id with
   | true => rw [hb] at h2 e; exact ⟨n + 1, _, _, _, _, e, h2⟩
   | false => rw [hb] at h2 e; exact ⟨n + 1, _, _, _, _, e, h2⟩
theorem wp_scope {b : Code} (h : Wp E g rd b T M H Q) : Wp E g rd (.scope b) T M H Q := by
 obtain ⟨n, x, T', M', H', h1, h2⟩ := h
 exact ⟨n + 1, x, T', M', H', h1, h2⟩
def loopQ (I : Nat → List AV → List Nat → AH → Prop) (n : Nat) (Q : QX) : QX
 | .normal, T, M, H => ∃ m, m < n ∧ I m T M H
 | .exit id, T, M, H => Q (.exit id) T M H
 | .ret, T, M, H => Q .ret T M H
theorem wp_loop {b : Code} (I : Nat → List AV → List Nat → AH → Prop) (k : Nat) (h0 : I k T M H) (h : ∀ k T M H, I k T M H → Wp E g rd b T M H (loopQ I k Q)) : Wp E g rd (.loop b) T M H Q := by
 induction k using Nat.strongRecOn generalizing T M H with
 | ind k ih =>
   obtain ⟨n, x, T', M', H', h1, h2⟩ := h k T M H h0
   cases x with
   | normal =>
     obtain ⟨m, hm, hi⟩ := h2
     obtain ⟨n2, x, T2, M2, H2, k1, k2⟩ := ih m hm hi
     refine ⟨n + n2 + 1, x, T2, M2, H2, ?_, k2⟩
     show Ev.ev E.P E.F E.O E.pl (n + n2 + 1) g rd (.loop b) T M H = _
     rw [ev_loop, ev_le (Nat.le_add_right n n2) _ _ _ _ _ _ _ h1]
     exact ev_le (Nat.le_add_left n2 n) _ _ _ _ _ _ _ k1
   | exit id =>
     refine ⟨n + 1, _, _, _, _, ?_, h2⟩
     show Ev.ev E.P E.F E.O E.pl (n + 1) g rd (.loop b) T M H = _
     have h1 : Ev.ev E.P E.F E.O E.pl n g rd b T M H = _ := h1
     rw [ev_loop, h1]
   | ret =>
     refine ⟨n + 1, _, _, _, _, ?_, h2⟩
     show Ev.ev E.P E.F E.O E.pl (n + 1) g rd (.loop b) T M H = _
     have h1 : Ev.ev E.P E.F E.O E.pl n g rd b T M H = _ := h1
     rw [ev_loop, h1]
theorem wp_region {id : Nat} {ops : Array Oper} (h : WOps E ops ops.toList T H fun T' H' => Q .normal T' M H') : Wp E g rd (.region id ops false) T M H Q := by
 obtain ⟨n, T', H', h1, h2⟩ := h
 refine ⟨n + 1, _, _, _, _, ?_, h2⟩
 show Ev.ev E.P E.F E.O E.pl (n + 1) g rd (.region id ops false) T M H = _
 rw [ev_region, show evOpsY E.P E.F (Ev.evCall E.P E.F E.O E.pl n) (Ev.evYl E.P E.F E.O E.pl n) ops ops.toList T H = _ from h1]
theorem wops_nil {ops : Array Oper} {K : List AV → AH → Prop} (h : K T H) : WOps E ops [] T H K := ⟨0, _, _, rfl, h⟩
theorem wops_cons {ops : Array Oper} {o : Oper} {l : List Oper} {K : List AV → AH → Prop} (h : WOp E ops o T H fun r H' => WOps E ops l (putA T o.dst r) H' K) : WOps E ops (o :: l) T H K := by
 obtain ⟨n, r, H1, h1, m, T', H', k1, k2⟩ := h
 refine ⟨n + m, T', H', ?_, k2⟩
 rw [evOpsY_cons, evOpY_le (evCall_le (Nat.le_add_right n m)) (evYl_le (Nat.le_add_right n m)) h1]
 exact evOpsY_le (evCall_le (Nat.le_add_left m n)) (evYl_le (Nat.le_add_left m n)) k1
def still : Op → Bool
 | .defer _ => false
 | .call c => (match c.callee with | .value _ => false | _ => true)
 | _ => true
theorem evOpY_still {P : Program} {F : Fs} {call : CallF} {yl : YieldF} {ops : Array Oper} {o : Oper} (h : still o.op = true) : evOpY P F call yl ops o T H = evOp P F call ops o T H := by
 unfold evOpY
 split
 · rename_i d hd; rw [hd] at h; cases h
 · rename_i c hc
   split
   · rename_i f hf; rw [hc] at h; simp only [still, hf] at h; cases h
   · rfl
 · rfl
theorem wop_val {ops : Array Oper} {o : Oper} {r : AV} {H' : AH} {K : AV → AH → Prop} (hs : still o.op = true) (hg : wantedA o ops T = true) (h : opEval E.P E.F T H o = some (.val r H')) (hn : H.next ≤ H'.next) (hk : K r H') : WOp E ops o T H K := by
 refine ⟨0, r, H', ?_, hk⟩
 rw [evOpY_still hs]
 unfold evOp
 rw [hg, h]
 simp only
 rw [if_pos (Nat.ble_eq_true_of_le hn)]
theorem wop_skip {ops : Array Oper} {o : Oper} {K : AV → AH → Prop} (hs : still o.op = true) (hg : wantedA o ops T = false) (hk : K (.v undef) H) : WOp E ops o T H K := by
 refine ⟨0, _, _, ?_, hk⟩
 rw [evOpY_still hs]
 unfold evOp
 rw [hg]
theorem wop_call {ops : Array Oper} {o : Oper} {f : FuncId} {args : List AV} {K : AV → AH → Prop} {c : Call} {x : Operand} (ho : o.op = .call c) (hx : c.callee = .value x) (hy : ∀ b, av T x ≠ .yl b) (hg : wantedA o ops T = true)
   (h : opEval E.P E.F T H o = some (.call f args)) (hk : Ca E f args H fun r H' => H.next ≤ H'.next ∧ K r H') : WOp E ops o T H K := by
 obtain ⟨n, r, H', h1, h2, h3⟩ := hk
 refine ⟨n, r, H', ?_, h3⟩
 unfold evOpY
 rw [ho]
 simp only [hx]
 · unfold evOp
   rw [hg, h]
   simp only
   rw [h1]
   simp only
   rw [if_pos (Nat.ble_eq_true_of_le h2)]
theorem ca_intro {f : FuncId} {args : List AV} {K : AV → AH → Prop} {fn : Func} {c : Code} (hO : E.O f args H = none) (hF : E.F.get f = some fn) (hb : fn.body = some c)
   (h : Wp E f false c (enterA fn args) [] H fun x T' M' H' => match x with | .exit _ => False | _ => ∃ r H'', leaveM E.P fn T' M' H' = some (r, H'') ∧ K r H'') : Ca E f args H K := by
 obtain ⟨n, x, T', M', H', h1, h2⟩ := h
 have e : ∀ r H'', leaveM E.P fn T' M' H' = some (r, H'') → (x = .normal ∨ x = .ret) → E.evCall n f args H = some (r, H'') := fun r H'' hl hx => by
   show callBy E.P E.F E.O (Ev.ev E.P E.F E.O E.pl n) f args H = _
   unfold callBy
   rw [hO]
   simp only [hF, hb]
   rw [show Ev.ev E.P E.F E.O E.pl n f false c (enterA fn args) [] H = _ from h1]
   rcases hx with rfl | rfl <;> exact hl
 cases x with
 | exit id => exact h2.elim
 | normal => obtain ⟨r, H'', k1, k2⟩ := h2; exact ⟨n, r, H'', e _ _ k1 (.inl rfl), k2⟩
 | ret => obtain ⟨r, H'', k1, k2⟩ := h2; exact ⟨n, r, H'', e _ _ k1 (.inr rfl), k2⟩
theorem ca_oracle {f : FuncId} {args : List AV} {K : AV → AH → Prop} {r : AV} {H' : AH} (hO : E.O f args H = some (r, H')) (hk : K r H') : Ca E f args H K := by
 refine ⟨0, r, H', ?_, hk⟩
 show callBy E.P E.F E.O (Ev.ev E.P E.F E.O E.pl 0) f args H = _
 unfold callBy
 rw [hO]
end
end Go.Ev
namespace Go.Ev
theorem runPure_bind {α β : Type} (P : Program) (s : Sem α) (f : α → Sem β) : runPure P (s >>= f) = (runPure P s).bind fun a => runPure P (f a) := by
 show runPure P (Sem.bind s f) = _
 induction s with
 | pure x => rfl
 | program k ih => exact ih P
 | mark m k ih => exact ih
 | _ => rfl
theorem runPure_pure {α : Type} (P : Program) (a : α) : runPure P (pure a : Sem α) = some a := rfl
section
variable {E : Env} {g : FuncId} {rd : Bool} {T : List AV} {M : List Nat} {H : AH} {Q : QX} {ops : Array Oper} {o : Oper} {K : AV → AH → Prop}
theorem wop_skip' (hs : (match o.op with | .defer _ => false | _ => true) = true) (hg : wantedA o ops T = false) (hk : K (.v undef) H) : WOp E ops o T H K := by
 refine ⟨0, _, _, ?_, hk⟩
 have h1 : evOp E.P E.F (E.evCall 0) ops o T H = some (.v undef, H) := by unfold evOp; rw [hg]
 unfold evOpY
 split
 · rename_i d hd; rw [hd] at hs; cases hs
 · split
   · split
     · unfold evYield; rw [hg]
     · exact h1
   · exact h1
 · exact h1
theorem wop_cmp {op : BinOp} {t yt : TypeId} {x y : Operand} {k : IntKind} {a b : Int} {c : Bool} (ho : o.op = .binOp op t x y yt) (hg : wantedA o ops T = true) (hx : av T x = .v (.int k a)) (hy : av T y = .v (.int k b)) (hv : binI op k k a b = some (.bool c)) (ht : c = true → K (.v (.bool true)) H) (hf : c = false → K (.v (.bool false)) H) : WOp E ops o T H K := by
 refine wop_val (r := .v (.bool c)) (by rw [ho]; rfl) hg (by unfold opEval; rw [ho]; simp only [oBin, hx, hy, hv]) (Nat.le_refl _) ?_
 cases c with
 | true => exact ht rfl
 | false => exact hf rfl
theorem wp_condT {c : Operand} {a b : Code} (hc : av T c = .v (.bool true)) (h : Wp E g rd a T M H Q) : Wp E g rd (.cond c a b) T M H Q := wp_cond hc (fun _ => h) (fun e => by cases e)
theorem wp_condF {c : Operand} {a b : Code} (hc : av T c = .v (.bool false)) (h : Wp E g rd b T M H Q) : Wp E g rd (.cond c a b) T M H Q := wp_cond hc (fun e => by cases e) (fun _ => h)
theorem wop_move {x : Operand} (ho : o.op = .move x) (hg : wantedA o ops T = true) (hk : K (av T x) H) : WOp E ops o T H K :=
 wop_val (by rw [ho]; rfl) hg (by unfold opEval; rw [ho]) (Nat.le_refl _) hk
theorem wop_assign {x : Operand} (ho : o.op = .assign x) (hg : wantedA o ops T = true) (hk : K (av T x) H) : WOp E ops o T H K :=
 wop_val (by rw [ho]; rfl) hg (by unfold opEval; rw [ho]) (Nat.le_refl _) hk
theorem wop_pick {c x y : Operand} {b : Bool} (ho : o.op = .pick c x y) (hg : wantedA o ops T = true) (hc : av T c = .v (.bool b)) (hk : K (bif b then av T x else av T y) H) : WOp E ops o T H K := by
 cases b with
 | true => exact wop_val (by rw [ho]; rfl) hg (by unfold opEval; rw [ho]; simp only [oPick, hc, cond_true, cond_false]) (Nat.le_refl _) hk
 | false => exact wop_val (by rw [ho]; rfl) hg (by unfold opEval; rw [ho]; simp only [oPick, hc, cond_true, cond_false]) (Nat.le_refl _) hk
theorem wop_bin {op : BinOp} {t yt : TypeId} {x y : Operand} {k : IntKind} {a b : Int} {v : Value} (ho : o.op = .binOp op t x y yt) (hg : wantedA o ops T = true) (hx : av T x = .v (.int k a)) (hy : av T y = .v (.int k b)) (hv : binI op k k a b = some v) (hk : K (.v v) H) : WOp E ops o T H K :=
 wop_val (by rw [ho]; rfl) hg (by unfold opEval; rw [ho]; simp only [oBin, hx, hy, hv]) (Nat.le_refl _) hk
def Sl (H : AH) (x : AV) (l : List AV) : Prop :=
 match x with
 | .v (.slice a n _) => n = l.length ∧ (l = [] ∨ ∃ b off vs, a = some ⟨b, off, none⟩ ∧ H.gl b = some vs ∧ ∀ (j : Nat) (v : AV), l[j]? = some v → ∃ u, vs[off + j]? = some u ∧ v = .v u)
 | .slc b off n _ => n = l.length ∧ b < 2 ^ 59 ∧ ∃ cs e g, H.get b = some (.cells cs e g) ∧ ∀ (j : Nat) (v : AV), l[j]? = some v → cs[off + j]? = some v
 | .slu b off n sz => n = l.length ∧ b < 2 ^ 59 ∧ sz = 1 ∧ ∃ cs e g, H.get b = some (.cells cs e g) ∧ ∀ (j : Nat) (v : AV), l[j]? = some v → cs[off + j]? = some v
 | _ => False
def AV.own : AV → Option Nat
 | .ptr b _ => some b
 | .slc b _ _ _ => some b
 | .slu b _ _ _ => some b
 | .mp b => some b
 | _ => none
theorem Sl.frame {H' : AH} {x : AV} {l : List AV} (h : Sl H x l) (hgl : H'.gl = H.gl) (hb : ∀ b, x.own = some b → H'.get b = H.get b) : Sl H' x l := by
 unfold Sl at h ⊢
 split at h
 · rw [hgl]; exact h
 · rw [hb _ rfl]; exact h
 · rw [hb _ rfl]; exact h
 · exact h.elim
structure Keeps (H H' : AH) : Prop where
 nx : H.next ≤ H'.next
 gl : H'.gl = H.gl
 get : ∀ b, b < H.next → H'.get b = H.get b
theorem Keeps.refl (H : AH) : Keeps H H := ⟨Nat.le_refl _, rfl, fun _ _ => rfl⟩
theorem Keeps.trans {H1 H2 H3 : AH} (h : Keeps H1 H2) (k : Keeps H2 H3) : Keeps H1 H3 := ⟨Nat.le_trans h.nx k.nx, k.gl.trans h.gl, fun b hb => (k.get b (Nat.lt_of_lt_of_le hb h.nx)).trans (h.get b hb)⟩
def Old (H : AH) (x : AV) : Prop := ∀ b, x.own = some b → b < H.next
theorem Old.keep {H' : AH} {x : AV} (h : Old H x) (k : Keeps H H') : Old H' x := fun b hb => Nat.lt_of_lt_of_le (h b hb) k.nx
theorem Old.v (x : Value) : Old H (.v x) := fun _ h => by cases h
theorem Sl.keep {H' : AH} {x : AV} {l : List AV} (h : Sl H x l) (ho : Old H x) (k : Keeps H H') : Sl H' x l := h.frame k.gl fun b hb => k.get b (ho b hb)
theorem Keeps.set {H0 : AH} (h : Keeps H0 H) {b : Nat} (x : Option AB) (hb : H0.next ≤ b) (h39 : b < 2 ^ 59) : Keeps H0 (H.set b x) :=
 ⟨h.nx, h.gl, fun c hc => by rw [AH.get_set _ _ _ _ h39, if_neg (by omega)]; exact h.get c hc⟩
theorem Keeps.add {H0 : AH} (h : Keeps H0 H) (x : AB) (h39 : H.next < 2 ^ 59) : Keeps H0 (H.add x) :=
 ⟨Nat.le_succ_of_le h.nx, h.gl, fun c hc => by rw [AH.get_add _ _ _ h39, if_neg (by have := h.nx; omega)]; exact h.get c hc⟩
def At (H : AH) (p v : AV) : Prop :=
 match p with
 | .ptr b off => b < 2 ^ 59 ∧ ∃ cs e g, H.get b = some (.cells cs e g) ∧ cs[off]? = some v
 | .v (.pointer (some ⟨b, off, none⟩)) => ∃ vs u, H.gl b = some vs ∧ vs[off]? = some u ∧ v = .v u
 | _ => False
theorem addr_plus (b off k : Nat) : Addr.add ⟨b, off, none⟩ k = ⟨b, off + k, none⟩ := by
 unfold Addr.add; split
 · rename_i e; subst e; rfl
 · rfl
theorem plain_indexAt {P : Program} {t e : TypeId} {b off n cap : Nat} {kd : IntKind} {j : Int} (hu : runPure P (underlying t) = some (.slice e)) (hs : runPure P (sizeOf e) = some 1) (hj : 0 ≤ j ∧ j < n) :
   runPure P (Instr.indexAt t (.slice (some ⟨b, off, none⟩) n cap) (.int kd j)) = some (.pointer (some ⟨b, off + j.toNat, none⟩)) := by
 unfold Instr.indexAt
 simp only [asIntOf, runPure_bind, hu, runPure_pure, Option.bind_some, hj, and_self, if_true, hs, addr_plus, Nat.mul_one]
theorem index_eval {P : Program} {F : Fs} {t e : TypeId} {x i : Operand} {kd : IntKind} {j : Int} {l : List AV} {v : AV} (ho : o.op = .indexAddr t x i) (hu : runPure P (underlying t) = some (.slice e)) (hs : runPure P (sizeOf e) = some 1)
   (hx : Sl H (av T x) l) (hi : av T i = .v (.int kd j)) (h0 : 0 ≤ j) (hl : l[j.toNat]? = some v) : ∃ p, opEval P F T H o = some (.val p H) ∧ mobEval P T H o = some p ∧ (∀ H', mobEval P T H' o = some p) ∧ At H p v := by
 have hlen : j.toNat < l.length := (List.getElem?_eq_some_iff.1 hl).1
 obtain ⟨k, rfl⟩ := Int.eq_ofNat_of_zero_le h0
 simp only [Int.toNat_natCast] at hl hlen
 cases hav : av T x with
 | v val =>
   rw [hav] at hx
   cases val with
   | slice a n cap =>
     obtain ⟨hn, hx⟩ := hx
     subst hn
     rcases hx with rfl | ⟨b, off, vs, rfl, hgl, hv⟩
     · simp at hl
     · obtain ⟨u, hu1, rfl⟩ := hv _ _ hl
       have hidx := plain_indexAt (t := t) (b := b) (off := off) (cap := cap) (kd := kd) (j := (k : Int)) (n := l.length) hu hs ⟨h0, by omega⟩
       simp only [Int.toNat_natCast] at hidx
       have hp : ∀ H' : AH, plainOp P T H' o = some (.val (.v (.pointer (some ⟨b, off + k, none⟩))) H') := fun H' => by
         unfold plainOp
         rw [ho]
         simp only [Op.operands, execOp, ho, hav, hi, AV.plain, Option.getD_some, runPure_bind, hidx, Option.bind_some, runPure_pure]
         simp [hav, hi, AV.plain]
       have hp2 : plainVal P T o = some (.v (.pointer (some ⟨b, off + k, none⟩))) := by
         unfold plainVal
         rw [ho]
         simp only [Op.operands, execOp, ho, hav, hi, AV.plain, Option.getD_some, runPure_bind, hidx, Option.bind_some, runPure_pure]
         simp [hav, hi, AV.plain]
       have hm : ∀ H' : AH, mobEval P T H' o = some (.v (.pointer (some ⟨b, off + k, none⟩))) := fun H' => by unfold mobEval; rw [ho]; simp only [hav, isV, if_true, hp2]
       exact ⟨_, by unfold opEval; rw [ho]; simp only [oIndexAddr, hav, isV, hp H], hm H, hm, vs, u, hgl, hu1, rfl⟩
   | _ => exact hx.elim
 | slc b off n cap =>
   rw [hav] at hx
   obtain ⟨rfl, h39, cs, el, gr, hg, hv⟩ := hx
   have hm : indexAddrA P t (.slc b off l.length cap) (.v (.int kd (k : Int))) = some (.ptr b (off + k)) := by
     unfold indexAddrA
     simp only [natA, hu, hs, Nat.mul_one]
     rw [if_pos (show Nat.blt k l.length = true from Nat.ble_eq_true_of_le hlen)]
   have hm2 : ∀ H' : AH, mobEval P T H' o = some (.ptr b (off + k)) := fun H' => by unfold mobEval; rw [ho]; simp only [hav, hi, isV, Bool.false_eq_true, if_false, hm]
   exact ⟨_, by unfold opEval; rw [ho]; simp only [oIndexAddr, hav, hi, isV, hm, rv], hm2 H, hm2, h39, cs, el, gr, hg, hv _ _ hl⟩
 | slu b off n sz =>
   rw [hav] at hx
   obtain ⟨rfl, h39, rfl, cs, el, gr, hg, hv⟩ := hx
   have hm : indexAddrA P t (.slu b off l.length 1) (.v (.int kd (k : Int))) = some (.ptr b (off + k)) := by
     unfold indexAddrA
     simp only [natA, hu, hs, Nat.mul_one]
     rw [if_pos (show Nat.blt k l.length = true from Nat.ble_eq_true_of_le hlen)]
   have hm2 : ∀ H' : AH, mobEval P T H' o = some (.ptr b (off + k)) := fun H' => by unfold mobEval; rw [ho]; simp only [hav, hi, isV, Bool.false_eq_true, if_false, hm]
   exact ⟨_, by unfold opEval; rw [ho]; simp only [oIndexAddr, hav, hi, isV, hm, rv], hm2 H, hm2, h39, cs, el, gr, hg, hv _ _ hl⟩
 | _ => rw [hav] at hx; exact hx.elim
theorem wop_index {t e : TypeId} {x i : Operand} {kd : IntKind} {j : Int} {l : List AV} {v : AV} (ho : o.op = .indexAddr t x i) (hg : wantedA o ops T = true) (hu : runPure E.P (underlying t) = some (.slice e)) (hs : runPure E.P (sizeOf e) = some 1)
   (hx : Sl H (av T x) l) (hi : av T i = .v (.int kd j)) (h0 : 0 ≤ j) (hl : l[j.toNat]? = some v) (hk : ∀ p, At H p v → K p H) : WOp E ops o T H K := by
 obtain ⟨p, h1, _, _, h2⟩ := index_eval (P := E.P) (F := E.F) ho hu hs hx hi h0 hl
 exact wop_val (by rw [ho]; rfl) hg h1 (Nat.le_refl _) (hk p h2)
theorem wop_indexOwn {t e : TypeId} {x i : Operand} {kd : IntKind} {j : Int} {b off n cap : Nat} (ho : o.op = .indexAddr t x i) (hg : wantedA o ops T = true) (hu : runPure E.P (underlying t) = some (.slice e)) (hs : runPure E.P (sizeOf e) = some 1)
   (hx : av T x = .slc b off n cap) (hi : av T i = .v (.int kd j)) (h0 : 0 ≤ j) (hl : j < n) (hk : K (.ptr b (off + j.toNat)) H) : WOp E ops o T H K := by
 obtain ⟨k, rfl⟩ := Int.eq_ofNat_of_zero_le h0
 refine wop_val (by rw [ho]; rfl) hg (r := .ptr b (off + k)) ?_ (Nat.le_refl _) hk
 unfold opEval; rw [ho]
 have hm : indexAddrA E.P t (.slc b off n cap) (.v (.int kd (k : Int))) = some (.ptr b (off + k)) := by
   unfold indexAddrA
   simp only [natA, hu, hs, Nat.mul_one]
   rw [if_pos (show Nat.blt k n = true from Nat.ble_eq_true_of_le (show k + 1 ≤ n by omega))]
 simp only [oIndexAddr, hx, hi, isV, hm, rv]
theorem load_eval {P : Program} {F : Fs} {t : TypeId} {x : Operand} {v : AV} (ho : o.op = .load t x) (ha : runPure P (isAgg t) = some false) (hx : At H (av T x) v) : opEval P F T H o = some (.val v H) := by
 unfold opEval; rw [ho]
 simp only
 cases hav : av T x with
 | ptr b off =>
   rw [hav] at hx
   obtain ⟨_, cs, e, g, h1, h2⟩ := hx
   simp only [oLoad, loadA, h1, ha, h2, rv]
 | v val =>
   rw [hav] at hx
   unfold At at hx
   split at hx
   · rename_i h; cases h
   · rename_i b off h
     cases h
     obtain ⟨vs, u, h1, h2, rfl⟩ := hx
     simp only [oLoad, loadG, h1, ha, h2, rv, Option.map_some]
   · exact hx.elim
 | _ => rw [hav] at hx; exact hx.elim
theorem wop_load {t : TypeId} {x : Operand} {v : AV} (ho : o.op = .load t x) (hg : wantedA o ops T = true) (ha : runPure E.P (isAgg t) = some false) (hx : At H (av T x) v) (hk : K v H) : WOp E ops o T H K :=
 wop_val (by rw [ho]; rfl) hg (load_eval ho ha hx) (Nat.le_refl _) hk
theorem cells_one {x : AV} (h : x.one = true) : x.cells = [x] := by
 cases x with
 | v val => cases val <;> first | rfl | exact absurd h (by simp [AV.one, Value.oneCell'])
 | agg _ => exact absurd h (by simp [AV.one])
 | _ => rfl
theorem wr_one (cs : List AV) (off : Nat) (x : AV) (h : off < cs.length) : wr cs off [x] = cs.set off x := by
 unfold wr
 rw [List.set_eq_take_append_cons_drop, if_pos h]
 simp
theorem wop_store {t : TypeId} {p x : Operand} {b off : Nat} {cs : List AV} {e : TypeId} {gr : Nat} (ho : o.op = .store t p x) (hg : wantedA o ops T = true) (hs : runPure E.P (sizeOf t) = some 1) (hp : av T p = .ptr b off) (hc : H.get b = some (.cells cs e gr)) (hlt : off < cs.length) (h1 : (av T x).one = true)
   (hk : K (.v undef) (H.set b (some (.cells (cs.set off (av T x)) e gr)))) : WOp E ops o T H K := by
 refine wop_val (by rw [ho]; rfl) hg (H' := H.set b (some (.cells (cs.set off (av T x)) e gr))) ?_ (Nat.le_refl _) hk
 unfold opEval; rw [ho]
 simp only [storeOpA, hp, hs, cells_one h1, List.length_singleton, storeA, hc]
 rw [if_pos (by decide), if_pos (by simp [h1, Nat.ble_eq_true_of_le (show off + 1 ≤ cs.length from hlt)]), wr_one _ _ _ hlt]
 rfl
theorem len_eval {P : Program} {F : Fs} {c : Call} {t e : TypeId} {x : Operand} {l : List AV} (ho : o.op = .call c) (hc : c.callee = .builtin .len) (hargs : c.args.toList = [x]) (ht : c.argTypes[0]? = some t) (hu : runPure P (underlying t) = some (.slice e)) (hx : Sl H (av T x) l) :
   opEval P F T H o = some (.val (.v (.int .i64 l.length)) H) := by
 have h1 : lenOpA P c.argTypes (av T x) H = some (.val (.v (goInt l.length)) H) := by
   unfold lenOpA
   rw [ht]
   simp only [hu]
   unfold Sl at hx
   split at hx
   · rename_i h; rw [h]; simp only [hx.1]
   · rename_i h; rw [h]; simp only [hx.1]
   · rename_i h; rw [h]; simp only [hx.1]
   · exact hx.elim
 unfold opEval; rw [ho]
 simp only [oCall, hc, oBuiltin, hargs, oLen, h1]
 rfl
theorem wop_len {c : Call} {t e : TypeId} {x : Operand} {l : List AV} (ho : o.op = .call c) (hg : wantedA o ops T = true) (hc : c.callee = .builtin .len) (hargs : c.args.toList = [x]) (ht : c.argTypes[0]? = some t) (hu : runPure E.P (underlying t) = some (.slice e)) (hx : Sl H (av T x) l)
   (hk : K (.v (.int .i64 l.length)) H) : WOp E ops o T H K :=
 wop_val (by rw [ho]; simp only [still, hc]) hg (len_eval ho hc hargs ht hu hx) (Nat.le_refl _) hk
end
end Go.Ev
namespace Go.Ev
section
variable {E : Env} {g : FuncId} {rd : Bool} {T : List AV} {M : List Nat} {H : AH} {Q : QX} {ops : Array Oper} {o : Oper} {K : AV → AH → Prop}
theorem wop_yield {c : Call} {x : Operand} {b : Nat} (ho : o.op = .call c) (hx : c.callee = .value x) (hy : av T x = .yl b) (hg : wantedA o ops T = true)
   (hk : Yl E b (c.args.toList.map (av T)) H fun r H' => H.next ≤ H'.next ∧ K r H') : WOp E ops o T H K := by
 obtain ⟨n, r, H', h1, h2, h3⟩ := hk
 refine ⟨n, r, H', ?_, h3⟩
 unfold evOpY
 rw [ho]
 simp only [hx, hy]
 unfold evYield
 rw [hg]
 simp only
 rw [h1]
 simp only
 rw [if_pos (Nat.ble_eq_true_of_le h2)]
theorem yl_intro {b : Nat} {args : List AV} {st : LoopState} {pend : Option Code} {g : FuncId} {T : List AV} {ps : Array Tmp} {asg bo : Code} (hb : H.get b = some (.lp st pend g T ps asg bo)) (hl : args.length = ps.size) (hp1 : plansC E.P E.pl g asg = true) (hp2 : plansC E.P E.pl g bo = true)
   (h : Wp E g true asg (setArgs ps.toList args T) [] H fun x T1 M1 H1 => x = .normal ∧ ∃ pend1 g1 Tq ps1 as1 bo1, H1.get b = some (.lp .ready pend1 g1 Tq ps1 as1 bo1) ∧
     Wp E g true bo T1 M1 (H1.set b (some (.lp .busy pend1 g1 Tq ps1 as1 bo1))) fun x _ _ H3 => ∃ st pend g T ps asg bo, H3.get b = some (.lp st pend g T ps asg bo) ∧
       K (.v (.bool (jumpOf x).isNone)) (H3.set b (some (.lp (if (jumpOf x).isNone then .ready else .done) (jumpOf x) g T ps asg bo)))) : Yl E b args H K := by
 obtain ⟨n, x, T1, M1, H1, h1, rfl, pend1, g1, Tq, ps1, as1, bo1, h2, m, x, T3, M3, H3, h3, st, pend, g', T', ps', as', bo', h4, h5⟩ := h
 refine ⟨n + m, _, _, ?_, h5⟩
 show ylBy E.P E.pl (Ev.ev E.P E.F E.O E.pl (n + m)) b args H = _
 unfold ylBy
 rw [hb]
 simp only
 rw [if_pos (by rw [hl, hp1, hp2]; simp)]
 rw [ev_le (Nat.le_add_right n m) _ _ _ _ _ _ _ h1]
 simp only [roundBody, h2]
 rw [ev_le (Nat.le_add_left m n) _ _ _ _ _ _ _ h3]
 simp only [roundEnd, h4]
theorem wp_range {f : Operand} {ps : Array Tmp} {asg bo : Code} {gf : FuncId} {cap : List AV} (hc : calleeA T f = some (gf, [], cap)) (hn : H.next + 2 ≤ 2 ^ 59) {fn : Func} (hF : E.F.get gf = some fn)
   (h : Ca E gf (.yl (H.next + 1) :: cap) ((H.add .dfd).add (.lp .ready none g T ps asg bo)) fun _ H2 => H.next + 2 ≤ H2.next ∧ ∃ st pend g1 Tq ps1 as1 bo1 x, H2.get (H.next + 1) = some (.lp st pend g1 Tq ps1 as1 bo1) ∧ st ≠ .busy ∧ exOf pend = some x ∧
     Q x T (H.next :: M) (H2.set (H.next + 1) (some (.lp .exhausted pend g1 Tq ps1 as1 bo1)))) : Wp E g false (.rangeFunc f ps asg bo) T M H Q := by
 obtain ⟨n, r, H2, h1, h2, st, pend, g1, Tq, ps1, as1, bo1, x, h3, h4, h5, h6⟩ := h
 refine ⟨n + 1, _, _, _, _, ?_, h6⟩
 show sRange E.F (callBy E.P E.F E.O (Ev.ev E.P E.F E.O E.pl n)) g f ps asg bo T M H = _
 unfold sRange
 rw [hc]
 simp only
 rw [if_pos (by rw [hF, Nat.ble_eq_true_of_le hn]; rfl)]
 rw [show callBy E.P E.F E.O (Ev.ev E.P E.F E.O E.pl n) gf _ _ = _ from h1]
 simp only
 rw [if_pos (Nat.ble_eq_true_of_le h2)]
 simp only [rangeEnd, h3, h5]
 try (cases st <;> first | rfl | exact absurd rfl h4)
def WMobs (E : Env) (ops : Array Oper) : List Stp → List AV → AH → (List AV → Prop) → Prop
 | [], T, _, K => K T
 | .mob i :: π, T, H, K => ∃ o r, ops[i]? = some o ∧ wantedA o ops T = true ∧ mobEval E.P T (sing H (rdA T o)) o = some r ∧ WMobs E ops π (putA T o.dst r) H K
 | _ :: _, _, _, _ => False
theorem opT {i : Nat} (h : ops.toList[i]? = some o) : ops[i]? = some o := by rw [← Array.getElem?_toList]; exact h
theorem mobs_load {i : Nat} {π : List Stp} {K : List AV → Prop} {t : TypeId} {x : Operand} {v : AV} (h1 : ops.toList[i]? = some o) (ho : o.op = .load t x) (hg : wantedA o ops T = true) (ha : runPure E.P (isAgg t) = some false) (hx : At H (av T x) v)
   (hk : WMobs E ops π (putA T o.dst v) H K) : WMobs E ops (.mob i :: π) T H K := by
 refine ⟨o, v, opT h1, hg, ?_, hk⟩
 unfold mobEval rdA
 rw [ho]
 simp only
 cases hav : av T x with
 | ptr b off =>
   rw [hav] at hx
   obtain ⟨h39, cs, e, g, h1, h2⟩ := hx
   have : (sing H (some b)).get b = some (.cells cs e g) := by
     unfold sing
     simp only [h1]
     rw [AH.get_set _ _ _ _ h39, if_pos rfl]
   simp only [loadA, this, ha, h2]
 | v val =>
   rw [hav] at hx
   unfold At at hx
   split at hx
   · rename_i h; cases h
   · rename_i b off h
     cases h
     obtain ⟨vs, u, h1, h2, rfl⟩ := hx
     simp only [loadG, sing, h1, ha, h2, Option.map_some]
   · exact hx.elim
 | _ => rw [hav] at hx; exact hx.elim
theorem zeros (z0 : Value) (n : Nat) : ((Array.range (n * 1)).map ((#[z0] : Array Value)[· % (#[z0] : Array Value).size]!)).toList.map AV.v = List.replicate n (.v z0) := by
 apply List.ext_getElem
 · simp
 · intro i h1 h2
   have : i % 1 = 0 := Nat.mod_one i
   simp [this]
theorem wop_make {t e : TypeId} {l c : Operand} {k1 k2 : IntKind} {n : Nat} {i : TypeInfo} {z z0 : Value} (ho : o.op = .makeSlice t l c) (hg : wantedA o ops T = true) (hl : av T l = .v (.int k1 n)) (hc : av T c = .v (.int k2 n)) (hu : runPure E.P (underlying t) = some (.slice e)) (hi : runPure E.P (typeInfo e) = some i) (hs : runPure E.P (sizeOf e) = some 1) (hz : runPure E.P (zeroValue e) = some z)
   (hz0 : z.cells = #[z0]) (hb : i.bytes ≤ 2 ^ 16) (hn : n ≤ 2 ^ 32) (hr : H.next < 2 ^ 59) (hk : K (.slc H.next 0 n n) (H.add (.cells (List.replicate n (.v z0)) e 0))) : WOp E ops o T H K := by
 refine wop_val (by rw [ho]; rfl) hg (H' := H.add (.cells (List.replicate n (.v z0)) e 0)) (r := .slc H.next 0 n n) ?_ (Nat.le_succ _) hk
 unfold opEval; rw [ho]
 have h48 : Nat.ble (i.bytes * n) (2 ^ 48) = true := Nat.ble_eq_true_of_le (by
   have := Nat.mul_le_mul hb hn
   exact Nat.le_trans this (by decide))
 have h62 : Nat.ble n (2 ^ 62) = true := Nat.ble_eq_true_of_le (Nat.le_trans hn (by decide))
 have hlt : Nat.blt H.next (2 ^ 59) = true := Nat.ble_eq_true_of_le hr
 simp only [makeSliceA, hl, hc, natA, hu, hi, hs, hz, h48, h62, Nat.ble_eq_true_of_le (Nat.le_refl n), Bool.true_and, hz0]
 have e0 := zeros z0 n
 cases hn0 : Nat.beq (n * 1) 0 with
 | true =>
   have : n = 0 := by have := Nat.eq_of_beq_eq_true hn0; omega
   subst this
   simp only [Bool.not_true, Bool.false_eq_true, if_false, if_true, newA, hlt, Option.map_some, List.replicate_zero]
 | false =>
   simp only [Bool.not_false, if_true, newA, hlt, Option.map_some]
   rw [e0]
theorem wop_alloc {t : TypeId} {z z0 : Value} (ho : o.op = .alloc t) (hg : wantedA o ops T = true) (hz : runPure E.P (zeroValue t) = some z) (hz0 : z.cells = #[z0]) (hr : H.next < 2 ^ 59) (hk : K (.ptr H.next 0) (H.add (.cells [.v z0] t 0))) : WOp E ops o T H K := by
 refine wop_val (by rw [ho]; rfl) hg (H' := H.add (.cells [.v z0] t 0)) (r := .ptr H.next 0) ?_ (Nat.le_succ _) hk
 unfold opEval; rw [ho]
 have hlt : Nat.blt H.next (2 ^ 59) = true := Nat.ble_eq_true_of_le hr
 simp only [allocA, hz, hz0, newA, hlt, if_true, Option.map_some, List.map_cons, List.map_nil]
theorem wop_box {t : TypeId} {x : Operand} (ho : o.op = .box t x) (hg : wantedA o ops T = true) (h1 : (av T x).one = true) (hr : H.next < 2 ^ 59) (hk : K (.ptr H.next 0) (H.add (.cells [av T x] t 0))) : WOp E ops o T H K := by
 refine wop_val (by rw [ho]; rfl) hg (H' := H.add (.cells [av T x] t 0)) (r := .ptr H.next 0) ?_ (Nat.le_succ _) hk
 unfold opEval; rw [ho]
 have hlt : Nat.blt H.next (2 ^ 59) = true := Nat.ble_eq_true_of_le hr
 simp only [boxA, cells_one h1, newA, hlt, if_true, Option.map_some]
def Gr (H : AH) (e : TypeId) (s : AV) (cs : List AV) : Prop := (s = .v (.slice none 0 0) ∧ cs = []) ∨ ∃ b, b < H.next ∧ b < 2 ^ 59 ∧ s = .slu b 0 cs.length 1 ∧ H.get b = some (.cells cs e 1)
theorem Gr.sl {e : TypeId} {s : AV} {cs : List AV} (h : Gr H e s cs) : Sl H s cs := by
 rcases h with ⟨rfl, rfl⟩ | ⟨b, _, h39, rfl, h⟩
 · exact ⟨rfl, .inl rfl⟩
 · exact ⟨rfl, h39, rfl, cs, e, 1, h, fun j v hv => by rw [Nat.zero_add]; exact hv⟩
theorem Gr.old {e : TypeId} {s : AV} {cs : List AV} (h : Gr H e s cs) : Old H s := by
 rcases h with ⟨rfl, rfl⟩ | ⟨b, hb, _, rfl, h⟩
 · exact Old.v _
 · intro b' hb'; cases hb'; exact hb
theorem Gr.frame {H' : AH} {e : TypeId} {s : AV} {cs : List AV} (h : Gr H e s cs) (hn : H.next ≤ H'.next) (hb : ∀ b, s.own = some b → H'.get b = H.get b) : Gr H' e s cs := by
 rcases h with ⟨rfl, rfl⟩ | ⟨b, hlt, h39, rfl, h⟩
 · exact .inl ⟨rfl, rfl⟩
 · exact .inr ⟨b, Nat.lt_of_lt_of_le hlt hn, h39, rfl, by rw [hb b rfl]; exact h⟩
theorem wop_append1 {c : Call} {t xt e e' : TypeId} {s x : Operand} {i : TypeInfo} {z : Value} {cs : List AV} {v : AV} {bx : Nat} {ex : TypeId} {gx : Nat} (ho : o.op = .call c) (hg : wantedA o ops T = true) (hc : c.callee = .builtin .append) (hargs : c.args.toList = [s, x]) (ht : c.argTypes[0]? = some t) (hxt : c.argTypes[1]? = some xt) (hu : runPure E.P (underlying t) = some (.slice e)) (hux : runPure E.P (underlying xt) = some (.slice e'))
   (hi : runPure E.P (typeInfo e) = some i) (hs : runPure E.P (sizeOf e) = some 1) (hz : runPure E.P (zeroValue e) = some z) (hz0 : z.cells.size = 1) (hb : i.bytes ≤ 2 ^ 8) (hlen : cs.length < 2 ^ 30) (hr : H.next < 2 ^ 59)
   (hx : av T x = .slc bx 0 1 1) (hbx : H.get bx = some (.cells [v] ex gx)) (h1 : v.one = true) (hG : Gr H e (av T s) cs)
   (hk : ∀ r H1, r = .slu H.next 0 (cs.length + 1) 1 → H1.next = H.next + 1 → H1.gl = H.gl → (∀ b, b ≠ H.next → (av T s).own ≠ some b → H1.get b = H.get b) → H1.get H.next = some (.cells (cs ++ [v]) e 1) → Gr H1 e r (cs ++ [v]) → K r H1) : WOp E ops o T H K := by
 have hlt : Nat.blt H.next (2 ^ 59) = true := Nat.ble_eq_true_of_le hr
 have hfirst : firstA 1 1 (.slc bx 0 1 1) H = some [v] := by simp [firstA, hbx]
 have e1 : ∀ n : Nat, n ≤ 2 ^ 30 → Nat.ble (n * i.bytes) (2 ^ 47) = true := fun n hn => Nat.ble_eq_true_of_le (by
   have := Nat.mul_le_mul hn hb
   exact Nat.le_trans this (by decide))
 have e2 : ∀ n : Nat, n ≤ 2 ^ 30 → Nat.ble n (2 ^ 47) = true := fun n hn => Nat.ble_eq_true_of_le (Nat.le_trans hn (by decide))
 have hall : ([v].all AV.one && Nat.beq [v].length (1 * (0 + 1))) = true := by simp [h1]
 rcases hG with ⟨hs0, rfl⟩ | ⟨b, hbn, _, hs0, hgb⟩
 · refine wop_val (by rw [ho]; simp only [still, hc]) hg (r := .slu H.next 0 1 1) (H' := H.add (.cells [v] e 1)) ?_ (Nat.le_succ _) (hk _ _ rfl rfl rfl (fun b hb _ => by rw [AH.get_add _ _ _ hr, if_neg hb]) (by rw [AH.get_add _ _ _ hr, if_pos rfl]; rfl) (.inr ⟨H.next, Nat.lt_succ_self _, hr, rfl, by rw [AH.get_add _ _ _ hr, if_pos rfl]; rfl⟩))
   unfold opEval; rw [ho]
   simp only [oCall, hc, oBuiltin, hargs, appendA, ht, hxt, hu, hux, isIntD, hi, hs, hz, hz0, lenA, hx, hs0]
   rw [if_pos (by decide), hfirst]
   simp only
   rw [if_pos hall, if_pos (by decide), if_neg (by decide), if_pos (by rw [e1 1 (by decide), e2 1 (by decide)]; rfl)]
   simp only [newU, hlt, if_true, Option.map_some]
 · have hb39 : b < 2 ^ 59 := Nat.lt_trans hbn hr
   refine wop_val (by rw [ho]; simp only [still, hc]) hg (r := .slu H.next 0 (cs.length + 1) 1) (H' := (H.set b none).add (.cells (cs ++ [v]) e 1)) ?_ (Nat.le_succ _)
     (hk _ _ rfl rfl rfl (fun c hc1 hc2 => ?_) ?_ (.inr ⟨H.next, Nat.lt_succ_self _, hr, by simp, ?_⟩))
   · unfold opEval; rw [ho]
     simp only [oCall, hc, oBuiltin, hargs, appendA, ht, hxt, hu, hux, isIntD, hi, hs, hz, hz0, lenA, hx, hs0]
     rw [if_pos (by decide), hfirst]
     simp only
     rw [if_pos hall]
     simp only [hgb]
     rw [if_pos (by rw [e1 (cs.length + 1) (by omega), e2 (cs.length + 1) (by omega)]; simp)]
     simp only [newU, show (H.set b none).next = H.next from rfl, hlt, if_true, Option.map_some]
   · rw [AH.get_add (H.set b none) _ _ hr, if_neg (show ¬ c = (H.set b none).next from hc1), AH.get_set _ _ _ _ hb39, if_neg (fun e => hc2 (by rw [hs0, e]; rfl))]
   · exact (AH.get_add (H.set b none) _ _ hr).trans (if_pos rfl)
   · exact (AH.get_add (H.set b none) _ _ hr).trans (if_pos rfl)
end
end Go.Ev
namespace Go.Ev
section
variable {E : Env} {g : FuncId} {rd : Bool} {T : List AV} {M : List Nat} {H : AH} {Q : QX} {ops : Array Oper} {o : Oper} {K : AV → AH → Prop}
theorem pure_bin {P : Program} {e : Operand → Value} {op : BinOp} {t yt : TypeId} {x y : Operand} {k : IntKind} {a b : Int} {v : Value} (ho : o.op = .binOp op t x y yt) (hx : e x = .int k a) (hy : e y = .int k b) (hv : binI op k k a b = some v) :
   runPure P (execOp e o) = some (.value v) := by
 obtain ⟨dst, op', type, pos, after, guard⟩ := o
 simp only at ho
 subst ho
 unfold binI at hv
 rw [decide_eq_true rfl] at hv
 simp only at hv
 cases op <;> simp only [Option.some.injEq, reduceCtorEq] at hv <;> subst hv <;> simp only [execOp, eqGuard, hx, hy, binOp, Op.intArith, Op.intCmp, runPure_bind] <;> first | rfl | simp [runPure_bind, runPure_pure, runPure]
theorem plainVal_bin {P : Program} {op : BinOp} {t yt : TypeId} {x y : Operand} {k : IntKind} {a b : Int} {v : Value} (ho : o.op = .binOp op t x y yt) (hx : av T x = .v (.int k a)) (hy : av T y = .v (.int k b)) (hv : binI op k k a b = some v) : plainVal P T o = some (.v v) := by
 have h := pure_bin (P := P) (e := fun x => ((av T x).plain).getD undef) ho (by simp [hx, AV.plain]) (by simp [hy, AV.plain]) hv
 unfold plainVal
 rw [h, ho]
 simp [Op.operands, hx, hy, AV.plain]
theorem wop_quo {t yt : TypeId} {x y : Operand} {k : IntKind} {a b : Int} (ho : o.op = .binOp .quo t x y yt) (hg : wantedA o ops T = true) (hx : av T x = .v (.int k a)) (hy : av T y = .v (.int k b)) (hb : b ≠ 0) (hk : K (.v (.int k (k.wrap (a.tdiv b)))) H) : WOp E ops o T H K := by
 refine wop_val (by rw [ho]; rfl) hg (r := .v (.int k (k.wrap (a.tdiv b)))) ?_ (Nat.le_refl _) hk
 unfold opEval; rw [ho]
 have h1 : binI .quo k k a b = none := by unfold binI; rw [decide_eq_true rfl]
 simp only [oBin, hx, hy, h1]
 unfold plainOp
 have h2 : runPure E.P (execOp (fun x => ((av T x).plain).getD undef) o) = some (.value (.int k (k.wrap (a.tdiv b)))) := by
   obtain ⟨dst, op', type, pos, after, guard⟩ := o
   simp only at ho
   subst ho
   simp only [execOp, eqGuard, hx, hy, AV.plain, Option.getD_some, binOp, Op.intDiv, runPure_bind]
   simp [hb, runPure_pure, runPure_bind]
 rw [h2, ho]
 simp [Op.operands, hx, hy, AV.plain]
theorem wop_not {t : TypeId} {x : Operand} {b : Bool} (ho : o.op = .unOp .not t x) (hg : wantedA o ops T = true) (hx : av T x = .v (.bool b)) (hk : K (.v (.bool (!b))) H) : WOp E ops o T H K := by
 refine wop_val (by rw [ho]; rfl) hg (r := .v (.bool (!b))) ?_ (Nat.le_refl _) hk
 unfold opEval; rw [ho]
 simp only
 unfold plainOp
 have h2 : runPure E.P (execOp (fun x => ((av T x).plain).getD undef) o) = some (.value (.bool (!b))) := by
   obtain ⟨dst, op', type, pos, after, guard⟩ := o
   simp only at ho
   subst ho
   simp only [execOp, hx, AV.plain, Option.getD_some, Op.unary, runPure_bind, runPure_pure, Option.bind_some]
 rw [h2, ho]
 simp [Op.operands, hx, AV.plain]
theorem wop_extract {x : Operand} {i : Nat} {vs : List AV} {v : AV} (ho : o.op = .extract x i) (hg : wantedA o ops T = true) (hx : av T x = .tup vs) (hv : vs[i]? = some v) (hk : K v H) : WOp E ops o T H K :=
 wop_val (by rw [ho]; rfl) hg (by unfold opEval; rw [ho]; simp only [oExtract, hx, hv, rv]) (Nat.le_refl _) hk
theorem wop_makeFunc {f : Fn} {a b : Array Operand} (ho : o.op = .makeFunc f a b) (hg : wantedA o ops T = true) (hk : K (.fn f (a.toList.map (av T)) (b.toList.map (av T))) H) : WOp E ops o T H K :=
 wop_val (by rw [ho]; rfl) hg (by unfold opEval; rw [ho]; rfl) (Nat.le_refl _) hk
theorem wop_callF {c : Call} {f : FuncId} {fn : Func} (ho : o.op = .call c) (hc : c.callee = .value (.func f)) (hg : wantedA o ops T = true) (hF : E.F.get f = some fn)
   (hk : Ca E f (c.args.toList.map (av T)) H fun r H' => H.next ≤ H'.next ∧ K r H') : WOp E ops o T H K := by
 refine wop_call ho hc (fun b h => by cases h) hg ?_ hk
 unfold opEval; rw [ho]
 simp only [oCall, hc, oCallV, callA, calleeA, av, hF]
 simp
def isK (z : Int) (e : MapEntry) : Bool := match e.key with | .int .i64 k => k == z | _ => false
def Mi (es : List MapEntry) (f : Int → Option Int) : Prop :=
 (∀ e ∈ es, ∃ k v, e.key = .int .i64 k ∧ e.val = .int .i64 v) ∧ ∀ k : Int, f k = (es.find? (isK k)).bind fun e => match e.val with | .int _ v => some v | _ => none
theorem Mi.nil : Mi [] fun _ => none := ⟨fun e h => by simp at h, fun _ => rfl⟩
theorem wop_makeMap {t : TypeId} (ho : o.op = .makeMap t none) (hg : wantedA o ops T = true) (hr : H.next < 2 ^ 59) (hk : K (.mp H.next) (H.add (.map [] 0))) : WOp E ops o T H K := by
 refine wop_val (by rw [ho]; rfl) hg (r := .mp H.next) (H' := H.add (.map [] 0)) ?_ (Nat.le_succ _) hk
 unfold opEval; rw [ho]
 simp only [oMakeMap, makeMapA]
 rw [if_pos (show Nat.blt H.next (2 ^ 59) = true from Nat.ble_eq_true_of_le hr)]
end
end Go.Ev
