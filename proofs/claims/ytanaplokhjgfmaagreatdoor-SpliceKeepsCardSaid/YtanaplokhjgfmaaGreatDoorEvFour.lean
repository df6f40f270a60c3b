/- Part of an evaluator of calls that is proved sound, and of what it gives about this program. No condition of its own. -/
import Derived.Test.YtanaplokhjgfmaaGreatDoorEvThree
import Derived.LoopNIn
import Derived.OrdersIn
import Derived.RangeFuncIn
import Derived.RangeFuncRecord
import Derived.RangeFuncLeaves
import Derived.RangeFuncNested
import Derived.RangeFuncCalls
import Derived.Scope
set_option linter.unusedVariables false
set_option linter.unusedSimpArgs false
set_option linter.unusedSectionVars false
namespace Go.Ev
def wideR (r : Option Nat) : Fence := { Fence.wide with round := r }
theorem callsIn_R {r : Option Nat} {n : Nat} {P : Program} {f : FuncId} {args : Array Value} {w : World} {R : Ending → World → Prop} (h : Calls P f args w R) : CallsIn (wideR r) n P f args w R :=
 callsIn_wide.2 h
theorem rowsIn_R {r : Option Nat} {n : Nat} {P : Program} {row : String} {args : Array Value} {w : World} {R : Value → World → Prop} (h : Rows P row args w R) : RowsIn (wideR r) n P row args w R :=
 fun c cs _ => let ⟨v, w', h1, h2⟩ := h c cs; ⟨v, w', h1, stepsIn_wide.2 h2⟩
theorem noDepth {r : Option Nat} {n : Nat} : (wideR r).depth.isSome = true → 1 ≤ n := fun e => by cases e
theorem letsOut_no {Q : Exit → Act → World → Prop} (hQ : ∀ a w, ¬ Q .outgrown a w) : ¬ LetsOut Q := fun ⟨a, w, h⟩ => hQ a w h
theorem wpOpIn_of {r : Option Nat} {n : Nat} {P : Program} {ops : Array Oper} {Q : Exit → Act → World → Prop} {i : Nat} {K : Act → World → Prop} {a : Act} {w : World} (hnd : ∀ (o : Oper) (c : Call), ops[i]? = some o → o.op ≠ .defer c) (hQ : ∀ a w, ¬ Q .outgrown a w)
   (h : wpOp P ops Q i K a w) : wpOpIn (wideR r) n P ops Q i K a w := by
 unfold wpOp at h
 unfold wpOpIn
 cases ho : ops[i]? with
 | none => simpa [ho] using h
 | some o =>
   simp only [ho] at h ⊢
   split
   · rename_i hw
     simp only [hw, if_true] at h
     rcases h with h | ⟨_, h⟩
     · refine ⟨fun _ _ => trivial, ?_⟩
       rw [Oper.semAt_eq _ _ _ (fun c => hnd o c ho)]
       unfold Oper.wp at h
       generalize (execOp a.eval o).run P w = res at *
       cases res with
       | ok x w' =>
         cases x <;> simp only [Oper.upon, Oper.uponIn] at h ⊢ <;>
           first
             | exact h
             | exact ⟨noDepth, callsIn_R h⟩
             | exact ⟨noDepth, rowsIn_R h⟩
             | exact h.elim
       | halt x w' => cases x <;> simp only [Oper.upon, Oper.uponIn] at h ⊢ <;> exact h
     · exact absurd h (letsOut_no hQ)
   · rename_i hw
     simp only [hw] at h
     exact ⟨fun _ _ => trivial, h⟩
theorem wpAnyIn_of {r : Option Nat} {n : Nat} {P : Program} {ops : Array Oper} {Q : Exit → Act → World → Prop} (hnd : ∀ (i : Nat) (o : Oper) (c : Call), ops[i]? = some o → o.op ≠ .defer c) (hQ : ∀ a w, ¬ Q .outgrown a w) : ∀ (m : Nat) (l : Array Bool) (a : Act) (w : World),
   wpAny P .any ops Q m l a w → wpAnyIn (wideR r) n P .any ops Q m l a w
 | 0, _, _, _, h => h
 | m + 1, l, a, w, h => ⟨h.1, fun i hi => wpOpIn_of (hnd i) hQ (wpOp_mono (fun a' w' k => wpAnyIn_of hnd hQ m _ a' w' k) (h.2 i hi))⟩
section
variable {P : Program} {F : Fence} {n : Nat} {b : Frame} {a : Act} {k : List Item} {cs : List Frame} {w : World} {Q : Exit → Act → World → Prop}
theorem stepR_scope {c : Code} : step P (lone (b.atR a (.code (.scope c) :: k)) cs w) = .next (lone (b.atR a (.code c :: .inScope c :: k)) cs w) :=
 step_lone_go (by simp [stepG, stepG.exec, Frame.atR])
theorem stepR_inScope {c : Code} : step P (lone (b.atR a (.inScope c :: k)) cs w) = .next (lone (b.atR a k) cs w) :=
 step_lone_go (by simp [stepG, stepG.exec, Frame.atR])
theorem wpIn_scope {c : Code} (h : c.wpIn F n P (Exit.noGoto Q) a w) : (Code.scope c).wpIn F n P Q a w := by
 intro b k cs hro hb hr
 have h0 : (lone (b.atR a (.code (.scope c) :: k)) cs w).fenced P F := fenced_calm hb hr rfl
 obtain ⟨e, a₁, w₁, hq, harr⟩ := h b (.inScope c :: k) cs hro hb hr
 cases e with
 | normal => exact ⟨.normal, a₁, w₁, hq, .head h0 stepR_scope (StepsIn.trans harr (.one (fenced_calm hb hr rfl) stepR_inScope))⟩
 | exit id =>
   have hx : exitTo id (.inScope c :: k) = exitTo id k := by simp [exitTo]
   exact ⟨.exit id, a₁, w₁, hq, fun k' hk => .head h0 stepR_scope (harr.1 k' (by rw [hx]; exact hk)),
     fun hr' hk => let ⟨k₁, h1, h2⟩ := harr.2 hr' (by rw [hx]; exact hk); ⟨k₁, h1, .head h0 stepR_scope h2⟩⟩
 | goto l => exact hq.elim
 | ret => exact ⟨_, a₁, w₁, hq, .of_steps (.one h0 stepR_scope) harr⟩
 | panic ch => exact ⟨_, a₁, w₁, hq, .of_steps (.one h0 stepR_scope) harr⟩
 | outgrown => exact ⟨_, a₁, w₁, hq, .of_steps (.one h0 stepR_scope) harr⟩
end
end Go.Ev
namespace Go.Ev
abbrev YieldF := Nat → List AV → AH → Option (AV × AH)
noncomputable def evYield (yl : YieldF) (ops : Array Oper) (o : Oper) (b : Nat) (args : List AV) (T : List AV) (H : AH) : Option (AV × AH) :=
 match wantedA o ops T with
 | false => some (.v undef, H)
 | true => match yl b args H with
   | some (r, H') => if Nat.ble H.next H'.next then some (r, H') else none
   | none => none
noncomputable def evOpY (P : Program) (F : Fs) (call : CallF) (yl : YieldF) (ops : Array Oper) (o : Oper) (T : List AV) (H : AH) : Option (AV × AH) :=
 match o.op with
 | .defer _ => none
 | .call c =>
   match c.callee with
   | .value f =>
     match av T f with
     | .yl b => evYield yl ops o b (c.args.toList.map (av T)) T H
     | _ => evOp P F call ops o T H
   | _ => evOp P F call ops o T H
 | _ => evOp P F call ops o T H
noncomputable def evOpsY (P : Program) (F : Fs) (call : CallF) (yl : YieldF) (ops : Array Oper) (l : List Oper) : List AV → AH → Option (List AV × AH) :=
 List.rec (motive := fun _ => List AV → AH → Option (List AV × AH)) (fun T H => some (T, H))
   (fun o _ ih T H => match evOpY P F call yl ops o T H with | some (r, H') => ih (putA T o.dst r) H' | none => none) l
theorem evOpsY_cons (P : Program) (F : Fs) (call : CallF) (yl : YieldF) (ops : Array Oper) (o : Oper) (rest : List Oper) (T : List AV) (H : AH) :
   evOpsY P F call yl ops (o :: rest) T H = match evOpY P F call yl ops o T H with | some (r, H') => evOpsY P F call yl ops rest (putA T o.dst r) H' | none => none := rfl
section
variable {P : Program} {base : Nat} {ρ : Pl} {H : AH} {w : World} {T : List AV}
def YieldOk (P : Program) (yl : YieldF) : Prop :=
 ∀ b args H r H', yl b args H = some (r, H') → H.next ≤ H'.next → ∀ base ρ w vs n c, Inv base ρ H w → Free ρ H.next H'.next → CRs ρ args vs → ρ b = some (n, c) →
   ∃ fn tmps assign body, (Instr.yield n vs.toArray).run P w = .ok (.round n fn tmps assign body) w ∧
     ∀ r0 m, RoundIn (wideR r0) m P n fn tmps assign body w fun e w' => ∃ ρ' v, e = .returned v ∧ CR ρ' r v ∧ Post base ρ H w ρ' H' w'
theorem exec_yield {e : Operand → Value} {o : Oper} {c : Call} {f : Operand} {n : Nat} (ho : o.op = .call c) (hc : c.callee = .value f) (hf : e f = .func (.yield n) #[] #[]) :
   (execOp e o).run P w = (Instr.yield n (c.args.map e)).run P w := by
 obtain ⟨dst, op, type, pos, after, guard⟩ := o
 obtain ⟨callee, args, ats⟩ := c
 simp only at ho hc
 subst ho hc
 show (do let d ← resolve e { callee := .value f, args, argTypes := ats } type; invoke d.target d.args : Sem Next).run P w = _
 simp [resolve, hf, Deferred.ofValue, invoke]
theorem evOpY_wpIn {F : Fs} (hF : FsOk P F) {call : CallF} (hc : CallOk P call) {yl : YieldF} (hy : YieldOk P yl) {r0 : Option Nat} {m : Nat} {ops : Array Oper} {i : Nat} {o : Oper} (hi : ops[i]? = some o) {a : Act} {r : AV} {H' : AH} {Q : Exit → Act → World → Prop} {K : Act → World → Prop}
   (hI : Inv base ρ H w) (hf : Free ρ H.next H'.next) (hT : CRs ρ T a.tmps.toList) (h : evOpY P F call yl ops o T H = some (r, H'))
   (hK : ∀ ρ' v w', CR ρ' r v → Post base ρ H w ρ' H' w' → K (a.put o.dst v) w') : wpOpIn (wideR r0) m P ops Q i K a w := by
 have old : (∀ c, o.op ≠ .defer c) → evOp P F call ops o T H = some (r, H') → wpOpIn (wideR r0) m P ops Q i K a w := fun hnd h => by
   have hok := evOp_ok hF hc hI hf hT h
   unfold wpOpIn
   simp only [hi]
   rcases hok with ⟨hw, ρ', hv, hp⟩ | ⟨hw, hok⟩
   · simp only [hw, Bool.false_eq_true, if_false]
     exact ⟨fun _ _ => trivial, hK _ _ _ hv hp⟩
   · simp only [hw, if_true]
     refine ⟨fun _ _ => trivial, ?_⟩
     rw [Oper.semAt_eq _ _ _ hnd]
     rcases hok with ⟨v, w', h1, ρ', hv, hp⟩ | ⟨w', h1, ρ', hv, hp⟩ | ⟨g, args, h1, h2⟩
     · rw [h1]; exact hK _ _ _ hv hp
     · rw [h1]; exact hK _ _ _ hv hp
     · rw [h1]
       refine ⟨noDepth, CallsIn.mono (callsIn_R h2) ?_⟩
       rintro e w' ⟨v, rfl, ρ', hv, hp⟩
       exact hK _ _ _ hv hp
 unfold evOpY at h
 split at h
 · cases h
 · rename_i c hoc
   have hnd : ∀ c, o.op ≠ .defer c := fun c' e => by rw [hoc] at e; cases e
   split at h
   · rename_i f hcf
     split at h
     · rename_i b hb
       have hcr := eval_av hT f
       rw [hb] at hcr
       generalize hev : a.eval f = fv at hcr
       cases hcr with
       | @yl _ n c' hρ =>
       unfold evYield at h
       unfold wpOpIn
       simp only [hi]
       rw [wanted_av o ops hT]
       split at h
       · rename_i hw
         cases h
         simp only [hw, Bool.false_eq_true, if_false]
         exact ⟨fun _ _ => trivial, hK ρ undef w (.v _) (Post.refl hI)⟩
       · rename_i hw
         simp only [hw, if_true]
         refine ⟨fun _ _ => trivial, ?_⟩
         rw [Oper.semAt_eq _ _ _ hnd]
         split at h
         · rename_i r' H1 hyl
           split at h
           · rename_i hle
             have hle := Nat.le_of_ble_eq_true hle
             cases h
             obtain ⟨fn, tmps, as, bo, h1, h2⟩ := hy _ _ _ _ _ hyl hle _ _ _ _ n c' hI hf (CRs.mapAv (fun x => eval_av hT x) _) hρ
             have hargs : c.args.map a.eval = (c.args.toList.map a.eval).toArray := by apply Array.ext'; simp
             rw [exec_yield hoc hcf hev, hargs, h1]
             refine ⟨noDepth, RoundIn.mono (h2 r0 (m - 1)) ?_⟩
             rintro e w' ⟨ρ', v, rfl, hv, hp⟩
             exact hK _ _ _ hv hp
           · cases h
         · cases h
     · exact old hnd h
   · exact old hnd h
 · rename_i hne1 hne2
   exact old (fun c e => hne1 c e) h
theorem evOpY_next {F : Fs} {call : CallF} {yl : YieldF} {ops : Array Oper} {o : Oper} {r : AV} {H' : AH} (h : evOpY P F call yl ops o T H = some (r, H')) : H.next ≤ H'.next := by
 unfold evOpY at h
 split at h
 · cases h
 · split at h
   · split at h
     · unfold evYield at h
       split at h
       · cases h; exact Nat.le_refl _
       · split at h
         · split at h
           · rename_i hle; cases h; exact Nat.le_of_ble_eq_true hle
           · cases h
         · cases h
     · exact evOp_next h
   · exact evOp_next h
 · exact evOp_next h
theorem evOpsY_next {F : Fs} {call : CallF} {yl : YieldF} {ops : Array Oper} : ∀ {l : List Oper} {T : List AV} {H : AH} {T' : List AV} {H' : AH}, evOpsY P F call yl ops l T H = some (T', H') → H.next ≤ H'.next
 | [], _, _, _, _, h => by simp [evOpsY] at h; rw [h.2]; exact Nat.le_refl _
 | o :: l, T, H, T', H', h => by
   rw [evOpsY_cons] at h
   split at h
   · rename_i r H1 h1
     exact Nat.le_trans (evOpY_next h1) (evOpsY_next h)
   · cases h
theorem evOpsY_wpIn {ds : List Deferred} {F : Fs} (hF : FsOk P F) {call : CallF} (hc : CallOk P call) {yl : YieldF} (hy : YieldOk P yl) {r0 : Option Nat} {m : Nat} {ops : Array Oper} {Q : Exit → Act → World → Prop} : ∀ {l : List Oper} {k : Nat} {T : List AV} {H : AH} {T' : List AV} {H' : AH} {ρ : Pl} {w : World} {a : Act},
   (∀ j, l[j]? = ops[k + j]?) → Inv base ρ H w → Free ρ H.next H'.next → CRs ρ T a.tmps.toList → a.defers = ds → evOpsY P F call yl ops l T H = some (T', H') →
   (∀ ρ' a' w', CRs ρ' T' a'.tmps.toList → a'.defers = ds → Post base ρ H w ρ' H' w' → Q .normal a' w') → wpOpsIn (wideR r0) m P ops Q (List.range' k l.length) a w
 | [], k, T, H, T', H', ρ, w, a, _, hI, _, hT, hd, h, hQ => by
   simp only [evOpsY, Option.some.injEq, Prod.mk.injEq] at h
   obtain ⟨rfl, rfl⟩ := h
   exact hQ ρ a w hT hd (Post.refl hI)
 | o :: l, k, T, H, T', H', ρ, w, a, hl, hI, hf, hT, hd, h, hQ => by
   rw [evOpsY_cons] at h
   split at h
   · rename_i r H1 h1
     rw [List.length_cons, List.range'_succ, wpOpsIn_cons]
     have h0 : ops[k]? = some o := by simpa using (hl 0).symm
     have n1 := evOpY_next h1
     have n2 := evOpsY_next h
     refine evOpY_wpIn hF hc hy h0 hI (hf.mono (Nat.le_refl _) n2) hT h1 ?_
     intro ρ' v w' hv hp
     refine evOpsY_wpIn (ds := ds) hF hc hy (fun j => by have := hl (j + 1); simpa [Nat.add_assoc, Nat.add_comm 1 j] using this) hp.inv (hf.after hp) (put_av (hT.mono hp.le) hv _) (by rw [put_defers]; exact hd) h ?_
     intro ρ2 a2 w2 hT2 hd2 hp2
     exact hQ ρ2 a2 w2 hT2 hd2 (hp.trans hp2)
   · cases h
def noDeferB (ops : Array Oper) : Bool := ops.toList.all fun o => match o.op with | .defer _ => false | _ => true
theorem noDeferB_spec {ops : Array Oper} (h : noDeferB ops = true) (i : Nat) (o : Oper) (c : Call) (ho : ops[i]? = some o) : o.op ≠ .defer c := fun e => by
 have := List.all_eq_true.1 h o (by rw [← Array.getElem?_toList] at ho; exact List.mem_of_getElem? ho)
 simp [e] at this
theorem evRegion_wpIn {ops : Array Oper} {ds : List Deferred} {F : Fs} (hF : FsOk P F) {call : CallF} (hc : CallOk P call) {π : List Stp} (hm : P.follows .mixedOrders = true) (hv : planValid ops π = true) (hnd : noDeferB ops = true) {r0 : Option Nat} {m : Nat} {id : Nat} {T : List AV} {H : AH} {T' : List AV} {H' : AH} (h : evRegion P F call ops π T H = some (T', H'))
   {ρ : Pl} {w : World} {a : Act} {Q : Exit → Act → World → Prop} (hI : Inv base ρ H w) (hf : Free ρ H.next H'.next) (hT : CRs ρ T a.tmps.toList) (hd : a.defers = ds)
   (hQ : ∀ ρ' a' w', CRs ρ' T' a'.tmps.toList → a'.defers = ds → Post base ρ H w ρ' H' w' → Q .normal a' w') : (Code.region id ops true).wpIn (wideR r0) m P Q a w := by
 simp only [planValid, Bool.and_eq_true] at hv
 obtain ⟨⟨hsel, hZ⟩, hpl⟩ := hv
 unfold evRegion at h
 split at h
 · cases h
 · rename_i T1 H1 L Hs hev
   split at h
   · rename_i hall
     cases h
     have hpd := Post.drew hI (w.drawn + 1)
     have := draw_sim hF hc hsel hZ (R := fun a' w' => Q .normal a' w') (Lall := L) hI (fun ρ' a' w' h1 h2 h3 => hQ ρ' a' w' h1 h2 h3) (π.length + ops.size) π ops.size (Nat.le_refl _) T H L Hs hev (fun b h => h)
       (fun q hq => List.all_eq_true.1 hall q hq) (Array.replicate ops.size false) (by simp) hpl [] a ρ { w with drawn := w.drawn + 1 } hT hd hpd hf (fun k _ o _ => hpd.inv.sing o) (by simp) (by simp)
       (by show cnt ops.size (Array.replicate ops.size false) ≤ ops.size; unfold cnt; exact Nat.le_trans (List.length_filter_le _ _) (by simp))
     refine wpIn_mono (wpIn_region_any hm (wpAnyIn_of (noDeferB_spec hnd) (fun _ _ h => h) _ _ _ _ (wpAny_of_G _ _ _ _ this))) fun e a' w' he => ?_
     cases e <;> first | exact he | exact he.elim
   · cases h
end
end Go.Ev
namespace Go.Ev
abbrev Plans := Tr (List Stp)
def planKey (g id : Nat) : Nat := g * 512 + id
noncomputable def plansC (P : Program) (pl : Plans) (g : FuncId) : Code → Bool
 | .region id ops true => match pl.get (planKey g id) with | some π => planValid ops π && noDeferB ops | none => true
 | .seq a b => plansC P pl g a && plansC P pl g b
 | .cond _ a b => plansC P pl g a && plansC P pl g b
 | .block _ b => plansC P pl g b
 | .loop b => plansC P pl g b
 | .rangeFunc _ _ a b => plansC P pl g a && plansC P pl g b
 | .scope b => plansC P pl g b
 | _ => true
abbrev EvR := Option (EX × List AV × List Nat × AH)
abbrev EvF := FuncId → Bool → Code → List AV → List Nat → AH → EvR
noncomputable def takeMarks : List Nat → AH → Option AH
 | [], H => some H
 | b :: M, H => match H.get b with | some .dfd => takeMarks M (H.set b (some .shut)) | _ => none
noncomputable def leaveM (P : Program) (fn : Func) (T' : List AV) (M' : List Nat) (H' : AH) : Option (AV × AH) :=
 match takeMarks M' H' with
 | some H'' => match resultsA P fn T' H'' with | some r => some (r, H'') | none => none
 | none => none
noncomputable def leaveX (P : Program) (fn : Func) : EvR → Option (AV × AH)
 | none => none
 | some (x, T', M', H') => match x with | .normal => leaveM P fn T' M' H' | .ret => leaveM P fn T' M' H' | .exit _ => none
noncomputable def callBy (P : Program) (F : Fs) (O : CallF) (rec : EvF) : CallF := fun g args H =>
 match O g args H with
 | some r => some r
 | none =>
   match F.get g with
   | none => none
   | some fn =>
     match fn.body with
     | none => none
     | some c => leaveX P fn (rec g false c (enterA fn args) [] H)
def jumpOf : EX → Option Code
 | .normal => none
 | .exit id => some (.exit id)
 | .ret => some .ret
noncomputable def setArgs : List Tmp → List AV → List AV → List AV
 | t :: ts, x :: xs, T => setArgs ts xs (lset T t x)
 | _, _, T => T
noncomputable def roundEnd (b : Nat) : EvR → Option (AV × AH)
 | none => none
 | some (x, _, _, H3) =>
   match H3.get b with
   | some (.lp _ _ g T ps as bo) =>
     some (.v (.bool (jumpOf x).isNone), H3.set b (some (.lp (if (jumpOf x).isNone then .ready else .done) (jumpOf x) g T ps as bo)))
   | _ => none
noncomputable def roundBody (rec : EvF) (b : Nat) (g : FuncId) (bo : Code) : EvR → Option (AV × AH)
 | none => none
 | some (x, T1, M1, H1) =>
   match x with
   | .normal =>
     match H1.get b with
     | some (.lp st pend1 g1 Tq ps1 as1 bo1) =>
       match st with
       | .ready => roundEnd b (rec g true bo T1 M1 (H1.set b (some (.lp .busy pend1 g1 Tq ps1 as1 bo1))))
       | _ => none
     | _ => none
   | _ => none
noncomputable def ylBy (P : Program) (pl : Plans) (rec : EvF) : YieldF := fun b args H =>
 match H.get b with
 | some (.lp _ _ g T ps as bo) =>
   if Nat.beq args.length ps.size && plansC P pl g as && plansC P pl g bo then roundBody rec b g bo (rec g true as (setArgs ps.toList args T) [] H) else none
 | _ => none
def toNormal (M : List Nat) : Option (List AV × AH) → EvR
 | some (T', H') => some (.normal, T', M, H')
 | none => none
noncomputable def sDraw (P : Program) (F : Fs) (O : CallF) (pl : Plans) (rec : EvF) (g : FuncId) (id : Nat) (ops : Array Oper) (T : List AV) (M : List Nat) (H : AH) : EvR :=
 match pl.get (planKey g id) with
 | none => none
 | some π => toNormal M (evRegion P F (callBy P F O rec) ops π T H)
noncomputable def sRegion (P : Program) (F : Fs) (O : CallF) (pl : Plans) (rec : EvF) (g : FuncId) (id : Nat) (ops : Array Oper) (d : Bool) (T : List AV) (M : List Nat) (H : AH) : EvR :=
 match d with
 | false => toNormal M (evOpsY P F (callBy P F O rec) (ylBy P pl rec) ops ops.toList T H)
 | true => sDraw P F O pl rec g id ops T M H
noncomputable def sThen (rec : EvF) (g : FuncId) (rd : Bool) (c : Code) : EvR → EvR
 | none => none
 | some (x, T', M', H') => match x with | .normal => rec g rd c T' M' H' | .exit id => some (.exit id, T', M', H') | .ret => some (.ret, T', M', H')
noncomputable def sCond (rec : EvF) (g : FuncId) (rd : Bool) (a b : Code) (T : List AV) (M : List Nat) (H : AH) : AV → EvR
 | .v (.bool true) => rec g rd a T M H
 | .v (.bool false) => rec g rd b T M H
 | _ => none
def sBlock (id : Nat) : EvR → EvR
 | none => none
 | some (x, T', M', H') => match x with | .exit id' => (match Nat.beq id' id with | true => some (.normal, T', M', H') | false => some (.exit id', T', M', H')) | .normal => some (.normal, T', M', H') | .ret => some (.ret, T', M', H')
def exOf : Option Code → Option EX
 | none => some .normal
 | some (.exit id) => some (.exit id)
 | some .ret => some .ret
 | _ => none
noncomputable def rangeEnd (l D : Nat) (T : List AV) (M : List Nat) : Option (AV × AH) → EvR
 | none => none
 | some (_, H2) =>
   match H2.get l with
   | some (.lp st pend g1 Tq ps as bo) =>
     match st, exOf pend with
     | .busy, _ => none
     | _, some x => some (x, T, D :: M, H2.set l (some (.lp .exhausted pend g1 Tq ps as bo)))
     | _, none => none
   | _ => none
noncomputable def sRange (F : Fs) (call : CallF) (g : FuncId) (f : Operand) (ps : Array Tmp) (as bo : Code) (T : List AV) (M : List Nat) (H : AH) : EvR :=
 match calleeA T f with
 | some (gf, [], cap) =>
   if Nat.ble (H.next + 2) (2 ^ 59) && (F.get gf).isSome then
     match call gf (.yl (H.next + 1) :: cap) ((H.add .dfd).add (.lp .ready none g T ps as bo)) with
     | some (r, H2) => if Nat.ble (H.next + 2) H2.next then rangeEnd (H.next + 1) H.next T M (some (r, H2)) else none
     | none => none
   else none
 | _ => none
noncomputable def evStep (P : Program) (F : Fs) (O : CallF) (pl : Plans) (rec : EvF) : EvF := fun g rd c T M H =>
 match c with
 | .skip => some (.normal, T, M, H)
 | .label _ => some (.normal, T, M, H)
 | .region id ops d => sRegion P F O pl rec g id ops d T M H
 | .seq a b => sThen rec g rd b (rec g rd a T M H)
 | .cond c a b => sCond rec g rd a b T M H (av T c)
 | .block id b => sBlock id (rec g rd b T M H)
 | .loop b => sThen rec g rd (.loop b) (rec g rd b T M H)
 | .exit id => some (.exit id, T, M, H)
 | .ret => some (.ret, T, M, H)
 | .scope b => rec g rd b T M H
 | .rangeFunc f ps as bo => (match rd with | false => sRange F (callBy P F O rec) g f ps as bo T M H | true => none)
 | _ => none
noncomputable def ev (P : Program) (F : Fs) (O : CallF) (pl : Plans) (n : Nat) : EvF :=
 Nat.rec (motive := fun _ => EvF) (fun _ _ _ _ _ _ => none) (fun _ rec => evStep P F O pl rec) n
noncomputable def evCall (P : Program) (F : Fs) (O : CallF) (pl : Plans) (n : Nat) : CallF := callBy P F O (ev P F O pl n)
noncomputable def evYl (P : Program) (F : Fs) (O : CallF) (pl : Plans) (n : Nat) : YieldF := ylBy P pl (ev P F O pl n)
section
variable {P : Program} {F : Fs} {O : CallF} {pl : Plans}
theorem ev_succ (n : Nat) : ev P F O pl (n + 1) = evStep P F O pl (ev P F O pl n) := rfl
theorem ev_region (n : Nat) (g : FuncId) (rd : Bool) (id : Nat) (ops : Array Oper) (T : List AV) (M : List Nat) (H : AH) :
   ev P F O pl (n + 1) g rd (.region id ops false) T M H = match evOpsY P F (evCall P F O pl n) (evYl P F O pl n) ops ops.toList T H with
       | some (T', H') => some (.normal, T', M, H')
       | none => none := rfl
theorem ev_draw (n : Nat) (g : FuncId) (rd : Bool) (id : Nat) (ops : Array Oper) (T : List AV) (M : List Nat) (H : AH) :
   ev P F O pl (n + 1) g rd (.region id ops true) T M H = match pl.get (planKey g id) with
     | none => none
     | some π => match evRegion P F (evCall P F O pl n) ops π T H with
       | some (T', H') => some (.normal, T', M, H')
       | none => none := rfl
theorem ev_seq (n : Nat) (g : FuncId) (rd : Bool) (a b : Code) (T : List AV) (M : List Nat) (H : AH) :
   ev P F O pl (n + 1) g rd (.seq a b) T M H = match ev P F O pl n g rd a T M H with
     | none => none
     | some (.normal, T', M', H') => ev P F O pl n g rd b T' M' H'
     | some r => some r := by
 rw [ev_succ]; show sThen _ g rd b (ev P F O pl n g rd a T M H) = _
 cases ev P F O pl n g rd a T M H with
 | none => rfl
 | some r => obtain ⟨x, T', M', H'⟩ := r; cases x <;> rfl
theorem ev_cond (n : Nat) (g : FuncId) (rd : Bool) (c : Operand) (a b : Code) (T : List AV) (M : List Nat) (H : AH) :
   ev P F O pl (n + 1) g rd (.cond c a b) T M H = match av T c with
     | .v (.bool true) => ev P F O pl n g rd a T M H
     | .v (.bool false) => ev P F O pl n g rd b T M H
     | _ => none := rfl
theorem ev_block (n : Nat) (g : FuncId) (rd : Bool) (id : Nat) (b : Code) (T : List AV) (M : List Nat) (H : AH) :
   ev P F O pl (n + 1) g rd (.block id b) T M H = match ev P F O pl n g rd b T M H with
     | none => none
     | some (.exit id', T', M', H') => if Nat.beq id' id then some (.normal, T', M', H') else some (.exit id', T', M', H')
     | some r => some r := by
 rw [ev_succ]; show sBlock id (ev P F O pl n g rd b T M H) = _
 cases ev P F O pl n g rd b T M H with
 | none => rfl
 | some r =>
   obtain ⟨x, T', M', H'⟩ := r
   cases x with
   | exit id' => simp only [sBlock]; cases Nat.beq id' id <;> rfl
   | _ => rfl
theorem ev_loop (n : Nat) (g : FuncId) (rd : Bool) (b : Code) (T : List AV) (M : List Nat) (H : AH) :
   ev P F O pl (n + 1) g rd (.loop b) T M H = match ev P F O pl n g rd b T M H with
     | none => none
     | some (.normal, T', M', H') => ev P F O pl n g rd (.loop b) T' M' H'
     | some r => some r := by
 rw [ev_succ]; show sThen _ g rd (.loop b) (ev P F O pl n g rd b T M H) = _
 cases ev P F O pl n g rd b T M H with
 | none => rfl
 | some r => obtain ⟨x, T', M', H'⟩ := r; cases x <;> rfl
theorem evRegion_next {call : CallF} {ops : Array Oper} {π : List Stp} {T : List AV} {H : AH} {T' : List AV} {H' : AH} (h : evRegion P F call ops π T H = some (T', H')) : H.next ≤ H'.next := by
 unfold evRegion at h
 split at h
 · cases h
 · rename_i h1
   split at h
   · cases h; exact evDraw_next h1
   · cases h
theorem sRange_some {call : CallF} {g : FuncId} {f : Operand} {ps : Array Tmp} {as bo : Code} {T : List AV} {M : List Nat} {H : AH} {x : EX} {T' : List AV} {M' : List Nat} {H' : AH} (h : sRange F call g f ps as bo T M H = some (x, T', M', H')) :
   ∃ gf cap r H2 st pend g1 Tq ps1 as1 bo1, calleeA T f = some (gf, [], cap) ∧ (H.next + 2 ≤ 2 ^ 59 ∧ ∃ fn, F.get gf = some fn) ∧ call gf (.yl (H.next + 1) :: cap) ((H.add .dfd).add (.lp .ready none g T ps as bo)) = some (r, H2) ∧ H.next + 2 ≤ H2.next ∧
     H2.get (H.next + 1) = some (.lp st pend g1 Tq ps1 as1 bo1) ∧ st ≠ .busy ∧ exOf pend = some x ∧ T' = T ∧ M' = H.next :: M ∧ H' = H2.set (H.next + 1) (some (.lp .exhausted pend g1 Tq ps1 as1 bo1)) := by
 unfold sRange at h
 split at h
 · rename_i gf cap hc
   split at h
   · rename_i h0
     split at h
     · rename_i r H2 hcall
       split at h
       · rename_i hle
         unfold rangeEnd at h
         split at h
         · cases h
         · rename_i r' H2' he
           cases he
           split at h
           · rename_i st pend g1 Tq ps1 as1 bo1 hg
             have hst : st ≠ .busy := by rintro rfl; cases h
             cases hx : exOf pend with
             | none => rw [hx] at h; cases st <;> cases h
             | some x' =>
               rw [hx] at h
               have hh : some (x', T, H.next :: M, H2.set (H.next + 1) (some (.lp .exhausted pend g1 Tq ps1 as1 bo1))) = some (x, T', M', H') := by cases st <;> first | exact h | exact absurd rfl hst
               cases hh
               exact ⟨gf, cap, r, H2, st, pend, g1, Tq, ps1, as1, bo1, hc, ⟨Nat.le_of_ble_eq_true (Bool.and_eq_true _ _ ▸ h0).1, Option.isSome_iff_exists.1 (Bool.and_eq_true _ _ ▸ h0).2⟩, hcall, Nat.le_of_ble_eq_true hle, hg, hst, hx, rfl, rfl, rfl⟩
           · cases h
       · cases h
     · cases h
   · cases h
 · cases h
theorem ev_next : ∀ {n : Nat} {g : FuncId} {rd : Bool} {c : Code} {T : List AV} {M : List Nat} {H : AH} {x : EX} {T' : List AV} {M' : List Nat} {H' : AH}, ev P F O pl n g rd c T M H = some (x, T', M', H') → H.next ≤ H'.next := by
 intro n
 induction n with
 | zero => intro g rd c T M H x T' M' H' h; cases h
 | succ n ih =>
   intro g rd c T M H x T' M' H' h
   cases c with
   | skip => cases h; exact Nat.le_refl _
   | label l => cases h; exact Nat.le_refl _
   | exit id => cases h; exact Nat.le_refl _
   | ret => cases h; exact Nat.le_refl _
   | region id ops d =>
     cases d with
     | false =>
       rw [ev_region] at h
       split at h
       · rename_i h1
         cases h
         exact evOpsY_next h1
       · cases h
     | true =>
       rw [ev_draw] at h
       split at h
       · cases h
       · split at h
         · rename_i h1
           cases h
           exact evRegion_next h1
         · cases h
   | seq a b =>
     rw [ev_seq] at h
     split at h
     · cases h
     · rename_i h1
       exact Nat.le_trans (ih h1) (ih h)
     · rename_i r _ h1
       cases h
       exact ih h1
   | cond c a b =>
     rw [ev_cond] at h
     split at h
     · exact ih h
     · exact ih h
     · cases h
   | block id b =>
     rw [ev_block] at h
     split at h
     · cases h
     · rename_i h1
       split at h <;> cases h <;> exact ih h1
     · rename_i r _ h1
       cases h
       exact ih h1
   | loop b =>
     rw [ev_loop] at h
     split at h
     · cases h
     · rename_i h1
       exact Nat.le_trans (ih h1) (ih h)
     · rename_i r _ h1
       cases h
       exact ih h1
   | rangeFunc f ps as b =>
     cases rd with
     | true => cases h
     | false =>
       obtain ⟨gf, cap, r, H2, st, pend, g1, Tq, ps1, as1, bo1, _, _, _, h4, _, _, _, _, _, rfl⟩ := sRange_some (call := callBy P F O (ev P F O pl n)) h
       show H.next ≤ H2.next
       omega
   | scope b => exact ih (c := b) h
   | goto l => cases h
   | refuse s => cases h
end
end Go.Ev
namespace Go.Ev
inductive MR (ρ : Pl) : List Nat → List Deferred → Prop where
 | nil : MR ρ [] []
 | cons {b n c : Nat} {M : List Nat} {ds : List Deferred} (h : ρ b = some (n, c)) (h2 : MR ρ M ds) : MR ρ (b :: M) ({ target := .collected n, args := #[] } :: ds)
theorem MR.mono {ρ ρ' : Pl} (hl : ρ.le ρ') {M : List Nat} {ds : List Deferred} (h : MR ρ M ds) : MR ρ' M ds := by
 induction h with
 | nil => exact .nil
 | cons h _ ih => exact .cons (hl _ _ h) ih
def EvOk (P : Program) (F : Fs) (O : CallF) (pl : Plans) (n : Nat) : Prop :=
 ∀ {g : FuncId} {rd : Bool} {c : Code} {T : List AV} {M : List Nat} {H : AH} {x : EX} {T' : List AV} {M' : List Nat} {H' : AH}, plansC P pl g c = true → ev P F O pl n g rd c T M H = some (x, T', M', H') →
   ∀ {base : Nat} {ρ : Pl} {w : World} {a : Act} {Q : Exit → Act → World → Prop} {r0 : Option Nat} {m : Nat}, rd = r0.isSome → Inv base ρ H w → Free ρ H.next H'.next → CRs ρ T a.tmps.toList → MR ρ M a.defers →
   (∀ ρ' a' w', CRs ρ' T' a'.tmps.toList → MR ρ' M' a'.defers → Post base ρ H w ρ' H' w' → Q x.real a' w') → c.wpIn (wideR r0) m P Q a w
section
variable {P : Program} {base : Nat} {ρ : Pl} {H : AH} {w : World} {T : List AV}
theorem AH.set_next (H : AH) (b : Nat) (x : Option AB) : (H.set b x).next = H.next := rfl
theorem takeMarks_next : ∀ {M : List Nat} {H H'' : AH}, takeMarks M H = some H'' → H''.next = H.next
 | [], _, _, h => by cases h; rfl
 | b :: M, H, H'', h => by
   unfold takeMarks at h
   split at h
   · have h1 := takeMarks_next h
     exact h1
   · cases h
theorem leaves_marks {fn : Func} {tmps : Array Value} {R : Ending → World → Prop} {m : Nat} : ∀ {M : List Nat} {ds : List Deferred} {H : AH} {w : World} {H'' : AH}, MR ρ M ds → Inv base ρ H w → takeMarks M H = some H'' →
   (∀ w'', Post base ρ H w ρ H'' w'' → ∃ v, (results fn tmps).run P w'' = .ok v w'' ∧ R (.returned v) w'') → LeavesInM (wideR none) m P fn tmps R ds .returning w
 | [], _, H, w, H'', hm, hI, h, hR => by
   cases hm
   cases h
   exact hR w (Post.refl hI)
 | b :: M, _, H, w, H'', hm, hI, h, hR => by
   cases hm with
   | @cons _ n c _ ds hb hm =>
   unfold takeMarks at h
   split at h
   · rename_i hg
     obtain ⟨n', c', h1, _, h2⟩ := hI.blk _ _ hg
     rw [hb] at h1; cases h1
     have hp := Post.putObj (x := .shut) hI hg hb (.deferred none) (fun w' hw => hw)
     refine ⟨by simp, .inl ⟨n, _, rfl, run_takeDeferred h2, ?_⟩⟩
     exact leaves_marks hm hp.inv h fun w'' hp2 => hR w'' (hp.trans hp2)
   · cases h
theorem call_ok {F : Fs} {O : CallF} {pl : Plans} {n : Nat} (hF : FsOk P F) (hO : CallOk P O)
   (hpf : ∀ g fn c, F.get g = some fn → fn.body = some c → plansC P pl g c = true) (ih : EvOk P F O pl n) : CallOk P (evCall P F O pl n) := by
 intro g args H r H' h hle base ρ w vs hI hf hv
 unfold evCall callBy at h
 split at h
 · rename_i r0 hr
   cases h
   exact hO _ _ _ _ _ hr hle _ _ _ _ hI hf hv
 · split at h
   · cases h
   · rename_i fn hg
     split at h
     · cases h
     · rename_i c hb
       have hlen := hv.length
       have hT : CRs ρ (enterA fn args) (vs.toArray ++ Array.replicate (fn.ntmps - vs.toArray.size) undef).toList := by
         rw [enterA_eq, hlen]
         simpa using hv.append (CRs.replicate ρ (fn.ntmps - vs.length) undef)
       have main : ∀ {x : EX} {T' : List AV} {M' : List Nat} {H1 : AH}, ev P F O pl n g false c (enterA fn args) [] H = some (x, T', M', H1) → (x = .normal ∨ x = .ret) → leaveM P fn T' M' H1 = some (r, H') →
           Calls P g vs.toArray w fun e w' => ∃ ρ' v, e = .returned v ∧ CR ρ' r v ∧ Post base ρ H w ρ' H' w' := by
         intro x T' M' H1 hev hx hres
         unfold leaveM at hres
         split at hres
         · rename_i H2 htm
           split at hres
           · rename_i r1 hr1
             cases hres
             refine (callsIn_wide (n := 0)).1 (callsIn_of_wp_marks (F := wideR none) (hF _ _ hg).1 hb trivial (ih (hpf _ _ _ hg hb) hev rfl hI ?_ hT .nil ?_) rfl)
             · rw [← takeMarks_next htm]; exact hf
             · intro ρ' a' w' hT' hm' hp
               have fin : LeavesInM (wideR none) 0 P fn a'.tmps (fun e w' => ∃ ρ' v, e = .returned v ∧ CR ρ' r v ∧ Post base ρ H w ρ' H' w') a'.defers .returning w' := by
                 refine leaves_marks hm' hp.inv htm fun w'' hp2 => ?_
                 obtain ⟨v, h1, h2⟩ := results_run hp2.inv hT' hr1
                 exact ⟨v, h2, ρ', v, rfl, h1, hp.trans hp2⟩
               rcases hx with rfl | rfl <;> exact fin
           · cases hres
         · cases hres
       unfold leaveX at h
       split at h
       · cases h
       · rename_i x T1 M1 H1 hev
         cases x with
         | normal => exact main hev (.inl rfl) h
         | ret => exact main hev (.inr rfl) h
         | exit id => cases h
theorem setArgs_rel : ∀ {ts : List Tmp} {xs : List AV} {vs : List Value} {T : List AV} {tmps : Array Value}, CRs ρ xs vs → CRs ρ T tmps.toList →
   CRs ρ (setArgs ts xs T) ((ts.zip vs).foldl (fun tmps (x : Tmp × Value) => tmps.setIfInBounds x.1 x.2) tmps).toList
 | [], xs, vs, T, tmps, h1, h2 => by cases h1 <;> exact h2
 | t :: ts, [], vs, T, tmps, h1, h2 => by cases h1; exact h2
 | t :: ts, x :: xs, vs, T, tmps, h1, h2 => by
   cases h1 with
   | @cons _ v _ vs h1 h3 =>
   show CRs ρ (setArgs ts xs (lset T t x)) ((ts.zip vs).foldl _ (tmps.setIfInBounds t v)).toList
   refine setArgs_rel h3 ?_
   rw [lset_eq, Array.toList_setIfInBounds]
   exact h2.set t h1
theorem lpBlk {b n c : Nat} {st : LoopState} {pend : Option Code} {g : FuncId} {Tq : List AV} {ps : Array Tmp} {as bo : Code} (hI : Inv base ρ H w) (hg : H.get b = some (.lp st pend g Tq ps as bo)) (hb : ρ b = some (n, c)) :
   ∃ tmps d fn, CRs ρ Tq tmps ∧ w.heap[n]? = some (.loop { state := st, pending := pend, fn, tmps := tmps.toArray, params := ps, assign := as, body := bo, defers := d }) := by
 obtain ⟨n', c', h1, _, h2⟩ := hI.blk _ _ hg
 rw [hb] at h1; cases h1
 exact h2
theorem yield_ok {F : Fs} {O : CallF} {pl : Plans} {n : Nat} (ih : EvOk P F O pl n) : YieldOk P (evYl P F O pl n) := by
 intro b args H r H' h hle base ρ w vs nb c hI hf hv hρ
 unfold evYl ylBy at h
 split at h
 · rename_i st pend g T ps as bo hg
   split at h
   · rename_i hcond
     simp only [Bool.and_eq_true] at hcond
     obtain ⟨⟨c1, c2⟩, c3⟩ := hcond
     have c1 := Nat.eq_of_beq_eq_true c1
     obtain ⟨tmps, d, fn, hT, hh⟩ := lpBlk hI hg hρ
     refine ⟨fn, _, as, bo, run_yield hh (by rw [← c1, hv.length]; simp), fun r0 m => ?_⟩
     refine roundIn_of_wpIn trivial ?_
     unfold roundBody at h
     split at h
     · cases h
     · rename_i x T1 M1 H1 hev
       split at h
       · split at h
         · rename_i st1 pend1 g1 Tq ps1 as1 bo1 hg1
           split at h
           · unfold roundEnd at h
             split at h
             · cases h
             · rename_i x2 T2 M2 H3 hev2
               split at h
               · rename_i st3 pend3 g3 T3 ps3 as3 bo3 hg3
                 cases h
                 have n1 := ev_next hev
                 have n2 := ev_next hev2
                 rw [AH.set_next] at n2
                 refine ih (r0 := some nb) c2 hev rfl hI (hf.mono (Nat.le_refl _) n2) ?_ .nil ?_
                 · have := setArgs_rel (ts := ps.toList) (tmps := tmps.toArray) hv (by simpa using hT)
                   have e : (ps.zip vs.toArray).foldl (fun (tmps : Array Value) (x : Nat × Value) => tmps.setIfInBounds x.1 x.2) tmps.toArray = (ps.toList.zip vs).foldl (fun (tmps : Array Value) (x : Tmp × Value) => tmps.setIfInBounds x.1 x.2) tmps.toArray := by
                     rw [← Array.foldl_toList, Array.toList_zip]
                   show CRs ρ _ ((ps.zip vs.toArray).foldl (fun (tmps : Array Value) (x : Nat × Value) => tmps.setIfInBounds x.1 x.2) tmps.toArray).toList
                   rw [e]; exact this
                 · intro ρ1 a1 w1 hT1 hm1 hp1
                   have hρ1 := hp1.le _ _ hρ
                   obtain ⟨tmps1, d1, fn1, hTq, hh1⟩ := lpBlk hp1.inv hg1 hρ1
                   refine ⟨_, run_beginRound hh1 rfl, ?_⟩
                   have hp1' := Post.putObj (x := .lp .busy pend1 g1 Tq ps1 as1 bo1) hp1.inv hg1 hρ1 (.loop { state := .busy, pending := pend1, fn := fn1, tmps := tmps1.toArray, params := ps1, assign := as1, body := bo1, defers := d1 }) (fun w' hw => ⟨tmps1, d1, fn1, hTq, hw⟩)
                   refine ih (r0 := some nb) c3 hev2 rfl hp1'.inv ((hf.after hp1).mono (Nat.le_refl _) (Nat.le_refl _)) hT1 hm1 ?_
                   intro ρ3 a3 w3 _ _ hp3
                   have hρ3 := hp3.le _ _ hρ1
                   obtain ⟨tmps3, d3, fn3, hT3, hh3⟩ := lpBlk hp3.inv hg3 hρ3
                   have fin : ∀ j, (Instr.endRound nb j).run P w3 = .ok (.bool j.isNone) (w3.putObj nb (.loop { state := if j.isNone then .ready else .done, pending := j, fn := fn3, tmps := tmps3.toArray, params := ps3, assign := as3, body := bo3, defers := d3 })) ∧
                       Post base ρ H w ρ3 (H3.set b (some (.lp (if j.isNone then .ready else .done) j g3 T3 ps3 as3 bo3))) (w3.putObj nb (.loop { state := if j.isNone then .ready else .done, pending := j, fn := fn3, tmps := tmps3.toArray, params := ps3, assign := as3, body := bo3, defers := d3 })) := fun j =>
                     ⟨run_endRound j hh3, (hp1.trans hp1').trans (hp3.trans (Post.putObj hp3.inv hg3 hρ3 _ (fun w' hw => ⟨tmps3, d3, fn3, hT3, hw⟩)))⟩
                   cases x2 with
                   | normal => exact ⟨_, _, (fin none).1, ρ3, _, rfl, .v _, (fin none).2⟩
                   | ret => exact ⟨_, _, (fin (some .ret)).1, ρ3, _, rfl, .v _, (fin (some .ret)).2⟩
                   | exit id => exact ⟨_, _, (fin (some (.exit id))).1, ρ3, _, rfl, .v _, (fin (some (.exit id))).2⟩
               · cases h
           · cases h
         · cases h
       · cases h
   · cases h
 · cases h
end
end Go.Ev
namespace Go.Ev
section
variable {P : Program} {base : Nat} {ρ : Pl} {H : AH} {w : World} {T : List AV}
theorem calleeA_ok {e : Operand → Value} (he : ∀ x, CR ρ (av T x) (e x)) {f : Operand} {gf : FuncId} {cap : List AV} (h : calleeA T f = some (gf, [], cap)) : ∃ ys, CRs ρ cap ys ∧ e f = .func (.func gf) #[] ys.toArray := by
 have hf := he f
 unfold calleeA at h
 split at h
 · rename_i g fst cap' hav
   rw [hav] at hf
   generalize hev : e f = ev at hf
   cases hf
   simp only [Option.some.injEq, Prod.mk.injEq, List.map_eq_nil_iff, Array.toList_eq_nil_iff] at h
   obtain ⟨rfl, rfl, rfl⟩ := h
   exact ⟨cap'.toList, CRs.vs ρ _, by simp⟩
 · rename_i g fst cap' hav
   rw [hav] at hf
   generalize hev : e f = ev at hf
   cases hf with
   | @fn _ _ _ xs ys h1 h2 =>
     simp only [Option.some.injEq, Prod.mk.injEq] at h
     obtain ⟨rfl, rfl, rfl⟩ := h
     cases h1
     exact ⟨ys, h2, rfl⟩
 · cases h
theorem ev_ok' {F : Fs} {O : CallF} {pl : Plans} (hF : FsOk P F) (hO : CallOk P O) (hmo : P.follows .mixedOrders = true) (hpf : ∀ g fn c, F.get g = some fn → fn.body = some c → plansC P pl g c = true) :
   ∀ {n : Nat} {g : FuncId} {rd : Bool} {c : Code} {T : List AV} {M : List Nat} {H : AH} {x : EX} {T' : List AV} {M' : List Nat} {H' : AH}, plansC P pl g c = true → ev P F O pl n g rd c T M H = some (x, T', M', H') →
   ∀ {base : Nat} {ρ : Pl} {w : World} {a : Act} {Q : Exit → Act → World → Prop} {r0 : Option Nat} {m : Nat}, rd = r0.isSome → Inv base ρ H w → Free ρ H.next H'.next → CRs ρ T a.tmps.toList → MR ρ M a.defers →
   (∀ ρ' a' w', CRs ρ' T' a'.tmps.toList → MR ρ' M' a'.defers → Post base ρ H w ρ' H' w' → Q x.real a' w') → c.wpIn (wideR r0) m P Q a w ∧ (∀ b, c = .loop b → Code.roundsIn (wideR r0) m P b Q n a w) := by
 intro n
 induction n with
 | zero => intro g rd c T M H x T' M' H' _ h; cases h
 | succ n ih =>
   intro g rd c T M H x T' M' H' hpc h base ρ w a Q r0 m hrd hI hf hT hd hQ
   have ihw : EvOk P F O pl n := fun {g rd c T M H x T' M' H'} hpc h {base ρ w a Q r0 m} hrd hI hf hT hd hQ => (ih hpc h (base := base) (ρ := ρ) (w := w) (a := a) (Q := Q) (r0 := r0) (m := m) hrd hI hf hT hd hQ).1
   cases c with
   | skip => cases h; exact ⟨wpIn_skip (hQ _ _ _ hT hd (Post.refl hI)), fun _ e => by cases e⟩
   | label l => cases h; exact ⟨wpIn_label (hQ _ _ _ hT hd (Post.refl hI)), fun _ e => by cases e⟩
   | exit id => cases h; exact ⟨wpIn_exit (hQ _ _ _ hT hd (Post.refl hI)), fun _ e => by cases e⟩
   | ret => cases h; exact ⟨wpIn_ret (hQ _ _ _ hT hd (Post.refl hI)), fun _ e => by cases e⟩
   | region id ops d =>
     refine ⟨?_, fun _ e => by cases e⟩
     have hc := call_ok (n := n) hF hO hpf ihw
     cases d with
     | false =>
       rw [ev_region] at h
       split at h
       · rename_i T1 H1 h1
         cases h
         refine wpIn_region ?_
         have := evOpsY_wpIn (ds := a.defers) (Q := Q) (r0 := r0) (m := m) hF hc (yield_ok ihw) (l := ops.toList) (k := 0) (ops := ops) (by simp) hI hf hT rfl h1 (fun ρ' a' w' h1 h2 h3 => hQ ρ' a' w' h1 (by rw [h2]; exact hd.mono h3.le) h3)
         rwa [← List.range_eq_range', Array.length_toList] at this
       · cases h
     | true =>
       rw [ev_draw] at h
       split at h
       · cases h
       · rename_i π hπ
         simp only [plansC, hπ, Bool.and_eq_true] at hpc
         split at h
         · rename_i T1 H1 h1
           cases h
           exact evRegion_wpIn (ds := a.defers) hF hc hmo hpc.1 hpc.2 h1 hI hf hT rfl (fun ρ' a' w' h1 h2 h3 => hQ ρ' a' w' h1 (by rw [h2]; exact hd.mono h3.le) h3)
         · cases h
   | seq c d =>
     refine ⟨?_, fun _ e => by cases e⟩
     simp only [plansC, Bool.and_eq_true] at hpc
     rw [ev_seq] at h
     split at h
     · cases h
     · rename_i T1 M1 H1 h1
       refine wpIn_seq (ihw hpc.1 h1 hrd hI (hf.mono (Nat.le_refl _) (ev_next h)) hT hd ?_)
       intro ρ' a' w' hT' hd' hp
       refine ihw hpc.2 h hrd hp.inv (hf.after hp) hT' hd' ?_
       intro ρ2 a2 w2 hT2 hd2 hp2
       exact hQ _ _ _ hT2 hd2 (hp.trans hp2)
     · rename_i r hne h1
       cases h
       refine wpIn_seq (ihw hpc.1 h1 hrd hI hf hT hd ?_)
       intro ρ' a' w' hT' hd' hp
       have := hQ _ _ _ hT' hd' hp
       cases x with
       | normal => exact absurd rfl (hne _ _ _)
       | exit id => exact this
       | ret => exact this
   | cond c t f =>
     refine ⟨?_, fun _ e => by cases e⟩
     simp only [plansC, Bool.and_eq_true] at hpc
     rw [ev_cond] at h
     split at h
     · rename_i hc
       have := eval_av hT c
       rw [hc] at this
       generalize hv : a.eval c = v at this
       cases this
       exact wpIn_cond_true hv (ihw hpc.1 h hrd hI hf hT hd hQ)
     · rename_i hc
       have := eval_av hT c
       rw [hc] at this
       generalize hv : a.eval c = v at this
       cases this
       exact wpIn_cond_false hv (ihw hpc.2 h hrd hI hf hT hd hQ)
     · cases h
   | block id b =>
     refine ⟨?_, fun _ e => by cases e⟩
     rw [ev_block] at h
     split at h
     · cases h
     · rename_i id' T1 M1 H1 h1
       refine wpIn_block (ihw (g := g) (c := b) hpc h1 hrd hI ?_ hT hd ?_)
       · split at h <;> cases h <;> exact hf
       · intro ρ' a' w' hT' hd' hp
         show (if id' = id then _ else _)
         split at h
         · rename_i hid
           cases h
           rw [if_pos (Nat.eq_of_beq_eq_true hid)]
           exact hQ _ _ _ hT' hd' hp
         · rename_i hid
           cases h
           rw [if_neg (fun e => hid (by subst e; exact Nat.beq_refl _))]
           exact hQ _ _ _ hT' hd' hp
     · rename_i r hne h1
       cases h
       refine wpIn_block (ihw (g := g) (c := b) hpc h1 hrd hI hf hT hd ?_)
       intro ρ' a' w' hT' hd' hp
       have := hQ _ _ _ hT' hd' hp
       cases x with
       | normal => exact this
       | exit id => exact absurd rfl (hne _ _ _ _)
       | ret => exact this
   | loop b =>
     have key : Code.roundsIn (wideR r0) m P b Q (n + 1) a w := by
       rw [roundsIn_succ]
       rw [ev_loop] at h
       split at h
       · cases h
       · rename_i T1 M1 H1 h1
         refine ihw (c := b) (g := g) hpc h1 hrd hI (hf.mono (Nat.le_refl _) (ev_next h)) hT hd ?_
         intro ρ' a' w' hT' hd' hp
         refine (ih (g := g) hpc h hrd hp.inv (hf.after hp) hT' hd' ?_).2 b rfl
         intro ρ2 a2 w2 hT2 hd2 hp2
         exact hQ _ _ _ hT2 hd2 (hp.trans hp2)
       · rename_i r hne h1
         cases h
         refine ihw (c := b) (g := g) hpc h1 hrd hI hf hT hd ?_
         intro ρ' a' w' hT' hd' hp
         have := hQ _ _ _ hT' hd' hp
         cases x with
         | normal => exact absurd rfl (hne _ _ _)
         | exit id => exact this
         | ret => exact this
     exact ⟨wpIn_loop_rounds _ key, fun b' e => by cases e; exact key⟩
   | rangeFunc f ps as bo =>
     refine ⟨?_, fun _ e => by cases e⟩
     cases rd with
     | true => cases h
     | false =>
       obtain rfl : r0 = none := by cases r0 with | none => rfl | some _ => cases hrd
       have hc := call_ok (n := n) hF hO hpf ihw
       obtain ⟨gf, cap, r, H2, st, pend, g1, Tq, ps1, as1, bo1, hcal, ⟨h39, fn0, hfn0⟩, hcall, hle, hg2, hst, hex, rfl, rfl, rfl⟩ := sRange_some (call := callBy P F O (ev P F O pl n)) h
       obtain ⟨ys, hys, hev⟩ := calleeA_ok (eval_av hT) hcal
       have hf0 : ρ H.next = none := hf _ (Nat.le_refl _) (by rw [AH.set_next]; omega)
       have hp1 := Post.add hI (by omega) hf0 .dfd (.deferred (some [])) 0 (fun ρ' w' _ hw => hw)
       have hf1 := hf.after hp1
       refine wpIn_rangeFunc fun fn _ => ?_
       have hf10 := hf1 (H.next + 1) (by simp [AH.add]) (by rw [AH.set_next]; omega)
       have hp2 := Post.add hp1.inv (by simp [AH.add]; omega) hf10 (.lp .ready none g T' ps as bo) (.loop { state := .ready, pending := none, fn := fn, tmps := a.tmps, params := ps, assign := as, body := bo, defers := w.heap.size }) 0
         (fun ρ' w' hle hw => ⟨a.tmps.toList, w.heap.size, fn, hT.mono (Pl.le_trans hp1.le hle), by simpa using hw⟩)
       have hp12 := hp1.trans hp2
       have hl : (w.alloc (.deferred (some []))).heap.size = w.heap.size + 1 := World.size_alloc ..
       refine ⟨w.heap.size + 1, [{ target := .collected w.heap.size, args := #[] }], _, { target := .fn (.func gf) ys.toArray, args := #[.func (.yield (w.heap.size + 1)) #[] #[]] }, ((w.alloc (.deferred (some []))).alloc (.loop { state := .ready, pending := none, fn := fn, tmps := a.tmps, params := ps, assign := as, body := bo, defers := w.heap.size })), gf,
         #[.func (.yield (w.heap.size + 1)) #[] #[]] ++ ys.toArray, ((w.alloc (.deferred (some []))).alloc (.loop { state := .ready, pending := none, fn := fn, tmps := a.tmps, params := ps, assign := as, body := bo, defers := w.heap.size })), run_enterLoop_outer _ _ _ _ _, ?_, fun _ _ => trivial, ?_, noDepth, ?_⟩
       · simp only [resolve, hev]
         simp [go_sem]
       · simp [invoke, run_callFunc hF hfn0]
       · have hnx : ((H.add .dfd).add (.lp .ready none g T' ps as bo)).next = H.next + 2 := rfl
         have hρl : ∀ ρ', Pl.le (fun i => if i = (H.add AB.dfd).next then some ((w.alloc (.deferred (some []))).heap.size, 0) else if i = H.next then some (w.heap.size, 0) else ρ i) ρ' → ρ' (H.next + 1) = some (w.heap.size + 1, 0) := fun ρ' hl' => by
           refine hl' _ _ ?_
           simp [AH.add]
         have hρd : ∀ ρ', Pl.le (fun i => if i = (H.add AB.dfd).next then some ((w.alloc (.deferred (some []))).heap.size, 0) else if i = H.next then some (w.heap.size, 0) else ρ i) ρ' → ρ' H.next = some (w.heap.size, 0) := fun ρ' hl' => by
           refine hl' _ _ ?_
           simp [AH.add]
         have hargs : #[.func (.yield (w.heap.size + 1)) #[] #[]] ++ ys.toArray = (Value.func (.yield (w.heap.size + 1)) #[] #[] :: ys).toArray := by simp
         rw [hargs]
         refine CallsIn.mono (callsIn_R (hc _ _ _ _ _ hcall (by rw [hnx]; exact hle) _ _ _ (Value.func (.yield (w.heap.size + 1)) #[] #[] :: ys) hp2.inv ?_ (.cons (.yl (hρl _ (Pl.le_refl _))) (hys.mono hp12.le)))) ?_
         · exact (hf.after hp12).mono (Nat.le_refl _) (by rw [AH.set_next]; exact Nat.le_refl _)
         · rintro e w3 ⟨ρ3, v, rfl, hv, hp3⟩
           have hρ3 := hρl _ hp3.le
           obtain ⟨tmps3, d3, fn3, hT3, hh3⟩ := lpBlk hp3.inv hg2 hρ3
           have hp4 := Post.putObj (x := .lp .exhausted pend g1 Tq ps1 as1 bo1) hp3.inv hg2 hρ3 (.loop { state := .exhausted, pending := pend, fn := fn3, tmps := tmps3.toArray, params := ps1, assign := as1, body := bo1, defers := d3 }) (fun w' hw => ⟨tmps3, d3, fn3, hT3, hw⟩)
           have hq := hQ ρ3 { a with defers := [{ target := .collected w.heap.size, args := #[] }] ++ a.defers } _ (hT.mono (Pl.le_trans hp12.le hp3.le)) (.cons (hρd _ hp3.le) (hd.mono (Pl.le_trans hp12.le hp3.le))) (hp12.trans (hp3.trans hp4))
           refine ⟨pend, _, run_endLoop hh3 hst, ?_⟩
           cases pend with
           | none => cases hex; exact hq
           | some c =>
             cases c with
             | ret => cases hex; exact wpIn_ret hq
             | exit id => cases hex; exact wpIn_exit hq
             | _ => cases hex
   | scope b =>
     refine ⟨wpIn_scope (ihw (g := g) (c := b) hpc h hrd hI hf hT hd fun ρ' a' w' h1 h2 h3 => ?_), fun _ e => by cases e⟩
     have := hQ ρ' a' w' h1 h2 h3
     cases x <;> exact this
   | goto l => cases h
   | refuse s => cases h
theorem ev_ok {F : Fs} {O : CallF} {pl : Plans} (hF : FsOk P F) (hO : CallOk P O) (hmo : P.follows .mixedOrders = true) (hpf : ∀ g fn c, F.get g = some fn → fn.body = some c → plansC P pl g c = true) (n : Nat) : CallOk P (evCall P F O pl n) :=
 call_ok hF hO hpf fun hpc h _ _ _ _ _ _ _ hrd hI hf hT hd hQ => (ev_ok' hF hO hmo hpf hpc h hrd hI hf hT hd hQ).1
theorem evCall_calls {F : Fs} {O : CallF} {pl : Plans} (hF : FsOk P F) (hO : CallOk P O) (hmo : P.follows .mixedOrders = true) (hpf : ∀ g fn c, F.get g = some fn → fn.body = some c → plansC P pl g c = true) {n : Nat} {g : FuncId} {args : List Value} {gl : Nat → Option (List Value)} {y : Value} {H' : AH} {w : World}
   (hgl : ∀ g vs, gl g = some vs → ∃ e fz, w.heap[g]? = some (.cells vs.toArray e fz)) (h : evCall P F O pl n g (args.map .v) ⟨0, .lf, gl⟩ = some (.v y, H')) :
   Calls P g args.toArray w fun e w' => e = .returned y ∧ RowKit.Below w.heap.size w w' := by
 have hI : Inv w.heap.size (fun _ => none) ⟨0, .lf, gl⟩ w := {
   blk := fun b x hb => by simp [AH.get, Tr.get_lf] at hb
   inj := fun b _ x _ _ _ _ hb => by simp [AH.get, Tr.get_lf] at hb
   dom := fun b x hb => by simp [AH.get, Tr.get_lf] at hb
   nx := by simp
   bs := Nat.le_refl _
   gl := fun g vs hg => by
     obtain ⟨e, fz, h1⟩ := hgl g vs hg
     refine ⟨?_, e, fz, h1⟩
     rcases Nat.lt_or_ge g w.heap.size with h' | h'
     · exact h'
     · rw [Array.getElem?_eq_none h'] at h1; cases h1 }
 refine (ev_ok hF hO hmo hpf n g _ _ _ _ h (Nat.zero_le _) w.heap.size _ w args hI (fun _ _ _ => rfl) (CRs.vs _ _)).mono ?_
 rintro e w' ⟨ρ', v, rfl, hv, hp⟩
 cases hv
 exact ⟨rfl, hp.os, hp.tape, hp.output, hp.size, fun k hk => hp.frame k hk (fun b x n c hb => by simp [AH.get, Tr.get_lf] at hb)⟩
end
end Go.Ev
