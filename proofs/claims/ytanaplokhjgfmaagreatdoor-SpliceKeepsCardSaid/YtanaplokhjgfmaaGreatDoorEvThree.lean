/- Part of an evaluator of calls that is proved sound, and of what it gives about this program. No condition of its own. -/
import Derived.Test.YtanaplokhjgfmaaGreatDoorEvTwo
set_option linter.unusedVariables false
set_option linter.unusedSimpArgs false
set_option linter.unusedSectionVars false
namespace Go.Ev
noncomputable def putA (T : List AV) (d : Option Tmp) (x : AV) : List AV := match d with | some d => lset T d x | none => T
noncomputable def yieldedA (ops : Array Oper) (T : List AV) (j : Nat) : Option Bool :=
 match ((ops[j]?).bind (·.dst)).bind (T[·]?) with
 | some (.v (.bool b)) => some b
 | _ => none
noncomputable def wantedA (o : Oper) (ops : Array Oper) (T : List AV) : Bool :=
 match o.guard with
 | none => true
 | some (j, want) => match yieldedA ops T j with | some b => b == want | none => false
abbrev CallF := FuncId → List AV → AH → Option (AV × AH)
noncomputable def evOp (P : Program) (F : Fs) (call : CallF) (ops : Array Oper) (o : Oper) (T : List AV) (H : AH) : Option (AV × AH) :=
 match wantedA o ops T with
 | false => some (.v undef, H)
 | true =>
   match opEval P F T H o with
   | some (.val r H') => if Nat.ble H.next H'.next then some (r, H') else none
   | some (.call g args) => match call g args H with | some (r, H') => if Nat.ble H.next H'.next then some (r, H') else none | none => none
   | none => none
inductive EX where
 | normal
 | exit (id : Nat)
 | ret
def EX.real : EX → Exit
 | .normal => .normal
 | .exit id => .exit id
 | .ret => .ret
noncomputable def resA (P : Program) (T : List AV) (H : AH) : List ResultVar → Option (List AV)
 | [] => some []
 | .tmp t :: l => (resA P T H l).map (lget T t :: ·)
 | .cell a t :: l =>
   match lget T a with
   | .ptr b off => match loadA P t b off H, resA P T H l with | some x, some m => some (x :: m) | _, _ => none
   | _ => none
noncomputable def resultsA (P : Program) (fn : Func) (T : List AV) (H : AH) : Option AV :=
 match resA P T H fn.results.toList with
 | some [x] => some x
 | some l => some (.tup l)
 | none => none
noncomputable def blanks (n : Nat) : List AV := Nat.rec (motive := fun _ => List AV) [] (fun _ l => .v undef :: l) n
noncomputable def onto (l m : List AV) : List AV := List.rec (motive := fun _ => List AV) m (fun a _ ih => a :: ih) l
theorem blanks_eq (n : Nat) : blanks n = List.replicate n (.v undef) := by
 induction n with
 | zero => rfl
 | succ n ih => exact congrArg (_ :: ·) ih
theorem onto_eq (l m : List AV) : onto l m = l ++ m := by
 induction l with
 | nil => rfl
 | cons a l ih => exact congrArg (a :: ·) ih
noncomputable def enterA (fn : Func) (args : List AV) : List AV := onto args (blanks (fn.ntmps - args.length))
theorem enterA_eq (fn : Func) (args : List AV) : enterA fn args = args ++ List.replicate (fn.ntmps - args.length) (.v undef) := by
 unfold enterA; rw [onto_eq, blanks_eq]
end Go.Ev
namespace Go.Ev
section
variable {P : Program} {base : Nat} {ρ : Pl} {H : AH} {w : World} {T : List AV}
def CallOk (P : Program) (call : CallF) : Prop :=
 ∀ g args H r H', call g args H = some (r, H') → H.next ≤ H'.next → ∀ base ρ w vs, Inv base ρ H w → Free ρ H.next H'.next → CRs ρ args vs →
   Calls P g vs.toArray w fun e w' => ∃ ρ' v, e = .returned v ∧ CR ρ' r v ∧ Post base ρ H w ρ' H' w'
theorem eval_av {a : Act} (hT : CRs ρ T a.tmps.toList) (x : Operand) : CR ρ (av T x) (a.eval x) := by
 cases x with
 | tmp t =>
   have := hT.getD t undef
   simp only [av, Act.eval, lget_eq]
   have e : a.tmps.getD t undef = a.tmps.toList.getD t undef := by simp [Array.getD, List.getD]; split <;> simp_all
   rw [e]; exact this
 | const v => exact .v v
 | global g => exact .v _
 | func f => exact .v _
theorem put_av {a : Act} {r : AV} {v : Value} (hT : CRs ρ T a.tmps.toList) (hr : CR ρ r v) (d : Option Tmp) : CRs ρ (putA T d r) (a.put d v).tmps.toList := by
 cases d with
 | none => exact hT
 | some d =>
   simp only [putA, lset_eq, Act.put, Array.toList_setIfInBounds]
   exact hT.set d hr
theorem put_defers (a : Act) (d : Option Tmp) (v : Value) : (a.put d v).defers = a.defers := by cases d <;> rfl
theorem yielded_av {a : Act} (ops : Array Oper) (hT : CRs ρ T a.tmps.toList) (j : Nat) : yielded ops a.tmps j = yieldedA ops T j := by
 unfold yielded yieldedA
 cases hd : (ops[j]?).bind (·.dst) with
 | none => simp
 | some d =>
   simp only [Option.bind_some]
   rcases hT.get d with ⟨p, q, h1, h2, h3⟩ | ⟨h1, h2⟩
   · rw [h1, ← Array.getElem?_toList, h2]
     cases h3 <;> try rfl
     cases q <;> rfl
   · rw [h1, ← Array.getElem?_toList, h2]
theorem wanted_av {a : Act} (o : Oper) (ops : Array Oper) (hT : CRs ρ T a.tmps.toList) : Region.wanted o (yielded ops a.tmps) = wantedA o ops T := by
 unfold Region.wanted wantedA
 cases o.guard with
 | none => rfl
 | some g =>
   obtain ⟨j, want⟩ := g
   simp only [yielded_av ops hT]
   cases yieldedA ops T j <;> rfl
theorem Free.mono {a b a' b' : Nat} (h : Free ρ a b) (h1 : a ≤ a') (h2 : b' ≤ b) : Free ρ a' b' := fun i hi hj => h i (Nat.le_trans h1 hi) (Nat.lt_of_lt_of_le hj h2)
theorem Free.after {ρ' : Pl} {H1 : AH} {w1 : World} {b : Nat} (h : Free ρ H.next b) (hp : Post base ρ H w ρ' H1 w1) : Free ρ' H1.next b := fun i hi hj => by
 by_cases e : ρ' i = ρ i
 · rw [e]; exact h i (Nat.le_trans hp.nx hi) hj
 · have := hp.fresh i e; omega
theorem evOp_next {F : Fs} {call : CallF} {ops : Array Oper} {o : Oper} {r : AV} {H' : AH} (h : evOp P F call ops o T H = some (r, H')) : H.next ≤ H'.next := by
 unfold evOp at h
 split at h
 · cases h; exact Nat.le_refl _
 · split at h
   · split at h
     · rename_i hle; cases h; exact Nat.le_of_ble_eq_true hle
     · cases h
   · split at h
     · split at h
       · rename_i hle; cases h; exact Nat.le_of_ble_eq_true hle
       · cases h
     · cases h
   · cases h
end
end Go.Ev
namespace Go.Ev
section
variable {P : Program} {base : Nat} {ρ : Pl} {H : AH} {w : World} {T : List AV}
theorem CRs.replicate (ρ : Pl) (n : Nat) (x : Value) : CRs ρ (List.replicate n (.v x)) (List.replicate n x) := by
 induction n with
 | zero => exact .nil
 | succ n ih => exact .cons (.v x) ih
theorem resA_run {a : Act} (hI : Inv base ρ H w) (hT : CRs ρ T a.tmps.toList) {f : ResultVar → Sem Value} (hf1 : ∀ t, f (.tmp t) = pure (a.tmps.getD t undef)) (hf2 : ∀ ad t, f (.cell ad t) = (do loadVar t (← asAddr (a.tmps.getD ad undef)))) : ∀ {l : List ResultVar} {xs : List AV}, resA P T H l = some xs →
   ∃ ys, CRs ρ xs ys ∧ (l.mapM f).run P w = .ok ys w
 | [], xs, h => by
   simp [resA] at h; subst h
   exact ⟨[], .nil, by simp⟩
 | .tmp t :: l, xs, h => by
   simp only [resA] at h
   cases hr : resA P T H l with
   | none => simp [hr] at h
   | some m =>
     simp [hr] at h; subst h
     obtain ⟨ys, h1, h2⟩ := resA_run hI hT hf1 hf2 hr
     refine ⟨a.tmps.getD t undef :: ys, .cons ?_ h1, ?_⟩
     · exact eval_av hT (.tmp t)
     · simp only [List.mapM_cons, hf1, Sem.run_bind, Sem.run_pure, Result.andThen_ok, h2]
 | .cell ad t :: l, xs, h => by
   simp only [resA] at h
   split at h
   · rename_i b off hav
     split at h
     · rename_i x m hx hm
       cases h
       obtain ⟨ys, h1, h2⟩ := resA_run hI hT hf1 hf2 hm
       have hc : CR ρ (.ptr b off) (a.tmps.getD ad undef) := by
         have := eval_av hT (.tmp ad)
         simp only [av, hav] at this
         exact this
       generalize hv : a.tmps.getD ad undef = v at hc
       cases hc with
       | ptr hb =>
         obtain ⟨u, hu, hr⟩ := run_loadVar hI hb hx
         refine ⟨u :: ys, .cons hu h1, ?_⟩
         simp only [List.mapM_cons, hf2, Sem.run_bind, hv, asAddr, Sem.run_pure, Result.andThen_ok, hr, h2]
     · cases h
   · cases h
theorem results_run {a : Act} {fn : Func} {r : AV} (hI : Inv base ρ H w) (hT : CRs ρ T a.tmps.toList) (h : resultsA P fn T H = some r) : ∃ v, CR ρ r v ∧ (results fn a.tmps).run P w = .ok v w := by
 unfold resultsA at h
 have hm : ∀ (f : ResultVar → Sem Value), (fn.results.mapM f).run P w = ((fn.results.toList.mapM f).run P w).andThen fun l w' => .ok l.toArray w' := fun f => by
   rw [Array.mapM_eq_mapM_toList, Sem.run_map]
 have key : ∃ v, CR ρ r v ∧ ∀ f : ResultVar → Sem Value, (∀ t, f (.tmp t) = pure (a.tmps.getD t undef)) → (∀ ad t, f (.cell ad t) = (do loadVar t (← asAddr (a.tmps.getD ad undef)))) →
     (do let vs ← fn.results.mapM f; pure (if h : vs.size = 1 then vs[0] else .tuple vs) : Sem Value).run P w = .ok v w := by
   split at h
   · rename_i x hx
     cases h
     have main : ∀ f : ResultVar → Sem Value, (∀ t, f (.tmp t) = pure (a.tmps.getD t undef)) → (∀ ad t, f (.cell ad t) = (do loadVar t (← asAddr (a.tmps.getD ad undef)))) →
         ∃ y, CR ρ r y ∧ (fn.results.toList.mapM f).run P w = .ok [y] w := fun f h1 h2 => by
       obtain ⟨ys, k1, k2⟩ := resA_run hI hT h1 h2 hx
       cases k1 with
       | @cons _ y _ _ q1 q2 => cases q2; exact ⟨y, q1, k2⟩
     obtain ⟨y, hy, hr⟩ := main (fun | .tmp t => pure (a.tmps.getD t undef) | .cell ad t => do loadVar t (← asAddr (a.tmps.getD ad undef))) (fun _ => rfl) (fun _ _ => rfl)
     refine ⟨y, hy, fun f h1 h2 => ?_⟩
     have hff : f = (fun | .tmp t => pure (a.tmps.getD t undef) | .cell ad t => do loadVar t (← asAddr (a.tmps.getD ad undef))) := by
       funext v; cases v
       · exact h1 _
       · exact h2 _ _
     rw [hff, Sem.run_bind, hm, hr]
     simp
   · rename_i l hne hx
     cases h
     obtain ⟨ys, k1, k2⟩ := resA_run hI hT (f := (fun | .tmp t => pure (a.tmps.getD t undef) | .cell ad t => do loadVar t (← asAddr (a.tmps.getD ad undef)))) (fun _ => rfl) (fun _ _ => rfl) hx
     refine ⟨.tuple ys.toArray, .tup k1, fun f h1 h2 => ?_⟩
     have hff : f = (fun | .tmp t => pure (a.tmps.getD t undef) | .cell ad t => do loadVar t (← asAddr (a.tmps.getD ad undef))) := by
       funext v; cases v
       · exact h1 _
       · exact h2 _ _
     rw [hff, Sem.run_bind, hm, k2]
     have : ¬ ys.length = 1 := by
       intro hl
       rw [← k1.length] at hl
       match l, hl with
       | [x], _ => exact hne x rfl
     simp [this]
   · cases h
 obtain ⟨v, hv, hk⟩ := key
 exact ⟨v, hv, hk _ (fun _ => rfl) (fun _ _ => rfl)⟩
end
end Go.Ev
namespace Go.Ev
mutual
theorem CR.det {ρ : Pl} : ∀ {a : AV} {x y : Value}, CR ρ a x → CR ρ a y → x = y
 | _, _, _, .v _, .v _ => rfl
 | _, _, _, .ptr h, .ptr k => by rw [h] at k; cases k; rfl
 | _, _, _, .slc h, .slc k => by rw [h] at k; cases k; rfl
 | _, _, _, .slu h, .slu k => by rw [h] at k; cases k; rfl
 | _, _, _, .sle h, .sle k => by rw [h] at k; cases k; rfl
 | _, _, _, .fn h1 h2, .fn k1 k2 => by rw [CRs.det h1 k1, CRs.det h2 k2]
 | _, _, _, .agg h, .agg k => by rw [CRs.det h k]
 | _, _, _, .tup h, .tup k => by rw [CRs.det h k]
 | _, _, _, .mp h, .mp k => by rw [h] at k; cases k; rfl
 | _, _, _, .yl h, .yl k => by rw [h] at k; cases k; rfl
 | _, _, _, .ifc h, .ifc k => by rw [CR.det h k]
theorem CRs.det {ρ : Pl} : ∀ {a : List AV} {x y : List Value}, CRs ρ a x → CRs ρ a y → x = y
 | _, _, _, .nil, .nil => rfl
 | _, _, _, .cons h1 h2, .cons k1 k2 => by rw [CR.det h1 k1, CRs.det h2 k2]
end
def vbeq : Value → Value → Bool
 | .bool a, .bool b => a == b
 | .int k a, .int j b => decide (k = j) && decide (a = b)
 | .string a, .string b => decide (a = b)
 | .pointer a, .pointer b => decide (a = b)
 | .slice a n c, .slice b m d => decide (a = b) && decide (n = m) && decide (c = d)
 | .map a, .map b => decide (a = b)
 | .nilFunc, .nilFunc => true
 | .nilIface, .nilIface => true
 | _, _ => false
theorem vbeq_eq {x y : Value} (h : vbeq x y = true) : x = y := by
 unfold vbeq at h
 split at h <;> simp_all
mutual
def AV.beq : AV → AV → Bool
 | .v x, .v y => vbeq x y
 | .ptr a b, .ptr c d => Nat.beq a c && Nat.beq b d
 | .slc a b l c, .slc a' b' l' c' => Nat.beq a a' && Nat.beq b b' && Nat.beq l l' && Nat.beq c c'
 | .slu a b l c, .slu a' b' l' c' => Nat.beq a a' && Nat.beq b b' && Nat.beq l l' && Nat.beq c c'
 | .sle a b l c, .sle a' b' l' c' => Nat.beq a a' && Nat.beq b b' && Nat.beq l l' && Nat.beq c c'
 | .mp a, .mp b => Nat.beq a b
 | .yl a, .yl b => Nat.beq a b
 | .ifc t a, .ifc s b => Nat.beq t s && a.beq b
 | .agg as, .agg bs => beqs as bs
 | .tup as, .tup bs => beqs as bs
 | .fn f as bs, .fn g cs ds => decide (f = g) && beqs as cs && beqs bs ds
 | _, _ => false
def beqs : List AV → List AV → Bool
 | [], [] => true
 | a :: as, b :: bs => a.beq b && beqs as bs
 | _, _ => false
end
mutual
theorem AV.beq_eq : ∀ {x y : AV}, x.beq y = true → x = y
 | .v x, y, h => by cases y <;> simp [AV.beq] at h; rw [vbeq_eq h]
 | .ptr a b, y, h => by cases y <;> simp [AV.beq] at h; rw [h.1, h.2]
 | .slc a b l c, y, h => by cases y <;> simp [AV.beq] at h; rw [h.1.1.1, h.1.1.2, h.1.2, h.2]
 | .slu a b l c, y, h => by cases y <;> simp [AV.beq] at h; rw [h.1.1.1, h.1.1.2, h.1.2, h.2]
 | .sle a b l c, y, h => by cases y <;> simp [AV.beq] at h; rw [h.1.1.1, h.1.1.2, h.1.2, h.2]
 | .mp a, y, h => by cases y <;> simp [AV.beq] at h; rw [h]
 | .yl a, y, h => by cases y <;> simp [AV.beq] at h; rw [h]
 | .ifc t a, y, h => by cases y <;> simp [AV.beq] at h; rw [h.1, AV.beq_eq h.2]
 | .agg as, y, h => by cases y <;> simp [AV.beq] at h; rw [beqs_eq h]
 | .tup as, y, h => by cases y <;> simp [AV.beq] at h; rw [beqs_eq h]
 | .fn f as bs, y, h => by cases y <;> simp [AV.beq] at h; rw [h.1.1, beqs_eq h.1.2, beqs_eq h.2]
theorem beqs_eq : ∀ {x y : List AV}, beqs x y = true → x = y
 | [], y, h => by cases y <;> simp [beqs] at h; rfl
 | a :: as, y, h => by cases y <;> simp [beqs] at h; rw [AV.beq_eq h.1, beqs_eq h.2]
end
def mebeq : List MapEntry → List MapEntry → Bool
 | [], [] => true
 | a :: l, b :: m => vbeq a.key b.key && vbeq a.val b.val && Nat.beq a.born b.born && mebeq l m
 | _, _ => false
theorem mebeq_eq : ∀ {x y : List MapEntry}, mebeq x y = true → x = y
 | [], [], _ => rfl
 | a :: l, b :: m, h => by
   simp only [mebeq, Bool.and_eq_true] at h
   obtain ⟨⟨⟨h1, h2⟩, h3⟩, h4⟩ := h
   obtain ⟨k, v, n⟩ := a
   obtain ⟨k', v', n'⟩ := b
   have e1 : k = k' := vbeq_eq h1
   have e2 : v = v' := vbeq_eq h2
   have e3 : n = n' := Nat.eq_of_beq_eq_true h3
   rw [e1, e2, e3, mebeq_eq h4]
 | [], _ :: _, h => by cases h
 | _ :: _, [], h => by cases h
def sameBlk : Option AB → Option AB → Bool
 | some (.cells cs e g), some (.cells cs' e' g') => beqs cs cs' && Nat.beq e e' && g == g'
 | some (.map es c), some (.map es' c') => mebeq es es' && Nat.beq c c'
 | _, _ => false
theorem sameBlk_eq {x y : Option AB} (h : sameBlk x y = true) : x = y := by
 unfold sameBlk at h
 split at h
 · simp only [Bool.and_eq_true] at h
   rw [beqs_eq h.1.1, Nat.eq_of_beq_eq_true h.1.2, eq_of_beq h.2]
 · simp only [Bool.and_eq_true] at h
   rw [mebeq_eq h.1, Nat.eq_of_beq_eq_true h.2]
 · cases h
section
variable {P : Program} {base : Nat} {ρ : Pl} {H : AH} {w : World} {T : List AV} {e : Operand → Value}
noncomputable def plainVal (P : Program) (T : List AV) (o : Oper) : Option AV :=
 if o.op.operands.toList.all (fun x => (av T x).plain.isSome) then
   match o.op with
   | .select _ _ => none
   | _ =>
     match runPure P (execOp (fun x => ((av T x).plain).getD undef) o) with
     | some (.value v) => some (.v v)
     | _ => none
 else none
theorem plainVal_ok {a : Operand → Value} {o : Oper} {r : AV} (he : ∀ x, CR ρ (av T x) (a x)) (h : plainVal P T o = some r) : OkS P ρ w (execOp a o) r := by
 unfold plainVal at h
 split at h
 · rename_i hall
   have hcong : (∀ cs b, o.op ≠ .select cs b) → execOp a o = execOp (fun x => ((av T x).plain).getD undef) o := fun hs => by
     refine execOp_congr o hs fun x hx => ?_
     have := List.all_eq_true.1 hall x (by simpa using hx)
     obtain ⟨y, hy⟩ := Option.isSome_iff_exists.1 this
     rw [hy, (he x).plain hy]; rfl
   split at h
   · cases h
   · rename_i hns
     have hc := hcong hns
     split at h
     · rename_i v hv
       cases h
       exact ⟨v, .v _, by rw [hc]; exact runPure_run hv w⟩
     · cases h
 · cases h
noncomputable def mobEval (P : Program) (T : List AV) (H : AH) (o : Oper) : Option AV :=
 match o.op with
 | .move x | .assign x => some (av T x)
 | .load t x => match av T x with | .ptr b off => loadA P t b off H | .v (.pointer (some ⟨g, off, none⟩)) => loadG P t g off H | _ => none
 | .fieldAddr s x f => match av T x with | .ptr b off => fieldAddrA P s b off f | _ => plainVal P T o
 | .indexAddr t x i => if isV (av T x) then plainVal P T o else indexAddrA P t (av T x) (av T i)
 | .slice t x lo hi mx => if isV (av T x) then plainVal P T o else sliceA P T t (av T x) lo hi mx H
 | .field t x f => match av T x with | .agg cs => fieldA P t cs f | _ => plainVal P T o
 | .extract x i => match av T x with | .tup vs => vs[i]? | _ => plainVal P T o
 | .build t ps => buildA P T t ps
 | .makeInterface t x => if isV (av T x) then plainVal P T o else (match runPure P (underlying t) with | some (.interface _) => none | some _ => some (.ifc t (av T x)) | none => none)
 | .pick c a b => match av T c with | .v (.bool true) => some (av T a) | .v (.bool false) => some (av T b) | _ => none
 | .nilCheck x => match av T x with | .ptr b off => some (.ptr b off) | _ => plainVal P T o
 | .makeFunc f a b => some (.fn f (a.toList.map (av T)) (b.toList.map (av T)))
 | .lookup t x k ok => match av T x, (av T k).plain with | .mp b, some key => (match lookupA P t b key ok H with | some (.val r _) => some r | _ => none) | _, _ => plainVal P T o
 | .call c =>
   match c.callee with
   | .builtin .len => match c.args.toList with | [x] => if isV (av T x) then plainVal P T o else (match lenOpA P c.argTypes (av T x) H with | some (.val r _) => some r | _ => none) | _ => none
   | .builtin _ => plainVal P T o
   | _ => none
 | _ => plainVal P T o
theorem mob_ok {o : Oper} {r : AV} (hI : Inv base ρ H w) (he : ∀ x, CR ρ (av T x) (e x)) (h : mobEval P T H o = some r) : OkS P ρ w (execOp e o) r := by
 have hpl : plainVal P T o = some r → OkS P ρ w (execOp e o) r := plainVal_ok he
 obtain ⟨dst, op, type, pos, after, guard⟩ := o
 cases op with
 | move x => cases h; exact ⟨_, he x, rfl⟩
 | assign x => cases h; exact ⟨_, he x, rfl⟩
 | load t x =>
   simp only [mobEval] at h
   split at h
   · rename_i b off hx
     have hc := he x
     rw [hx] at hc
     exact load_ok hI hc h
   · rename_i g off hx
     have hc := he x
     rw [hx] at hc
     generalize hv : e x = xv at hc
     cases hc
     obtain ⟨u, hu, hr⟩ := run_loadG hI h
     exact ⟨u, hu, by simp [execOp, hv, Instr.loadAt, Instr.sureAddr, hr]⟩
   · cases h
 | fieldAddr s x f =>
   simp only [mobEval] at h
   split at h
   · rename_i b off hx
     have hc := he x
     rw [hx] at hc
     exact fieldAddr_ok hI hc h
   · exact hpl h
 | indexAddr t x i =>
   simp only [mobEval] at h
   split at h
   · exact hpl h
   · exact indexAddr_ok hI (he x) (he i) h
 | slice t x lo hi mx =>
   simp only [mobEval] at h
   split at h
   · exact hpl h
   · exact slice_ok hI he (he x) h
 | field t x f =>
   simp only [mobEval] at h
   split at h
   · rename_i cs hx
     have hc := he x
     rw [hx] at hc
     exact field_ok hI hc h
   · exact hpl h
 | extract x i =>
   simp only [mobEval] at h
   split at h
   · rename_i vs hx
     have hc := he x
     rw [hx] at hc
     exact extract_ok hI hc h
   · exact hpl h
 | build t ps => exact build_ok hI he h
 | makeInterface t x =>
   simp only [mobEval] at h
   split at h
   · exact hpl h
   · split at h
     · cases h
     · rename_i d hne hu
       cases h
       refine Post.pl hI (.ifc (he x)) ?_
       simp only [Instr.makeInterface, Sem.run_bind, runPure_run hu, Result.andThen_ok]
       all_goals first | rfl | (split <;> first | rfl | simp_all)
     · cases h
 | pick c a b =>
   simp only [mobEval] at h
   split at h
   · rename_i ht
     cases h
     have hc := he c
     rw [ht] at hc
     generalize hcv : e c = cv at hc
     cases hc
     exact ⟨_, he a, by simp [execOp, hcv, asBool]⟩
   · rename_i ht
     cases h
     have hc := he c
     rw [ht] at hc
     generalize hcv : e c = cv at hc
     cases hc
     exact ⟨_, he b, by simp [execOp, hcv, asBool]⟩
   · cases h
 | makeFunc f a b =>
   cases h
   refine ⟨_, CR.fn (CRs.mapAv he a.toList) (CRs.mapAv he b.toList), ?_⟩
   have h1 : ∀ l : Array Operand, (l.toList.map e).toArray = l.map e := fun l => by apply Array.ext'; simp
   simp [execOp, Instr.makeFunc, h1]
 | nilCheck x =>
   simp only [mobEval] at h
   split at h
   · rename_i b off hx
     cases h
     have hc := he x
     rw [hx] at hc
     generalize hv : e x = xv at hc
     cases hc with
     | ptr hb => exact ⟨_, .ptr hb, by simp [execOp, hv]⟩
   · exact hpl h
 | lookup t x k ok =>
   simp only [mobEval] at h
   split at h
   · rename_i b key hx hk
     split at h
     · rename_i r' H' hr
       cases h
       have hc := he x
       rw [hx] at hc
       have hk' := (he k).plain hk
       have := lookup_okS hI hc hr
       rw [← hk'] at this
       exact this
     · cases h
   · exact hpl h
 | call c =>
   obtain ⟨callee, args, ats⟩ := c
   have hargs : ∀ {l : List Operand}, args.toList = l → args.map e = (l.map e).toArray := fun h => by
     apply Array.ext'; simp [h]
   cases callee with
   | value f => cases h
   | invoke x m => cases h
   | builtin b =>
     cases b with
     | len =>
       simp only [mobEval] at h
       split at h
       · rename_i x hl
         split at h
         · exact hpl h
         · split at h
           · rename_i r' H' hr
             cases h
             obtain ⟨cb, hex⟩ := exec_builtin e dst type pos after guard .len args ats
             rw [hex, hargs hl]
             exact (lenOp_ok hI (he x) hr).1
           · cases h
       · cases h
     | _ => exact hpl h
 | _ => exact hpl h
noncomputable def sing (H0 : AH) (o : Option Nat) : AH :=
 match o with
 | none => ⟨H0.next, .lf, H0.gl⟩
 | some b => match H0.get b with | some x => AH.set ⟨H0.next, .lf, H0.gl⟩ b (some x) | none => ⟨H0.next, .lf, H0.gl⟩
theorem sing_get {H0 : AH} (hd : ∀ b x, H0.get b = some x → b < 2 ^ 59) {o : Option Nat} {b : Nat} {x : AB} (h : (sing H0 o).get b = some x) : o = some b ∧ H0.get b = some x := by
 unfold sing at h
 split at h
 · simp [AH.get, Tr.get_lf] at h
 · rename_i b'
   split at h
   · rename_i x' hx
     rw [AH.get_set _ _ _ _ (hd _ _ hx)] at h
     by_cases e : b = b'
     · subst e
       simp at h
       exact ⟨rfl, by rw [hx, h]⟩
     · simp [e, AH.get, Tr.get_lf] at h
   · simp [AH.get, Tr.get_lf] at h
theorem sing_next (H0 : AH) (o : Option Nat) : (sing H0 o).next = H0.next ∧ (sing H0 o).gl = H0.gl := by
 unfold sing
 split
 · exact ⟨rfl, rfl⟩
 · split <;> exact ⟨rfl, rfl⟩
theorem Inv.sing {H0 : AH} (hI : Inv base ρ H0 w) (o : Option Nat) : Inv base ρ (sing H0 o) w := by
 have hd : ∀ b x, H0.get b = some x → b < 2 ^ 59 := fun b x h => Nat.lt_of_lt_of_le (hI.dom b x h) hI.nx
 have hg : ∀ b x, (Ev.sing H0 o).get b = some x → H0.get b = some x := fun b x h => (sing_get hd h).2
 refine ⟨fun b x h => hI.blk b x (hg b x h), fun b b' x x' n c c' h h' => hI.inj b b' x x' n c c' (hg _ _ h) (hg _ _ h'), fun b x h => ?_, ?_, hI.bs, fun g vs h => ?_⟩
 · rw [(sing_next H0 o).1]; exact hI.dom b x (hg b x h)
 · rw [(sing_next H0 o).1]; exact hI.nx
 · rw [(sing_next H0 o).2] at h; exact hI.gl g vs h
theorem Inv.pl {ρ' : Pl} (hI : Inv base ρ H w) (hl : ρ.le ρ') : Inv base ρ' H w := by
 refine ⟨fun b x h => ?_, fun b b' x x' n c c' h h' k k' => ?_, hI.dom, hI.nx, hI.bs, hI.gl⟩
 · obtain ⟨n, c, h1, h2, h3⟩ := hI.blk b x h
   exact ⟨n, c, hl _ _ h1, h2, h3.mono hl rfl⟩
 · obtain ⟨n1, c1, h1, _, _⟩ := hI.blk b x h
   obtain ⟨n2, c2, h2, _, _⟩ := hI.blk b' x' h'
   rw [hl _ _ h1] at k; cases k
   rw [hl _ _ h2] at k'; cases k'
   exact hI.inj b b' x x' n c c' h h' h1 h2
def Stab (base : Nat) (ρ0 : Pl) (H0 : AH) (o : Option Nat) (w : World) : Prop := Inv base ρ0 (sing H0 o) w
theorem Stab.step {ρ0 ρ' : Pl} {H0 H' : AH} {o : Option Nat} {w' : World} (hd : ∀ b x, H0.get b = some x → b < 2 ^ 59) (h0 : ρ0.le ρ) (hI0 : Stab base ρ0 H0 o w) (hI : Inv base ρ H w) (hp : Post base ρ H w ρ' H' w') (hs : ∀ b, o = some b → sameBlk (H'.get b) (H0.get b) = true) :
   Stab base ρ0 H0 o w' := by
 refine ⟨fun b x h => ?_, hI0.inj, hI0.dom, hI0.nx, Nat.le_trans hI0.bs hp.size, fun g vs h => ?_⟩
 · obtain ⟨rfl, hx⟩ := sing_get hd h
   obtain ⟨n, c, h1, h2, h3⟩ := hI0.blk b x h
   have hx' : H'.get b = some x := by rw [sameBlk_eq (hs b rfl)]; exact hx
   obtain ⟨n', c', k1, k2, k3⟩ := hp.inv.blk b x hx'
   have hle := Pl.le_trans h0 hp.le
   rw [hle _ _ h1] at k1; cases k1
   refine ⟨n, c, h1, h2, ?_⟩
   cases x with
   | cells cs el g =>
     obtain ⟨xs, ex, q1, _, q3, q4⟩ := h3
     obtain ⟨xs', ex', r1, r2, r3, r4⟩ := k3
     have := CRs.det (q1.mono hle) r1
     subst this
     exact ⟨xs, ex', q1, r2, r3, r4⟩
   | map es cl => exact k3
   | iter s p => exact k3
   | lp st pend fn T ps as bo =>
     obtain ⟨xs, d, f, q1, _⟩ := h3
     obtain ⟨xs', d', f', r1, r2⟩ := k3
     have := CRs.det (q1.mono hle) r1
     subst this
     exact ⟨xs, d', f', q1, r2⟩
   | dfd => exact k3
   | shut => exact k3
 · obtain ⟨h1, el, fz, h2⟩ := hI0.gl g vs h
   refine ⟨h1, el, fz, ?_⟩
   rw [hp.frame g (by have := hI.bs; omega) ?_]
   · exact h2
   · intro b x n c hb hr
     obtain ⟨n', c', k1, k2, _⟩ := hI.blk b x hb
     rw [hr] at k1; cases k1
     omega
end
end Go.Ev
namespace Go.Ev
inductive Stp where
 | mob (i : Nat)
 | loud (i : Nat)
 | alc (i : Nat)
noncomputable def rdA (T : List AV) (o : Oper) : Option Nat :=
 match o.op with
 | .load _ x => match av T x with | .ptr b _ => some b | _ => none
 | .slice _ x _ _ _ => match av T x with | .slu b _ _ _ => some b | _ => none
 | .lookup _ x _ _ => match av T x with | .mp b => some b | _ => none
 | _ => none
def nvA (k : Option (Nat × Nat)) (b : Nat) : AV := match k with | none => .ptr b 0 | some (l, c) => .slc b 0 l c
def nvV (k : Option (Nat × Nat)) (n : Nat) : Value := match k with | none => .pointer (some ⟨n, 0, none⟩) | some (l, c) => .slice (some ⟨n, 0, none⟩) l c
noncomputable def laysA (P : Program) (T : List AV) (o : Oper) : Option (Option (Nat × Nat) × List AV × TypeId) :=
 match o.op with
 | .alloc t => match runPure P (zeroValue t) with | some z => some (none, z.cells.toList.map .v, t) | none => none
 | .makeSlice t l c =>
   match natA (av T l), natA (av T c) with
   | some l, some c =>
     match runPure P (underlying t) with
     | some (.slice e) =>
       match runPure P (typeInfo e), runPure P (sizeOf e), runPure P (zeroValue e) with
       | some i, some size, some z =>
         if Nat.ble (i.bytes * c) (2 ^ 48) && Nat.ble l c && Nat.ble c (2 ^ 62) then
           some (some (l, c), (if Nat.beq (c * size) 0 then [] else ((Array.range (c * size)).map (z.cells[· % z.cells.size]!)).toList).map .v, e)
         else none
       | _, _, _ => none
     | _ => none
   | _, _ => none
 | .buildSlice t len parts =>
   match runPure P (underlying t) with
   | some (.slice e) =>
     match runPure P (sizeOf e), runPure P (zeroValue e) with
     | some (size + 1), some z =>
       if Nat.ble (len * (size + 1)) (2 ^ 24) then
         match fillA (fun i => some (i * (size + 1), size + 1)) (((Array.range (len * (size + 1))).map (z.cells[· % z.cells.size]!)).toList.map .v) (parts.toList.map fun p => (p.1, av T p.2)) with
         | some cs => some (some (len, len), cs, e)
         | none => none
       else none
     | _, _ => none
   | _ => none
 | _ => none
noncomputable def evDraw (P : Program) (F : Fs) (call : CallF) (ops : Array Oper) (H0 : AH) : List Stp → List AV → AH → Option (List AV × AH × List (Nat × Option Nat) × List (Nat × AH))
 | [], T, H => some (T, H, [], [])
 | .mob i :: rest, T, H =>
   match ops[i]? with
   | none => none
   | some o =>
     match wantedA o ops T with
     | false => evDraw P F call ops H0 rest (putA T o.dst (.v undef)) H
     | true =>
       match mobEval P T (sing H0 (rdA T o)) o with
       | none => none
       | some r =>
         match evDraw P F call ops H0 rest (putA T o.dst r) H with
         | none => none
         | some (T', H', L, Hs) => some (T', H', (i, rdA T o) :: L, Hs)
 | .loud i :: rest, T, H =>
   match ops[i]? with
   | none => none
   | some o =>
     match evOp P F call ops o T H with
     | none => none
     | some (r, H1) =>
       match evDraw P F call ops H0 rest (putA T o.dst r) H1 with
       | none => none
       | some (T', H', L, Hs) => some (T', H', L, (i, H1) :: Hs)
 | .alc i :: rest, T, H =>
   match ops[i]? with
   | none => none
   | some o =>
     match wantedA o ops T with
     | false => evDraw P F call ops H0 rest (putA T o.dst (.v undef)) H
     | true =>
       match laysA P T o with
       | none => none
       | some (k, cs, t) =>
         match newA t cs H with
         | none => none
         | some H1 => evDraw P F call ops H0 rest (putA T o.dst (nvA k H.next)) H1
def waitsB (ops : Array Oper) (j i : Nat) : Bool :=
 match ops[j]? with
 | some o => o.after.any fun e => Region.binds .any e && e.on == i
 | none => true
noncomputable def keptB (ops : Array Oper) (H0 : AH) (L : List (Nat × Option Nat)) (j : Nat) (H1 : AH) : Bool :=
 L.all fun p => match p.2 with | none => true | some b => waitsB ops j p.1 || sameBlk (H1.get b) (H0.get b)
noncomputable def evRegion (P : Program) (F : Fs) (call : CallF) (ops : Array Oper) (π : List Stp) (T : List AV) (H : AH) : Option (List AV × AH) :=
 match evDraw P F call ops H π T H with
 | none => none
 | some (T', H', L, Hs) => if Hs.all (fun q => keptB ops H L q.1 q.2) then some (T', H') else none
def laysB (o : Oper) : Bool := match o.op, o.guard with | .alloc _, none => true | .makeSlice _ _ _, none => true | .buildSlice _ _ _, none => true | _, _ => false
def softB (o : Oper) : Bool := match o.op with
 | .move _ | .assign _ | .pick .. | .fieldAddr .. | .indexAddr .. | .slice .. | .field .. | .extract .. | .build .. | .binOp .. | .unOp .. | .load .. | .index .. | .makeInterface .. | .convert .. => true
 | .call c => (match c.callee with | .builtin .len | .builtin .max | .builtin .min => true | _ => false)
 | _ => false
def softUp (ops : Array Oper) : Nat → Nat → Bool
 | 0, _ => false
 | n + 1, i => match ops[i]? with
   | some o => o.after.all fun e => !Region.binds .any e || (match ops[e.on]? with | some x => softB x && softUp ops n e.on | none => false)
   | none => false
def buildB (ops : Array Oper) (i : Nat) (o : Oper) : Bool :=
 softUp ops 8 i && (List.range ops.size).all fun k => k == i || (match ops[k]? with | some x => !laysB x || x.apart ops o | none => true)
def waitsT (ops : Array Oper) : Nat → Nat → Nat → Bool
 | 0, _, _ => false
 | n + 1, j, i => match ops[j]? with
   | some o => o.after.any fun e => Region.binds .any e && (e.on == i || waitsT ops n e.on i)
   | none => false
def laysG (o : Oper) : Bool := match o.op with | .alloc _ => true | .makeSlice _ _ _ => true | .buildSlice _ _ _ => true | _ => false
def raceB (ops : Array Oper) (i : Nat) (o : Oper) : Bool :=
 ((List.range ops.size).any fun k => match ops[k]? with | some x => k != i && !softB x && !laysG x && x.guard == o.guard && !waitsT ops 12 k i && !waitsT ops 12 i k | none => false) &&
 ((List.range ops.size).all fun k => k == i || (match ops[k]? with | some x => !laysG x || x.apart ops o | none => true))
def allocI (ops : Array Oper) (i : Nat) : Option Unit :=
 match ops[i]? with
 | some o => match o.op, o.guard with | .alloc _, none => some () | .makeSlice _ _ _, none => some () | .buildSlice _ _ _, none => (if buildB ops i o then some () else none) | .buildSlice _ _ _, some _ => (if raceB ops i o then some () else none) | _, _ => none
 | none => none
def withAllocs (ops : Array Oper) (skip : Nat) (l : Array Bool) : Array Bool :=
 (List.range ops.size).foldl (fun l k => if (allocI ops k).isSome && k != skip then l.setIfInBounds k true else l) l
def allocsApart (ops : Array Oper) (l : Array Bool) (i : Nat) : Bool :=
 (List.range ops.size).all fun k => !(allocI ops k).isSome || k == i || l.getD k true || ((allocI ops i).isNone && waitsB ops k i) || (match ops[k]?, ops[i]? with | some x, some y => x.apart ops y | _, _ => false)
def planOk (ops : Array Oper) : Array Bool → List Stp → Bool
 | l, [] => (Region.ready .any ops l).isEmpty && (List.range ops.size).all fun i => l.getD i true
 | l, .mob i :: r => (Region.ready .any ops l).contains i && Region.free .any ops l i && allocsApart ops l i && (allocI ops i).isNone && planOk ops (l.setIfInBounds i true) r
 | l, .loud i :: r => (Region.ready .any ops l).contains i && (Region.ready .any ops (withAllocs ops ops.size l) == [i]) && allocsApart ops l i && (allocI ops i).isNone && planOk ops (l.setIfInBounds i true) r
 | l, .alc i :: r => (Region.ready .any ops l).contains i && (Region.ready .any ops (withAllocs ops i l) == [i]) && allocsApart ops l i && (allocI ops i).isSome && planOk ops (l.setIfInBounds i true) r
def pairApart (ops : Array Oper) : Bool := (List.range ops.size).all fun i => (allocI ops i).isNone || allocsApart ops (Array.replicate ops.size false) i
def planValid (ops : Array Oper) (π : List Stp) : Bool := Region.noSelect ops && pairApart ops && planOk ops (Array.replicate ops.size false) π
structure EE where
 i : Nat
 d : Option Tmp
 t : TypeId
 n : Nat
 v : Value
 cs : Array Value
 b : Bool
def setE (l : Array Bool) (E : List EE) : Array Bool := E.foldl (fun l e => l.setIfInBounds e.i true) l
def applyE (a : Act) (E : List EE) : Act := E.foldl (fun a e => a.put e.d e.v) a
theorem set_comm (l : Array Bool) (i j : Nat) : (l.setIfInBounds i true).setIfInBounds j true = (l.setIfInBounds j true).setIfInBounds i true := by
 by_cases h : i = j
 · subst h; rfl
 · exact Array.setIfInBounds_comm _ _ h
theorem setE_set : ∀ (E : List EE) (l : Array Bool) (i : Nat), setE (l.setIfInBounds i true) E = (setE l E).setIfInBounds i true
 | [], _, _ => rfl
 | e :: E, l, i => by
   show setE ((l.setIfInBounds i true).setIfInBounds e.i true) E = (setE (l.setIfInBounds e.i true) E).setIfInBounds i true
   rw [set_comm, setE_set E]
theorem setE_append (l : Array Bool) (E : List EE) (e : EE) : setE l (E ++ [e]) = (setE l E).setIfInBounds e.i true := by
 simp [setE, List.foldl_append]
theorem setE_mid (l : Array Bool) (E1 E2 : List EE) (e : EE) : setE l (E1 ++ e :: E2) = setE (l.setIfInBounds e.i true) (E1 ++ E2) := by
 induction E1 generalizing l with
 | nil => rfl
 | cons x E1 ih =>
   show setE (l.setIfInBounds x.i true) (E1 ++ e :: E2) = setE ((l.setIfInBounds e.i true).setIfInBounds x.i true) (E1 ++ E2)
   rw [ih, set_comm]
theorem applyE_append (a : Act) (E : List EE) (e : EE) : applyE a (E ++ [e]) = (applyE a E).put e.d e.v := by
 simp [applyE, List.foldl_append]
theorem applyE_put : ∀ (E : List EE) (a : Act) (d : Option Tmp) (v : Value), (∀ e ∈ E, ∀ x, e.d = some x → d ≠ some x) → applyE (a.put d v) E = (applyE a E).put d v
 | [], _, _, _, _ => rfl
 | e :: E, a, d, v, h => by
   show applyE ((a.put d v).put e.d e.v) E = (applyE (a.put e.d e.v) E).put d v
   rw [← Act.put_comm a e.v v (fun x hx => h e (by simp) x hx), applyE_put E _ d v (fun e' he' => h e' (by simp [he']))]
theorem applyE_mid (a : Act) (E1 E2 : List EE) (e : EE) (h : ∀ e' ∈ E1, ∀ x, e'.d = some x → e.d ≠ some x) : applyE a (E1 ++ e :: E2) = applyE (a.put e.d e.v) (E1 ++ E2) := by
 induction E1 generalizing a with
 | nil => rfl
 | cons x E1 ih =>
   show applyE (a.put x.d x.v) (E1 ++ e :: E2) = applyE ((a.put e.d e.v).put x.d x.v) (E1 ++ E2)
   rw [ih _ (fun e' he' => h e' (by simp [he'])), Act.put_comm a x.v e.v (fun y hy => h x (by simp) y hy)]
theorem setE_size (E : List EE) (l : Array Bool) : (setE l E).size = l.size := by
 induction E generalizing l with
 | nil => rfl
 | cons e E ih => show (setE (l.setIfInBounds e.i true) E).size = _; rw [ih]; simp
theorem setE_getD : ∀ (E : List EE) (l : Array Bool) (k : Nat) (d : Bool), k < l.size → (setE l E).getD k d = (l.getD k d || E.any fun e => e.i == k)
 | [], l, k, d, _ => by simp [setE]
 | e :: E, l, k, d, hk => by
   show (setE (l.setIfInBounds e.i true) E).getD k d = _
   rw [setE_getD E _ k d (by simpa using hk)]
   by_cases h : e.i = k
   · subst h
     have : (l.setIfInBounds e.i true).getD e.i d = true := by simp [hk]
     rw [this]; simp
   · have : (l.setIfInBounds e.i true).getD k d = l.getD k d := getD_set_ne d h
     have h2 : (e.i == k) = false := by simpa using h
     rw [this]
     simp [h2]
theorem getD_lt {l : Array Bool} {k : Nat} (h : l.getD k true = false) : k < l.size := by
 rcases Nat.lt_or_ge k l.size with h' | h'
 · exact h'
 · simp [Array.getElem?_eq_none h'] at h
theorem getD_tf {l : Array Bool} {k : Nat} (h : k < l.size) (d d' : Bool) : l.getD k d = l.getD k d' := by simp [h]
theorem getD_lt' {l : Array Bool} {k : Nat} (h : l.getD k false = true) : k < l.size := by
 rcases Nat.lt_or_ge k l.size with h' | h'
 · exact h'
 · simp [Array.getElem?_eq_none h'] at h
section
variable {ops : Array Oper}
theorem withAllocs_aux (skip : Nat) : ∀ (ks : List Nat) (l : Array Bool) (k : Nat) (d : Bool), k < l.size →
   (ks.foldl (fun l k => if (allocI ops k).isSome && k != skip then l.setIfInBounds k true else l) l).getD k d = (l.getD k d || (ks.contains k && (allocI ops k).isSome && k != skip)) ∧
   (ks.foldl (fun l k => if (allocI ops k).isSome && k != skip then l.setIfInBounds k true else l) l).size = l.size
 | [], l, k, d, _ => by simp
 | x :: ks, l, k, d, hk => by
   simp only [List.foldl_cons]
   by_cases hx : ((allocI ops x).isSome && x != skip) = true
   · rw [if_pos hx]
     obtain ⟨h1, h2⟩ := withAllocs_aux skip ks (l.setIfInBounds x true) k d (by simpa using hk)
     rw [h1, h2]
     refine ⟨?_, by simp⟩
     by_cases h : x = k
     · subst h
       have : (l.setIfInBounds x true).getD x d = true := by simp [hk]
       rw [this]
       simp only [Bool.and_eq_true] at hx
       simp [hx.1, hx.2]
     · rw [getD_set_ne d h]
       simp [Ne.symm h]
   · rw [if_neg hx]
     obtain ⟨h1, h2⟩ := withAllocs_aux skip ks l k d hk
     rw [h1, h2]
     refine ⟨?_, rfl⟩
     by_cases h : x = k
     · subst h
       simp only [Bool.and_eq_true, not_and, Bool.not_eq_true] at hx
       cases ha : (allocI ops x).isSome with
       | false => simp
       | true => have := hx ha; simp [this]
     · simp [Ne.symm h]
theorem ready_early {l : Array Bool} (hl : l.size = ops.size) {E : List EE} {skip j : Nat} (hE : ∀ e ∈ E, (allocI ops e.i).isSome = true ∧ e.i ≠ skip) (hj : j ∈ Region.ready .any ops (setE l E)) (hja : (allocI ops j).isNone = true ∨ j = skip) :
   j ∈ Region.ready .any ops (withAllocs ops skip l) := by
 obtain ⟨h1, o, h2, h3⟩ := mem_ready.1 hj
 have hlt : j < l.size := by have := getD_lt h1; rwa [setE_size] at this
 have hw := fun k d hk => (withAllocs_aux (ops := ops) skip (List.range ops.size) l k d hk).1
 refine mem_ready.2 ⟨?_, o, h2, fun e he hb => ?_⟩
 · show (List.foldl _ l (List.range ops.size)).getD j true = false
   rw [hw j true hlt]
   rw [setE_getD E l j true hlt] at h1
   simp only [Bool.or_eq_false_iff] at h1
   rw [h1.1]
   rcases hja with h | h
   · cases hh : allocI ops j with
     | none => simp
     | some t => rw [hh] at h; cases h
   · subst h; simp
 · have := h3 e he hb
   have hlt' : e.on < l.size := by have := getD_lt' this; rwa [setE_size] at this
   show (List.foldl _ l (List.range ops.size)).getD e.on false = true
   rw [hw e.on false hlt']
   rw [setE_getD E l e.on false hlt'] at this
   simp only [Bool.or_eq_true, List.any_eq_true] at this
   rcases this with h | ⟨x, hx, hxe⟩
   · rw [h]; rfl
   · have hxe : x.i = e.on := by simpa using hxe
     obtain ⟨q1, q2⟩ := hE x hx
     rw [hxe] at q1 q2
     have : e.on < ops.size := by omega
     simp [q1, q2, this]
theorem ready_keep {l : Array Bool} {j : Nat} : ∀ {E : List EE}, (∀ e ∈ E, e.i ≠ j) → j ∈ Region.ready .any ops l → j ∈ Region.ready .any ops (setE l E)
 | [], _, h => h
 | e :: E, hE, h => by
   show j ∈ Region.ready .any ops (setE (l.setIfInBounds e.i true) E)
   exact ready_keep (fun e' he' => hE e' (by simp [he'])) (ready_mono h (fun he => hE e (by simp) he.symm))
theorem free_keep {l : Array Bool} (hl : l.size = ops.size) {i : Nat} (E : List EE) (h : Region.free .any ops l i = true) : Region.free .any ops (setE l E) i = true := by
 unfold Region.free at *
 split at h
 · cases h
 · rename_i oi hoi
   simp only [hoi, List.all_eq_true, List.mem_range] at *
   intro j hj
   have := h j hj
   rw [setE_getD E l j true (by omega)]
   simp only [Bool.or_eq_true] at this ⊢
   rcases this with (h1 | h1) | h1
   · exact .inl (.inl h1)
   · exact .inl (.inr (.inl h1))
   · exact .inr h1
def cnt (n : Nat) (l : Array Bool) : Nat := ((List.range n).filter fun i => !l.getD i true).length
theorem filter_lt {p q : Nat → Bool} : ∀ {L : List Nat} {x : Nat}, (∀ y, q y = true → p y = true) → x ∈ L → p x = true → q x = false → (L.filter q).length < (L.filter p).length
 | [], _, _, h, _, _ => by cases h
 | y :: L, x, hqp, hx, hp, hq => by
   have hle : ∀ L : List Nat, (L.filter q).length ≤ (L.filter p).length := fun L => by
     induction L with
     | nil => simp
     | cons z L ih =>
       by_cases hz : q z = true
       · simp [hz, hqp z hz, ih]
       · simp only [List.filter_cons, hz]
         by_cases hz' : p z = true
         · simp [hz']; omega
         · simp [hz']; exact ih
   by_cases e : y = x
   · subst e
     simp only [List.filter_cons, hp, hq, if_true, Bool.false_eq_true, if_false, List.length_cons]
     have := hle L; omega
   · have hx' : x ∈ L := by
       cases hx with
       | head => exact absurd rfl e
       | tail _ h => exact h
     have ih := filter_lt hqp hx' hp hq
     by_cases hz : q y = true
     · simp [hz, hqp y hz, ih]
     · simp only [List.filter_cons, hz]
       by_cases hz' : p y = true
       · simp [hz']; omega
       · simp [hz']; exact ih
theorem cnt_set {n : Nat} {l : Array Bool} {i : Nat} (hi : i < n) (h : l.getD i true = false) : cnt n (l.setIfInBounds i true) < cnt n l := by
 unfold cnt
 refine filter_lt (x := i) ?_ (List.mem_range.2 hi) (by simp [h]) ?_
 · intro y hy
   by_cases e : i = y
   · subst e
     have hlt := getD_lt h
     simp [hlt] at hy
   · rwa [getD_set_ne true e] at hy
 · have hlt := getD_lt h
   simp [hlt]
end
end Go.Ev
namespace Go.Ev
section
variable {P : Program} {ops : Array Oper}
def OpOk (P : Program) (ops : Array Oper) (o : Oper) (a : Act) (w : World) (R : Value → World → Prop) : Prop :=
 (Region.wanted o (yielded ops a.tmps) = false ∧ R undef w) ∨
 (Region.wanted o (yielded ops a.tmps) = true ∧ ((∃ v w', (execOp a.eval o).run P w = .ok (.value v) w' ∧ R v w') ∨ (∃ w', (execOp a.eval o).run P w = .ok .skip w' ∧ R undef w') ∨
   (∃ g args, (execOp a.eval o).run P w = .ok (.enter g args) w ∧ Calls P g args w fun e w' => ∃ v, e = .returned v ∧ R v w')))
theorem OpOk.wp {o : Oper} {i : Nat} (hi : ops[i]? = some o) {a : Act} {w : World} {R : Value → World → Prop} {Q : Exit → Act → World → Prop} {K : Act → World → Prop} (h : OpOk P ops o a w R) (hK : ∀ v w', R v w' → K (a.put o.dst v) w') : wpOp P ops Q i K a w := by
 unfold wpOp
 simp only [hi]
 rcases h with ⟨hw, hr⟩ | ⟨hw, h⟩
 · simp only [hw, Bool.false_eq_true, if_false]
   exact hK _ _ hr
 · simp only [hw, if_true]
   refine .inl ?_
   unfold Oper.wp
   rcases h with ⟨v, w', h1, h2⟩ | ⟨w', h1, h2⟩ | ⟨g, args, h1, h2⟩
   · rw [h1]; exact hK _ _ h2
   · rw [h1]; exact hK _ _ h2
   · rw [h1]
     simp only [Oper.upon]
     refine h2.mono ?_
     rintro e w' ⟨v, rfl, hr⟩
     exact hK _ _ hr
theorem OpOk.same {o : Oper} {a a' : Act} {w : World} {R : Value → World → Prop} (he : execOp a'.eval o = execOp a.eval o) (hw : Region.wanted o (yielded ops a'.tmps) = Region.wanted o (yielded ops a.tmps)) (h : OpOk P ops o a w R) : OpOk P ops o a' w R := by
 unfold OpOk at *
 rw [he, hw]
 exact h
variable {base : Nat} {ρ : Pl} {H : AH} {w : World} {T : List AV}
theorem evOp_ok {F : Fs} (hF : FsOk P F) {call : CallF} (hc : CallOk P call) {o : Oper} {a : Act} {r : AV} {H' : AH}
   (hI : Inv base ρ H w) (hf : Free ρ H.next H'.next) (hT : CRs ρ T a.tmps.toList) (h : evOp P F call ops o T H = some (r, H')) :
   OpOk P ops o a w fun v w' => ∃ ρ', CR ρ' r v ∧ Post base ρ H w ρ' H' w' := by
 unfold OpOk
 rw [wanted_av o ops hT]
 unfold evOp at h
 split at h
 · rename_i hw
   cases h
   exact .inl ⟨hw, ρ, .v _, Post.refl hI⟩
 · rename_i hw
   refine .inr ⟨hw, ?_⟩
   split at h
   · rename_i r' H1 he
     split at h
     · cases h
       obtain ⟨ρ', w', v, h1, h2, h3⟩ := opEval_val hI hf (eval_av hT) he
       rcases h3 with h3 | ⟨rfl, h3⟩
       · exact .inl ⟨v, w', h3, ρ', h1, h2⟩
       · exact .inr (.inl ⟨w', h3, ρ', h1, h2⟩)
     · cases h
   · rename_i g args he
     split at h
     · rename_i r' H1 hcall
       split at h
       · rename_i hle
         have hle := Nat.le_of_ble_eq_true hle
         cases h
         obtain ⟨vs, h1, h2⟩ := opEval_call (w := w) hF (eval_av hT) he
         refine .inr (.inr ⟨g, vs.toArray, h2, (hc _ _ _ _ _ hcall hle _ _ _ _ hI hf h1).mono ?_⟩)
         rintro e w' ⟨ρ', v, rfl, hv, hp⟩
         exact ⟨v, rfl, ρ', hv, hp⟩
       · cases h
     · cases h
   · cases h
theorem Inv.alloc (hI : Inv base ρ H w) (o : Obj) : Inv base ρ H (w.alloc o) := by
 have hold : ∀ k, k < w.heap.size → (w.alloc o).heap[k]? = w.heap[k]? := fun k hk => RowKit.Below.heap_alloc w o k hk
 refine ⟨fun b x h => ?_, hI.inj, hI.dom, hI.nx, by rw [World.size_alloc]; have := hI.bs; omega, fun g vs h => ?_⟩
 · obtain ⟨n, c, h1, h2, h3⟩ := hI.blk b x h
   exact ⟨n, c, h1, h2, h3.mono ρ.le_refl (hold n h3.lt)⟩
 · obtain ⟨h1, e, fz, h2⟩ := hI.gl g vs h
   exact ⟨h1, e, fz, by rw [hold g (by have := hI.bs; omega)]; exact h2⟩
theorem Post.extra {ρ0 : Pl} {H0 : AH} {w0 : World} (h : Post base ρ0 H0 w0 ρ H w) (o : Obj) : Post base ρ0 H0 w0 ρ H (w.alloc o) :=
 { h with
   inv := h.inv.alloc o
   frame := fun k hk hn => by rw [RowKit.Below.heap_alloc w o k (Nat.lt_of_lt_of_le hk h.size)]; exact h.frame k hk hn
   size := by rw [World.size_alloc]; have := h.size; omega
   os := h.os
   tape := h.tape
   output := h.output }
theorem Post.adopt {ρ0 : Pl} {H0 : AH} {w0 : World} (h : Post base ρ0 H0 w0 ρ H w) {n : Nat} {us : List AV} {ys : List Value} {t : TypeId} (hys : CRs ρ us ys) (hlt : H.next < 2 ^ 59) (hf : ρ H.next = none) (hh : w.heap[n]? = some (.cells ys.toArray t (0, 0))) (hn : w0.heap.size ≤ n) (hb : base ≤ n)
   (hout : ∀ b x c, H.get b = some x → ρ b ≠ some (n, c)) :
   Post base ρ0 H0 w0 (fun i => if i = H.next then some (n, us.length) else ρ i) (H.add (.cells us t 0)) w := by
 have hle := Pl.le_of_fresh (ρ := ρ) (b := H.next) (n, us.length) hf
 have hI := h.inv
 have hg : ∀ m, (H.add (.cells us t 0)).get m = if m = H.next then some (.cells us t 0) else H.get m := fun m => by
   unfold AH.add AH.get; exact Tr.get_set 60 _ _ _ _ (by omega)
 have hdom : H.get H.next = none := by
   cases e : H.get H.next with
   | none => rfl
   | some y => exact absurd (hI.dom _ _ e) (by omega)
 refine ⟨Pl.le_trans h.le hle, ?_, Nat.le_trans h.nx (by simp [AH.add]), ⟨?_, ?_, ?_, by simp [AH.add]; omega, hI.bs, hI.gl⟩, h.frame, ?_, h.size, h.os, h.tape, h.output⟩
 · intro b hb'
   by_cases e : b = H.next
   · subst e; exact ⟨h.nx, by simp [AH.add]⟩
   · simp only [e, if_false] at hb'
     have := h.fresh b hb'
     exact ⟨this.1, by simp [AH.add]; omega⟩
 · intro b y hy
   rw [hg] at hy
   by_cases e : b = H.next
   · subst e
     simp at hy; subst hy
     exact ⟨n, us.length, by simp, hb, ys, [], hys.mono hle, ⟨(0, 0), by simpa using hh, thawed0 _⟩, by simp [hys.length], fun _ => rfl⟩
   · simp [e] at hy
     obtain ⟨n', c', h1, h2, h3⟩ := hI.blk b y hy
     exact ⟨n', c', hle _ _ h1, h2, h3.mono hle rfl⟩
 · intro b b' y y' n1 c1 c2 hb1 hb2 hr hr'
   rw [hg] at hb1 hb2
   by_cases e : b = H.next <;> by_cases e' : b' = H.next
   · omega
   · simp [e] at hr; simp [e'] at hb2 hr'
     obtain ⟨rfl, rfl⟩ := hr
     exact absurd hr' (hout _ _ _ hb2)
   · simp [e'] at hr'; simp [e] at hb1 hr
     obtain ⟨rfl, rfl⟩ := hr'
     exact absurd hr (hout _ _ _ hb1)
   · simp [e] at hb1 hr; simp [e'] at hb2 hr'
     exact hI.inj b b' y y' n1 c1 c2 hb1 hb2 hr hr'
 · intro b y hy
   rw [hg] at hy
   show b < H.next + 1
   by_cases e : b = H.next
   · omega
   · simp [e] at hy; have := hI.dom b y hy; omega
 · intro b y n1 c1 hy hr
   rw [hg] at hy
   by_cases e : b = H.next
   · simp [e] at hr; exact .inl (by omega)
   · simp [e] at hy hr; exact h.own b y n1 c1 hy hr
theorem Stab.alloc {ρ0 : Pl} {H0 : AH} {x : Option Nat} (h : Stab base ρ0 H0 x w) (o : Obj) : Stab base ρ0 H0 x (w.alloc o) := Inv.alloc h o
def NoWait (ops : Array Oper) (j i : Nat) : Prop := ∀ o, ops[j]? = some o → ∀ e ∈ o.after, Region.binds .any e = true → e.on ≠ i
def wpAnyG (P : Program) (ops : Array Oper) (Q : Exit → Act → World → Prop) (S : Nat → World → Prop) : Nat → Array Bool → Act → World → Prop
 | 0, l, a, w => Region.ready .any ops l = [] ∧ Q .normal a w
 | n + 1, l, a, w => (Region.ready .any ops l = [] → Q .normal a w) ∧
   ∀ j ∈ Region.ready .any ops l, wpOp P ops Q j (fun a' w' => (∀ i, NoWait ops j i → S i w → S i w') ∧ wpAnyG P ops Q S n (l.setIfInBounds j true) a' w') a w
theorem wpAny_of_G {Q : Exit → Act → World → Prop} {S : Nat → World → Prop} : ∀ (n : Nat) (l : Array Bool) (a : Act) (w : World), wpAnyG P ops Q S n l a w → wpAny P .any ops Q n l a w
 | 0, _, _, _, h => h
 | n + 1, _, _, _, h => ⟨h.1, fun j hj => wpOp_mono (fun a' w' k => wpAny_of_G n _ a' w' k.2) (h.2 j hj)⟩
theorem noWait_ready {l : Array Bool} {i j : Nat} (hj : j ∈ Region.ready .any ops l) (hi : l.getD i true = false) : NoWait ops j i := by
 intro o ho e he hb heq
 obtain ⟨_, o', ho', hall⟩ := mem_ready.1 hj
 rw [ho] at ho'; cases ho'
 have h1 := hall e he hb
 rw [heq] at h1
 have hlt := getD_lt hi
 rw [getD_tf hlt true false] at hi
 rw [hi] at h1; cases h1
theorem wpAnyG_first {Q : Exit → Act → World → Prop} {S : Nat → World → Prop} {i : Nat} {oi : Oper} {v : Value} (hi : ops[i]? = some oi) (hsel : ∀ (j : Nat) (o : Oper) cs b, ops[j]? = some o → o.op ≠ .select cs b)
   (hQ : ∀ c a w, Q (.panic c) (a.put oi.dst v) w → Q (.panic c) a w) : ∀ (n : Nat) (l : Array Bool) (a : Act) (w : World),
     (∀ j oj, ops[j]? = some oj → j ≠ i → l.getD j true = false → NoWait ops j i → oi.apart ops oj = true) → i ∈ Region.ready .any ops l → YieldsIf P ops (S i) oi v a → S i w →
     wpAnyG P ops Q S n (l.setIfInBounds i true) (a.put oi.dst v) w → wpAnyG P ops Q S (n + 1) l a w := by
 intro n
 induction n with
 | zero =>
   intro l a w _ hr hy hS h
   refine ⟨fun e => absurd hr (by rw [e]; simp), fun j hj => ?_⟩
   rcases Decidable.em (j = i) with rfl | hne
   · exact hy.wpOp hi hS ⟨fun _ _ k => k, h⟩
   · have := ready_mono hj hne
     rw [h.1] at this; cases this
 | succ n ih =>
   intro l a w hap hr hy hS h
   refine ⟨fun e => absurd hr (by rw [e]; simp), fun j hj => ?_⟩
   rcases Decidable.em (j = i) with rfl | hne
   · exact hy.wpOp hi hS ⟨fun _ _ k => k, h⟩
   · obtain ⟨hju, oj, hoj, _⟩ := mem_ready.1 hj
     have hnw : NoWait ops j i := noWait_ready hj (mem_ready.1 hr).1
     have hj' := h.2 j (ready_mono hj hne)
     have hput := wpOp_putIf hoj (hap j oj hoj hne hju hnw) (fun cs b => hsel i oi cs b hi) (fun cs b => hsel j oj cs b hoj) hQ hy hj'
     refine wpOp_mono (fun a' w' k => ⟨k.2.1, ?_⟩) hput
     refine ih _ a' w' (fun k ok hk hki hku hkw => hap k ok hk hki ?_ hkw) (ready_mono hr (Ne.symm hne)) k.1 (k.2.1 i hnw hS) ?_
     · rcases Decidable.em (j = k) with rfl | hjk
       · exact hju
       · rwa [getD_set_ne true hjk] at hku
     · rw [set_comm]; exact k.2.2
theorem wpAnyG_take {Q : Exit → Act → World → Prop} {S : Nat → World → Prop} {i : Nat} {oi : Oper} {v : Value} {n : Nat} {l : Array Bool} {a : Act} {w : World} (hi : ops[i]? = some oi) (hs : Region.noSelect ops = true) (hf : Region.free .any ops l i = true) (hr : i ∈ Region.ready .any ops l)
   (hQ : ∀ c a w, Q (.panic c) (a.put oi.dst v) w → Q (.panic c) a w) (hy : YieldsIf P ops (S i) oi v a) (hS : S i w) (h : wpAnyG P ops Q S n (l.setIfInBounds i true) (a.put oi.dst v) w) : wpAnyG P ops Q S (n + 1) l a w :=
 wpAnyG_first hi (Region.noSelect_spec hs) hQ n l a w (fun j oj hj hne hu hnw => Region.free_spec hi hf j oj hj hne hu (hnw oj hj)) hr hy hS h
theorem wpAnyG_all {Q : Exit → Act → World → Prop} {S : Nat → World → Prop} {n : Nat} {l : Array Bool} {a : Act} {w : World} (hne : Region.ready .any ops l ≠ [])
   (h : ∀ j ∈ Region.ready .any ops l, wpOp P ops Q j (fun a' w' => (∀ i, NoWait ops j i → S i w → S i w') ∧ wpAnyG P ops Q S n (l.setIfInBounds j true) a' w') a w) : wpAnyG P ops Q S (n + 1) l a w :=
 ⟨fun e => absurd e hne, h⟩
theorem wpAnyG_done {Q : Exit → Act → World → Prop} {S : Nat → World → Prop} {l : Array Bool} {a : Act} {w : World} (hr : Region.ready .any ops l = []) (h : Q .normal a w) : ∀ n, wpAnyG P ops Q S n l a w
 | 0 => ⟨hr, h⟩
 | _ + 1 => ⟨fun _ => h, by rw [hr]; simp⟩
theorem exec_E {o : Oper} (hs : ∀ cs b, o.op ≠ .select cs b) : ∀ (E : List EE) (a : Act), (∀ e ∈ E, ∀ d, e.d = some d → d ∉ o.looksAt ops) → execOp (applyE a E).eval o = execOp a.eval o ∧ Region.wanted o (yielded ops (applyE a E).tmps) = Region.wanted o (yielded ops a.tmps)
 | [], _, _ => ⟨rfl, rfl⟩
 | e :: E, a, h => by
   have h1 := exec_E hs E (a.put e.d e.v) (fun e' he' => h e' (by simp [he']))
   have h2 := h e (by simp)
   show execOp (applyE (a.put e.d e.v) E).eval o = _ ∧ _
   rw [h1.1, execOp_put o hs a e.d e.v h2]
   refine ⟨rfl, ?_⟩
   show Region.wanted o (yielded ops (applyE (a.put e.d e.v) E).tmps) = _
   rw [h1.2, wanted_put o a e.d e.v h2]
structure EOk (P : Program) (ops : Array Oper) (l : Array Bool) (ρ : Pl) (H : AH) (a : Act) (w w0 : World) (e : EE) : Prop where
 op : ∃ o, ops[e.i]? = some o ∧ o.dst = e.d ∧ Region.wanted o (yielded ops a.tmps) = e.b ∧ (e.b = false → e.v = undef) ∧ (e.b = true → ∃ W : World, W.heap.size = e.n ∧ (execOp a.eval o).run P W = .ok (.value e.v) (W.alloc (.cells e.cs e.t)))
 isAlloc : (allocI ops e.i).isSome = true
 un : l.getD e.i true = false
 rdy : ∀ i, (allocI ops i).isNone = true → l.getD i true = false → waitsB ops e.i i = false
 heap : e.b = true → w.heap[e.n]? = some (.cells e.cs e.t (0, 0))
 new : e.b = true → w0.heap.size ≤ e.n
 out : e.b = true → ∀ b x c, H.get b = some x → ρ b ≠ some (e.n, c)
theorem apart_of {l : Array Bool} {i : Nat} {oi : Oper} (hi : ops[i]? = some oi) (h : allocsApart ops l i = true) {k : Nat} {ok : Oper} (hk : ops[k]? = some ok) (ha : (allocI ops k).isSome = true) (hne : k ≠ i) (hu : l.getD k true = false) (hw : (allocI ops i).isNone = true → waitsB ops k i = false) : ok.apart ops oi = true := by
 have hlt : k < ops.size := (Array.getElem?_eq_some_iff.1 hk).1
 have := List.all_eq_true.1 h k (List.mem_range.2 hlt)
 have hw' : ((allocI ops i).isNone && waitsB ops k i) = false := by cases hh : (allocI ops i).isNone <;> simp [hw, hh]
 simp only [ha, hu, hk, hi, hw', Bool.not_true, Bool.false_or, Bool.or_eq_true, beq_iff_eq, hne, false_or, Bool.or_false] at this
 exact this
theorem EOk.apart {l : Array Bool} {a : Act} {w0 : World} {e : EE} (h : EOk P ops l ρ H a w w0 e) {i : Nat} {oi : Oper} (hi : ops[i]? = some oi) (ha : allocsApart ops l i = true) (hne : e.i ≠ i) (hui : l.getD i true = false) :
   (∀ d, e.d = some d → d ∉ oi.looksAt ops) ∧ (∀ d, e.d = some d → oi.dst ≠ some d) ∧ ∀ o, ops[e.i]? = some o → ∀ d, oi.dst = some d → d ∉ o.looksAt ops := by
 obtain ⟨o, h1, h4, _⟩ := h.op
 have := Oper.apart_spec (apart_of hi ha h1 h.isAlloc hne h.un fun hn => h.rdy i hn hui)
 rw [h4] at this
 refine ⟨this.1, this.2.1, fun o' ho' => ?_⟩
 rw [h1] at ho'; cases ho'
 exact this.2.2
theorem EOk.put {l : Array Bool} {a : Act} {w0 : World} {e : EE} (h : EOk P ops l ρ H a w w0 e) (hsel : ∀ (j : Nat) (o : Oper) cs b, ops[j]? = some o → o.op ≠ .select cs b) {d : Option Tmp} (v : Value) (hd : ∀ o, ops[e.i]? = some o → ∀ x, d = some x → x ∉ o.looksAt ops) : EOk P ops l ρ H (a.put d v) w w0 e := by
 refine { h with op := ?_ }
 obtain ⟨o, h1, h2, h5, h6, h7⟩ := h.op
 refine ⟨o, h1, h2, ?_, h6, fun hb => ?_⟩
 · show Region.wanted o (yielded ops (a.put d v).tmps) = _
   rw [wanted_put o a d v (hd o h1)]; exact h5
 · obtain ⟨W, h3, h4⟩ := h7 hb
   exact ⟨W, h3, by rw [execOp_put o (hsel e.i o · · h1) a d v (hd o h1)]; exact h4⟩
theorem wpAny_lay {i : Nat} {o : Oper} {v : Value} {cs : Array Value} {t : TypeId} {a : Act} {Q : Exit → Act → World → Prop} {K : Act → World → Prop} (hi : ops[i]? = some o) (hg : Region.wanted o (yielded ops a.tmps) = true) (h : (execOp a.eval o).run P w = .ok (.value v) (w.alloc (.cells cs t)))
   (hK : K (a.put o.dst v) (w.alloc (.cells cs t))) : wpOp P ops Q i K a w := by
 refine OpOk.wp (R := fun v' w' => v' = v ∧ w' = w.alloc (.cells cs t)) hi (.inr ⟨hg, .inl ⟨_, _, h, rfl, rfl⟩⟩) ?_
 rintro v w' ⟨rfl, rfl⟩
 exact hK
theorem wpAny_lazy {i : Nat} {o : Oper} {a : Act} {Q : Exit → Act → World → Prop} {K : Act → World → Prop} (hi : ops[i]? = some o) (hg : Region.wanted o (yielded ops a.tmps) = false)
   (hK : K (a.put o.dst undef) w) : wpOp P ops Q i K a w := by
 refine OpOk.wp (R := fun v' w' => v' = undef ∧ w' = w) hi (.inl ⟨hg, rfl, rfl⟩) ?_
 rintro v w' ⟨rfl, rfl⟩
 exact hK
theorem laysA_ok {o : Oper} {e : Operand → Value} (he : ∀ x, CR ρ (av T x) (e x)) {k : Option (Nat × Nat)} {cs : List AV} {t : TypeId} (h : laysA P T o = some (k, cs, t)) :
   ∃ ys : List Value, CRs ρ cs ys ∧ ∀ W : World, (execOp e o).run P W = .ok (.value (nvV k W.heap.size)) (W.alloc (.cells ys.toArray t)) := by
 obtain ⟨dst, op, type, pos, after, guard⟩ := o
 unfold laysA at h
 split at h
 · rename_i t' ho
   simp only at ho
   subst ho
   split at h
   · rename_i z hz
     cases h
     refine ⟨_, CRs.vs ρ _, fun W => ?_⟩
     show (do pure (.value (← Instr.alloc t true (.tuple #[]))) : Sem Next).run P W = _
     simp [Instr.alloc, runPure_run hz, newVar, newRow, World.alloc_eq, nvV]
   · cases h
 · rename_i t' l c ho
   simp only at ho
   subst ho
   split at h
   · rename_i ln cn h1 h2
     obtain ⟨k1, h1⟩ := natA_int h1 (he l)
     obtain ⟨k2, h2⟩ := natA_int h2 (he c)
     split at h
     · rename_i el hu
       split at h
       · rename_i i size z hi hs hz
         split at h
         · rename_i hcond
           simp only [Bool.and_eq_true] at hcond
           obtain ⟨⟨b1, b2⟩, b3⟩ := hcond
           have b1 := Nat.le_of_ble_eq_true b1
           have b2 := Nat.le_of_ble_eq_true b2
           have b3 := Nat.le_of_ble_eq_true b3
           cases h
           refine ⟨_, CRs.vs ρ _, fun W => ?_⟩
           show (do pure (.value (← Instr.makeSlice t' (e l) (e c))) : Sem Next).run P W = _
           rw [h1, h2]
           have e1 : IntKind.i64.wrap (ln : Int) = (ln : Int) := IntWalk.i64_in _ (by omega)
           have e2 : IntKind.i64.wrap (cn : Int) = (cn : Int) := IntWalk.i64_in _ (by omega)
           have e3 : ¬ ((cn : Int) < 0) := by omega
           have e4 : ¬ ((i.bytes : Int) * (cn : Int) > 2 ^ 48) := by
             have : ((i.bytes * cn : Nat) : Int) ≤ 2 ^ 48 := by exact_mod_cast b1
             push_cast at this
             omega
           have e5 : ¬ ((ln : Int) < 0) := by omega
           have e6 : ¬ ((ln : Int) > (cn : Int)) := by omega
           simp only [Instr.makeSlice, Sem.run_bind, runPure_run hu, Result.andThen_ok, asInt, asIntOf, Sem.run_pure, runPure_run hi, e1, e2]
           rw [if_neg (by simp [e3, e5, e6]; omega)]
           simp only [Sem.run_bind, Sem.run_pure, Result.andThen_ok, run_askRoom, runPure_run hs, Int.toNat_natCast]
           by_cases h0 : cn * size = 0
           · simp only [h0, if_true, Sem.run_bind, Sem.run_pure, Result.andThen_ok]
             have hr0 : ∀ zero : Array Value, (Array.range 0).map (fun x => zero[x % zero.size]!) = #[] := fun _ => by simp
             rw [hr0]
             simp [newRow, World.alloc_eq, nvV]
           · have har : ∀ (n : Nat) (f : Nat → Value), (List.map f (List.range n)).toArray = Array.map f (Array.range n) := fun n f => by simp [← List.toArray_range]
             have : Nat.beq (cn * size) 0 = false := by cases hb : cn * size with | zero => exact absurd hb h0 | succ n => rfl
             simp [h0, this, runPure_run hz, newRow, World.alloc_eq, nvV, har]
         · cases h
       · cases h
     · cases h
   · cases h
 · rename_i t' len ps ho
   simp only at ho
   subst ho
   have hmap : (ps.map fun (i, x) => (i, e x)).toList = ps.toList.map fun p => (p.1, e p.2) := by simp
   split at h
   · rename_i el hu
     split at h
     · rename_i size z hs hz
       split at h
       · rename_i hc
         have hc1 := Nat.le_of_ble_eq_true hc
         split at h
         · rename_i cs' hfl
           cases h
           obtain ⟨ys, hy, hr⟩ := fillA_ok (ps := ps.toList.map fun p => (p.1, e p.2)) (by simp) (parts_rel he _) (CRs.vs ρ _) hfl
           refine ⟨ys, hy, fun W => ?_⟩
           simp only [Array.toArray_toList] at hr
           show (do pure (.value (← Instr.buildSlice t' len (ps.map fun (i, x) => (i, e x)))) : Sem Next).run P W = _
           by_cases h0 : len * (size + 1) = 0
           · have e0 : (Array.range (len * (size + 1))).map (((#[] : Array Value))[· % (#[] : Array Value).size]!) = (Array.range (len * (size + 1))).map (z.cells[· % z.cells.size]!) := by rw [h0]; apply Array.ext'; simp
             simp only [Instr.buildSlice, Sem.run_bind, runPure_run hu, Result.andThen_ok, runPure_run hs, Sem.run_ite, if_neg (show ¬ (len * (size + 1) > 2 ^ 24) by omega), if_pos h0, Sem.run_pure, hmap, e0, hr]
             simp [newRow, World.alloc_eq, nvV]
           simp only [Instr.buildSlice, Sem.run_bind, runPure_run hu, Result.andThen_ok, runPure_run hs, Sem.run_ite, if_neg (show ¬ (len * (size + 1) > 2 ^ 24) by omega), if_neg h0, Sem.run_pure, runPure_run hz, hmap, hr]
           simp [newRow, World.alloc_eq, nvV]
         · cases h
       · cases h
     · cases h
   · cases h
 · cases h
theorem av_put_ne {d : Option Tmp} {x : AV} {y : Operand} (h : ∀ t, d = some t → y ≠ .tmp t) : av (putA T d x) y = av T y := by
 cases d with
 | none => rfl
 | some t =>
   cases y with
   | tmp t' =>
     have hne : t ≠ t' := fun e => h t rfl (by rw [e])
     simp only [putA, av, lset_eq, lget_eq]
     simp [List.getD, List.getElem?_set_ne hne]
   | _ => rfl
theorem wantedA_put {o : Oper} {d : Option Tmp} {x : AV} (h : ∀ t, d = some t → t ∉ o.looksAt ops) : wantedA o ops (putA T d x) = wantedA o ops T := by
 unfold wantedA
 cases hg : o.guard with
 | none => rfl
 | some g =>
   obtain ⟨j, want⟩ := g
   have e : yieldedA ops (putA T d x) j = yieldedA ops T j := by
     unfold yieldedA
     cases hj : ops[j]? with
     | none => rfl
     | some oj =>
       cases hd : oj.dst with
       | none => simp [hd]
       | some t =>
         have hq : (putA T d x)[t]? = T[t]? := by
           cases d with
           | none => rfl
           | some t' =>
             have hne : t' ≠ t := fun e => h t' rfl (by simp [Oper.looksAt, hg, hj, hd, e])
             simp only [putA, lset_eq]
             rw [List.getElem?_set_ne hne]
         simp [hd, hq]
   simp only [e]
theorem laysA_put {o : Oper} {d : Option Tmp} {x : AV} (h : ∀ t, d = some t → t ∉ o.looksAt ops) : laysA P (putA T d x) o = laysA P T o := by
 obtain ⟨dst, op, type, pos, after, guard⟩ := o
 cases op with
 | makeSlice t l c =>
   have h1 : av (putA T d x) l = av T l := av_put_ne fun t ht e => h t ht (by subst e; simp [Oper.looksAt, Op.operands])
   have h2 : av (putA T d x) c = av T c := av_put_ne fun t ht e => h t ht (by subst e; simp [Oper.looksAt, Op.operands])
   simp only [laysA, h1, h2]
 | buildSlice t l ps =>
   have h1 : (ps.toList.map fun p => (p.1, av (putA T d x) p.2)) = ps.toList.map fun p => (p.1, av T p.2) := List.map_congr_left fun p hp => by
     rw [av_put_ne fun t ht e => h t ht (by
       simp only [Oper.looksAt, Op.operands, List.mem_append, List.mem_filterMap]
       exact .inl ⟨p.2, by simpa using ⟨p.1, by simpa using hp⟩, by rw [e]⟩)]
   simp only [laysA, h1]
 | _ => rfl
end
end Go.Ev
namespace Go.Ev
section
variable {P : Program} {ops : Array Oper} {base : Nat}
theorem newA_some {t : TypeId} {cs : List AV} {H H1 : AH} (h : newA t cs H = some H1) : H.next < 2 ^ 59 ∧ H1 = H.add (.cells cs t 0) := by
 unfold newA at h
 split at h
 · rename_i hlt
   cases h
   exact ⟨Nat.le_of_ble_eq_true hlt, rfl⟩
 · cases h
theorem evDraw_next {F : Fs} {call : CallF} {H0 : AH} : ∀ {π : List Stp} {T : List AV} {H : AH} {T' : List AV} {H' : AH} {L : List (Nat × Option Nat)} {Hs : List (Nat × AH)}, evDraw P F call ops H0 π T H = some (T', H', L, Hs) → H.next ≤ H'.next
 | [], _, _, _, _, _, _, h => by cases h; exact Nat.le_refl _
 | .mob i :: r, T, H, T', H', L, Hs, h => by
   unfold evDraw at h
   split at h
   · cases h
   · split at h
     · exact evDraw_next h
     · split at h
       · cases h
       · split at h
         · cases h
         · rename_i h1; cases h; exact evDraw_next h1
 | .loud i :: r, T, H, T', H', L, Hs, h => by
   unfold evDraw at h
   split at h
   · cases h
   · split at h
     · cases h
     · rename_i h0
       split at h
       · cases h
       · rename_i h1; cases h; exact Nat.le_trans (evOp_next h0) (evDraw_next h1)
 | .alc i :: r, T, H, T', H', L, Hs, h => by
   unfold evDraw at h
   split at h
   · cases h
   · split at h
     · exact evDraw_next h
     · split at h
       · cases h
       · split at h
         · cases h
         · rename_i H1 h0
           obtain ⟨_, rfl⟩ := newA_some h0
           exact Nat.le_trans (by simp [AH.add]) (evDraw_next h)
def Looks (base : Nat) (ρ0 : Pl) (H0 : AH) (L : List (Nat × Option Nat)) (i : Nat) (w : World) : Prop := ∀ o, (i, o) ∈ L → Stab base ρ0 H0 o w
theorem noWaitB {j i : Nat} {o : Oper} (ho : ops[j]? = some o) (h : NoWait ops j i) : waitsB ops j i = false := by
 unfold waitsB
 rw [ho]
 simp only
 rw [Array.any_eq_false']
 intro e he
 have := h o ho e he
 cases hb : Region.binds .any e with
 | false => simp
 | true => simp [this hb]
theorem getD_unset {l : Array Bool} {i k : Nat} (h : (l.setIfInBounds i true).getD k true = false) : i ≠ k ∧ l.getD k true = false := by
 have hik : i ≠ k := fun e => by
   subst e
   have hlt := getD_lt h
   rw [Array.size_setIfInBounds] at hlt
   simp [hlt] at h
 exact ⟨hik, by rwa [getD_set_ne true hik] at h⟩
theorem ahead {F : Fs} {call : CallF} {H0 : AH} {j : Nat} {oj : Oper} (hj : ops[j]? = some oj) (hja : (allocI ops j).isSome = true) : ∀ {π : List Stp} {T : List AV} {H : AH} {res : List AV × AH × List (Nat × Option Nat) × List (Nat × AH)} {l : Array Bool},
   evDraw P F call ops H0 π T H = some res → planOk ops l π = true → l.getD j true = false → (∀ i, (allocI ops i).isNone = true → l.getD i true = false → waitsB ops j i = false) → wantedA oj ops T = true → ∃ k cs t, laysA P T oj = some (k, cs, t)
 | [], T, H, res, l, _, hp, hu, hf, _ => by
   simp only [planOk, Bool.and_eq_true] at hp
   have := List.all_eq_true.1 hp.2 j (List.mem_range.2 (Array.getElem?_eq_some_iff.1 hj).1)
   rw [hu] at this; cases this
 | .mob i :: r, T, H, res, l, h, hp, hu, hf, hw => by
   simp only [planOk, Bool.and_eq_true] at hp
   obtain ⟨⟨⟨⟨p1, p2⟩, p3⟩, p4⟩, p5⟩ := hp
   have hne : j ≠ i := fun e => by subst e; cases hh : allocI ops j <;> simp [hh] at hja p4
   have hu' : (l.setIfInBounds i true).getD j true = false := by rw [getD_set_ne true (Ne.symm hne)]; exact hu
   have hf' : ∀ k, (allocI ops k).isNone = true → (l.setIfInBounds i true).getD k true = false → waitsB ops j k = false := fun k h1 h2 => hf k h1 (getD_unset h2).2
   have hui : l.getD i true = false := (mem_ready.1 (by simpa using p1)).1
   unfold evDraw at h
   split at h
   · cases h
   · rename_i o ho
     have hap := (Oper.apart_spec (apart_of ho p3 hj hja hne hu fun hn => hf i hn hui)).2.2
     split at h
     · obtain ⟨k, cs, t, hk⟩ := ahead hj hja h p5 hu' hf' (by rw [wantedA_put hap]; exact hw)
       exact ⟨k, cs, t, by rwa [laysA_put hap] at hk⟩
     · split at h
       · cases h
       · split at h
         · cases h
         · rename_i h1
           obtain ⟨k, cs, t, hk⟩ := ahead hj hja h1 p5 hu' hf' (by rw [wantedA_put hap]; exact hw)
           exact ⟨k, cs, t, by rwa [laysA_put hap] at hk⟩
 | .loud i :: r, T, H, res, l, h, hp, hu, hf, hw => by
   simp only [planOk, Bool.and_eq_true] at hp
   obtain ⟨⟨⟨⟨p1, p2⟩, p3⟩, p4⟩, p5⟩ := hp
   have hne : j ≠ i := fun e => by subst e; cases hh : allocI ops j <;> simp [hh] at hja p4
   have hu' : (l.setIfInBounds i true).getD j true = false := by rw [getD_set_ne true (Ne.symm hne)]; exact hu
   have hf' : ∀ k, (allocI ops k).isNone = true → (l.setIfInBounds i true).getD k true = false → waitsB ops j k = false := fun k h1 h2 => hf k h1 (getD_unset h2).2
   have hui : l.getD i true = false := (mem_ready.1 (by simpa using p1)).1
   unfold evDraw at h
   split at h
   · cases h
   · rename_i o ho
     have hap := (Oper.apart_spec (apart_of ho p3 hj hja hne hu fun hn => hf i hn hui)).2.2
     split at h
     · cases h
     · split at h
       · cases h
       · rename_i h1
         obtain ⟨k, cs, t, hk⟩ := ahead hj hja h1 p5 hu' hf' (by rw [wantedA_put hap]; exact hw)
         exact ⟨k, cs, t, by rwa [laysA_put hap] at hk⟩
 | .alc i :: r, T, H, res, l, h, hp, hu, hf, hw => by
   simp only [planOk, Bool.and_eq_true] at hp
   obtain ⟨⟨⟨⟨p1, p2⟩, p3⟩, p4⟩, p5⟩ := hp
   unfold evDraw at h
   split at h
   · cases h
   · rename_i o ho
     by_cases hne : j = i
     · subst hne
       rw [hj] at ho; cases ho
       rw [hw] at h
       simp only at h
       split at h
       · cases h
       · rename_i k cs t hk
         exact ⟨_, _, _, hk⟩
     · have hu' : (l.setIfInBounds i true).getD j true = false := by rw [getD_set_ne true (Ne.symm hne)]; exact hu
       have hf' : ∀ k, (allocI ops k).isNone = true → (l.setIfInBounds i true).getD k true = false → waitsB ops j k = false := fun k h1 h2 => hf k h1 (getD_unset h2).2
       have hui : l.getD i true = false := (mem_ready.1 (by simpa using p1)).1
       have hap := (Oper.apart_spec (apart_of ho p3 hj hja hne hu fun hn => hf i hn hui)).2.2
       split at h
       · obtain ⟨k, cs, t, hk⟩ := ahead hj hja h p5 hu' hf' (by rw [wantedA_put hap]; exact hw)
         exact ⟨k, cs, t, by rwa [laysA_put hap] at hk⟩
       · split at h
         · cases h
         · split at h
           · cases h
           · obtain ⟨k, cs, t, hk⟩ := ahead hj hja h p5 hu' hf' (by rw [wantedA_put hap]; exact hw)
             exact ⟨k, cs, t, by rwa [laysA_put hap] at hk⟩
theorem alloc_cells_inj {w : World} {cs cs' : Array Value} {t t' : TypeId} (h : w.alloc (.cells cs t) = w.alloc (.cells cs' t')) : cs = cs' ∧ t = t' := by
 have h1 : (w.heap.push (.cells cs t))[w.heap.size]? = (w.heap.push (.cells cs' t'))[w.heap.size]? := congrArg (fun W => W.heap[w.heap.size]?) h
 simp at h1
 exact h1
theorem pairApart_spec (h : pairApart ops = true) {i j : Nat} {oi oj : Oper} (hi : ops[i]? = some oi) (hj : ops[j]? = some oj) (hai : (allocI ops i).isSome = true) (haj : (allocI ops j).isSome = true) (hne : j ≠ i) : oj.apart ops oi = true := by
 have hlt := (Array.getElem?_eq_some_iff.1 hi).1
 have := List.all_eq_true.1 h i (List.mem_range.2 hlt)
 have hn : (allocI ops i).isNone = false := by cases hh : allocI ops i <;> simp [hh] at hai ⊢
 simp only [hn, Bool.false_or] at this
 exact apart_of hi this hj haj hne (by simp [(Array.getElem?_eq_some_iff.1 hj).1]) (fun h => by rw [hn] at h; cases h)
theorem draw_sim {ds : List Deferred} {F : Fs} (hF : FsOk P F) {call : CallF} (hc : CallOk P call) (hsel : Region.noSelect ops = true) (hZ : pairApart ops = true) {R : Act → World → Prop} {Tf : List AV} {Hf : AH} {Lall : List (Nat × Option Nat)} {H0 : AH} {ρ0 : Pl} {w0 : World}
   (hI0 : Inv base ρ0 H0 w0) (hR : ∀ ρ' a' w', CRs ρ' Tf a'.tmps.toList → a'.defers = ds → Post base ρ0 H0 w0 ρ' Hf w' → R a' w') :
   ∀ (m : Nat) (π : List Stp) (fuel : Nat), π.length + fuel ≤ m → ∀ (T : List AV) (H : AH) (L : List (Nat × Option Nat)) (Hs : List (Nat × AH)), evDraw P F call ops H0 π T H = some (Tf, Hf, L, Hs) → (∀ b ∈ L, b ∈ Lall) →
     (∀ q ∈ Hs, keptB ops H0 Lall q.1 q.2 = true) → ∀ (l : Array Bool), l.size = ops.size → planOk ops l π = true →
     ∀ (E : List EE) (a : Act) (ρ : Pl) (w : World), CRs ρ T a.tmps.toList → a.defers = ds → Post base ρ0 H0 w0 ρ H w → Free ρ H.next Hf.next → (∀ i, l.getD i true = false → Looks base ρ0 H0 Lall i w) →
     (∀ e ∈ E, EOk P ops l ρ H a w w0 e) → E.Pairwise (fun x y => x.i ≠ y.i ∧ (x.b = true → y.b = true → x.n ≠ y.n)) → cnt ops.size (setE l E) ≤ fuel →
     wpAnyG P ops (fun x a w => match x with | .normal => R a w | _ => False) (Looks base ρ0 H0 Lall) fuel (setE l E) (applyE a E) w := by
 intro m
 induction m using Nat.strongRecOn with
 | _ m ih =>
 intro π fuel hm T H L Hs hev hL hHs l hl hplan E a ρ w hT hd hp hfree hS hE hpw hcnt
 have hd39 : ∀ b x, H0.get b = some x → b < 2 ^ 59 := fun b x h => Nat.lt_of_lt_of_le (hI0.dom b x h) hI0.nx
 have hEa : ∀ {skip : Nat}, (∀ e ∈ E, e.i ≠ skip) → ∀ e ∈ E, (allocI ops e.i).isSome = true ∧ e.i ≠ skip := fun hs e he => ⟨(hE e he).isAlloc, hs e he⟩
 -- an alloc comes up early
 have early : ∀ {i fuel'}, fuel = fuel' + 1 → i ∈ Region.ready .any ops (setE l E) → (allocI ops i).isSome = true →
     wpOp P ops (fun x a w => match x with | .normal => R a w | _ => False) i (fun a' w' => (∀ k, NoWait ops i k → Looks base ρ0 H0 Lall k w → Looks base ρ0 H0 Lall k w') ∧ wpAnyG P ops (fun x a w => match x with | .normal => R a w | _ => False) (Looks base ρ0 H0 Lall) fuel' ((setE l E).setIfInBounds i true) a' w') (applyE a E) w := by
   intro i fuel' hfu hi hia
   obtain ⟨h1, o, ho, hrdy⟩ := mem_ready.1 hi
   have hlt : i < l.size := by have := getD_lt h1; rwa [setE_size] at this
   have hun := h1
   rw [setE_getD E l i true hlt] at hun
   simp only [Bool.or_eq_false_iff] at hun
   have hfr : ∀ x, (allocI ops x).isNone = true → l.getD x true = false → waitsB ops i x = false := fun x hx hux => by
     unfold waitsB
     rw [ho]
     simp only
     rw [Array.any_eq_false']
     intro ed hed
     by_cases hb : Region.binds .any ed = true
     · by_cases hx' : ed.on = x
       · exfalso
         have h2 := hrdy ed hed hb
         rw [hx'] at h2
         have hltx : x < l.size := getD_lt hux
         rw [setE_getD E l x false hltx, getD_tf hltx false true, hux, Bool.false_or, List.any_eq_true] at h2
         obtain ⟨e, he, hex⟩ := h2
         have := (hE e he).isAlloc
         rw [show e.i = x by simpa using hex] at this
         cases hh : allocI ops x <;> simp [hh] at hx this
       · simp [hx']
     · simp [hb]
   have hEi : ∀ e ∈ E, e.i ≠ i := fun e he hei => by
     have := hun.2
     rw [List.any_eq_false] at this
     exact this e he (by simp [hei])
   have hexx := exec_E (ops := ops) (Region.noSelect_spec hsel i o · · ho) E a (fun e he => by
     obtain ⟨oe, q1, q2, _⟩ := (hE e he).op
     have := Oper.apart_spec (pairApart_spec hZ ho q1 hia (hE e he).isAlloc (hEi e he))
     rw [q2] at this; exact this.1)
   have hex := hexx.1
   have hwt : Region.wanted o (yielded ops (applyE a E).tmps) = wantedA o ops T := by rw [hexx.2, wanted_av o ops hT]
   have hElt : ∀ e ∈ E, e.b = true → e.n < w.heap.size := fun e he hb => by
     have := (hE e he).heap hb
     rcases Nat.lt_or_ge e.n w.heap.size with h' | h'
     · exact h'
     · rw [Array.getElem?_eq_none h'] at this; cases this
   cases hwv : wantedA o ops T with
   | false =>
     refine wpAny_lazy ho (hwt.trans hwv) ⟨fun k _ hk => hk, ?_⟩
     rw [← setE_append l E ⟨i, o.dst, 0, 0, undef, #[], false⟩, show (applyE a E).put o.dst undef = applyE a (E ++ [⟨i, o.dst, 0, 0, undef, #[], false⟩]) from (applyE_append a E ⟨i, o.dst, 0, 0, undef, #[], false⟩).symm]
     refine ih (π.length + fuel') (by omega) π fuel' (Nat.le_refl _) T H L Hs hev hL hHs l hl hplan _ a ρ _ hT hd hp hfree hS ?_ ?_ ?_
     · intro e he
       rcases List.mem_append.1 he with he | he
       · exact hE e he
       · simp only [List.mem_singleton] at he
         subst he
         exact ⟨⟨o, ho, rfl, by rw [wanted_av o ops hT]; exact hwv, fun _ => rfl, fun h => by cases h⟩, hia, hun.1, hfr, (fun h => by cases h), (fun h => by cases h), (fun h => by cases h)⟩
     · refine List.pairwise_append.2 ⟨hpw, by simp, fun x hx y hy => ?_⟩
       simp only [List.mem_singleton] at hy
       subst hy
       exact ⟨hEi x hx, fun _ h => by cases h⟩
     · rw [setE_append]
       have := cnt_set (n := ops.size) (by omega) h1
       show cnt ops.size ((setE l E).setIfInBounds i true) ≤ fuel'
       omega
   | true =>
     obtain ⟨k, cs, t, hk⟩ := ahead ho hia hev hplan hun.1 hfr hwv
     obtain ⟨ys, hys, hrunA⟩ := laysA_ok (eval_av hT) hk
     have hrun := hrunA w
     refine wpAny_lay ho (hwt.trans hwv) (by rw [hex]; exact hrun) ⟨fun k _ hk o ho => (hk o ho).alloc _, ?_⟩
     rw [← setE_append l E ⟨i, o.dst, t, w.heap.size, nvV k w.heap.size, ys.toArray, true⟩, show (applyE a E).put o.dst (nvV k w.heap.size) = applyE a (E ++ [⟨i, o.dst, t, w.heap.size, nvV k w.heap.size, ys.toArray, true⟩]) from (applyE_append a E ⟨i, o.dst, t, w.heap.size, nvV k w.heap.size, ys.toArray, true⟩).symm]
     have hold : ∀ k, k < w.heap.size → (w.alloc (.cells ys.toArray t)).heap[k]? = w.heap[k]? := fun k hk => RowKit.Below.heap_alloc w _ k hk
     refine ih (π.length + fuel') (by omega) π fuel' (Nat.le_refl _) T H L Hs hev hL hHs l hl hplan _ a ρ _ hT hd (hp.extra _) hfree (fun k hk o ho => (hS k hk o ho).alloc _) ?_ ?_ ?_
     · intro e he
       rcases List.mem_append.1 he with he | he
       · have := hE e he
         exact { this with heap := fun hb => by rw [hold _ (hElt e he hb)]; exact this.heap hb }
       · simp only [List.mem_singleton] at he
         subst he
         refine ⟨⟨o, ho, rfl, by rw [wanted_av o ops hT]; exact hwv, (fun h => by cases h), fun _ => ⟨w, rfl, hrun⟩⟩, hia, hun.1, hfr, fun _ => ?_, fun _ => hp.size, fun _ b x c hb hr => ?_⟩
         · show (w.heap.push _)[w.heap.size]? = _; simp
         · obtain ⟨n', c', k1, _, k3⟩ := hp.inv.blk b x hb
           rw [hr] at k1; cases k1
           exact absurd k3.lt (Nat.lt_irrefl _)
     · refine List.pairwise_append.2 ⟨hpw, by simp, fun x hx y hy => ?_⟩
       simp only [List.mem_singleton] at hy
       subst hy
       exact ⟨hEi x hx, fun hb _ => by have := hElt x hx hb; show x.n ≠ w.heap.size; omega⟩
     · rw [setE_append]
       have := cnt_set (n := ops.size) (by omega) h1
       show cnt ops.size ((setE l E).setIfInBounds i true) ≤ fuel'
       omega
 cases π with
 | nil =>
   cases hev
   simp only [planOk, Bool.and_eq_true, List.isEmpty_iff] at hplan
   cases E with
   | nil => exact wpAnyG_done hplan.1 (hR ρ a w hT hd hp) fuel
   | cons e E =>
     exfalso
     have h0 := hE e (by simp)
     obtain ⟨o, h1, _⟩ := h0.op
     have := List.all_eq_true.1 hplan.2 e.i (List.mem_range.2 (Array.getElem?_eq_some_iff.1 h1).1)
     rw [h0.un] at this; cases this
 | cons s π =>
   cases s with
   | mob i =>
     simp only [planOk, Bool.and_eq_true] at hplan
     obtain ⟨⟨⟨⟨p1, p2⟩, p3⟩, p4⟩, p5⟩ := hplan
     unfold evDraw at hev
     split at hev
     · cases hev
     · rename_i o ho
       have hEi : ∀ e ∈ E, e.i ≠ i := fun e he hei => by
         have := (hE e he).isAlloc
         rw [hei] at this
         cases hh : allocI ops i with
         | none => rw [hh] at this; cases this
         | some t => rw [hh] at p4; cases p4
       have hri : i ∈ Region.ready .any ops l := by simpa using p1
       have hready := ready_keep hEi hri
       have hun : (setE l E).getD i true = false := (mem_ready.1 hready).1
       have hlt : i < ops.size := (Array.getElem?_eq_some_iff.1 ho).1
       have hcs := cnt_set (n := ops.size) hlt hun
       obtain ⟨fuel', hfu⟩ : ∃ f, fuel = f + 1 := ⟨fuel - 1, by omega⟩
       have hap := fun e he => (hE e he).apart ho p3 (hEi e he) (mem_ready.1 hri).1
       have hex := exec_E (ops := ops) (Region.noSelect_spec hsel i o · · ho) E a (fun e he => (hap e he).1)
       have hnext : ∀ (r : AV) (v : Value), CR ρ r v → ∀ (L' : List (Nat × Option Nat)), evDraw P F call ops H0 π (putA T o.dst r) H = some (Tf, Hf, L', Hs) → (∀ b ∈ L', b ∈ Lall) →
           wpAnyG P ops (fun x a w => match x with | .normal => R a w | _ => False) (Looks base ρ0 H0 Lall) fuel' ((setE l E).setIfInBounds i true) ((applyE a E).put o.dst v) w := by
         intro r v hv L' hev' hL'
         rw [← setE_set, ← applyE_put E a o.dst v (fun e he x hx => (hap e he).2.1 x hx)]
         refine ih (π.length + fuel') (by simp only [List.length_cons] at hm; omega) π fuel' (Nat.le_refl _) _ H L' Hs hev' hL' hHs _ (by simpa using hl) p5 E _ ρ w (put_av hT hv _) (by rw [put_defers]; exact hd) hp hfree (fun k hk => hS k (getD_unset hk).2) ?_ hpw ?_
         · intro e he
           have := (hE e he).put (Region.noSelect_spec hsel) v (hap e he).2.2
           exact { this with un := (by rw [getD_set_ne true (Ne.symm (hEi e he))]; exact this.un), rdy := fun k h1 h2 => this.rdy k h1 (getD_unset h2).2 }
         · rw [setE_set]; omega
       subst hfu
       have hfr := free_keep hl E p2
       have hwt : Region.wanted o (yielded ops (applyE a E).tmps) = wantedA o ops T := by rw [hex.2, wanted_av o ops hT]
       split at hev
       · rename_i hw
         refine wpAnyG_take (v := undef) ho hsel hfr hready (fun _ _ _ h => h.elim) (.inr ⟨by rw [hwt]; exact hw, rfl⟩) (hS i (mem_ready.1 hri).1) ?_
         exact hnext (.v undef) undef (.v _) L hev hL
       · rename_i hw
         split at hev
         · cases hev
         · rename_i r hmob
           split at hev
           · cases hev
           · rename_i T' H' L' Hs' hev'
             cases hev
             have hL1 : (i, rdA T o) ∈ Lall := hL _ (by simp)
             have hL2 : ∀ b ∈ L', b ∈ Lall := fun b hb => hL b (by simp [hb])
             have hmo : ∀ w', Looks base ρ0 H0 Lall i w' → OkS P ρ w' (execOp (applyE a E).eval o) r := fun w' hS' => by
               rw [hex.1]
               exact mob_ok (Inv.pl (hS' (rdA T o) hL1) hp.le) (eval_av hT) hmob
             have hSi := hS i (mem_ready.1 hri).1
             obtain ⟨v, hv, hrun⟩ := hmo w hSi
             refine wpAnyG_take (v := v) ho hsel hfr hready (fun _ _ _ h => h.elim) (.inl ⟨by rw [hwt]; exact hw, fun w' hS' => ?_⟩) hSi ?_
             · obtain ⟨v', hv', hrun'⟩ := hmo w' hS'
               rw [CR.det hv hv']; exact hrun'
             · exact hnext r v hv L' hev' hL2
   | loud i =>
     simp only [planOk, Bool.and_eq_true] at hplan
     obtain ⟨⟨⟨⟨p1, p2⟩, p3⟩, p4⟩, p5⟩ := hplan
     unfold evDraw at hev
     split at hev
     · cases hev
     · rename_i o ho
       have hEi : ∀ e ∈ E, e.i ≠ i := fun e he hei => by
         have := (hE e he).isAlloc
         rw [hei] at this
         cases hh : allocI ops i with
         | none => rw [hh] at this; cases this
         | some t => rw [hh] at p4; cases p4
       have hri : i ∈ Region.ready .any ops l := by simpa using p1
       have hready := ready_keep hEi hri
       have hun : (setE l E).getD i true = false := (mem_ready.1 hready).1
       have hlt : i < ops.size := (Array.getElem?_eq_some_iff.1 ho).1
       have hcs := cnt_set (n := ops.size) hlt hun
       obtain ⟨fuel', hfu⟩ : ∃ f, fuel = f + 1 := ⟨fuel - 1, by omega⟩
       have hap := fun e he => (hE e he).apart ho p3 (hEi e he) (mem_ready.1 hri).1
       have hex := exec_E (ops := ops) (Region.noSelect_spec hsel i o · · ho) E a (fun e he => (hap e he).1)
       split at hev
       · cases hev
       · rename_i r H1 hop
         split at hev
         · cases hev
         · rename_i T' H' L' Hs' hev'
           cases hev
           have hn1 := evDraw_next hev'
           have hok := evOp_ok hF hc (ops := ops) hp.inv (hfree.mono (Nat.le_refl _) hn1) hT hop
           have hok' := OpOk.same hex.1 hex.2 hok
           have hne : Region.ready .any ops (setE l E) ≠ [] := fun e => by rw [e] at hready; cases hready
           have hElt : ∀ e ∈ E, e.b = true → e.n < w.heap.size := fun e he hb => by
             have := (hE e he).heap hb
             rcases Nat.lt_or_ge e.n w.heap.size with h' | h'
             · exact h'
             · rw [Array.getElem?_eq_none h'] at this; cases this
           rw [hfu]
           refine wpAnyG_all hne fun j hj => ?_
           by_cases hja : (allocI ops j).isSome = true
           · exact early hfu hj hja
           · have hjn : (allocI ops j).isNone = true := by cases hh : allocI ops j <;> simp_all
             have hszI : ∀ e ∈ E, e.i ≠ ops.size := fun e he => by
               obtain ⟨o', h1, _⟩ := (hE e he).op
               have := (Array.getElem?_eq_some_iff.1 h1).1
               omega
             have := ready_early hl (hEa hszI) hj (.inl hjn)
             have p2' : Region.ready .any ops (withAllocs ops ops.size l) = [i] := by simpa using p2
             rw [p2'] at this
             simp only [List.mem_singleton] at this
             subst this
             refine hok'.wp ho ?_
             rintro v w' ⟨ρ', hv, hpo⟩
             have hkept := hHs (j, H1) (by simp)
             have hS' : ∀ k, NoWait ops j k → Looks base ρ0 H0 Lall k w → Looks base ρ0 H0 Lall k w' := fun k hk hl' x hx => by
               refine Stab.step hd39 hp.le (hl' x hx) hp.inv hpo (fun b hb => ?_)
               subst hb
               have := List.all_eq_true.1 hkept (k, some b) hx
               simp only [noWaitB ho hk, Bool.false_or] at this
               exact this
             refine ⟨hS', ?_⟩
             rw [← setE_set, ← applyE_put E a o.dst v (fun e he x hx => (hap e he).2.1 x hx)]
             refine ih (π.length + fuel') (by simp only [List.length_cons] at hm; omega) π fuel' (Nat.le_refl _) _ H1 _ _ hev' hL (fun q hq => hHs q (by simp [hq])) _ (by simpa using hl) p5 E _ ρ' w' (put_av (hT.mono hpo.le) hv _) (by rw [put_defers]; exact hd) (hp.trans hpo) (hfree.after hpo) (fun k hk => ?_) ?_ hpw ?_
             · have hku : l.getD k true = false := (getD_unset hk).2
               exact hS' k (noWait_ready hri hku) (hS k hku)
             · intro e he
               have h0 := (hE e he).put (Region.noSelect_spec hsel) v (hap e he).2.2
               refine { h0 with un := (by rw [getD_set_ne true (Ne.symm (hEi e he))]; exact h0.un), rdy := fun k h1 h2 => h0.rdy k h1 (getD_unset h2).2, heap := ?_, out := ?_ }
               · intro hbb
                 rw [hpo.frame e.n (hElt e he hbb) (fun b x n c hb hr hn => by subst hn; exact h0.out hbb b x c hb hr)]
                 exact h0.heap hbb
               · intro hbb b x c hb hr
                 rcases hpo.own b x e.n c hb hr with h' | ⟨b0, x0, c0, q1, q2⟩
                 · have := hElt e he hbb; omega
                 · exact h0.out hbb b0 x0 c0 q1 q2
             · rw [setE_set]; omega
   | alc i =>
     simp only [planOk, Bool.and_eq_true] at hplan
     obtain ⟨⟨⟨⟨p1, p2⟩, p3⟩, p4⟩, p5⟩ := hplan
     have hev0 := hev
     unfold evDraw at hev
     split at hev
     · cases hev
     · rename_i o ho
       have hri : i ∈ Region.ready .any ops l := by simpa using p1
       by_cases hin : ∃ e ∈ E, e.i = i
       · -- it has come up
         obtain ⟨e, he, hei⟩ := hin
         obtain ⟨E1, E2, rfl⟩ := List.append_of_mem he
         have h0 := hE e he
         obtain ⟨o', q1, q4, qw, q5, q6⟩ := h0.op
         rw [hei, ho] at q1; cases q1
         rw [wanted_av o ops hT] at qw
         have hpw' := List.pairwise_append.1 hpw
         have hpw2 := List.pairwise_cons.1 hpw'.2.1
         have hmid : ∀ e' ∈ E1 ++ E2, e'.i ≠ i ∧ (e'.b = true → e.b = true → e'.n ≠ e.n) := fun e' he' => by
           rcases List.mem_append.1 he' with h' | h'
           · have := hpw'.2.2 e' h' e (by simp); rw [hei] at this; exact this
           · have := hpw2.1 e' h'; rw [hei] at this; exact ⟨Ne.symm this.1, fun h1 h2 => Ne.symm (this.2 h2 h1)⟩
         have hap : ∀ e' ∈ E1 ++ E2, (∀ x, e'.d = some x → e.d ≠ some x) := fun e' he' x hx => by
           have hm' : e' ∈ E1 ++ e :: E2 := by
             rcases List.mem_append.1 he' with h' | h'
             · exact List.mem_append_left _ h'
             · exact List.mem_append_right _ (by simp [h'])
           have := ((hE e' hm').apart ho p3 (hmid e' he').1 (mem_ready.1 hri).1).2.1 x hx
           rw [q4] at this; exact this
         rw [setE_mid, hei, applyE_mid a E1 E2 e (fun e' he' => hap e' (List.mem_append_left _ he'))]
         split at hev
         · rename_i hw
           rw [hw] at qw
           have hv := q5 qw.symm
           refine ih (π.length + fuel) (by simp only [List.length_cons] at hm; omega) π fuel (Nat.le_refl _) _ _ L Hs hev hL hHs _ (by simpa using hl) p5 (E1 ++ E2) _ ρ w ?_ (by rw [put_defers]; exact hd) hp hfree (fun k hk => hS k (getD_unset hk).2) ?_ ?_ ?_
           · rw [← q4, hv]
             exact put_av hT (.v _) _
           · intro e' he'
             have hm' : e' ∈ E1 ++ e :: E2 := by
               rcases List.mem_append.1 he' with h' | h'
               · exact List.mem_append_left _ h'
               · exact List.mem_append_right _ (by simp [h'])
             have h1 := (hE e' hm').put (Region.noSelect_spec hsel) (d := e.d) e.v (by rw [← q4]; exact ((hE e' hm').apart ho p3 (hmid e' he').1 (mem_ready.1 hri).1).2.2)
             exact { h1 with un := (by rw [getD_set_ne true (Ne.symm (hmid e' he').1)]; exact h1.un), rdy := fun k h1' h2' => h1.rdy k h1' (getD_unset h2').2 }
           · refine List.pairwise_append.2 ⟨hpw'.1, hpw2.2, fun x hx y hy => hpw'.2.2 x hx y (by simp [hy])⟩
           · rw [setE_mid, hei] at hcnt; exact hcnt
         · rename_i hw
           rw [hw] at qw
           have hbt := qw.symm
           split at hev
           · cases hev
           · rename_i k cs t hk
             split at hev
             · cases hev
             · rename_i H1 hnew
               obtain ⟨hlt39, rfl⟩ := newA_some hnew
               obtain ⟨W1, q5, q6⟩ := q6 hbt
               obtain ⟨ys, hys, hrunA⟩ := laysA_ok (eval_av hT) hk
               rw [hrunA W1] at q6
               obtain ⟨hvv, hcc⟩ : nvV k W1.heap.size = e.v ∧ W1.alloc (.cells ys.toArray t) = W1.alloc (.cells e.cs e.t) := by
                 injection q6 with q6 q7
                 injection q6 with q6
                 exact ⟨q6, q7⟩
               obtain ⟨hcs, htt⟩ := alloc_cells_inj hcc
               rw [q5] at hvv
               have hh := h0.heap hbt
               rw [← hcs, ← htt] at hh
               have hb : base ≤ e.n := Nat.le_trans hI0.bs (h0.new hbt)
               have hfn : ρ H.next = none := hfree _ (Nat.le_refl _) (by have := evDraw_next hev; simp [AH.add] at this; omega)
               have hpa := hp.adopt (us := cs) (t := t) hys hlt39 hfn hh (h0.new hbt) hb (h0.out hbt)
               have hle := Pl.le_of_fresh (ρ := ρ) (b := H.next) (e.n, cs.length) hfn
               refine ih (π.length + fuel) (by simp only [List.length_cons] at hm; omega) π fuel (Nat.le_refl _) _ _ L Hs hev hL hHs _ (by simpa using hl) p5 (E1 ++ E2) _ _ w ?_ (by rw [put_defers]; exact hd) hpa ?_ (fun k hk => hS k (getD_unset hk).2) ?_ ?_ ?_
               · rw [← q4]
                 rw [← hvv]
                 refine put_av (hT.mono hle) ?_ _
                 cases k with
                 | none => exact CR.ptr (c := cs.length) (by simp)
                 | some lc => exact CR.slc (c := cs.length) (by simp)
               · intro k hk1 hk2
                 have : k ≠ H.next := by simp [AH.add] at hk1; omega
                 simp only [this, if_false]
                 exact hfree k (by simp [AH.add] at hk1; omega) hk2
               · intro e' he'
                 have hm' : e' ∈ E1 ++ e :: E2 := by
                   rcases List.mem_append.1 he' with h' | h'
                   · exact List.mem_append_left _ h'
                   · exact List.mem_append_right _ (by simp [h'])
                 have h1 := (hE e' hm').put (Region.noSelect_spec hsel) (d := e.d) e.v (by rw [← q4]; exact ((hE e' hm').apart ho p3 (hmid e' he').1 (mem_ready.1 hri).1).2.2)
                 refine { h1 with un := (by rw [getD_set_ne true (Ne.symm (hmid e' he').1)]; exact h1.un), rdy := fun k h1' h2' => h1.rdy k h1' (getD_unset h2').2, out := ?_ }
                 intro hbb b x c hb' hr
                 have hg : ∀ m, (H.add (.cells cs t 0)).get m = if m = H.next then some (.cells cs t 0) else H.get m := fun m => by
                   unfold AH.add AH.get; exact Tr.get_set 60 _ _ _ _ (by omega)
                 rw [hg] at hb'
                 by_cases eb : b = H.next
                 · simp [eb] at hr
                   exact (hmid e' he').2 hbb hbt hr.1.symm
                 · simp [eb] at hb' hr
                   exact h1.out hbb b x c hb' hr
               · refine List.pairwise_append.2 ⟨hpw'.1, hpw2.2, fun x hx y hy => hpw'.2.2 x hx y (by simp [hy])⟩
               · rw [setE_mid, hei] at hcnt; exact hcnt
       · -- some alloc comes up
         have hEi : ∀ e ∈ E, e.i ≠ i := fun e he hei => hin ⟨e, he, hei⟩
         have hready := ready_keep hEi hri
         have hun : (setE l E).getD i true = false := (mem_ready.1 hready).1
         have hlt : i < ops.size := (Array.getElem?_eq_some_iff.1 ho).1
         have hcs := cnt_set (n := ops.size) hlt hun
         obtain ⟨fuel', hfu⟩ : ∃ f, fuel = f + 1 := ⟨fuel - 1, by omega⟩
         have hne : Region.ready .any ops (setE l E) ≠ [] := fun e => by rw [e] at hready; cases hready
         rw [hfu]
         refine wpAnyG_all hne fun j hj => ?_
         by_cases hja : (allocI ops j).isSome = true
         · exact early hfu hj hja
         · have hjn : (allocI ops j).isNone = true := by cases hh : allocI ops j <;> simp_all
           have := ready_early hl (hEa hEi) hj (.inl hjn)
           have p2' : Region.ready .any ops (withAllocs ops i l) = [i] := by simpa using p2
           rw [p2'] at this
           simp only [List.mem_singleton] at this
           subst this
           cases hh : allocI ops j <;> simp [hh] at p4 hjn
end
end Go.Ev
