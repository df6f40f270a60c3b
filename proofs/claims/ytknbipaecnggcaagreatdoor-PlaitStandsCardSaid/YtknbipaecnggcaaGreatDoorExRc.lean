/- Part of an evaluator of calls that is proved sound, and of what it gives about this program. No condition of its own. -/
import Derived.Test.YtknbipaecnggcaaGreatDoorExRa
set_option linter.unusedVariables false
set_option linter.unusedSimpArgs false
set_option linter.unusedSectionVars false
set_option maxRecDepth 100000
set_option maxHeartbeats 4000000
namespace Go.Ev
open Go.Proofs
section
variable {E : Env} {T : List AV} {H : AH} {ops : Array Oper} {o : Oper} {K : AV → AH → Prop}
def Mv (es : List MapEntry) (f : Int → Option Bool) : Prop :=
 (∀ e ∈ es, ∃ (k : Int) (v : Bool), e.key = .int .i64 k ∧ e.val = .bool v) ∧ ∀ k : Int, f k = (es.find? (isK k)).bind fun e => match e.val with | .bool v => some v | _ => none
theorem Mv.nil : Mv [] fun _ => none := ⟨fun e h => by simp at h, fun _ => rfl⟩
theorem findNow_mv {es : List MapEntry} {f : Int → Option Bool} (h : Mv es f) (k : Int) (n : Nat) :
   Instr.findNow (.int .i64) (.int .i64 k) es n = some (match es.findIdx? (isK k) with | some i => some (n + i, (es[i]?.map (·.val)).getD undef) | none => none) := by
 replace h := h.1
 induction es generalizing n with
 | nil => rfl
 | cons e es ih =>
   obtain ⟨k', v', h1, h2⟩ := h e (by simp)
   have ih := ih (n + 1) (fun e he => h e (List.mem_cons_of_mem _ he))
   unfold Instr.findNow
   rw [h1]
   simp only [Instr.sameNow, if_true]
   by_cases hk : k = k'
   · subst hk
     simp [List.findIdx?_cons, isK_of h1]
   · have hb : (k == k') = false := by simpa using hk
     have hd : isK k e = false := isK_not h1 (Ne.symm hk)
     simp only [hb]
     rw [ih]
     simp only [List.findIdx?_cons, hd, Bool.false_eq_true, if_false]
     cases es.findIdx? (isK k) with
     | none => rfl
     | some i => simp [Nat.add_comm, Nat.add_left_comm]
theorem findKey_mv {P : Program} {t : TypeId} {es : List MapEntry} {f : Int → Option Bool} (h : Mv es f) (k : Int) (hu : runPure P (underlying t) = some (.int .i64)) :
   runPure P (Instr.findKey t (.int .i64 k) es) = some (match es.findIdx? (isK k) with | some i => some (i, (es[i]?.map (·.val)).getD undef) | none => none) := by
 unfold Instr.findKey
 rw [runPure_bind, hu]
 simp only [Option.bind_some, findNow_mv h k 0, Nat.zero_add]
 rw [runPure_pure]
theorem wop_putV {t kt et : TypeId} {x k v : Operand} {b : Nat} {es : List MapEntry} {cl : Nat} {f : Int → Option Bool} {z : Int} {n : Bool} (ho : o.op = .mapUpdate t x k v) (hg : wantedA o ops T = true) (hu : runPure E.P (underlying t) = some (.map kt et)) (hkt : runPure E.P (underlying kt) = some (.int .i64))
   (hx : av T x = .mp b) (hi : av T k = .v (.int .i64 z)) (hv : av T v = .v (.bool n)) (hm : H.get b = some (.map es cl)) (hf : Mv es f) (hk : ∀ es' cl', Mv es' (fun y => if y = z then some n else f y) → K (.v undef) (H.set b (some (.map es' cl')))) : WOp E ops o T H K := by
 have hfz := hf.2 z
 cases hidx : es.findIdx? (isK z) with
 | none =>
   refine wop_val (by rw [ho]; rfl) hg (r := .v undef) (H' := H.set b (some (.map (es ++ [{ key := .int .i64 z, val := .bool n, born := cl }]) (cl + 1)))) ?_ (Nat.le_refl _) (hk _ _ ⟨fun e he => ?_, fun y => ?_⟩)
   · unfold opEval; rw [ho]
     simp only [oMapUpdate, hx, hi, hv, AV.plain, mapUpdateA, hu, hm, check_int _ _ hkt, findKey_mv hf z hkt, hidx]
   · rcases List.mem_append.1 he with he | he
     · exact hf.1 e he
     · rw [List.mem_singleton] at he; subst he; exact ⟨z, n, rfl, rfl⟩
   · show (if y = z then some n else f y) = _
     by_cases hy : y = z
     · subst hy
       rw [if_pos rfl, List.find?_append, idx_find.1 hidx]
       simp [isK]
     · rw [if_neg hy, hf.2 y, List.find?_append]
       have : isK y { key := .int .i64 z, val := .bool n, born := cl } = false := isK_not rfl (Ne.symm hy)
       cases es.find? (isK y) with
       | some e => rfl
       | none => simp [this]
 | some i =>
   obtain ⟨e, h1, h2, hpe⟩ := idx_find.2 i hidx
   have hpe := isK_iff.1 hpe
   refine wop_val (by rw [ho]; rfl) hg (r := .v undef) (H' := H.set b (some (.map (es.modify i fun e => { e with key := .int .i64 z, val := .bool n }) cl))) ?_ (Nat.le_refl _) (hk _ _ ⟨fun e he => ?_, fun y => ?_⟩)
   · unfold opEval; rw [ho]
     have h3 : runPure E.P (Instr.keyThatStays (((es.toArray[i]?).map (·.key)).getD (.int .i64 z)) (.int .i64 z)) = some (.int .i64 z) := by
       have : es.toArray[i]? = some e := by simpa using h1
       rw [this]
       simp only [Option.map_some, Option.getD_some, hpe]
       unfold Instr.keyThatStays
       simp [Instr.sameBits, runPure_pure]
     simp only [oMapUpdate, hx, hi, hv, AV.plain, mapUpdateA, hu, hm, check_int _ _ hkt, findKey_mv hf z hkt, hidx, h3]
   · obtain ⟨j, hj⟩ := List.mem_iff_getElem?.1 he
     rw [List.getElem?_modify] at hj
     by_cases hij : i = j
     · subst hij
       rw [h1] at hj
       simp at hj
       subst hj
       exact ⟨z, n, rfl, rfl⟩
     · simp [hij] at hj
       exact hf.1 e (List.mem_of_getElem? hj)
   · have key : ∀ (es : List MapEntry) (i : Nat), es.findIdx? (isK z) = some i → (es.modify i fun e => { e with key := .int .i64 z, val := .bool n }).find? (isK y) = if y = z then (es[i]?.map fun e => { e with key := .int .i64 z, val := .bool n }) else es.find? (isK y) := by
       intro es
       induction es with
       | nil => intro i h; simp at h
       | cons a es ih =>
         intro i h
         by_cases ha : isK z a = true
         · simp [List.findIdx?_cons, ha] at h
           subst h
           by_cases hy : y = z
           · subst hy; simp [List.modify, isK]
           · have e1 : isK y a = false := isK_not (isK_iff.1 ha) (Ne.symm hy)
             have e2 : isK y { a with key := .int .i64 z, val := .bool n } = false := isK_not rfl (Ne.symm hy)
             simp [hy, e1, e2]
         · simp [List.findIdx?_cons, ha] at h
           obtain ⟨j, hj, rfl⟩ := h
           have := ih j hj
           by_cases hy : y = z
           · subst hy
             simp only [if_true] at this
             simp [ha, this]
           · rw [if_neg hy] at this
             simp only [List.modify_succ_cons, List.find?_cons, this, if_neg hy]
     show (if y = z then some n else f y) = _
     rw [key es i hidx]
     by_cases hy : y = z
     · subst hy; simp [h1]
     · rw [if_neg hy, if_neg hy, hf.2 y]
end
theorem mebeq_mv {es : List MapEntry} {f : Int → Option Bool} (h : Mv es f) : mebeq es es = true := by
 replace h := h.1
 induction es with
 | nil => rfl
 | cons e es ih =>
   obtain ⟨k, v, h1, h2⟩ := h e (by simp)
   simp only [mebeq, h1, h2, ih fun e he => h e (List.mem_cons_of_mem _ he)]
   simp [vbeq]
theorem lk_map {H : AH} {b : Nat} {es : List MapEntry} {cl : Nat} {f : Int → Option Bool} (hb : b < H.next) (hm : H.get b = some (.map es cl)) (h : Mv es f) : Lk H b := by
 refine ⟨hb, ?_⟩
 rw [hm]
 simp [sameBlk, mebeq_mv h]
theorem k_lookupV {O : CallF} {T : List AV} {H H0 : AH} {ops : Array Oper} {o : Oper} {i : Nat} {π : List Stp} {K : List AV → AH → Prop} {t kt et : TypeId} {x k : Operand} {b : Nat} {es : List MapEntry} {cl : Nat} {f : Int → Option Bool} {z : Int} (h1 : ops.toList[i]? = some o) (ho : o.op = .lookup t x k false) (hg : wantedA o ops T = true) (hu : runPure Tryz.prog (underlying t) = some (.map kt et)) (hkt : runPure Tryz.prog (underlying kt) = some (.int .i64)) (hz : runPure Tryz.prog (zeroValue et) = some (.bool false))
   (hx : av T x = .mp b) (hi : av T k = .v (.int .i64 z)) (hb39 : b < 2 ^ 39) (hbn : b < H0.next) (hm : H0.get b = some (.map es cl)) (hf : Mv es f) (hk : WK (ENV O) ops H0 π (putA T o.dst (.v (.bool ((f z).getD false)))) H K) : WK (ENV O) ops H0 (.mob i :: π) T H K := by
 refine k_mob h1 hg (r := .v (.bool ((f z).getD false))) ?_ (fun c hc => ?_) hk
 · unfold mobEval rdA
   rw [ho]
   simp only [hx, hi, AV.plain]
   have hs : (sing H0 (some b)).get b = some (.map es cl) := by
     unfold sing
     simp only [hm]
     rw [AH.get_set _ _ _ _ hb39, if_pos rfl]
   have hl : lookupA (ENV O).P t b (.int .i64 z) false (sing H0 (some b)) = some (.val (.v (.bool ((f z).getD false))) (sing H0 (some b))) := by
     simp only [ENV, lookupA, hu, hs, check_int _ _ hkt, findKey_mv hf z hkt]
     have hfz := hf.2 z
     cases hidx : es.findIdx? (isK z) with
     | none =>
       rw [idx_find.1 hidx] at hfz
       simp only [hz, hfz]
       rfl
     | some i =>
       obtain ⟨e, h1, h2, _⟩ := idx_find.2 i hidx
       obtain ⟨k', v', h3, h4⟩ := hf.1 e (List.mem_of_getElem? h1)
       rw [h2] at hfz
       simp only [Option.bind_some, h4] at hfz
       simp only [h1, Option.map_some, Option.getD_some, h4, hfz, Bool.false_eq_true, if_false]
   rw [hl]
 · unfold rdA at hc
   rw [ho] at hc
   simp only [hx] at hc
   cases hc
   exact lk_map hbn hm hf
section
variable {E : Env} {T : List AV} {H H0 : AH} {ops : Array Oper} {o : Oper} {i : Nat} {π : List Stp} {K : List AV → AH → Prop}
theorem k_not {t : TypeId} {x : Operand} {b : Bool} (h1 : ops.toList[i]? = some o) (ho : o.op = .unOp .not t x) (hg : wantedA o ops T = true) (hx : av T x = .v (.bool b)) (hk : WK E ops H0 π (putA T o.dst (.v (.bool (!b)))) H K) : WK E ops H0 (.mob i :: π) T H K := by
 refine k_mob h1 hg ?_ (fun b hb => by rw [rdA_none (by unfold looksB; rw [ho])] at hb; cases hb) hk
 unfold mobEval
 rw [ho]
 simp only
 unfold plainVal
 have h2 : runPure E.P (execOp (fun x => ((av T x).plain).getD undef) o) = some (.value (.bool (!b))) := by
   obtain ⟨dst, op', type, pos, after, guard⟩ := o
   simp only at ho
   subst ho
   simp only [execOp, hx, AV.plain, Option.getD_some, Op.unary, runPure_bind, runPure_pure, Option.bind_some]
 rw [h2, ho]
 simp [Op.operands, hx, AV.plain]
end
theorem o_build2 {O : CallF} {T : List AV} {H : AH} {ops : Array Oper} {o : Oper} {K : AV → AH → Prop} {t e : TypeId} {x y : Operand} {z0 : Value} (ho : o.op = .buildSlice t 2 #[(0, x), (1, y)]) (hg : wantedA o ops T = true) [hu : TyS t e] [hs : Cell e] [hz : Zero e z0] (h1 : (av T x).one = true) (h2 : (av T y).one = true) (hr : H.next < 2 ^ 39)
   (hk : K (.slc H.next 0 2 2) (H.add (.cells [av T x, av T y] e 0))) : WOp (ENV O) ops o T H K := by
 refine wop_val (by rw [ho]; rfl) hg (r := .slc H.next 0 2 2) (H' := H.add (.cells [av T x, av T y] e 0)) ?_ (Nat.le_succ _) hk
 have hlt : Nat.blt H.next (2 ^ 39) = true := Nat.ble_eq_true_of_le hr
 unfold opEval; rw [ho]
 simp only [ENV, buildSliceA, hu.u, hs.s, hz.z, hz.c]
 rw [if_pos (by decide)]
 simp [fillA, cells_one h1, cells_one h2, wr, newA, hlt]
 rw [List.drop_eq_nil_of_le (by simp)]
theorem o_build3 {O : CallF} {T : List AV} {H : AH} {ops : Array Oper} {o : Oper} {K : AV → AH → Prop} {t e : TypeId} {x y w : Operand} {z0 : Value} (ho : o.op = .buildSlice t 3 #[(0, x), (1, y), (2, w)]) (hg : wantedA o ops T = true) [hu : TyS t e] [hs : Cell e] [hz : Zero e z0] (h1 : (av T x).one = true) (h2 : (av T y).one = true) (h3 : (av T w).one = true) (hr : H.next < 2 ^ 39)
   (hk : K (.slc H.next 0 3 3) (H.add (.cells [av T x, av T y, av T w] e 0))) : WOp (ENV O) ops o T H K := by
 refine wop_val (by rw [ho]; rfl) hg (r := .slc H.next 0 3 3) (H' := H.add (.cells [av T x, av T y, av T w] e 0)) ?_ (Nat.le_succ _) hk
 have hlt : Nat.blt H.next (2 ^ 39) = true := Nat.ble_eq_true_of_le hr
 unfold opEval; rw [ho]
 simp only [ENV, buildSliceA, hu.u, hs.s, hz.z, hz.c]
 rw [if_pos (by decide)]
 simp [fillA, cells_one h1, cells_one h2, cells_one h3, wr, newA, hlt]
 rw [List.drop_eq_nil_of_le (by simp)]
theorem u127 : runPure Tryz.prog (underlying 127) = some (.map 3 4) := by kernel_rfl
theorem u3 : runPure Tryz.prog (underlying 3) = some (.int .i64) := by kernel_rfl
theorem z4 : runPure Tryz.prog (zeroValue 4) = some (.bool false) := by kernel_rfl
def stE : List Int → List Int → Int
 | _, [] => 0
 | seen, z :: l => if inB z 0 64 = false then 3 else if z ≠ 0 ∧ z ∈ seen then 9 else stE (z :: seen) l
def chkE (l : List Int) : Int := firstNZ [if decide ((4 : Int) ≤ (l.length : Int)) = true then 0 else 2, if decide ((l.length : Int) ≤ 64) = true then 0 else 5, stE [] l]
def seenF (l : List Int) : Int → Option Bool := fun y => if y ∈ l then some (decide (y ≠ 0)) else none
theorem seenF_cons (z : Int) (l : List Int) : seenF (z :: l) = fun y => if y = z then some (decide (z ≠ 0)) else seenF l y := by
 funext y
 unfold seenF
 by_cases h : y = z
 · subst h; simp
 · rw [if_neg h]; simp [h]
theorem seenF_get (z : Int) (l : List Int) : (seenF l z).getD false = decide (z ≠ 0 ∧ z ∈ l) := by
 unfold seenF
 by_cases h : z ∈ l
 · rw [if_pos h]; simp [h]
 · rw [if_neg h]; simp [h]
theorem stE_step (z : Int) (seen l : List Int) : (firstNZ [if inB z 0 64 = true then 0 else 3, if (!(seenF seen z).getD false) = true then 0 else 9] ≠ 0 → stE seen (z :: l) = firstNZ [if inB z 0 64 = true then 0 else 3, if (!(seenF seen z).getD false) = true then 0 else 9]) ∧
   (firstNZ [if inB z 0 64 = true then 0 else 3, if (!(seenF seen z).getD false) = true then 0 else 9] = 0 → stE seen (z :: l) = stE (z :: seen) l) := by
 rw [seenF_get, stE]
 cases inB z 0 64 with
 | false => simp [firstNZ]
 | true =>
   by_cases h : z ≠ 0 ∧ z ∈ seen
   · simp [firstNZ, h]
   · simp [firstNZ, h]
variable {O : CallF} (hq : Quiet O)
include hq
theorem c84 (H H0 : AH) (z : Int) (fb mb : Nat) (es : List MapEntry) (cl : Nat) (f : Int → Option Bool) (hfb : H.get fb = some (.cells [.mp mb] 127 0)) (hmb : H.get mb = some (.map es cl)) (hlf : fb < H.next) (hlm : mb < H.next) (hm0 : H0.next ≤ mb) (hne : fb ≠ mb) (hk0 : Keeps H0 H) (hf : Mv es f) (hr : H.next + 10 < 2 ^ 39) (K : AV → AH → Prop)
   (hk : ∀ H' es' cl', Keeps H0 H' → H'.next = H.next + 1 → H'.get fb = some (.cells [.mp mb] 127 0) → H'.get mb = some (.map es' cl') → Mv es' (fun y => if y = z then some (decide (z ≠ 0)) else f y) → K (iv (firstNZ [if inB z 0 64 = true then 0 else 3, if (!(f z).getD false) = true then 0 else 9])) H') : Ca (ENV O) 84 [iv z, .ptr fb 0] H K := by
 refine ca_intro (hq _ _ _ rfl) (fn := Tryz.f84) (by rfl) rfl ?_
 have hp : At H (.ptr fb 0) (.mp mb) := at_ptr (by omega) hfb rfl
 have hL : ∀ b, (AV.ptr fb 0).own = some b → Lk H b := fun b hb => by
   cases hb
   exact ⟨hlf, by rw [hfb]; simp [sameBlk, beqs, AV.beq]⟩
 repeat (first | apply qN | refine qM rfl rfl ?_ | apply qR | apply qS)
 refine Wp.mono (Q := fun x' T' M' H' => x' = .normal ∧ M' = [] ∧ Keeps H H' ∧ H'.next = H.next + 1 ∧ ∃ (Y : List AV), T' = (iv z :: .ptr fb 0 :: lget Y 0 :: lget Y 1 :: iv (firstNZ [if inB z 0 64 = true then 0 else 3, if (!(f z).getD false) = true then 0 else 9]) :: lget Y 2 :: lget Y 3 :: lget Y 4 :: lget Y 5 :: lget Y 6 :: lget Y 7 :: lget Y 8 :: lget Y 9 :: lget Y 10 :: lget Y 11 :: lget Y 12 :: lget Y 13 :: lget Y 14 :: lget Y 15 :: [])) (wp_drawK rfl ?_) ?_
 · repeat (first | refine k_move rfl rfl rfl ?_ | refine k_load rfl rfl rfl ‹_› ‹_› ?_)
   refine k_lookupV rfl rfl rfl u127 u3 z4 rfl rfl (by omega) hlm hmb hf ?_
   refine k_not rfl rfl rfl rfl ?_
   skip
   refine k_call rfl rfl rfl (fun b h => by cases h) (wop_callF rfl rfl rfl (fn := Tryz.f85) (by rfl) ?_)
   refine cRange hq H z 0 64 _ ⟨Nat.le_refl _, Keeps.refl _, ?_⟩
   refine k_call rfl rfl rfl (fun b h => by cases h) (wop_callF rfl rfl rfl (fn := Tryz.f82) (by rfl) ?_)
   refine cThat hq H _ 9 _ ⟨Nat.le_refl _, Keeps.refl _, ?_⟩
   have r2 : H.next < 2 ^ 39 := by omega
   generalize (if inB z 0 64 = true then (0 : Int) else 3) = w1
   generalize (if (!(f z).getD false) = true then (0 : Int) else 9) = w2
   refine k_loud rfl rfl (o_build2 rfl rfl rfl rfl r2 ⟨(Keeps.refl H).add _ r2, ?_⟩)
   refine k_call rfl rfl rfl (fun b h => by cases h) (wop_callF rfl rfl rfl (fn := Tryz.f81) (by rfl) ?_)
   refine cFirst hq _ _ [w1, w2] (sl_new (cs := ivs [w1, w2]) r2 2) (by show 2 ≤ 1000; decide) _ ⟨Nat.le_refl _, (Keeps.refl H).add _ r2, ?_⟩
   repeat (first | refine k_nil ?_ | refine k_assign rfl rfl rfl ?_)
   exact ⟨rfl, rfl, (Keeps.refl H).add _ r2, rfl, [_,_,_,_,_,_,_,_,_,_,_,_,_,_,_,_], rfl⟩
 rintro x' T' M' H1 ⟨rfl, rfl, k1, n1, Y, rfl⟩
 show Wp _ _ _ _ _ _ _ _
 generalize firstNZ [if inB z 0 64 = true then 0 else 3, if (!(f z).getD false) = true then 0 else 9] = w at hk ⊢
 have g1f := (k1.get fb hlf).trans hfb
 have g1m := (k1.get mb hlm).trans hmb
 have hp1 : At H1 (.ptr fb 0) (.mp mb) := at_ptr (by omega) g1f rfl
 repeat (first | refine qM rfl rfl ?_ | refine zq6 rfl rfl ‹_› ?_ | apply qR | apply qS)
 refine wops_cons (wop_bin (op := .neq) (v := .bool (decide (z ≠ 0))) rfl rfl rfl rfl (by
     show some (Value.bool (z != 0)) = some (Value.bool (decide (z ≠ 0)))
     by_cases hz : z = 0 <;> simp [hz]) ?_)
 have hb39 : mb < 2 ^ 39 := by omega
 refine wops_cons (wop_putV (E := ENV O) rfl rfl u127 u3 rfl rfl rfl g1m hf fun es' cl' hf' => ?_)
 repeat (first | apply qN | refine qM rfl rfl ?_ | apply qR | apply qS)
 refine wp_ret ?_
 refine ⟨_, _, rfl, hk _ es' cl' ?_ n1 ?_ (get_set_eq hb39) hf'⟩
 · exact (hk0.trans k1).set _ hm0 hb39
 · rw [get_set_ne hb39 hne]; exact g1f
theorem c83 (H : AH) (y : AV) (l : List Int) (fb mb : Nat) (hy : Sl H y (ivs l)) (hoy : ∀ b, y.own = some b → b < mb) (hfb : H.get fb = some (.cells [.mp mb] 127 0)) (hmb : H.get mb = some (.map [] 0)) (hlf : fb < H.next) (hlm : mb < H.next) (hne : fb ≠ mb) (hl : l.length ≤ 1000) (hr : H.next + l.length + 20 < 2 ^ 39) (H0 : AH) (hm0 : H0.next ≤ mb) (hk0 : Keeps H0 H) (hyo : Old H0 y) (K : AV → AH → Prop)
   (hk : ∀ H', Keeps H0 H' → H.next ≤ H'.next → H'.next ≤ H.next + l.length → K (iv (stE [] l)) H') : Ca (ENV O) 83 [y, .fn (.func 84) [] [.ptr fb 0]] H K := by
 refine ca_intro (hq _ _ _ rfl) (fn := Tryz.f83) (by rfl) rfl ?_
 have hy0 : ∀ {H'}, Keeps H0 H' → Keeps H0 H → Sl H' y (ivs l) := fun {H'} k _ => hy.frame (k.gl.trans hk0.gl.symm) fun b hb => (k.get b (hyo b hb)).trans (hk0.get b (hyo b hb)).symm
 repeat (first | apply qN | refine qM rfl rfl ?_ | refine zq5 rfl rfl rfl rfl rfl ‹_› ?_ | apply qR | apply qS | apply qB)
 refine wp_loop (fun q T M H' => ∃ (i : Nat) (es : List MapEntry) (cl : Nat) (Y : List AV), q = l.length - i ∧ i ≤ l.length ∧ Keeps H0 H' ∧ H'.next = H.next + i ∧ H'.get fb = some (.cells [.mp mb] 127 0) ∧ H'.get mb = some (.map es cl) ∧ Mv es (seenF (l.take i).reverse) ∧ stE [] l = stE (l.take i).reverse (l.drop i) ∧ M = [] ∧ T = (lget Y 0 :: .fn (.func 84) [] [.ptr fb 0] :: lget Y 1 :: lget Y 2 :: lget Y 3 :: lget Y 4 :: lget Y 5 :: lget Y 6 :: y :: iv (l.length : Nat) :: iv (i : Nat) :: lget Y 7 :: lget Y 8 :: lget Y 9 :: lget Y 10 :: lget Y 11 :: lget Y 12 :: lget Y 13 :: lget Y 14 :: lget Y 15 :: lget Y 16 :: [])) l.length
   ⟨0, [], 0, [_,_,_,_,_,_,_,_,_,_,_,_,_,_,_,_,_], rfl, Nat.zero_le _, hk0, rfl, hfb, hmb, Mv.nil, rfl, rfl, rfl⟩ ?_
 rintro q T M H1 ⟨i, es, cl, Y, hq1, hi, k1, n1, g1f, g1m, hf, hst, rfl, rfl⟩
 have hy1 := hy0 k1 hk0
 repeat (first | apply qR | apply qS)
 refine wops_cons (wop_cmp rfl rfl rfl rfl rfl (fun h => ?_) (fun h => ?_))
 rotate_left
 · have h : ¬ ((i : Int) < (l.length : Nat)) := of_decide_eq_false h
   have e : i = l.length := by omega
   subst e
   rw [List.drop_length] at hst
   have hst : stE [] l = 0 := hst
   rw [hst] at hk
   repeat (first | apply qN | refine qM rfl rfl ?_ | refine qF rfl ?_ | apply qR | apply qS | apply qE)
   refine wp_ret ?_
   exact ⟨_, _, rfl, hk H1 k1 (by omega) (by omega)⟩
 have hi' : i < l.length := by have h : (i : Int) < (l.length : Nat) := of_decide_eq_true h; omega
 clear h
 obtain ⟨z, hz⟩ := l_some hi'
 have htk : (l.take (i + 1)).reverse = z :: (l.take i).reverse := by rw [List.take_add_one, hz]; simp
 have hst2 := stE_step z (l.take i).reverse (l.drop (i + 1))
 rw [← drop_cons hz] at hst2
 repeat (first | apply qN | refine qT rfl ?_ | apply qR | apply qS | apply qK | apply qB)
 refine wops_cons (o_indexI rfl rfl hy1 rfl hz fun pp hpp => ?_)
 repeat (first | apply qN | refine qM rfl rfl ?_ | refine zq6 rfl rfl ‹_› ?_ | apply qR | apply qS)
 refine wops_cons (wop_callFn rfl rfl rfl rfl (by rfl) ?_)
 refine c84 hq H1 H0 z fb mb es cl _ g1f g1m (by omega) (by omega) hm0 hne k1 hf (by omega) _ fun H2 es' cl' k2 n2 g2f g2m hf2 => ⟨by omega, ?_⟩
 generalize hw : firstNZ [if inB z 0 64 = true then 0 else 3, if (!(seenF (l.take i).reverse z).getD false) = true then 0 else 9] = w at hst2 ⊢
 repeat (first | apply qN | refine qM rfl rfl ?_ | apply qR | apply qS)
 by_cases hw0 : w = 0
 · refine wops_cons (wop_bin (op := .neq) (v := .bool false) rfl rfl rfl rfl (by simp [binI, hw0]) ?_)
   repeat (first | apply qN | refine qM rfl rfl ?_ | refine zq4 rfl rfl rfl rfl (inc (by omega)) ?_ | refine qF rfl ?_ | apply qR | apply qK)
   refine ⟨l.length - (i + 1), by omega, i + 1, es', cl', [_,_,_,_,_,_,_,_,_,_,_,_,_,_,_,_,_], rfl, by omega, k2, by omega, g2f, g2m, ?_, ?_, rfl, rfl⟩
   · rw [htk, seenF_cons]; exact hf2
   · rw [htk, hst]; exact hst2.2 hw0
 · refine wops_cons (wop_bin (op := .neq) (v := .bool true) rfl rfl rfl rfl (by simp [binI, hw0]) ?_)
   rw [hst, hst2.1 hw0] at hk
   repeat (first | apply qN | refine qM rfl rfl ?_ | refine qT rfl ?_ | apply qR | apply qS)
   refine wp_ret ?_
   exact ⟨_, _, rfl, hk H2 k2 (by omega) (by omega)⟩
theorem cChk (H : AH) (y : AV) (l : List Int) (hy : Sl H y (ivs l)) (hoy : Old H y) (hl : l.length ≤ 1000) (hr : H.next + 2000 < 2 ^ 39) (K : AV → AH → Prop)
   (hk : ∀ H', Keeps H H' → H'.next ≤ H.next + 3 + l.length → K (iv (chkE l)) H') : Ca (ENV O) 17 [y] H K := by
 refine ca_intro (hq _ _ _ rfl) (fn := Tryz.f17) (by rfl) rfl ?_
 repeat (first | apply qN | refine qM rfl rfl ?_ | apply qR | apply qS)
 have r0 : H.next < 2 ^ 39 := by omega
 refine wops_cons (wop_makeMap rfl rfl r0 ?_)
 have r1 : (H.add (.map [] 0)).next < 2 ^ 39 := by show H.next + 1 < _; omega
 refine wops_cons (o_alloc rfl rfl r1 ?_)
 refine wops_cons (o_store rfl rfl rfl (get_add_eq r1) (Nat.succ_pos _) rfl ?_)
 refine WOps.mem (fun H3 => Keeps H H3 ∧ H3.next = H.next + 2 ∧ H3.get H.next = some (.map [] 0) ∧ H3.get (H.next + 1) = some (.cells [.mp H.next] 127 0)) ⟨?_, rfl, ?_, get_set_eq r1⟩ ?_
 · exact (((Keeps.refl H).add _ r0).add _ r1).set _ (Nat.le_succ _) r1
 · rw [get_set_ne r1 (by show H.next ≠ H.next + 1; omega), get_add_ne r1 (by show H.next ≠ H.next + 1; omega), get_add_eq r0]
 rintro H3 ⟨k3, n3, g3m, g3f⟩
 have hy3 := hy.keep hoy k3
 show WOps _ _ _ _ _ _
 repeat (first | apply qN | refine qM rfl rfl ?_ | refine zq5 rfl rfl rfl rfl rfl ‹_› ?_ | apply qR | apply qS)
 refine wops_cons (wop_bin (op := .geq) (v := .bool (decide ((4 : Int) ≤ (l.length : Int)))) rfl rfl rfl rfl rfl ?_)
 refine wops_cons (wop_callF rfl rfl rfl (fn := Tryz.f82) (by rfl) ?_)
 refine cThat hq H3 _ 2 _ ⟨Nat.le_refl _, ?_⟩
 repeat (first | refine qM rfl rfl ?_ | refine zq5 rfl rfl rfl rfl rfl ‹_› ?_)
 refine wops_cons (wop_bin (op := .leq) (v := .bool (decide ((l.length : Int) ≤ 64))) rfl rfl rfl rfl rfl ?_)
 refine wops_cons (wop_callF rfl rfl rfl (fn := Tryz.f82) (by rfl) ?_)
 refine cThat hq H3 _ 5 _ ⟨Nat.le_refl _, ?_⟩
 repeat (first | refine qM rfl rfl ?_)
 refine wops_cons (wop_makeFunc rfl rfl ?_)
 refine wops_cons (wop_callF rfl rfl rfl (fn := Tryz.f83) (by rfl) ?_)
 refine c83 hq H3 y l (H.next + 1) H.next hy3 (fun b hb => hoy b hb) g3f g3m (by omega) (by omega) (by omega) hl (by omega) H (Nat.le_refl _) k3 hoy _ fun H4 k4 n4 n4' => ⟨n4, ?_⟩
 unfold chkE at hk
 generalize (if decide ((4 : Int) ≤ (l.length : Int)) = true then (0 : Int) else 2) = w1 at hk ⊢
 generalize (if decide ((l.length : Int) ≤ 64) = true then (0 : Int) else 5) = w2 at hk ⊢
 generalize stE [] l = w3 at hk ⊢
 have r4 : H4.next < 2 ^ 39 := by omega
 refine wops_cons (o_build3 rfl rfl rfl rfl rfl r4 ?_)
 refine WOps.mem (fun H5 => Keeps H H5 ∧ H5.next = H4.next + 1 ∧ Sl H5 (.slc H4.next 0 3 3) (ivs [w1, w2, w3])) ⟨k4.add _ r4, rfl, sl_new (cs := ivs [w1, w2, w3]) r4 3⟩ ?_
 rintro H5 ⟨k5, n5, hs5⟩
 refine wops_cons (wop_callF rfl rfl rfl (fn := Tryz.f81) (by rfl) ?_)
 refine cFirst hq H5 _ _ hs5 (by show 3 ≤ 1000; decide) _ ⟨Nat.le_refl _, ?_⟩
 clear hs5
 repeat (first | apply qN | refine qM rfl rfl ?_)
 refine wp_ret ?_
 exact ⟨_, _, rfl, hk H5 k5 (by omega)⟩
end Go.Ev
namespace Go.Ev
open Go.Proofs
instance : TyS 213 26 := ⟨by kernel_rfl⟩
instance : Cell 174 := ⟨by kernel_rfl, by kernel_rfl⟩
instance : Zero 174 .nilFunc := ⟨by kernel_rfl, rfl, by kernel_rfl, by kernel_rfl⟩
def refE (l : List Int) (a b : Int) : Int :=
 if (0 ≤ a ∧ a < (l.length : Int)) ∧ (0 ≤ b ∧ b < (l.length : Int)) then (if l.getD a.toNat 0 = 0 then 2 else if l.getD b.toNat 0 ≠ 0 then 3 else 0) else 1
theorem inSlot {l : List Int} {a : Int} (h : 0 ≤ a ∧ a < (l.length : Int)) : ∃ i : Nat, a = (i : Int) ∧ i < l.length ∧ l[i]? = some (l.getD a.toNat 0) := by
 obtain ⟨i, rfl⟩ := Int.eq_ofNat_of_zero_le h.1
 have hi : i < l.length := by omega
 refine ⟨i, rfl, hi, ?_⟩
 rw [Int.toNat_natCast, List.getD_eq_getElem?_getD, List.getElem?_eq_getElem hi]
 rfl
variable {O : CallF} (hq : Quiet O)
include hq
theorem c130 (H : AH) (z : Int) (lb : Nat) (y : AV) (l : List Int) (hlb : lb < 2 ^ 39) (hg : H.get lb = some (.cells [y] 22 0)) (hy : Sl H y (ivs l)) (K : AV → AH → Prop) (hk : K (.v (.bool (decide (0 ≤ z ∧ z < (l.length : Int))))) H) : Ca (ENV O) 130 [iv z, .ptr lb 0] H K := by
 refine ca_intro (hq _ _ _ rfl) (fn := Tryz.f130) (by rfl) rfl ?_
 have hp : At H (.ptr lb 0) y := at_ptr hlb hg rfl
 repeat (first | apply qN | refine qM rfl rfl ?_ | apply qR | apply qS)
 refine wops_cons (wop_bin (op := .geq) (v := .bool (decide (0 ≤ z))) rfl rfl rfl rfl rfl ?_)
 by_cases h0 : 0 ≤ z
 · rw [decide_eq_true h0]
   repeat (first | refine qM rfl rfl ?_ | refine zq5 rfl rfl rfl rfl rfl ‹_› ?_ | refine zq6 rfl rfl ‹_› ?_)
   refine wops_cons (wop_bin (op := .lss) (v := .bool (decide (z < (l.length : Int)))) rfl rfl rfl rfl rfl ?_)
   repeat (first | apply qN | refine qM rfl rfl ?_ | refine zq7 rfl rfl rfl ?_)
   refine wp_ret ?_
   refine ⟨_, _, rfl, ?_⟩
   simp only [h0, true_and] at hk
   exact hk
 · rw [decide_eq_false h0]
   rw [decide_eq_false (show ¬ (0 ≤ z ∧ z < (l.length : Int)) from fun h => h0 h.1)] at hk
   repeat (first | apply qN | refine zq1 rfl rfl ?_ | refine qM rfl rfl ?_ | refine zq7 rfl rfl rfl ?_)
   refine wp_ret ?_
   exact ⟨_, _, rfl, hk⟩
structure RuE (H : AH) (sb lb mvb : Nat) (y : AV) (l : List Int) (a b : Int) : Prop where
 ls : sb < 2 ^ 39
 gs : H.get sb = some (.cells [.fn (.func 130) [] [.ptr lb 0]] 174 0)
 ll : lb < 2 ^ 39
 gl : H.get lb = some (.cells [y] 22 0)
 mv : Bk H mvb 31 [iv a, iv b]
 sl : Sl H y (ivs l)
theorem c132 (H : AH) (sb lb mvb : Nat) (y : AV) (l : List Int) (a b : Int) (hR : RuE H sb lb mvb y l a b) (K : AV → AH → Prop) (hk : K (.v (.bool (decide ((0 ≤ a ∧ a < (l.length : Int)) ∧ (0 ≤ b ∧ b < (l.length : Int)))))) H) : Ca (ENV O) 132 [.ptr sb 0, .ptr mvb 0] H K := by
 refine ca_intro (hq _ _ _ rfl) (fn := Tryz.f132) (by rfl) rfl ?_
 have hps : At H (.ptr sb 0) (.fn (.func 130) [] [.ptr lb 0]) := at_ptr hR.ls hR.gs rfl
 have hp0 : At H (.ptr mvb 0) (iv a) := hR.mv.at rfl
 have hp1 : At H (.ptr mvb 1) (iv b) := hR.mv.at rfl
 repeat (first | apply qN | refine qM rfl rfl ?_ | refine zqa rfl rfl rfl ?_ | refine zq6 rfl rfl ‹_› ?_ | apply qR | apply qS)
 refine wops_cons (wop_callFn rfl rfl rfl rfl (by rfl) ?_)
 refine c130 hq H a lb y l hR.ll hR.gl hR.sl _ ⟨Nat.le_refl _, ?_⟩
 by_cases ha : 0 ≤ a ∧ a < (l.length : Int)
 · rw [decide_eq_true ha]
   repeat (first | refine qM rfl rfl ?_ | refine zqa rfl rfl rfl ?_ | refine zq6 rfl rfl ‹_› ?_)
   refine wops_cons (wop_callFn rfl rfl rfl rfl (by rfl) ?_)
   refine c130 hq H b lb y l hR.ll hR.gl hR.sl _ ⟨Nat.le_refl _, ?_⟩
   repeat (first | apply qN | refine qM rfl rfl ?_ | refine zq7 rfl rfl rfl ?_)
   refine wp_ret ?_
   refine ⟨_, _, rfl, ?_⟩
   have e : ((0 ≤ a ∧ a < (l.length : Int)) ∧ (0 ≤ b ∧ b < (l.length : Int))) = (0 ≤ b ∧ b < (l.length : Int)) := propext ⟨fun h => h.2, fun h => ⟨ha, h⟩⟩
   simp only [e] at hk
   exact hk
 · rw [decide_eq_false ha]
   rw [decide_eq_false (show ¬ ((0 ≤ a ∧ a < (l.length : Int)) ∧ (0 ≤ b ∧ b < (l.length : Int))) from fun h => ha h.1)] at hk
   repeat (first | apply qN | refine zq1 rfl rfl ?_ | refine qM rfl rfl ?_ | refine zq7 rfl rfl rfl ?_)
   refine wp_ret ?_
   exact ⟨_, _, rfl, hk⟩
theorem c133 (H : AH) (sb lb mvb : Nat) (y : AV) (l : List Int) (a b : Int) (hR : RuE H sb lb mvb y l a b) (ha : 0 ≤ a ∧ a < (l.length : Int)) (K : AV → AH → Prop) (hk : K (.v (.bool (decide (l.getD a.toNat 0 ≠ 0)))) H) : Ca (ENV O) 133 [.ptr lb 0, .ptr mvb 0] H K := by
 refine ca_intro (hq _ _ _ rfl) (fn := Tryz.f133) (by rfl) rfl ?_
 have hpl : At H (.ptr lb 0) y := at_ptr hR.ll hR.gl rfl
 have hp0 : At H (.ptr mvb 0) (iv a) := hR.mv.at rfl
 obtain ⟨i, rfl, hi, hz⟩ := inSlot ha
 have hsl := hR.sl
 generalize l.getD (i : Int).toNat 0 = z at hz hk
 repeat (first | apply qN | refine qM rfl rfl ?_ | refine zqa rfl rfl rfl ?_ | refine zq6 rfl rfl ‹_› ?_ | apply qR | apply qS)
 refine wops_cons (o_indexI rfl rfl hsl rfl hz fun pp hpp => ?_)
 repeat (first | refine zq6 rfl rfl ‹_› ?_)
 refine wops_cons (wop_bin (op := .neq) (v := .bool (decide (z ≠ 0))) rfl rfl rfl rfl (by
   show some (Value.bool (z != 0)) = some (Value.bool (decide (z ≠ 0)))
   by_cases hz : z = 0 <;> simp [hz]) ?_)
 repeat (first | apply qN | refine qM rfl rfl ?_)
 refine wp_ret ?_
 exact ⟨_, _, rfl, hk⟩
theorem c134 (H : AH) (sb lb mvb : Nat) (y : AV) (l : List Int) (a b : Int) (hR : RuE H sb lb mvb y l a b) (ha : 0 ≤ b ∧ b < (l.length : Int)) (K : AV → AH → Prop) (hk : K (.v (.bool (decide (l.getD b.toNat 0 = 0)))) H) : Ca (ENV O) 134 [.ptr lb 0, .ptr mvb 0] H K := by
 refine ca_intro (hq _ _ _ rfl) (fn := Tryz.f134) (by rfl) rfl ?_
 have hpl : At H (.ptr lb 0) y := at_ptr hR.ll hR.gl rfl
 have hp0 : At H (.ptr mvb 1) (iv b) := hR.mv.at rfl
 obtain ⟨i, rfl, hi, hz⟩ := inSlot ha
 have hsl := hR.sl
 generalize l.getD (i : Int).toNat 0 = z at hz hk
 repeat (first | apply qN | refine qM rfl rfl ?_ | refine zqa rfl rfl rfl ?_ | refine zq6 rfl rfl ‹_› ?_ | apply qR | apply qS)
 refine wops_cons (o_indexI rfl rfl hsl rfl hz fun pp hpp => ?_)
 repeat (first | refine zq6 rfl rfl ‹_› ?_)
 refine wops_cons (wop_bin (op := .eql) (v := .bool (decide (z = 0))) rfl rfl rfl rfl (by
   show some (Value.bool (z == 0)) = some (Value.bool (decide (z = 0)))
   by_cases hz : z = 0 <;> simp [hz]) ?_)
 repeat (first | apply qN | refine qM rfl rfl ?_)
 refine wp_ret ?_
 exact ⟨_, _, rfl, hk⟩
theorem c131 (H : AH) (x : AV) (sb lb mvb : Nat) (y : AV) (l : List Int) (a b : Int) (hR : RuE H sb lb mvb y l a b) (hx : Sl H x [.fn (.func 132) [] [.ptr sb 0, .ptr mvb 0], .fn (.func 133) [] [.ptr lb 0, .ptr mvb 0], .fn (.func 134) [] [.ptr lb 0, .ptr mvb 0]]) (K : AV → AH → Prop) (hk : K (iv (refE l a b)) H) : Ca (ENV O) 131 [x] H K := by
 refine ca_intro (hq _ _ _ rfl) (fn := Tryz.f131) (by rfl) rfl ?_
 repeat (first | apply qN | refine qM rfl rfl ?_ | apply qR | apply qS)
 refine wops_cons (o_len rfl rfl rfl rfl rfl hx ?_)
 repeat (first | apply qN | refine qM rfl rfl ?_ | apply qB)
 refine wp_loop (fun q T M H' => ∃ (i : Nat) (Y : List AV), q = 3 - i ∧ i ≤ 3 ∧ H' = H ∧ M = [] ∧ (1 ≤ i → (0 ≤ a ∧ a < (l.length : Int)) ∧ (0 ≤ b ∧ b < (l.length : Int))) ∧ (2 ≤ i → l.getD a.toNat 0 ≠ 0) ∧ (3 ≤ i → l.getD b.toNat 0 = 0) ∧ T = (lget Y 0 :: lget Y 1 :: lget Y 2 :: lget Y 3 :: lget Y 4 :: x :: iv 3 :: iv (i : Nat) :: lget Y 5 :: lget Y 6 :: lget Y 7 :: lget Y 8 :: lget Y 9 :: lget Y 10 :: lget Y 11 :: lget Y 12 :: lget Y 13 :: lget Y 14 :: [])) 3
   ⟨0, [_,_,_,_,_,_,_,_,_,_,_,_,_,_,_], rfl, Nat.zero_le _, rfl, rfl, (fun h => absurd h (by omega)), (fun h => absurd h (by omega)), (fun h => absurd h (by omega)), rfl⟩ ?_
 rintro q T M H1 ⟨i, Y, hq1, hi, rfl, rfl, h1, h2, h3, rfl⟩
 repeat (first | apply qR | apply qS)
 refine wops_cons (wop_cmp rfl rfl rfl rfl rfl (fun h => ?_) (fun h => ?_))
 rotate_left
 · have h : ¬ ((i : Int) < 3) := of_decide_eq_false h
   obtain ⟨g1, g2⟩ := h1 (by omega)
   have e : refE l a b = 0 := by
     unfold refE
     rw [if_pos ⟨g1, g2⟩, if_neg (h2 (by omega)), if_neg (fun h => h (h3 (by omega)))]
   rw [e] at hk
   repeat (first | apply qN | refine qM rfl rfl ?_ | refine qF rfl ?_ | apply qR | apply qS | apply qE)
   refine wp_ret ?_
   exact ⟨_, _, rfl, hk⟩
 have hi' : i < 3 := by have h : (i : Int) < 3 := of_decide_eq_true h; omega
 clear h
 rcases (show i = 0 ∨ i = 1 ∨ i = 2 by omega) with rfl | rfl | rfl
 · repeat (first | apply qN | refine qM rfl rfl ?_ | refine qT rfl ?_ | apply qR | apply qS | apply qK | apply qB)
   refine wops_cons (o_index (j := 0) rfl rfl hx rfl rfl fun pp hpp => ?_)
   repeat (first | apply qN | refine qM rfl rfl ?_ | refine zq6 rfl rfl ‹_› ?_ | apply qR | apply qS)
   refine wops_cons (wop_callFn rfl rfl rfl rfl (by rfl) ?_)
   refine c132 hq _ sb lb mvb y l a b hR _ ⟨Nat.le_refl _, ?_⟩
   by_cases hs : (0 ≤ a ∧ a < (l.length : Int)) ∧ (0 ≤ b ∧ b < (l.length : Int))
   · rw [decide_eq_true hs]
     repeat (first | apply qN | refine qM rfl rfl ?_ | refine zq4 rfl rfl rfl rfl (inc (by omega)) ?_ | refine zq8 rfl rfl rfl ?_ | refine qF rfl ?_ | apply qR | apply qK)
     exact ⟨2, by omega, 1, [_,_,_,_,_,_,_,_,_,_,_,_,_,_,_], rfl, by omega, rfl, rfl, (fun _ => hs), (fun h => absurd h (by omega)), (fun h => absurd h (by omega)), rfl⟩
   · rw [decide_eq_false hs]
     rw [show refE l a b = 1 by unfold refE; rw [if_neg hs]] at hk
     repeat (first | apply qN | refine qM rfl rfl ?_ | refine zq4 rfl rfl rfl rfl (inc (by omega)) ?_ | refine zq8 rfl rfl rfl ?_ | refine qT rfl ?_ | apply qR | apply qS)
     refine wp_ret ?_
     exact ⟨_, _, rfl, hk⟩
 · have hs := h1 (by omega)
   repeat (first | apply qN | refine qM rfl rfl ?_ | refine qT rfl ?_ | apply qR | apply qS | apply qK | apply qB)
   refine wops_cons (o_index (j := 1) rfl rfl hx rfl rfl fun pp hpp => ?_)
   repeat (first | apply qN | refine qM rfl rfl ?_ | refine zq6 rfl rfl ‹_› ?_ | apply qR | apply qS)
   refine wops_cons (wop_callFn rfl rfl rfl rfl (by rfl) ?_)
   refine c133 hq _ sb lb mvb y l a b hR hs.1 _ ⟨Nat.le_refl _, ?_⟩
   by_cases hz : l.getD a.toNat 0 ≠ 0
   · rw [decide_eq_true hz]
     repeat (first | apply qN | refine qM rfl rfl ?_ | refine zq4 rfl rfl rfl rfl (inc (by omega)) ?_ | refine zq8 rfl rfl rfl ?_ | refine qF rfl ?_ | apply qR | apply qK)
     exact ⟨1, by omega, 2, [_,_,_,_,_,_,_,_,_,_,_,_,_,_,_], rfl, by omega, rfl, rfl, (fun _ => hs), (fun _ => hz), (fun h => absurd h (by omega)), rfl⟩
   · rw [decide_eq_false hz]
     rw [show refE l a b = 2 by unfold refE; rw [if_pos hs, if_pos (by simpa using hz)]] at hk
     repeat (first | apply qN | refine qM rfl rfl ?_ | refine zq4 rfl rfl rfl rfl (inc (by omega)) ?_ | refine zq8 rfl rfl rfl ?_ | refine qT rfl ?_ | apply qR | apply qS)
     refine wp_ret ?_
     exact ⟨_, _, rfl, hk⟩
 · have hs := h1 (by omega)
   have hz := h2 (by omega)
   repeat (first | apply qN | refine qM rfl rfl ?_ | refine qT rfl ?_ | apply qR | apply qS | apply qK | apply qB)
   refine wops_cons (o_index (j := 2) rfl rfl hx rfl rfl fun pp hpp => ?_)
   repeat (first | apply qN | refine qM rfl rfl ?_ | refine zq6 rfl rfl ‹_› ?_ | apply qR | apply qS)
   refine wops_cons (wop_callFn rfl rfl rfl rfl (by rfl) ?_)
   refine c134 hq _ sb lb mvb y l a b hR hs.2 _ ⟨Nat.le_refl _, ?_⟩
   by_cases hz2 : l.getD b.toNat 0 = 0
   · rw [decide_eq_true hz2]
     repeat (first | apply qN | refine qM rfl rfl ?_ | refine zq4 rfl rfl rfl rfl (inc (by omega)) ?_ | refine zq8 rfl rfl rfl ?_ | refine qF rfl ?_ | apply qR | apply qK)
     exact ⟨0, by omega, 3, [_,_,_,_,_,_,_,_,_,_,_,_,_,_,_], rfl, by omega, rfl, rfl, (fun _ => hs), (fun _ => hz), (fun _ => hz2), rfl⟩
   · rw [decide_eq_false hz2]
     rw [show refE l a b = 3 by unfold refE; rw [if_pos hs, if_neg hz, if_pos hz2]] at hk
     repeat (first | apply qN | refine qM rfl rfl ?_ | refine zq4 rfl rfl rfl rfl (inc (by omega)) ?_ | refine zq8 rfl rfl rfl ?_ | refine qT rfl ?_ | apply qR | apply qS)
     refine wp_ret ?_
     exact ⟨_, _, rfl, hk⟩
theorem cRef (H : AH) (y : AV) (l : List Int) (a b : Int) (mv : AV) (hmv : mv.cells = [iv a, iv b]) (hy : Sl H y (ivs l)) (hoy : Old H y) (hr : H.next + 20 < 2 ^ 39) (K : AV → AH → Prop) (hk : ∀ H', Keeps H H' → H'.next = H.next + 4 → K (iv (refE l a b)) H') : Ca (ENV O) 78 [y, mv] H K := by
 refine ca_intro (hq _ _ _ rfl) (fn := Tryz.f78) (by rfl) rfl ?_
 have r0 : H.next < 2 ^ 39 := by omega
 repeat (first | apply qR | apply qS)
 refine wops_cons (o_box rfl rfl hy.one r0 ?_)
 refine WOps.mem (fun H1 => Keeps H H1 ∧ H1.next = H.next + 1 ∧ H1.get H.next = some (.cells [y] 22 0)) ⟨(Keeps.refl H).add _ r0, rfl, get_add_eq r0⟩ ?_
 rintro H1 ⟨k1, n1, g1⟩
 refine wops_cons (o_boxS rfl rfl hmv (by omega) fun H2 n2 k2 b2 => ?_)
 have n2' : H2.next = H.next + 2 := by omega
 have k02 : Keeps H H2 := k1.trans k2
 have g2l : H2.get H.next = some (.cells [y] 22 0) := (k2.get _ (by omega)).trans g1
 rw [n1] at b2 ⊢
 have r2 : H2.next < 2 ^ 39 := by omega
 repeat (first | apply qN | refine qM rfl rfl ?_ | apply qR | apply qS)
 refine wops_cons (wop_makeFunc rfl rfl ?_)
 refine wops_cons (o_alloc rfl rfl r2 ?_)
 refine wops_cons (o_store rfl rfl rfl (get_add_eq r2) (Nat.succ_pos _) rfl ?_)
 refine WOps.mem (fun H3 => Keeps H2 H3 ∧ H3.next = H2.next + 1 ∧ H3.get H2.next = some (.cells [.fn (.func 130) [] [.ptr H.next 0]] 174 0)) ⟨((Keeps.refl H2).add _ r2).set _ (Nat.le_refl _) r2, rfl, get_set_eq r2⟩ ?_
 rintro H3 ⟨k3, n3, g3⟩
 have k03 := k02.trans k3
 have r3 : H3.next < 2 ^ 39 := by omega
 repeat (first | apply qN | apply qR | apply qS)
 refine wops_cons (wop_makeFunc rfl rfl ?_)
 refine wops_cons (wop_makeFunc rfl rfl ?_)
 refine wops_cons (wop_makeFunc rfl rfl ?_)
 refine wops_cons (o_build3 rfl rfl rfl rfl rfl r3 ?_)
 refine WOps.mem (fun H4 => Keeps H3 H4 ∧ H4.next = H3.next + 1 ∧ Sl H4 (.slc H3.next 0 3 3) [.fn (.func 132) [] [.ptr H2.next 0, .ptr (H.next + 1) 0], .fn (.func 133) [] [.ptr H.next 0, .ptr (H.next + 1) 0], .fn (.func 134) [] [.ptr H.next 0, .ptr (H.next + 1) 0]]) ⟨(Keeps.refl H3).add _ r3, rfl, sl_new r3 3⟩ ?_
 rintro H4 ⟨k4, n4, hs4⟩
 have k04 := k03.trans k4
 have k24 := k3.trans k4
 refine wops_cons (wop_callF rfl rfl rfl (fn := Tryz.f131) (by rfl) ?_)
 refine c131 hq H4 _ H2.next H.next (H.next + 1) y l a b ⟨by omega, (k4.get _ (by omega)).trans g3, by omega, (k24.get _ (by omega)).trans g2l, b2.keep (by omega) k24, hy.keep hoy k04⟩ hs4 _ ⟨Nat.le_refl _, ?_⟩
 repeat (first | apply qN | refine qM rfl rfl ?_)
 refine wp_ret ?_
 exact ⟨_, _, rfl, hk H4 k04 (by omega)⟩
theorem cLegal (H : AH) (y : AV) (l : List Int) (a b : Int) (mv : AV) (hmv : mv.cells = [iv a, iv b]) (hy : Sl H y (ivs l)) (hoy : Old H y) (hl : l.length ≤ 1000) (hr : H.next + 3000 < 2 ^ 39) (K : AV → AH → Prop)
   (hk : ∀ H', Keeps H H' → H'.next ≤ H.next + 1100 → K (.tup (if chkE l ≠ 0 then [iv 0, iv (chkE l)] else [iv (refE l a b), iv 0])) H') : Ca (ENV O) 13 [y, mv] H K := by
 refine ca_intro (hq _ _ _ rfl) (fn := Tryz.f13) (by rfl) rfl ?_
 repeat (first | apply qR | apply qS)
 refine wops_cons (o_boxS rfl rfl hmv (by omega) fun H1 n1 k1 b1 => ?_)
 repeat (first | apply qN | refine qM rfl rfl ?_ | apply qR | apply qS)
 refine wops_cons (wop_callF rfl rfl rfl (fn := Tryz.f17) (by rfl) ?_)
 refine cChk hq H1 y l (hy.keep hoy k1) (hoy.keep k1) hl (by omega) _ fun H2 k2 n2 => ⟨k2.nx, ?_⟩
 have k02 := k1.trans k2
 have b2 := b1.keep (by omega) k2
 by_cases h0 : chkE l = 0
 · rw [h0, if_neg (by simp)] at hk
   rw [h0]
   repeat (first | apply qN | refine qM rfl rfl ?_ | apply qR | apply qS)
   refine wops_cons (wop_bin (op := .neq) (v := .bool false) rfl rfl rfl rfl rfl ?_)
   repeat (first | apply qN | refine qM rfl rfl ?_ | refine zqb rfl rfl rfl ‹_› ?_ | refine qF rfl ?_ | apply qR | apply qS | apply qK)
   refine wops_cons (wop_callF rfl rfl rfl (fn := Tryz.f78) (by rfl) ?_)
   refine cRef hq H2 y l a b _ rfl (hy.keep hoy k02) (hoy.keep k02) (by omega) _ fun H3 k3 n3 => ⟨k3.nx, ?_⟩
   repeat (first | apply qN | refine qM rfl rfl ?_)
   refine wp_ret ?_
   exact ⟨_, _, rfl, hk H3 (k02.trans k3) (by omega)⟩
 · rw [if_pos h0] at hk
   repeat (first | apply qN | refine qM rfl rfl ?_ | apply qR | apply qS)
   refine wops_cons (wop_bin (op := .neq) (v := .bool true) rfl rfl rfl rfl (by simp [binI, h0]) ?_)
   repeat (first | apply qN | refine qM rfl rfl ?_ | refine qT rfl ?_ | apply qR | apply qS)
   refine wp_ret ?_
   exact ⟨_, _, rfl, hk H2 k02 (by omega)⟩
end Go.Ev
