/- Part of an evaluator of calls that is proved sound, and of what it gives about this program. No condition of its own. -/
import Derived.Test.YtknbipaecnggcaaGreatDoorEwTc
set_option linter.unusedVariables false
set_option linter.unusedSimpArgs false
set_option linter.unusedSectionVars false
set_option maxRecDepth 100000
set_option maxHeartbeats 4000000
namespace Go.Ev
open Go.Proofs
theorem fl2_rep : ∀ n : Nat, fl2 (List.replicate n ((0 : Int), (0 : Int))) = List.replicate (n * 2) (AV.v (.int .i64 0))
 | 0 => rfl
 | n + 1 => by
   rw [show (n + 1) * 2 = n * 2 + 1 + 1 by omega, List.replicate_succ, List.replicate_succ, List.replicate_succ, ← fl2_rep n]
   rfl
theorem fl2_wr : ∀ {ms : List (Int × Int)} {i : Nat} {a b : Int}, i < ms.length → wr (fl2 ms) (i * 2) [iv a, iv b] = fl2 (ms.set i (a, b))
 | q :: ms, 0, a, b, _ => by
   show wr (iv q.1 :: iv q.2 :: fl2 ms) 0 [iv a, iv b] = iv a :: iv b :: fl2 ms
   simp [wr]
 | q :: ms, i + 1, a, b, h => by
   have := fl2_wr (ms := ms) (i := i) (a := a) (b := b) (by simpa using h)
   rw [show (i + 1) * 2 = i * 2 + 1 + 1 by omega]
   show wr (iv q.1 :: iv q.2 :: fl2 ms) (i * 2 + 1 + 1) [iv a, iv b] = iv q.1 :: iv q.2 :: fl2 (ms.set i (a, b))
   rw [← this]
   simp [wr]
theorem zeros2 (n : Nat) : (((Array.range (n * 2)).map ((Value.agg #[.int .i64 0, .int .i64 0]).cells[· % (Value.agg #[.int .i64 0, .int .i64 0]).cells.size]!)).toList).map AV.v = fl2 (List.replicate n (0, 0)) := by
 rw [fl2_rep]
 refine List.eq_replicate_iff.2 ⟨by simp, fun b hb => ?_⟩
 simp only [List.mem_map, Array.toList_map, Array.toList_range] at hb
 obtain ⟨v, ⟨k, hk, rfl⟩, rfl⟩ := hb
 have hc : (Value.agg #[.int .i64 0, .int .i64 0]).cells = #[.int .i64 0, .int .i64 0] := rfl
 rw [hc]
 rcases (show k % 2 = 0 ∨ k % 2 = 1 by omega) with h | h
 · show AV.v ((#[Value.int .i64 0, .int .i64 0] : Array Value)[k % 2]!) = _
   rw [h]; rfl
 · show AV.v ((#[Value.int .i64 0, .int .i64 0] : Array Value)[k % 2]!) = _
   rw [h]; rfl
section
variable {O : CallF} {T : List AV} {H H0 : AH} {ops : Array Oper} {o : Oper} {i : Nat} {π : List Stp} {K : AV → AH → Prop}
theorem o_make2 {t e : TypeId} {l c : Operand} {n : Nat} (ho : o.op = .makeSlice t l c) (hg : wantedA o ops T = true) (hl : av T l = iv n) (hc : av T c = iv n) [hu : TyP t e] (hn : n ≤ 2 ^ 32) (hr : H.next < 2 ^ 39)
   (hk : K (.slc H.next 0 n n) (H.add (.cells (fl2 (List.replicate n (0, 0))) e 0))) : WOp (ENV O) ops o T H K := by
 refine wop_val (by rw [ho]; rfl) hg (H' := H.add (.cells (fl2 (List.replicate n (0, 0))) e 0)) (r := .slc H.next 0 n n) ?_ (Nat.le_succ _) hk
 unfold opEval; rw [ho]
 have h48 : Nat.ble ((ti e).bytes * n) (2 ^ 48) = true := Nat.ble_eq_true_of_le (by
   have := Nat.mul_le_mul (Nat.le_of_ble_eq_true hu.b) hn
   exact Nat.le_trans this (by decide))
 have h62 : Nat.ble n (2 ^ 62) = true := Nat.ble_eq_true_of_le (Nat.le_trans hn (by decide))
 have hlt : Nat.blt H.next (2 ^ 39) = true := Nat.ble_eq_true_of_le hr
 have h1 := hu.u; have h2 := hu.s; have h3 := hu.z; have h4 := hu.i
 simp only [ENV, makeSliceA, hl, hc, natA, h1, h2, h3, h4, h48, h62, Nat.ble_eq_true_of_le (Nat.le_refl n), Bool.true_and, iv]
 have e0 := zeros2 n
 cases hn0 : Nat.beq (n * 2) 0 with
 | true =>
   have : n = 0 := by have := Nat.eq_of_beq_eq_true hn0; omega
   subst this
   simp only [Bool.not_true, Bool.false_eq_true, if_false, if_true, newA, hlt, Option.map_some, List.replicate_zero]
   rfl
 | false =>
   simp only [Bool.not_false, if_true, newA, hlt, Option.map_some]
   rw [e0]
theorem o_build0P {t e : TypeId} (ho : o.op = .buildSlice t 0 #[]) (hg : wantedA o ops T = true) [hu : TyP t e] (hr : H.next < 2 ^ 39) (hk : K (.slc H.next 0 0 0) (H.add (.cells [] e 0))) : WOp (ENV O) ops o T H K := by
 refine wop_val (by rw [ho]; rfl) hg (r := .slc H.next 0 0 0) (H' := H.add (.cells [] e 0)) ?_ (Nat.le_succ _) hk
 have hlt : Nat.blt H.next (2 ^ 39) = true := Nat.ble_eq_true_of_le hr
 unfold opEval; rw [ho]
 have h1 := hu.u; have h2 := hu.s; have h3 := hu.z
 simp only [ENV, buildSliceA, h1, h2, h3]
 rw [if_pos (by decide)]
 simp [fillA, newA, hlt]
theorem o_appendC {c : Call} {t xt e e' : TypeId} {s x : Operand} {ms : List (Int × Int)} {b bx : Nat} (ho : o.op = .call c) (hg : wantedA o ops T = true) (hc : c.callee = .builtin .append) (hargs : c.args.toList = [s, x]) (ht : c.argTypes.toList = [t, xt]) [hu : TyP t e] [hux : TyP xt e'] (hlen : ms.length ≤ 2 ^ 30) (hr : H.next < 2 ^ 39)
   (hsx : av T s = .slc b 0 0 0) (hgb : H.get b = some (.cells [] e 0)) (hx : av T x = .slc bx 0 ms.length ms.length) (hbx : H.get bx = some (.cells (fl2 ms) e' 0))
   (hk0 : ms = [] → K (.slc b 0 0 0) (H.set b (some (.cells [] e 0)))) (hk : 0 < ms.length → K (.slu H.next 0 ms.length 2) (H.add (.cells (fl2 ms) e 2))) : WOp (ENV O) ops o T H K := by
 have hlt : Nat.blt H.next (2 ^ 39) = true := Nat.ble_eq_true_of_le hr
 have hf : firstA (1 + 1) ms.length (.slc bx 0 ms.length ms.length) H = some (fl2 ms) := by
   simp only [firstA, hbx]
   rw [if_pos (Nat.ble_eq_true_of_le (by rw [fl2_len]; omega)), List.drop_zero, List.take_of_length_le (by rw [fl2_len]; omega)]
 have hb := Nat.le_of_ble_eq_true hu.b
 have e1 : Nat.ble ((0 + ms.length) * (ti e).bytes) (2 ^ 40) = true := Nat.ble_eq_true_of_le (by
   rw [Nat.zero_add]
   have := Nat.mul_le_mul hlen hb
   exact Nat.le_trans this (by decide))
 have e2 : Nat.ble (0 + ms.length) (2 ^ 40) = true := Nat.ble_eq_true_of_le (by rw [Nat.zero_add]; exact Nat.le_trans hlen (by decide))
 have h1 := hu.u; have h2 := hu.s; have h3 := hu.z; have h4 := hu.i; have h5 := hux.u
 have hz0 : Nat.beq (Value.agg #[.int .i64 0, .int .i64 0]).cells.size (1 + 1) = true := rfl
 have hall : ((fl2 ms).all AV.one && Nat.beq (fl2 ms).length (ms.length * (1 + 1))) = true := by rw [fl2_one, fl2_len]; simp
 rcases Nat.eq_zero_or_pos ms.length with h0 | h0
 · have hms : ms = [] := List.eq_nil_of_length_eq_zero h0
   subst hms
   refine wop_val (by rw [ho]; simp only [still, hc]) hg (r := .slc b 0 0 0) (H' := H.set b (some (.cells [] e 0))) ?_ (Nat.le_refl _) (hk0 rfl)
   unfold opEval; rw [ho]
   simp only [ENV, oCall, hc, oBuiltin, hargs, appendA, arg0 ht, arg1 ht, h1, h5, isIntD, h4, h2, h3, lenA, hx]
   rw [if_pos hz0, hf]
   simp only
   rw [if_pos hall]
   simp only [hsx]
   rw [if_pos (by decide)]
   simp only [storeA, hgb]
   rw [if_pos (by decide)]
   rfl
 · refine wop_val (by rw [ho]; simp only [still, hc]) hg (r := .slu H.next 0 ms.length 2) (H' := H.add (.cells (fl2 ms) e 2)) ?_ (Nat.le_succ _) (hk h0)
   unfold opEval; rw [ho]
   simp only [ENV, oCall, hc, oBuiltin, hargs, appendA, arg0 ht, arg1 ht, h1, h5, isIntD, h4, h2, h3, lenA, hx]
   rw [if_pos hz0, hf]
   simp only
   rw [if_pos hall]
   simp only [hsx]
   rw [if_neg (by intro h; have := Nat.le_of_ble_eq_true h; omega)]
   simp only [hgb]
   rw [if_pos (by rw [e1, e2]; simp)]
   simp only [newU, hlt, if_true, Option.map_some, Nat.zero_add]
   simp
theorem o_nilEqP {t yt : TypeId} {x : Operand} {b off n c : Nat} (ho : o.op = .binOp .eql t x (.const (.slice none 0 0)) yt) (hg : wantedA o ops T = true) (ht : t = 45) (hx : av T x = .slc b off n c) (hk : K (.v (.bool false)) H) : WOp (ENV O) ops o T H K := by
 subst ht
 refine wop_val (by rw [ho]; rfl) hg (r := .v (.bool false)) ?_ (Nat.le_refl _) hk
 unfold opEval; rw [ho]
 have hc : av T (.const (.slice none 0 0)) = .v (.slice none 0 0) := rfl
 have h0 : nilEqA Tryz.prog 45 (.slc b off n c) (.v (.slice none 0 0)) = true := by rfl
 simp only [ENV, oBin, oBinSlow, hx, hc, h0]
end
theorem wop_callFV {E : Env} {T : List AV} {H : AH} {ops : Array Oper} {o : Oper} {Kr : AV → AH → Prop} {c : Call} {x : Operand} {f : FuncId} {fn : Func} (ho : o.op = .call c) (hc : c.callee = .value x) (hx : av T x = .v (.func (.func f) #[] #[])) (hg : wantedA o ops T = true) (hF : E.F.get f = some fn)
   (hk : Ca E f (c.args.toList.map (av T)) H fun r H' => H.next ≤ H'.next ∧ Kr r H') : WOp E ops o T H Kr := by
 refine wop_call ho hc (fun b h => by rw [hx] at h; cases h) hg ?_ hk
 unfold opEval; rw [ho]
 simp only [oCall, hc, oCallV, callA, calleeA, hx, hF, List.nil_append, List.map_nil, List.append_nil]
theorem o_index2S {O : CallF} {T : List AV} {H : AH} {ops : Array Oper} {o : Oper} {K : AV → AH → Prop} {t e : TypeId} {x i : Operand} {j b n c : Nat} (ho : o.op = .indexAddr t x i) (hg : wantedA o ops T = true) [hu : TyP t e] (hx : av T x = .slc b 0 n c) (hi : av T i = iv j) (hj : j < n) (hk : K (.ptr b (j * 2)) H) : WOp (ENV O) ops o T H K := by
 have h2 := hu.u
 have h3 := hu.s
 have hb : Nat.blt j n = true := Nat.ble_eq_true_of_le hj
 refine wop_val (by rw [ho]; rfl) hg (r := .ptr b (j * 2)) ?_ (Nat.le_refl _) hk
 unfold opEval; rw [ho]
 have hm : indexAddrA Tryz.prog t (.slc b 0 n c) (.v (.int .i64 (j : Int))) = some (.ptr b (j * 2)) := by
   unfold indexAddrA
   simp only [natA, h2, h3, hb, if_true, Nat.zero_add]
 simp only [ENV, oIndexAddr, hx, hi, isV, hm, rv]
def sw2 (p : Int × Int) : Int × Int := (p.2, p.1)
theorem fill2 {ms : List (Int × Int)} {i : Nat} {p : Int × Int} (hp : ms[i]? = some p) : ((ms.take i).map sw2 ++ List.replicate (ms.length - i) (0, 0)).set i (sw2 p) = (ms.take (i + 1)).map sw2 ++ List.replicate (ms.length - (i + 1)) (0, 0) := by
 have hi := (List.getElem?_eq_some_iff.1 hp).1
 have h1 : ((ms.take i).map sw2).length = i := by rw [List.length_map, List.length_take]; omega
 rw [List.set_append_right _ _ (by omega), h1, Nat.sub_self, List.take_add_one, hp]
 obtain ⟨k, hk⟩ : ∃ k, ms.length - i = k + 1 := ⟨ms.length - i - 1, by omega⟩
 rw [hk, List.replicate_succ, List.set_cons_zero, show ms.length - (i + 1) = k by omega]
 simp
variable {O : CallF} (hq : Quiet O)
include hq
theorem c90 (H : AH) (a b : Int) (mv : AV) (hmv : mv.cells = [iv a, iv b]) (hr : H.next + 10 < 2 ^ 39) (K : AV → AH → Prop) (hk : ∀ H', Keeps H H' → H'.next = H.next + 2 → K (.agg [iv b, iv a]) H') : Ca (ENV O) 90 [mv] H K := by
 refine ca_intro (hq _ _ _ rfl) (fn := Tryz.f90) (by rfl) rfl ?_
 repeat (first | apply qR | apply qS)
 refine wops_cons (o_boxS rfl rfl hmv (by omega) fun H1 n1 k1 b1 => ?_)
 have r1 : H1.next < 2 ^ 39 := by omega
 refine wops_cons (o_allocA (zs := [iv 0, iv 0]) rfl rfl (z := .agg #[.int .i64 0, .int .i64 0]) (by kernel_rfl) rfl r1 ?_)
 refine WOps.mem (fun H2 => Keeps H1 H2 ∧ H2.next = H1.next + 1 ∧ H2.get H1.next = some (.cells [iv 0, iv 0] 31 0)) ⟨(Keeps.refl H1).add _ r1, rfl, get_add_eq r1⟩ ?_
 rintro H2 ⟨k2, n2, g2⟩
 have b2 := b1.keep (by omega) k2
 have hp0 : At H2 (.ptr H.next 0) (iv a) := b2.at rfl
 have hp1 : At H2 (.ptr H.next 1) (iv b) := b2.at rfl
 show WOps _ _ _ _ _ _
 repeat (first | apply qN | refine zqa rfl rfl rfl ?_ | refine zq6 rfl rfl ‹_› ?_ | apply qR | apply qS)
 refine wops_cons (o_buildP rfl rfl rfl rfl ?_)
 refine wops_cons (o_storeA (n := 2) (vs := [iv b, iv a]) rfl rfl (by kernel_rfl) rfl rfl rfl rfl g2 (Nat.le_refl _) ?_)
 refine WOps.mem (fun H3 => Keeps H H3 ∧ H3.next = H.next + 2 ∧ H3.get H1.next = some (.cells [iv b, iv a] 31 0)) ⟨(k1.trans k2).set _ (by omega) r1, by show H2.next = _; omega, get_set_eq r1⟩ ?_
 rintro H3 ⟨k3, n3, g3⟩
 repeat (first | apply qN)
 refine Wp.cut (fun T => ∃ Y : List AV, T = (lget Y 0 :: lget Y 1 :: .ptr H1.next 0 :: lget Y 2 :: lget Y 3 :: lget Y 4 :: lget Y 5 :: lget Y 6 :: [])) ⟨[_,_,_,_,_,_,_], rfl⟩ ?_
 rintro T ⟨Y, rfl⟩
 refine wp_ret ?_
 refine ⟨.agg [iv b, iv a], H3, ?_, hk H3 k3 n3⟩
 have hl : loadA Tryz.prog 31 H1.next 0 H3 = some (.agg [iv b, iv a]) := by
   unfold loadA
   rw [g3]
   simp only
   rw [show runPure Tryz.prog (isAgg 31) = some true by kernel_rfl]
   simp only
   rw [show runPure Tryz.prog (sizeOf 31) = some 2 by kernel_rfl]
   rfl
 have hres : resA Tryz.prog (lget Y 0 :: lget Y 1 :: .ptr H1.next 0 :: lget Y 2 :: lget Y 3 :: lget Y 4 :: lget Y 5 :: lget Y 6 :: []) H3 Tryz.f90.results.toList = some [.agg [iv b, iv a]] := by
   show (match loadA Tryz.prog 31 H1.next 0 H3, (some [] : Option (List AV)) with | some x, some m => some (x :: m) | _, _ => none) = _
   rw [hl]
 unfold leaveM resultsA
 simp only [takeMarks]
 rw [show (ENV O).P = Tryz.prog from rfl, hres]
theorem c89 (H : AH) (x : AV) (ms : List (Int × Int)) (hx : S2 H 31 x ms) (fv : AV) (hfv : fv = .v (.func (.func 90) #[] #[])) (hml : ms.length ≤ 1000) (hr : H.next + 20000 < 2 ^ 39) (K : AV → AH → Prop)
   (hk : ∀ H' rb, Keeps H H' → H'.next ≤ H.next + 1 + 3 * ms.length → H.next ≤ rb → rb < H'.next → H'.get rb = some (.cells (fl2 (ms.map sw2)) 31 0) → K (.slc rb 0 ms.length ms.length) H') : Ca (ENV O) 89 [x, fv] H K := by
 subst hfv
 refine ca_intro (hq _ _ _ rfl) (fn := Tryz.f89) (by rfl) rfl ?_
 have r0 : H.next < 2 ^ 39 := by omega
 repeat (first | apply qN | refine qM rfl rfl ?_ | apply qR | apply qS)
 refine wops_cons (o_len2 rfl rfl rfl rfl rfl hx ?_)
 refine wops_cons (o_make2 (n := ms.length) rfl rfl rfl rfl (by omega) r0 ?_)
 refine WOps.mem (fun H1 => Keeps H H1 ∧ H1.next = H.next + 1 ∧ H1.get H.next = some (.cells (fl2 (List.replicate ms.length (0, 0))) 31 0)) ⟨(Keeps.refl H).add _ r0, rfl, get_add_eq r0⟩ ?_
 rintro H1 ⟨k1, n1, g1⟩
 repeat (first | apply qN | refine qM rfl rfl ?_ | apply qR | apply qS)
 refine wops_cons (o_len2 rfl rfl rfl rfl rfl (hx.keep k1) ?_)
 repeat (first | apply qN | refine qM rfl rfl ?_ | apply qB)
 refine wp_loop (fun q T M H' => ∃ (i : Nat) (Y : List AV), q = ms.length - i ∧ i ≤ ms.length ∧ Keeps H H' ∧ H1.next ≤ H'.next ∧ H'.next ≤ H1.next + 3 * i ∧ H'.get H.next = some (.cells (fl2 ((ms.take i).map sw2 ++ List.replicate (ms.length - i) (0, 0))) 31 0) ∧ M = [] ∧ T = (lget Y 0 :: .v (.func (.func 90) #[] #[]) :: lget Y 1 :: lget Y 2 :: lget Y 3 :: .slc H.next 0 ms.length ms.length :: lget Y 4 :: lget Y 5 :: lget Y 6 :: lget Y 7 :: lget Y 8 :: x :: iv (ms.length : Nat) :: iv (i : Nat) :: lget Y 9 :: lget Y 10 :: lget Y 11 :: lget Y 12 :: lget Y 13 :: lget Y 14 :: lget Y 15 :: lget Y 16 :: lget Y 17 :: lget Y 18 :: lget Y 19 :: lget Y 20 :: [])) ms.length
   ⟨0, [_,_,_,_,_,_,_,_,_,_,_,_,_,_,_,_,_,_,_,_,_], rfl, Nat.zero_le _, k1, Nat.le_refl _, Nat.le_refl _, g1, rfl, rfl⟩ ?_
 rintro q T M H4 ⟨i, Y, hq1, hi, k4, n4, n4', g4, rfl, rfl⟩
 repeat (first | apply qR | apply qS)
 refine wops_cons (wop_cmp rfl rfl rfl rfl rfl (fun h => ?_) (fun h => ?_))
 rotate_left
 · have h : ¬ ((i : Int) < (ms.length : Nat)) := of_decide_eq_false h
   have e : i = ms.length := by omega
   subst e
   rw [Nat.sub_self, List.replicate_zero, List.append_nil, List.take_length] at g4
   repeat (first | apply qN | refine qM rfl rfl ?_ | refine qF rfl ?_ | apply qR | apply qS | apply qE)
   refine wp_ret ?_
   exact ⟨_, _, rfl, hk H4 H.next k4 (by omega) (Nat.le_refl _) (by omega) g4⟩
 have hi' : i < ms.length := by have h : (i : Int) < (ms.length : Nat) := of_decide_eq_true h; omega
 clear h
 obtain ⟨⟨a, b⟩, hp⟩ : ∃ p, ms[i]? = some p := ⟨ms[i], List.getElem?_eq_getElem hi'⟩
 have hfill := fill2 hp
 have hcl : ((ms.take i).map sw2 ++ List.replicate (ms.length - i) ((0 : Int), (0 : Int))).length = ms.length := by simp; omega
 generalize (ms.take i).map sw2 ++ List.replicate (ms.length - i) ((0 : Int), (0 : Int)) = cur at g4 hfill hcl
 have hx4 := hx.keep k4
 have r4 : H4.next < 2 ^ 39 := by omega
 repeat (first | apply qN | refine qM rfl rfl ?_ | refine qT rfl ?_ | apply qR | apply qS | apply qK | apply qB)
 refine wops_cons (o_index2 rfl rfl hx4 rfl hp fun xb gr hxb hxg => ?_)
 refine wops_cons (o_loadA (r := [iv a, iv b]) (n := 2) rfl rfl (by kernel_rfl) (by kernel_rfl) rfl hxg (by rw [Nat.zero_add]; exact fl2_get hp) (by rw [fl2_len]; omega) ?_)
 refine wops_cons (o_allocA (zs := [iv 0, iv 0]) rfl rfl (z := .agg #[.int .i64 0, .int .i64 0]) (by kernel_rfl) rfl r4 ?_)
 repeat (first | refine qM rfl rfl ?_)
 refine wops_cons (o_storeA (n := 2) (vs := [iv a, iv b]) rfl rfl (by kernel_rfl) rfl rfl rfl rfl (get_add_eq r4) (Nat.le_refl _) ?_)
 refine WOps.mem (fun H5 => Keeps H4 H5 ∧ H5.next = H4.next + 1 ∧ Bk H5 H4.next 31 [iv a, iv b]) ⟨((Keeps.refl H4).add _ r4).set _ (Nat.le_refl _) r4, rfl, ⟨r4, get_set_eq r4⟩⟩ ?_
 rintro H5 ⟨k5, n5, b5⟩
 show WOps _ _ _ _ _ _
 repeat (first | apply qN | refine qM rfl rfl ?_ | refine zqb rfl rfl rfl ‹_› ?_ | apply qR)
 refine wops_cons (wop_callFV rfl rfl rfl rfl (by rfl) ?_)
 refine c90 hq H5 a b _ rfl (by omega) _ fun H6 k6 n6 => ⟨k6.nx, ?_⟩
 have g6 : H6.get H.next = some (.cells (fl2 cur) 31 0) := (k6.get _ (by omega)).trans ((k5.get _ (by omega)).trans g4)
 refine wops_cons (o_index2S rfl rfl rfl rfl hi' ?_)
 refine wops_cons (o_storeA (n := 2) (vs := [iv b, iv a]) rfl rfl (by kernel_rfl) rfl rfl rfl rfl g6 (by rw [fl2_len]; omega) ?_)
 rw [fl2_wr (by omega)]
 have hfill : cur.set i (b, a) = (ms.take (i + 1)).map sw2 ++ List.replicate (ms.length - (i + 1)) (0, 0) := hfill
 rw [hfill]
 refine WOps.mem (fun H7 => Keeps H H7 ∧ H7.next = H6.next ∧ H7.get H.next = some (.cells (fl2 ((ms.take (i + 1)).map sw2 ++ List.replicate (ms.length - (i + 1)) (0, 0))) 31 0)) ⟨(k4.trans (k5.trans k6)).set _ (Nat.le_refl _) r0, rfl, get_set_eq r0⟩ ?_
 rintro H7 ⟨k7, n7, g7⟩
 show WOps _ _ _ _ _ _
 repeat (first | apply qN | refine qM rfl rfl ?_ | refine zq4 rfl rfl rfl rfl (inc (by omega)) ?_ | apply qR)
 exact ⟨ms.length - (i + 1), by omega, i + 1, [_,_,_,_,_,_,_,_,_,_,_,_,_,_,_,_,_,_,_,_,_], rfl, by omega, k7, by omega, by omega, g7, rfl, rfl⟩
end Go.Ev
namespace Go.Ev
open Go.Proofs
def RevI (ms cur : List (Int × Int)) (i : Nat) : Prop := cur.length = ms.length ∧ ∀ k, k < ms.length → cur[k]? = if k < i ∨ ms.length ≤ k + i then ms[ms.length - 1 - k]? else ms[k]?
theorem RevI.start (ms : List (Int × Int)) : RevI ms ms 0 := ⟨rfl, fun k hk => by rw [if_neg (by omega)]⟩
theorem RevI.step {ms cur : List (Int × Int)} {i j : Nat} {p q : Int × Int} (h : RevI ms cur i) (hj : i + j + 1 = ms.length) (hij : i < j) (hp : ms[i]? = some p) (hq : ms[j]? = some q) : RevI ms ((cur.set i q).set j p) (i + 1) := by
 obtain ⟨h1, h2⟩ := h
 refine ⟨by simp [h1], fun k hk => ?_⟩
 rw [List.getElem?_set, List.length_set, List.getElem?_set]
 by_cases e1 : j = k
 · subst e1
   rw [if_pos rfl, if_pos (by omega), if_pos (by omega), show ms.length - 1 - j = i by omega, hp]
 · rw [if_neg e1]
   by_cases e2 : i = k
   · subst e2
     rw [if_pos rfl, if_pos (by omega), if_pos (by omega), show ms.length - 1 - i = j by omega, hq]
   · rw [if_neg e2, h2 k hk]
     by_cases e3 : k < i ∨ ms.length ≤ k + i
     · rw [if_pos e3, if_pos (by omega)]
     · rw [if_neg e3, if_neg (by omega)]
theorem RevI.at {ms cur : List (Int × Int)} {i j : Nat} (h : RevI ms cur i) (hj : i + j + 1 = ms.length) (hij : i < j) : cur[i]? = ms[i]? ∧ cur[j]? = ms[j]? := by
 obtain ⟨h1, h2⟩ := h
 exact ⟨by rw [h2 i (by omega), if_neg (by omega)], by rw [h2 j (by omega), if_neg (by omega)]⟩
theorem RevI.stop {ms cur : List (Int × Int)} {i : Nat} (h : RevI ms cur i) (hi : ms.length ≤ i + i + 1) (hi2 : i + i ≤ ms.length) : cur = ms.reverse := by
 obtain ⟨h1, h2⟩ := h
 refine List.ext_getElem? fun k => ?_
 by_cases hk : k < ms.length
 · rw [h2 k hk, List.getElem?_reverse hk]
   by_cases e : k < i ∨ ms.length ≤ k + i
   · rw [if_pos e]
   · rw [if_neg e, show ms.length - 1 - k = k by omega]
 · rw [List.getElem?_eq_none (by omega), List.getElem?_eq_none (by simp; omega)]
section
variable {O : CallF} {T : List AV} {H H0 : AH} {ops : Array Oper} {o : Oper} {i : Nat} {π : List Stp} {K : List AV → AH → Prop} {B : Nat → Nat → Prop}
theorem y_indexV {t e : TypeId} {x k : Operand} {j b n : Nat} (h1 : ops.toList[i]? = some o) (ho : o.op = .indexAddr t x k) (hg : wantedA o ops T = true) [hu : TyP t e] (hx : av T x = .slu b 0 n 2) (hi : av T k = iv j) (hj : j < n) (hk : WY (ENV O) ops H0 B π (putA T o.dst (.ptr b (j * 2))) H K) : WY (ENV O) ops H0 B (.mob i :: π) T H K := by
 have h2 := hu.u
 have h3 := hu.s
 have hb : Nat.blt j n = true := Nat.ble_eq_true_of_le hj
 refine y_mob (r := .ptr b (j * 2)) h1 hg ?_ (fun b hb => by rw [rdA_none (by unfold looksB; rw [ho])] at hb; cases hb) hk
 unfold mobEval
 rw [ho]
 have hm : indexAddrA Tryz.prog t (.slu b 0 n 2) (.v (.int .i64 (j : Int))) = some (.ptr b (j * 2)) := by
   unfold indexAddrA
   simp only [natA, h2, h3, hb, if_true, Nat.zero_add]
 simp only [ENV, hx, hi, isV, hm, Bool.false_eq_true, if_false]
end
variable {O : CallF} (hq : Quiet O)
include hq
theorem c135 (H : AH) (b : Nat) (ms : List (Int × Int)) (hb : b < H.next) (hg : H.get b = some (.cells (fl2 ms) 31 0)) (hml : ms.length ≤ 1000) (hr : H.next + 10 < 2 ^ 39) (K : AV → AH → Prop)
   (hk0 : ms = [] → ∀ H' nb, Keeps H H' → H'.next ≤ H.next + 2 → H.next ≤ nb → nb < H'.next → H'.get nb = some (.cells [] 31 0) → K (.slc nb 0 0 0) H')
   (hk : 0 < ms.length → ∀ H' nb, Keeps H H' → H'.next ≤ H.next + 2 → H.next ≤ nb → nb < H'.next → H'.get nb = some (.cells (fl2 ms) 31 2) → K (.slu nb 0 ms.length 2) H') : Ca (ENV O) 135 [.slc b 0 ms.length ms.length] H K := by
 refine ca_intro (hq _ _ _ rfl) (fn := Tryz.f135) (by rfl) rfl ?_
 have r0 : H.next < 2 ^ 39 := by omega
 repeat (first | apply qN | refine qM rfl rfl ?_ | apply qR | apply qS)
 refine wops_cons (o_nilEqP rfl rfl rfl rfl ?_)
 repeat (first | apply qN | refine qF rfl ?_ | apply qR | apply qS | apply qK)
 refine wops_cons (o_build0P rfl rfl r0 ?_)
 refine WOps.mem (fun H1 => Keeps H H1 ∧ H1.next = H.next + 1 ∧ H1.get H.next = some (.cells [] 31 0)) ⟨(Keeps.refl H).add _ r0, rfl, get_add_eq r0⟩ ?_
 rintro H1 ⟨k1, n1, g1⟩
 have r1 : H1.next < 2 ^ 39 := by omega
 repeat (first | refine qM rfl rfl ?_)
 refine wops_cons (o_appendC (ms := ms) rfl rfl rfl rfl rfl (by omega) r1 rfl g1 rfl ((k1.get b hb).trans hg) (fun h0 => ?_) (fun h0 => ?_))
 · refine WOps.mem (fun H2 => Keeps H H2 ∧ H2.next = H.next + 1 ∧ H2.get H.next = some (.cells [] 31 0)) ⟨k1.set _ (Nat.le_refl _) r0, n1, get_set_eq r0⟩ ?_
   rintro H2 ⟨k2, n2, g2⟩
   repeat (first | apply qN | refine qM rfl rfl ?_)
   refine wp_ret ?_
   exact ⟨_, _, rfl, hk0 h0 H2 H.next k2 (by omega) (Nat.le_refl _) (by omega) g2⟩
 · refine WOps.mem (fun H2 => Keeps H H2 ∧ H2.next = H1.next + 1 ∧ H2.get H1.next = some (.cells (fl2 ms) 31 2)) ⟨k1.add _ r1, rfl, get_add_eq r1⟩ ?_
   rintro H2 ⟨k2, n2, g2⟩
   repeat (first | apply qN | refine qM rfl rfl ?_)
   refine wp_ret ?_
   exact ⟨_, _, rfl, hk h0 H2 H1.next k2 (by omega) (by omega) (by omega) g2⟩
theorem c136e (H : AH) (b : Nat) (hg : H.get b = some (.cells [] 31 0)) (hb : b < H.next) (hr : H.next + 10 < 2 ^ 39) (K : AV → AH → Prop) (hk : ∀ r, K r H) : Ca (ENV O) 136 [.slc b 0 0 0] H K := by
 refine ca_intro (hq _ _ _ rfl) (fn := Tryz.f136) (by rfl) rfl ?_
 have hS : S2 H 31 (.slc b 0 0 0) [] := .inr ⟨b, hb, by omega, .inl ⟨0, rfl, hg⟩⟩
 repeat (first | refine qM rfl rfl ?_ | apply qR | apply qS)
 refine wops_cons (o_len2 rfl rfl rfl rfl rfl hS ?_)
 refine wops_cons (wop_bin (op := .sub) (v := .int .i64 (-1)) rfl rfl rfl rfl rfl ?_)
 repeat (first | apply qN | refine qM rfl rfl ?_ | apply qB)
 refine wp_loop (fun q T M H' => ∃ (Y : List AV), H' = H ∧ M = [] ∧ T = (.slc b 0 0 0 :: lget Y 0 :: iv 0 :: iv (-1) :: lget Y 1 :: lget Y 2 :: lget Y 3 :: lget Y 4 :: lget Y 5 :: lget Y 6 :: lget Y 7 :: lget Y 8 :: lget Y 9 :: lget Y 10 :: lget Y 11 :: lget Y 12 :: lget Y 13 :: lget Y 14 :: lget Y 15 :: lget Y 16 :: lget Y 17 :: lget Y 18 :: lget Y 19 :: lget Y 20 :: lget Y 21 :: lget Y 22 :: lget Y 23 :: lget Y 24 :: [])) 0 ⟨[_,_,_,_,_,_,_,_,_,_,_,_,_,_,_,_,_,_,_,_,_,_,_,_,_], rfl, rfl, rfl⟩ ?_
 rintro q T M H1 ⟨Y, rfl, rfl, rfl⟩
 repeat (first | refine qM rfl rfl ?_ | apply qR | apply qS)
 refine wops_cons (wop_bin (op := .lss) (v := .bool false) rfl rfl rfl rfl rfl ?_)
 repeat (first | apply qN | refine qF rfl ?_ | apply qE)
 exact ⟨_, _, rfl, hk _⟩
theorem c136 (H : AH) (rb : Nat) (ms : List (Int × Int)) (h0 : 0 < ms.length) (hb : rb < H.next) (hg : H.get rb = some (.cells (fl2 ms) 31 2)) (hml : ms.length ≤ 1000) (hr : H.next + 10 < 2 ^ 39) (K : AV → AH → Prop)
   (hk : ∀ r H', H'.next = H.next → H'.gl = H.gl → (∀ d, d ≠ rb → H'.get d = H.get d) → H'.get rb = some (.cells (fl2 ms.reverse) 31 2) → K r H') : Ca (ENV O) 136 [.slu rb 0 ms.length 2] H K := by
 refine ca_intro (hq _ _ _ rfl) (fn := Tryz.f136) (by rfl) rfl ?_
 have hrb9 : rb < 2 ^ 39 := by omega
 have hS : S2 H 31 (.slu rb 0 ms.length 2) ms := .inr ⟨rb, hb, hrb9, .inr ⟨rfl, hg⟩⟩
 repeat (first | refine qM rfl rfl ?_ | apply qR | apply qS)
 refine wops_cons (o_len2 rfl rfl rfl rfl rfl hS ?_)
 refine wops_cons (wop_bin (op := .sub) (v := .int .i64 ((ms.length : Int) - 1)) rfl rfl rfl rfl (sub1 (by omega)) ?_)
 repeat (first | apply qN | refine qM rfl rfl ?_ | apply qB)
 refine wp_loop (fun q T M H' => ∃ (i : Nat) (t : Int) (cur : List (Int × Int)) (Y : List AV), q = ms.length - i ∧ i + i ≤ ms.length ∧ t = (ms.length : Int) - 1 - i ∧ RevI ms cur i ∧ H'.next = H.next ∧ H'.gl = H.gl ∧ (∀ d, d ≠ rb → H'.get d = H.get d) ∧ H'.get rb = some (.cells (fl2 cur) 31 2) ∧ M = [] ∧ T = (.slu rb 0 ms.length 2 :: lget Y 0 :: iv (i : Nat) :: iv t :: lget Y 1 :: lget Y 2 :: lget Y 3 :: lget Y 4 :: lget Y 5 :: lget Y 6 :: lget Y 7 :: lget Y 8 :: lget Y 9 :: lget Y 10 :: lget Y 11 :: lget Y 12 :: lget Y 13 :: lget Y 14 :: lget Y 15 :: lget Y 16 :: lget Y 17 :: lget Y 18 :: lget Y 19 :: lget Y 20 :: lget Y 21 :: lget Y 22 :: lget Y 23 :: lget Y 24 :: [])) ms.length
   ⟨0, (ms.length : Int) - 1, ms, [_,_,_,_,_,_,_,_,_,_,_,_,_,_,_,_,_,_,_,_,_,_,_,_,_], rfl, Nat.zero_le _, by simp, RevI.start ms, rfl, rfl, (fun _ _ => rfl), hg, rfl, rfl⟩ ?_
 rintro q T M H1 ⟨i, t, cur, Y, hq1, hi2, ht, hRv, n1, gl1, f1, g1, rfl, rfl⟩
 repeat (first | refine qM rfl rfl ?_ | apply qR | apply qS)
 refine wops_cons (wop_cmp rfl rfl rfl rfl rfl (fun h => ?_) (fun h => ?_))
 rotate_left
 · have h : ¬ ((i : Int) < t) := of_decide_eq_false h
   have e := hRv.stop (by omega) hi2
   subst e
   repeat (first | apply qN | refine qF rfl ?_ | apply qE)
   exact ⟨_, _, rfl, hk _ H1 n1 gl1 f1 g1⟩
 have h : (i : Int) < t := of_decide_eq_true h
 obtain ⟨j, rfl⟩ := Int.eq_ofNat_of_zero_le (show 0 ≤ t by omega)
 have hij : i + j + 1 = ms.length := by omega
 have hlt : i < j := by omega
 obtain ⟨e1, e2⟩ := hRv.at hij hlt
 obtain ⟨⟨a, b⟩, hp⟩ : ∃ p, ms[i]? = some p := ⟨ms[i], List.getElem?_eq_getElem (by omega)⟩
 obtain ⟨⟨c, d⟩, hw⟩ : ∃ p, ms[j]? = some p := ⟨ms[j], List.getElem?_eq_getElem (by omega)⟩
 rw [hp] at e1
 rw [hw] at e2
 have hcl := hRv.1
 have hstep := hRv.step hij hlt hp hw
 have g2 : (H1.set rb (some (.cells (wr (fl2 cur) (i * 2) [iv c, iv d]) 31 2))).get rb = some (.cells (fl2 (cur.set i (c, d))) 31 2) := by rw [get_set_eq hrb9, fl2_wr (by omega)]
 repeat (first | apply qN | refine qT rfl ?_ | apply qS | apply qK | apply qB)
 refine wp_drawY (fun j b => b = rb ∧ (j = 7 ∨ j = 11)) rfl ?_
 refine y_move rfl rfl rfl ?_
 refine y_move rfl rfl rfl ?_
 refine y_move rfl rfl rfl ?_
 refine y_move rfl rfl rfl ?_
 refine y_move rfl rfl rfl ?_
 refine y_move rfl rfl rfl ?_
 refine y_indexV rfl rfl rfl rfl rfl (by omega) ?_
 refine y_loadA (r := [iv c, iv d]) rfl rfl rfl rfl hrb9 g1 (fl2_get e2) (by rw [fl2_len]; omega) ⟨rfl, .inl rfl⟩ ?_
 refine y_move rfl rfl rfl ?_
 refine y_move rfl rfl rfl ?_
 refine y_indexV rfl rfl rfl rfl rfl (by omega) ?_
 refine y_loadA (r := [iv a, iv b]) rfl rfl rfl rfl hrb9 g1 (fl2_get e1) (by rw [fl2_len]; omega) ⟨rfl, .inr rfl⟩ ?_
 refine y_indexV rfl rfl rfl rfl rfl (by omega) ?_
 refine y_loud rfl rfl (o_storeA (n := 2) (vs := [iv c, iv d]) rfl rfl (by kernel_rfl) rfl rfl rfl rfl g1 (by rw [fl2_len]; omega) ⟨fun j b hb => .inl (by rcases hb with ⟨_, rfl | rfl⟩ <;> kernel_rfl), ?_⟩)
 refine y_indexV rfl rfl rfl rfl rfl (by omega) ?_
 refine y_loud rfl rfl (o_storeA (n := 2) (vs := [iv a, iv b]) rfl rfl (by kernel_rfl) rfl rfl rfl rfl g2 (by rw [fl2_len, List.length_set]; omega) ⟨fun j b hb => .inl (by rcases hb with ⟨_, rfl | rfl⟩ <;> kernel_rfl), ?_⟩)
 refine y_nil ?_
 refine Wp.mem (fun H2 => H2.next = H.next ∧ H2.gl = H.gl ∧ (∀ d, d ≠ rb → H2.get d = H.get d) ∧ H2.get rb = some (.cells (fl2 ((cur.set i (c, d)).set j (a, b))) 31 2)) ⟨n1, gl1, fun d hd => ?_, ?_⟩ ?_
 · rw [get_set_ne hrb9 hd, get_set_ne hrb9 hd]; exact f1 d hd
 · rw [get_set_eq hrb9, fl2_wr (by rw [List.length_set]; omega)]
 rintro H2 ⟨n2, gl2, f2, g2'⟩
 repeat (first | refine qM rfl rfl ?_ | refine zq4 rfl rfl rfl rfl (inc (by omega)) ?_ | apply qR)
 refine wops_cons (wop_bin (op := .sub) (v := .int .i64 ((j : Int) - 1)) rfl rfl rfl rfl (sub1 (by omega)) ?_)
 repeat (first | apply qN | refine qM rfl rfl ?_)
 exact ⟨ms.length - (i + 1), by omega, i + 1, (j : Int) - 1, _, [_,_,_,_,_,_,_,_,_,_,_,_,_,_,_,_,_,_,_,_,_,_,_,_,_], rfl, by omega, by omega, hstep, n2, gl2, f2, g2', rfl, rfl⟩
theorem c88 (H : AH) (b : Nat) (ms : List (Int × Int)) (hb : b < H.next) (hg : H.get b = some (.cells (fl2 ms) 31 0)) (hml : ms.length ≤ 1000) (hr : H.next + 20 < 2 ^ 39) (K : AV → AH → Prop)
   (hk : ∀ H' r, Keeps H H' → H'.next ≤ H.next + 2 → S2 H' 31 r ms.reverse → K r H') : Ca (ENV O) 88 [.slc b 0 ms.length ms.length] H K := by
 refine ca_intro (hq _ _ _ rfl) (fn := Tryz.f88) (by rfl) rfl ?_
 repeat (first | apply qN | refine qM rfl rfl ?_ | apply qR | apply qS)
 refine wops_cons (wop_callF rfl rfl rfl (fn := Tryz.f135) (by rfl) ?_)
 refine c135 hq H b ms hb hg hml (by omega) _ (fun h0 H1 nb k1 n1 hnb hnb2 g1 => ⟨k1.nx, ?_⟩) (fun h0 H1 nb k1 n1 hnb hnb2 g1 => ⟨k1.nx, ?_⟩)
 · repeat (first | apply qN | refine qM rfl rfl ?_ | apply qR | apply qS)
   refine wops_cons (wop_callF rfl rfl rfl (fn := Tryz.f136) (by rfl) ?_)
   refine c136e hq H1 nb g1 hnb2 (by omega) _ fun _ => ⟨Nat.le_refl _, ?_⟩
   repeat (first | apply qN | refine qM rfl rfl ?_ | apply qR | apply qS)
   refine wp_ret ?_
   exact ⟨_, _, rfl, hk H1 (.slc nb 0 0 0) k1 n1 (by subst h0; exact .inr ⟨nb, hnb2, by omega, .inl ⟨0, rfl, g1⟩⟩)⟩
 · repeat (first | apply qN | refine qM rfl rfl ?_ | apply qR | apply qS)
   refine wops_cons (wop_callF rfl rfl rfl (fn := Tryz.f136) (by rfl) ?_)
   refine c136 hq H1 nb ms h0 hnb2 g1 hml (by omega) _ fun _ H2 n2 gl2 f2 g2 => ⟨by omega, ?_⟩
   have k2 : Keeps H H2 := ⟨by have := k1.nx; omega, gl2.trans k1.gl, fun d hd => (f2 d (by omega)).trans (k1.get d hd)⟩
   have hS : S2 H2 31 (.slu nb 0 ms.length 2) ms.reverse := .inr ⟨nb, by omega, by omega, .inr ⟨by rw [List.length_reverse], g2⟩⟩
   repeat (first | apply qN | refine qM rfl rfl ?_ | apply qR | apply qS)
   refine wp_ret ?_
   exact ⟨_, _, rfl, hk H2 (.slu nb 0 ms.length 2) k2 (by omega) hS⟩
theorem cUndo (H : AH) (x : AV) (ms : List (Int × Int)) (hx : S2 H 31 x ms) (hr : H.next + 20000 < 2 ^ 39) (K : AV → AH → Prop)
   (hke : mvE ms ≠ 0 → K (.tup [.v (.slice none 0 0), iv (mvE ms)]) H)
   (hk : mvE ms = 0 → ∀ H' r, Keeps H H' → H'.next ≤ H.next + 3 + 3 * ms.length → S2 H' 31 r (unL ms) → K (.tup [r, iv 0]) H') : Ca (ENV O) 24 [x] H K := by
 refine ca_intro (hq _ _ _ rfl) (fn := Tryz.f24) (by rfl) rfl ?_
 repeat (first | apply qN | refine qM rfl rfl ?_ | apply qR | apply qS)
 refine wops_cons (wop_callF rfl rfl rfl (fn := Tryz.f86) (by rfl) ?_)
 refine cCkM hq H 31 x ms hx _ ⟨Nat.le_refl _, ?_⟩
 by_cases h0 : mvE ms = 0
 · have hml := mvE_len h0
   rw [h0]
   repeat (first | apply qN | refine qM rfl rfl ?_ | apply qR | apply qS)
   refine wops_cons (wop_bin (op := .neq) (v := .bool false) rfl rfl rfl rfl rfl ?_)
   repeat (first | apply qN | refine qM rfl rfl ?_ | refine qF rfl ?_ | apply qR | apply qS | apply qK)
   refine wops_cons (wop_callF rfl rfl rfl (fn := Tryz.f89) (by rfl) ?_)
   refine c89 hq H x ms hx _ rfl hml hr _ fun H1 rb k1 n1 hrb hrb2 g1 => ⟨k1.nx, ?_⟩
   refine wops_cons (wop_callF rfl rfl rfl (fn := Tryz.f88) (by rfl) ?_)
   have hml2 : (ms.map sw2).length = ms.length := List.length_map _
   rw [← hml2]
   refine c88 hq H1 rb (ms.map sw2) hrb2 g1 (by omega) (by omega) _ fun H2 r k2 n2 hS => ⟨k2.nx, ?_⟩
   have e : (ms.map sw2).reverse = unL ms := by unfold unL sw2; rw [List.map_reverse]
   rw [e] at hS
   repeat (first | apply qN | refine qM rfl rfl ?_)
   refine wp_ret ?_
   exact ⟨_, _, rfl, hk h0 H2 r (k1.trans k2) (by omega) hS⟩
 · have hke := hke h0
   generalize mvE ms = w at h0 hke ⊢
   repeat (first | apply qN | refine qM rfl rfl ?_ | apply qR | apply qS)
   refine wops_cons (wop_bin (op := .neq) (v := .bool true) rfl rfl rfl rfl (by simp [binI, h0]) ?_)
   repeat (first | apply qN | refine qM rfl rfl ?_ | refine qT rfl ?_ | apply qR | apply qS)
   refine wp_ret ?_
   exact ⟨_, _, rfl, hke⟩
end Go.Ev
