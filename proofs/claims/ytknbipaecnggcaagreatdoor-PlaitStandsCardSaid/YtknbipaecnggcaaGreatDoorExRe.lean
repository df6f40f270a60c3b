/- Part of an evaluator of calls that is proved sound, and of what it gives about this program. No condition of its own. -/
import Derived.Test.YtknbipaecnggcaaGreatDoorExRc
set_option linter.unusedVariables false
set_option linter.unusedSimpArgs false
set_option linter.unusedSectionVars false
set_option maxRecDepth 100000
set_option maxHeartbeats 4000000
namespace Go.Ev
open Go.Proofs
def fl2 (ms : List (Int × Int)) : List AV := ms.flatMap fun p => [iv p.1, iv p.2]
theorem fl2_len : ∀ ms : List (Int × Int), (fl2 ms).length = ms.length * 2
 | [] => rfl
 | p :: ms => by
   show (iv p.1 :: iv p.2 :: fl2 ms).length = _
   simp only [List.length_cons, fl2_len ms]; omega
theorem fl2_snoc (ms : List (Int × Int)) (p : Int × Int) : fl2 (ms ++ [p]) = fl2 ms ++ [iv p.1, iv p.2] := by simp [fl2]
theorem fl2_get : ∀ {ms : List (Int × Int)} {i : Nat} {p : Int × Int}, ms[i]? = some p → ((fl2 ms).drop (i * 2)).take 2 = [iv p.1, iv p.2]
 | [], _, _, h => by simp at h
 | q :: ms, 0, p, h => by
   have e : q = p := by simpa using h
   subst e
   rfl
 | q :: ms, i + 1, p, h => by
   have := fl2_get (ms := ms) (i := i) (p := p) (by simpa using h)
   rw [show (i + 1) * 2 = i * 2 + 1 + 1 by omega]
   exact this
def S2 (H : AH) (t : TypeId) (x : AV) (ms : List (Int × Int)) : Prop :=
 (x = .v (.slice none 0 0) ∧ ms = []) ∨ ∃ b, b < H.next ∧ b < 2 ^ 39 ∧ ((∃ c, x = .slc b 0 ms.length c ∧ H.get b = some (.cells (fl2 ms) t 0)) ∨ (x = .slu b 0 ms.length 2 ∧ H.get b = some (.cells (fl2 ms) t 2)))
theorem S2.keep {H H' : AH} {t : TypeId} {x : AV} {ms : List (Int × Int)} (h : S2 H t x ms) (k : Keeps H H') : S2 H' t x ms := by
 rcases h with h | ⟨b, h1, h2, h3⟩
 · exact .inl h
 · refine .inr ⟨b, by have := k.nx; omega, h2, ?_⟩
   rcases h3 with ⟨c, h3, h4⟩ | ⟨h3, h4⟩
   · exact .inl ⟨c, h3, (k.get b h1).trans h4⟩
   · exact .inr ⟨h3, (k.get b h1).trans h4⟩
class TyP (t : TypeId) (e : outParam TypeId) : Prop where
 u : runPure Tryz.prog (underlying t) = some (.slice e)
 s : runPure Tryz.prog (sizeOf e) = some 2
 a : runPure Tryz.prog (isAgg e) = some true
 z : runPure Tryz.prog (zeroValue e) = some (.agg #[.int .i64 0, .int .i64 0])
 i : runPure Tryz.prog (typeInfo e) = some (ti e)
 b : Nat.ble (ti e).bytes (2 ^ 8) = true
instance : TyP 45 31 := ⟨by kernel_rfl, by kernel_rfl, by kernel_rfl, by kernel_rfl, by kernel_rfl, by kernel_rfl⟩
instance : TyP 40 24 := ⟨by kernel_rfl, by kernel_rfl, by kernel_rfl, by kernel_rfl, by kernel_rfl, by kernel_rfl⟩
instance : TyP 42 105 := ⟨by kernel_rfl, by kernel_rfl, by kernel_rfl, by kernel_rfl, by kernel_rfl, by kernel_rfl⟩
instance : TyP 54 137 := ⟨by kernel_rfl, by kernel_rfl, by kernel_rfl, by kernel_rfl, by kernel_rfl, by kernel_rfl⟩
section
variable {O : CallF} {T : List AV} {H H0 : AH} {ops : Array Oper} {o : Oper} {K : AV → AH → Prop}
theorem o_len2 {c : Call} {t e : TypeId} {x : Operand} {ms : List (Int × Int)} {t' : TypeId} (ho : o.op = .call c) (hg : wantedA o ops T = true) (hc : c.callee = .builtin .len) (hargs : c.args.toList = [x]) (ht : c.argTypes.toList = [t]) [hu : TyP t e] (hx : S2 H t' (av T x) ms) (hk : K (iv ms.length) H) : WOp (ENV O) ops o T H K := by
 refine wop_val (by rw [ho]; simp only [still, hc]) hg (r := iv ms.length) ?_ (Nat.le_refl _) hk
 unfold opEval; rw [ho]
 have h2 := hu.u
 simp only [ENV, oCall, hc, oBuiltin, hargs, oLen, lenOpA, arg0 ht, h2]
 rcases hx with ⟨hx, rfl⟩ | ⟨b, _, _, ⟨c, hx, _⟩ | ⟨hx, _⟩⟩ <;> rw [hx] <;> rfl
theorem o_index2 {t e : TypeId} {x i : Operand} {j : Nat} {ms : List (Int × Int)} {p : Int × Int} {t' : TypeId} (ho : o.op = .indexAddr t x i) (hg : wantedA o ops T = true) [hu : TyP t e] (hx : S2 H t' (av T x) ms) (hi : av T i = iv j) (hl : ms[j]? = some p)
   (hk : ∀ b gr, b < H.next → H.get b = some (.cells (fl2 ms) t' gr) → K (.ptr b (0 + j * 2)) H) : WOp (ENV O) ops o T H K := by
 have hj := (List.getElem?_eq_some_iff.1 hl).1
 have h2 := hu.u
 have h3 := hu.s
 have hb : Nat.blt j ms.length = true := Nat.ble_eq_true_of_le hj
 rcases hx with ⟨_, rfl⟩ | ⟨b, hbn, _, ⟨c, hx, hgb⟩ | ⟨hx, hgb⟩⟩
 · simp at hl
 · refine wop_val (by rw [ho]; rfl) hg (r := .ptr b (0 + j * 2)) ?_ (Nat.le_refl _) (hk b 0 hbn hgb)
   unfold opEval; rw [ho]
   have hm : indexAddrA Tryz.prog t (.slc b 0 ms.length c) (.v (.int .i64 (j : Int))) = some (.ptr b (0 + j * 2)) := by
     unfold indexAddrA
     simp only [natA, h2, h3, hb, if_true]
   simp only [ENV, oIndexAddr, hx, hi, isV, hm, rv]
 · refine wop_val (by rw [ho]; rfl) hg (r := .ptr b (0 + j * 2)) ?_ (Nat.le_refl _) (hk b 2 hbn hgb)
   unfold opEval; rw [ho]
   have hm : indexAddrA Tryz.prog t (.slu b 0 ms.length 2) (.v (.int .i64 (j : Int))) = some (.ptr b (0 + j * 2)) := by
     unfold indexAddrA
     simp only [natA, h2, h3, hb, if_true]
   simp only [ENV, oIndexAddr, hx, hi, isV, hm, rv]
theorem o_build1S {t e : TypeId} {x : Operand} {a b : Int} (ho : o.op = .buildSlice t 1 #[(0, x)]) (hg : wantedA o ops T = true) [hu : TyP t e] (hx : av T x = .agg [iv a, iv b]) (hr : H.next < 2 ^ 39)
   (hk : K (.slc H.next 0 1 1) (H.add (.cells [iv a, iv b] e 0))) : WOp (ENV O) ops o T H K := by
 refine wop_val (by rw [ho]; rfl) hg (r := .slc H.next 0 1 1) (H' := H.add (.cells [iv a, iv b] e 0)) ?_ (Nat.le_succ _) hk
 have hlt : Nat.blt H.next (2 ^ 39) = true := Nat.ble_eq_true_of_le hr
 unfold opEval; rw [ho]
 have h1 := hu.u
 have h2 := hu.s
 have h3 := hu.z
 simp only [ENV, buildSliceA, h1, h2, h3]
 rw [if_pos (by decide)]
 simp [fillA, hx, AV.cells, wr, newA, hlt]
 rw [List.drop_eq_nil_of_le (by simp)]
def G2 (H : AH) (e : TypeId) (s : AV) (ms : List (Int × Int)) : Prop := (s = .v (.slice none 0 0) ∧ ms = []) ∨ ∃ b, b < H.next ∧ b < 2 ^ 39 ∧ s = .slu b 0 ms.length 2 ∧ H.get b = some (.cells (fl2 ms) e 2)
theorem G2.s2 {e : TypeId} {s : AV} {ms : List (Int × Int)} (h : G2 H e s ms) : S2 H e s ms := by
 rcases h with h | ⟨b, h1, h2, h3, h4⟩
 · exact .inl h
 · exact .inr ⟨b, h1, h2, .inr ⟨h3, h4⟩⟩
theorem G2.keep {H' : AH} {e : TypeId} {s : AV} {ms : List (Int × Int)} (h : G2 H e s ms) (k : Keeps H H') : G2 H' e s ms := by
 rcases h with h | ⟨b, h1, h2, h3, h4⟩
 · exact .inl h
 · exact .inr ⟨b, by have := k.nx; omega, h2, h3, (k.get b h1).trans h4⟩
theorem o_append2 {c : Call} {t xt e e' : TypeId} {s x : Operand} {ms : List (Int × Int)} {p : Int × Int} {bx : Nat} {ex : TypeId} {gx : Nat} (ho : o.op = .call c) (hg : wantedA o ops T = true) (hc : c.callee = .builtin .append) (hargs : c.args.toList = [s, x]) (ht : c.argTypes.toList = [t, xt]) [hu : TyP t e] [hux : TyP xt e'] (hlen : ms.length < 2 ^ 30) (hr : H.next < 2 ^ 39)
   (hx : av T x = .slc bx 0 1 1) (hbx : H.get bx = some (.cells [iv p.1, iv p.2] ex gx)) (hG : G2 H e (av T s) ms)
   (hk : ∀ r H1, H1.next = H.next + 1 → H1.gl = H.gl → (∀ b, b ≠ H.next → (av T s).own ≠ some b → H1.get b = H.get b) → r = .slu H.next 0 (ms.length + 1) 2 → G2 H1 e r (ms ++ [p]) → K r H1) : WOp (ENV O) ops o T H K := by
 have hlt : Nat.blt H.next (2 ^ 39) = true := Nat.ble_eq_true_of_le hr
 have hfirst : firstA 2 1 (.slc bx 0 1 1) H = some [iv p.1, iv p.2] := by simp [firstA, hbx]
 have hb := Nat.le_of_ble_eq_true hu.b
 have e1 : ∀ n : Nat, n ≤ 2 ^ 30 → Nat.ble (n * (ti e).bytes) (2 ^ 40) = true := fun n hn => Nat.ble_eq_true_of_le (by
   have := Nat.mul_le_mul hn hb
   exact Nat.le_trans this (by decide))
 have e2 : ∀ n : Nat, n ≤ 2 ^ 30 → Nat.ble n (2 ^ 40) = true := fun n hn => Nat.ble_eq_true_of_le (Nat.le_trans hn (by decide))
 have h1 := hu.u; have h2 := hu.s; have h3 := hu.z; have h4 := hu.i; have h5 := hux.u
 have hz0 : Nat.beq (Value.agg #[.int .i64 0, .int .i64 0]).cells.size (1 + 1) = true := rfl
 rcases hG with ⟨hs0, rfl⟩ | ⟨b, hbn, _, hs0, hgb⟩
 · refine wop_val (by rw [ho]; simp only [still, hc]) hg (r := .slu H.next 0 1 2) (H' := H.add (.cells [iv p.1, iv p.2] e 2)) ?_ (Nat.le_succ _) (hk _ _ rfl rfl (fun b hb _ => by rw [AH.get_add _ _ _ hr, if_neg hb]) rfl (.inr ⟨H.next, Nat.lt_succ_self _, hr, rfl, by rw [AH.get_add _ _ _ hr, if_pos rfl]; rfl⟩))
   unfold opEval; rw [ho]
   simp only [ENV, oCall, hc, oBuiltin, hargs, appendA, arg0 ht, arg1 ht, h1, h5, isIntD, h4, h2, h3, lenA, hx, hs0]
   rw [if_pos hz0, hfirst]
   simp only
   rw [if_pos (by rfl), if_pos (by decide), if_neg (by decide), if_pos (by rw [e1 1 (by decide), e2 1 (by decide)]; rfl)]
   simp only [newU, hlt, if_true, Option.map_some]
 · have hb39 : b < 2 ^ 39 := Nat.lt_trans hbn hr
   refine wop_val (by rw [ho]; simp only [still, hc]) hg (r := .slu H.next 0 (ms.length + 1) 2) (H' := (H.set b none).add (.cells (fl2 ms ++ [iv p.1, iv p.2]) e 2)) ?_ (Nat.le_succ _)
     (hk _ _ rfl rfl (fun c hc1 hc2 => ?_) rfl (.inr ⟨H.next, Nat.lt_succ_self _, hr, by simp, ?_⟩))
   · unfold opEval; rw [ho]
     simp only [ENV, oCall, hc, oBuiltin, hargs, appendA, arg0 ht, arg1 ht, h1, h5, isIntD, h4, h2, h3, lenA, hx, hs0]
     rw [if_pos hz0, hfirst]
     simp only
     rw [if_pos (by rfl)]
     simp only [hgb]
     rw [if_pos (by rw [e1 (ms.length + 1) (by omega), e2 (ms.length + 1) (by omega), fl2_len]; simp)]
     simp only [newU, show (H.set b none).next = H.next from rfl, hlt, if_true, Option.map_some]
   · rw [AH.get_add (H.set b none) _ _ hr, if_neg (show ¬ c = (H.set b none).next from hc1), AH.get_set _ _ _ _ hb39, if_neg (fun e => hc2 (by rw [hs0, e]; rfl))]
   · rw [fl2_snoc]
     exact (AH.get_add (H.set b none) _ _ hr).trans (if_pos rfl)
end
end Go.Ev
namespace Go.Ev
open Go.Proofs
theorem Wp.mem {E : Env} {g : FuncId} {rd : Bool} {T : List AV} {M : List Nat} {H : AH} {Q : QX} {c : Code} (P : AH → Prop) (h : P H) (hw : ∀ H, P H → Wp E g rd c T M H Q) : Wp E g rd c T M H Q := hw H h
section
end
def WY (E : Env) (ops : Array Oper) (H0 : AH) (B : Nat → Nat → Prop) : List Stp → List AV → AH → (List AV → AH → Prop) → Prop
 | [], T, H, K => K T H
 | .mob i :: π, T, H, K => ∃ o r, ops.toList[i]? = some o ∧ ((wantedA o ops T = false ∧ r = .v undef) ∨ (wantedA o ops T = true ∧ mobEval E.P T (sing H0 (rdA T o)) o = some r ∧ ∀ b, rdA T o = some b → B i b)) ∧ WY E ops H0 B π (putA T o.dst r) H K
 | .loud i :: π, T, H, K => ∃ o, ops.toList[i]? = some o ∧ ∃ n r H1, evOp E.P E.F (E.evCall n) ops o T H = some (r, H1) ∧ (∀ j b, B j b → waitsB ops i j = true ∨ sameBlk (H1.get b) (H0.get b) = true) ∧ WY E ops H0 B π (putA T o.dst r) H1 K
 | .alc _ :: _, _, _, _ => False
section
variable {E : Env} {g : FuncId} {rd : Bool} {T : List AV} {M : List Nat} {H H0 : AH} {Q : QX} {ops : Array Oper} {B : Nat → Nat → Prop}
theorem wy_ev {K : List AV → AH → Prop} : ∀ {π : List Stp} {T : List AV} {H : AH}, WY E ops H0 B π T H K → ∃ n T' H' L Hs, evDraw E.P E.F (E.evCall n) ops H0 π T H = some (T', H', L, Hs) ∧ K T' H' ∧ (∀ q ∈ Hs, ∀ j b, B j b → waitsB ops q.1 j = true ∨ sameBlk (q.2.get b) (H0.get b) = true) ∧ (∀ p ∈ L, ∀ b, p.2 = some b → B p.1 b)
 | [], T, H, h => ⟨0, T, H, [], [], rfl, h, fun _ h => by simp at h, fun _ h => by simp at h⟩
 | .mob i :: π, T, H, ⟨o, r, h1, h2, h3⟩ => by
   obtain ⟨n, T', H', L, Hs, k1, k2, k3, k4⟩ := wy_ev h3
   rcases h2 with ⟨h2, rfl⟩ | ⟨h2, h4, h5⟩
   · refine ⟨n, T', H', L, Hs, ?_, k2, k3, k4⟩
     simp only [evDraw, opT h1, h2]
     exact k1
   · refine ⟨n, T', H', (i, rdA T o) :: L, Hs, ?_, k2, k3, fun p hp b hb => ?_⟩
     · simp only [evDraw, opT h1, h2, h4, k1]
     · rcases List.mem_cons.1 hp with rfl | hp
       · exact h5 b hb
       · exact k4 p hp b hb
 | .loud i :: π, T, H, ⟨o, h1, n, r, H1, h2, h5, h3⟩ => by
   obtain ⟨m, T', H', L, Hs, k1, k2, k3, k4⟩ := wy_ev h3
   refine ⟨n + m, T', H', L, (i, H1) :: Hs, ?_, k2, fun q hq => ?_, k4⟩
   · simp only [evDraw, opT h1]
     rw [evOp_le (evCall_le (Nat.le_add_right n m)) h2]
     simp only
     rw [evDraw_le (evCall_le (Nat.le_add_left m n)) k1]
   · rcases List.mem_cons.1 hq with rfl | hq
     · exact h5
     · exact k3 q hq
 | .alc _ :: _, _, _, h => h.elim
theorem wp_drawY (B : Nat → Nat → Prop) {id : Nat} {π : List Stp} (hp : E.pl.get (planKey g id) = some π) (h : WY E ops H B π T H fun T' H' => Q .normal T' M H') : Wp E g rd (.region id ops true) T M H Q := by
 obtain ⟨n, T', H', L, Hs, k1, k2, k3, k4⟩ := wy_ev h
 refine ⟨n + 1, _, T', M, H', ?_, k2⟩
 show Ev.ev E.P E.F E.O E.pl (n + 1) g rd (.region id ops true) T M H = _
 rw [ev_draw, hp]
 simp only
 unfold evRegion
 rw [show evDraw E.P E.F (Ev.evCall E.P E.F E.O E.pl n) ops H π T H = _ from k1]
 have : (Hs.all fun q => keptB ops H L q.1 q.2) = true := by
   rw [List.all_eq_true]
   intro q hq
   unfold keptB
   rw [List.all_eq_true]
   intro p hp
   cases hb : p.2 with
   | none => rfl
   | some b =>
     rcases k3 q hq p.1 b (k4 p hp b hb) with h | h
     · simp [h]
     · simp [h]
 simp only [this, if_true]
variable {π : List Stp} {i : Nat} {o : Oper} {K : List AV → AH → Prop}
theorem y_nil (h : K T H) : WY E ops H0 B [] T H K := h
theorem y_skip (h1 : ops.toList[i]? = some o) (hg : wantedA o ops T = false) (hk : WY E ops H0 B π (putA T o.dst (.v undef)) H K) : WY E ops H0 B (.mob i :: π) T H K := ⟨o, _, h1, .inl ⟨hg, rfl⟩, hk⟩
theorem y_mob {r : AV} (h1 : ops.toList[i]? = some o) (hg : wantedA o ops T = true) (h : mobEval E.P T (sing H0 (rdA T o)) o = some r) (hb : ∀ b, rdA T o = some b → B i b) (hk : WY E ops H0 B π (putA T o.dst r) H K) : WY E ops H0 B (.mob i :: π) T H K := ⟨o, r, h1, .inr ⟨hg, h, hb⟩, hk⟩
theorem y_loud (h1 : ops.toList[i]? = some o) (hs : still o.op = true) (h : WOp E ops o T H fun r H1 => (∀ j b, B j b → waitsB ops i j = true ∨ sameBlk (H1.get b) (H0.get b) = true) ∧ WY E ops H0 B π (putA T o.dst r) H1 K) : WY E ops H0 B (.loud i :: π) T H K := by
 obtain ⟨n, r, H1, k1, k2, k3⟩ := h
 rw [evOpY_still hs] at k1
 exact ⟨o, h1, n, r, H1, k1, k2, k3⟩
theorem y_move {x : Operand} (h1 : ops.toList[i]? = some o) (ho : o.op = .move x) (hg : wantedA o ops T = true) (hk : WY E ops H0 B π (putA T o.dst (av T x)) H K) : WY E ops H0 B (.mob i :: π) T H K :=
 y_mob h1 hg (by unfold mobEval; rw [ho]) (fun b hb => by rw [rdA_none (by unfold looksB; rw [ho])] at hb; cases hb) hk
theorem y_0 {r : AV} (h1 : ops.toList[i]? = some o) (hl : looksB o = false) (hg : wantedA o ops T = true) (h : WDr E ops H0 [.mob i] T H (fun T' _ => T' = putA T o.dst r)) (hk : WY E ops H0 B π (putA T o.dst r) H K) : WY E ops H0 B (.mob i :: π) T H K := by
 obtain ⟨o', r', h1', h2, h3⟩ := h
 rw [h1] at h1'; cases h1'
 have h3 : putA T o.dst r' = putA T o.dst r := h3
 rcases h2 with ⟨h2, _⟩ | ⟨h2, h4⟩
 · rw [hg] at h2; cases h2
 · refine ⟨o, r', h1, .inr ⟨hg, h4, fun b hb => by rw [rdA_none hl] at hb; cases hb⟩, ?_⟩
   rw [h3]; exact hk
theorem y_any {r : AV} (h1 : ops.toList[i]? = some o) (hg : wantedA o ops T = true) (h : WDr E ops H0 [.mob i] T H (fun T' _ => T' = putA T o.dst r)) (hb : ∀ b, rdA T o = some b → B i b) (hk : WY E ops H0 B π (putA T o.dst r) H K) : WY E ops H0 B (.mob i :: π) T H K := by
 obtain ⟨o', r', h1', h2, h3⟩ := h
 rw [h1] at h1'; cases h1'
 have h3 : putA T o.dst r' = putA T o.dst r := h3
 rcases h2 with ⟨h2, _⟩ | ⟨h2, h4⟩
 · rw [hg] at h2; cases h2
 · refine ⟨o, r', h1, .inr ⟨hg, h4, hb⟩, ?_⟩
   rw [h3]; exact hk
end
section
variable {O : CallF} {T : List AV} {H H0 : AH} {ops : Array Oper} {o : Oper} {i : Nat} {π : List Stp} {K : List AV → AH → Prop} {B : Nat → Nat → Prop}
theorem y_field {t : TypeId} {x : Operand} {f off b o0 : Nat} (h1 : ops.toList[i]? = some o) (ho : o.op = .fieldAddr t x f) (hg : wantedA o ops T = true) [hf : FA t f off] (hx : av T x = .ptr b o0) (hk : WY (ENV O) ops H0 B π (putA T o.dst (.ptr b (o0 + off))) H K) : WY (ENV O) ops H0 B (.mob i :: π) T H K :=
 y_0 h1 (by unfold looksB; rw [ho]) hg (d_field h1 ho hg hx rfl) hk
theorem y_load {t : TypeId} {x : Operand} {v : AV} (h1 : ops.toList[i]? = some o) (ho : o.op = .load t x) (hg : wantedA o ops T = true) [ha : Cell t] (hx : At H0 (av T x) v) (hL : ∀ b, (av T x).own = some b → B i b)
   (hk : WY (ENV O) ops H0 B π (putA T o.dst v) H K) : WY (ENV O) ops H0 B (.mob i :: π) T H K :=
 y_any h1 hg (d_load h1 ho hg hx rfl) (fun b hb => hL b (rdA_load ho hb)) hk
theorem y_indexI {t e : TypeId} {x y : Operand} {j : Nat} {l : List Int} {z : Int} (h1 : ops.toList[i]? = some o) (ho : o.op = .indexAddr t x y) (hg : wantedA o ops T = true) [hu : TyS t e] [hs : Cell e]
   (hx : Sl H0 (av T x) (ivs l)) (hi : av T y = iv j) (hl : l[j]? = some z) (hk : ∀ p, At H0 p (iv z) → (∀ b, p.own = some b → (av T x).own = some b) → WY (ENV O) ops H0 B π (putA T o.dst p) H K) : WY (ENV O) ops H0 B (.mob i :: π) T H K := by
 obtain ⟨p, _, _, h2, h3⟩ := index_eval (P := Tryz.prog) (F := TF) ho hu.u hs.s hx hi (Int.natCast_nonneg j) (by rw [Int.toNat_natCast]; exact ivs_get hl)
 exact y_mob h1 hg (h2 _) (fun b hb => by rw [rdA_none (by unfold looksB; rw [ho])] at hb; cases hb) (hk p h3 fun b hb => mob_own ho (h2 H) b hb)
theorem y_indexU {t e : TypeId} {x y : Operand} {j b n : Nat} (h1 : ops.toList[i]? = some o) (ho : o.op = .indexAddr t x y) (hg : wantedA o ops T = true) [hu : TyS t e] [hs : Cell e] (hx : av T x = .slu b 0 n 1) (hy : av T y = iv j) (hl : j < n)
   (hk : WY (ENV O) ops H0 B π (putA T o.dst (.ptr b j)) H K) : WY (ENV O) ops H0 B (.mob i :: π) T H K := by
 refine y_mob (r := .ptr b j) h1 hg ?_ (fun b hb => by rw [rdA_none (by unfold looksB; rw [ho])] at hb; cases hb) hk
 unfold mobEval
 rw [ho]
 have h2 := hu.u
 have h3 := hs.s
 have hm : indexAddrA (ENV O).P t (.slu b 0 n 1) (.v (.int .i64 (j : Int))) = some (.ptr b j) := by
   unfold indexAddrA
   simp only [ENV, natA, h2, h3, show Nat.blt j n = true from Nat.ble_eq_true_of_le hl, if_true, Nat.mul_one, Nat.zero_add]
 simp only [hx, hy, isV, hm, Bool.false_eq_true, if_false]
end
def nxL (l : List Int) (a b : Int) : List Int := (l.set a.toNat 0).set b.toNat (l.getD a.toNat 0)
theorem nxL_len (l : List Int) (a b : Int) : (nxL l a b).length = l.length := by simp [nxL]
theorem refE_ok {l : List Int} {a b : Int} (h : refE l a b = 0) : (0 ≤ a ∧ a < (l.length : Int)) ∧ (0 ≤ b ∧ b < (l.length : Int)) ∧ l.getD a.toNat 0 ≠ 0 ∧ l.getD b.toNat 0 = 0 := by
 unfold refE at h
 split at h
 · rename_i h1
   split at h
   · cases h
   · rename_i h2
     split at h
     · cases h
     · rename_i h3
       exact ⟨h1.1, h1.2, h2, by simpa using h3⟩
 · cases h
theorem refE_le (l : List Int) (a b : Int) : 0 ≤ refE l a b ∧ refE l a b ≤ 3 := by
 unfold refE
 repeat (first | split | decide)
theorem nxL_comm {l : List Int} {a b : Int} (h : refE l a b = 0) : nxL l a b = (l.set b.toNat (l.getD a.toNat 0)).set a.toNat 0 := by
 obtain ⟨h1, h2, h3, h4⟩ := refE_ok h
 unfold nxL
 refine List.set_comm _ _ fun e => h3 ?_
 rw [e]; exact h4
variable {O : CallF} (hq : Quiet O)
include hq
theorem cRLegal (H : AH) (y : AV) (l : List Int) (a b : Int) (mv : AV) (hmv : mv.cells = [iv a, iv b]) (hy : Sl H y (ivs l)) (hoy : Old H y) (hl : l.length ≤ 1000) (hr : H.next + 10 < 2 ^ 39) (K : AV → AH → Prop) (hk : ∀ H', Keeps H H' → H'.next = H.next + 1 → K (iv (refE l a b)) H') : Ca (ENV O) 18 [y, mv] H K := by
 refine ca_intro (hq _ _ _ rfl) (fn := Tryz.f18) (by rfl) rfl ?_
 repeat (first | apply qR | apply qS)
 refine wops_cons (o_boxS rfl rfl hmv (by omega) fun H1 n1 k1 b1 => ?_)
 have hk := hk H1 k1 n1
 have hy1 := hy.keep hoy k1
 have hp0 : At H1 (.ptr H.next 0) (iv a) := b1.at rfl
 have hp1 : At H1 (.ptr H.next 1) (iv b) := b1.at rfl
 repeat (first | apply qN | refine qM rfl rfl ?_ | refine zqa rfl rfl rfl ?_ | refine zq5 rfl rfl rfl rfl rfl ‹_› ?_ | refine zq6 rfl rfl ‹_› ?_ | apply qR | apply qS)
 refine wops_cons (wop_bin (op := .sub) (v := .int .i64 ((l.length : Int) - 1)) rfl rfl rfl rfl (sub1 (by omega)) ?_)
 skip
 refine wops_cons (wop_callF rfl rfl rfl (fn := Tryz.f80) (by rfl) ?_)
 refine cBtw hq H1 a 0 ((l.length : Int) - 1) _ ⟨Nat.le_refl _, ?_⟩
 have ea : inB a 0 ((l.length : Int) - 1) = decide (0 ≤ a ∧ a < (l.length : Int)) := by simp only [inB, decide_eq_decide]; omega
 have eb : inB b 0 ((l.length : Int) - 1) = decide (0 ≤ b ∧ b < (l.length : Int)) := by simp only [inB, decide_eq_decide]; omega
 rw [ea]
 by_cases ha : 0 ≤ a ∧ a < (l.length : Int)
 rotate_left
 · rw [decide_eq_false ha]
   rw [show refE l a b = 1 by unfold refE; rw [if_neg fun h => ha h.1]] at hk
   repeat (first | apply qN | refine zq1 rfl rfl ?_ | refine qM rfl rfl ?_ | refine zq7 rfl rfl rfl ?_ | refine zq8 rfl rfl rfl ?_ | refine qT rfl ?_ | apply qR | apply qS)
   refine wp_ret ?_
   exact ⟨_, _, rfl, hk⟩
 rw [decide_eq_true ha]
 repeat (first | refine qM rfl rfl ?_ | refine zqa rfl rfl rfl ?_ | refine zq5 rfl rfl rfl rfl rfl ‹_› ?_ | refine zq6 rfl rfl ‹_› ?_ | refine zq8 rfl rfl rfl ?_)
 refine wops_cons (wop_bin (op := .sub) (v := .int .i64 ((l.length : Int) - 1)) rfl rfl rfl rfl (sub1 (by omega)) ?_)
 skip
 refine wops_cons (wop_callF rfl rfl rfl (fn := Tryz.f80) (by rfl) ?_)
 refine cBtw hq H1 b 0 ((l.length : Int) - 1) _ ⟨Nat.le_refl _, ?_⟩
 rw [eb]
 by_cases hb : 0 ≤ b ∧ b < (l.length : Int)
 rotate_left
 · rw [decide_eq_false hb]
   rw [show refE l a b = 1 by unfold refE; rw [if_neg fun h => hb h.2]] at hk
   repeat (first | apply qN | refine qM rfl rfl ?_ | refine zq7 rfl rfl rfl ?_ | refine zq8 rfl rfl rfl ?_ | refine qT rfl ?_ | apply qR | apply qS)
   refine wp_ret ?_
   exact ⟨_, _, rfl, hk⟩
 rw [decide_eq_true hb]
 unfold refE at hk
 rw [if_pos ⟨ha, hb⟩] at hk
 obtain ⟨i, rfl, hi, hz⟩ := inSlot ha
 obtain ⟨j, rfl, hj, hw⟩ := inSlot hb
 generalize l.getD (i : Int).toNat 0 = z at hz hk
 generalize l.getD (j : Int).toNat 0 = w at hw hk
 repeat (first | apply qN | refine qM rfl rfl ?_ | refine zqa rfl rfl rfl ?_ | refine zq6 rfl rfl ‹_› ?_ | refine zq7 rfl rfl rfl ?_ | refine zq8 rfl rfl rfl ?_ | refine qF rfl ?_ | apply qR | apply qS | apply qK)
 refine wops_cons (o_indexI rfl rfl hy1 rfl hz fun pp hpp => ?_)
 repeat (first | refine zq6 rfl rfl ‹_› ?_)
 by_cases h0 : z = 0
 · rw [if_pos h0] at hk
   refine wops_cons (wop_bin (op := .eql) (v := .bool true) rfl rfl rfl rfl (by simp [binI, h0]) ?_)
   repeat (first | apply qN | refine qM rfl rfl ?_ | refine qT rfl ?_ | apply qR | apply qS)
   refine wp_ret ?_
   exact ⟨_, _, rfl, hk⟩
 rw [if_neg h0] at hk
 refine wops_cons (wop_bin (op := .eql) (v := .bool false) rfl rfl rfl rfl (by simp [binI, h0]) ?_)
 repeat (first | apply qN | refine qM rfl rfl ?_ | refine zqa rfl rfl rfl ?_ | refine zq6 rfl rfl ‹_› ?_ | refine qF rfl ?_ | apply qR | apply qS | apply qK)
 refine wops_cons (o_indexI rfl rfl hy1 rfl hw fun pp2 hpp2 => ?_)
 repeat (first | refine zq6 rfl rfl ‹_› ?_)
 by_cases h1 : w = 0
 · rw [if_neg (fun h => h h1)] at hk
   refine wops_cons (wop_bin (op := .neq) (v := .bool false) rfl rfl rfl rfl (by simp [binI, h1]) ?_)
   repeat (first | apply qN | refine qM rfl rfl ?_ | refine qF rfl ?_ | apply qR | apply qS | apply qK)
   refine wp_ret ?_
   exact ⟨_, _, rfl, hk⟩
 · rw [if_pos h1] at hk
   refine wops_cons (wop_bin (op := .neq) (v := .bool true) rfl rfl rfl rfl (by simp [binI, h1]) ?_)
   repeat (first | apply qN | refine qM rfl rfl ?_ | refine qT rfl ?_ | apply qR | apply qS)
   refine wp_ret ?_
   exact ⟨_, _, rfl, hk⟩
theorem cRNext (H : AH) (y : Value) (l : List Int) (a b : Int) (mv : AV) (hmv : mv.cells = [iv a, iv b]) (hy : Sl H (.v y) (ivs l)) (hl : l.length ≤ 1000) (hl0 : 0 < l.length) (h0 : refE l a b = 0) (hr : H.next + 10 < 2 ^ 39) (K : AV → AH → Prop) (hk : ∀ H' r, Keeps H H' → H'.next ≤ H.next + 3 → Gr H' 3 r (ivs (nxL l a b)) → K r H') : Ca (ENV O) 20 [.v y, mv] H K := by
 refine ca_intro (hq _ _ _ rfl) (fn := Tryz.f20) (by rfl) rfl ?_
 rw [nxL_comm h0] at hk
 obtain ⟨ha, hb, -, -⟩ := refE_ok h0
 obtain ⟨i, rfl, hi, hz⟩ := inSlot ha
 obtain ⟨j, rfl, hj, hw⟩ := inSlot hb
 generalize l.getD (i : Int).toNat 0 = z at hz hk
 simp only [Int.toNat_natCast] at hk
 repeat (first | apply qR | apply qS)
 refine wops_cons (o_boxS rfl rfl hmv (by omega) fun H1 n1 k1 b1 => ?_)
 have r1 : H1.next < 2 ^ 39 := by omega
 repeat (first | apply qN | refine qM rfl rfl ?_ | apply qR | apply qS)
 refine wops_cons (o_build0 rfl rfl r1 ?_)
 refine WOps.mem (fun H2 => Keeps H1 H2 ∧ H2.next = H1.next + 1 ∧ H2.get H1.next = some (.cells [] 3 0)) ⟨(Keeps.refl H1).add _ r1, rfl, get_add_eq r1⟩ ?_
 rintro H2 ⟨k2, n2, g2⟩
 have k02 := k1.trans k2
 repeat (first | refine qM rfl rfl ?_)
 refine wops_cons (o_appendA (H0 := H1) (l := l) rfl rfl rfl rfl rfl (by omega) (by omega) rfl (by omega) g2 rfl (hy.keep (Old.v _) k02) (Nat.le_refl _) k2 fun r H3 hA hn k3 n3 _ => ?_)
 have k03 := k1.trans k3
 have hG := hA.gr (by rintro rfl; simp at hl0)
 rcases hG with ⟨_, e⟩ | ⟨rb, hrb, hrb9, rfl, hgr⟩
 · have : l = [] := by cases l with | nil => rfl | cons => simp [ivs] at e
   subst this; simp at hl0
 have hrn := hn rb rfl
 rw [ivs_length]
 have b3 := b1.keep (by omega) k3
 have hp0 : At H3 (.ptr H.next 0) (iv (i : Int)) := b3.at rfl
 have hp1 : At H3 (.ptr H.next 1) (iv (j : Int)) := b3.at rfl
 have hy3 := hy.keep (Old.v _) k03
 repeat (first | apply qN | refine qM rfl rfl ?_ | apply qS)
 have s3 : ∀ v : Option AB, sameBlk ((H3.set rb v).get H.next) (H3.get H.next) = true := fun v => by
   rw [get_set_ne hrb9 (by omega), b3.g]
   simp [sameBlk, beqs, AV.beq, iv, vbeq]
 refine wp_drawY (fun _ b => b = H.next) rfl ?_
 refine y_move rfl rfl rfl ?_
 refine y_field rfl rfl rfl rfl ?_
 refine y_load rfl rfl rfl hp1 (fun b hb => by cases hb; rfl) ?_
 refine y_move rfl rfl rfl ?_
 refine y_field rfl rfl rfl rfl ?_
 refine y_load rfl rfl rfl hp0 (fun b hb => by cases hb; rfl) ?_
 refine y_move rfl rfl rfl ?_
 refine y_field rfl rfl rfl rfl ?_
 refine y_load rfl rfl rfl hp0 (fun b hb => by cases hb; rfl) ?_
 refine y_indexI rfl rfl rfl hy3 rfl hz fun p hp hpo => ?_
 refine y_load rfl rfl rfl hp (fun b hb => by have := hpo b hb; cases this) ?_
 refine y_indexU rfl rfl rfl rfl rfl hj ?_
 refine y_loud rfl rfl (o_store rfl rfl rfl hgr (by rw [ivs_length]; exact hj) rfl ⟨fun _ b hb => .inr (by subst hb; exact s3 _), ?_⟩)
 refine y_indexU rfl rfl rfl rfl rfl hi ?_
 refine y_loud rfl rfl (o_store rfl rfl rfl (get_set_eq hrb9) (by rw [List.length_set, ivs_length]; exact hi) rfl ⟨fun _ b hb => .inr (by subst hb; rw [get_set_ne hrb9 (by omega)]; exact s3 _), ?_⟩)
 refine y_nil ?_
 refine Wp.mem (fun H4 => Keeps H H4 ∧ H4.next = H3.next ∧ H4.get rb = some (.cells (ivs ((l.set j z).set i 0)) 3 1)) ⟨?_, rfl, ?_⟩ ?_
 · exact (k03.set _ (by omega) hrb9).set _ (by omega) hrb9
 · refine (get_set_eq hrb9).trans ?_
   rw [← ivs_set, ← ivs_set]
   rfl
 rintro H4 ⟨k4, n4, g4⟩
 repeat (first | apply qN | refine qM rfl rfl ?_ | apply qR | apply qS)
 refine wp_ret ?_
 refine ⟨_, _, rfl, hk H4 _ k4 (by omega) (.inr ⟨rb, by omega, hrb9, ?_, g4⟩)⟩
 show AV.slu rb 0 l.length 1 = _
 rw [ivs_length, List.length_set, List.length_set]
end Go.Ev
namespace Go.Ev
open Go.Proofs
section
variable {O : CallF} {T : List AV} {H H0 : AH} {ops : Array Oper} {o : Oper} {i : Nat} {π : List Stp} {K : List AV → AH → Prop} {B : Nat → Nat → Prop}
theorem y_bin {op : BinOp} {t yt : TypeId} {x y : Operand} {k : IntKind} {a b : Int} {v : Value} (h1 : ops.toList[i]? = some o) (ho : o.op = .binOp op t x y yt) (hg : wantedA o ops T = true) (hx : av T x = .v (.int k a)) (hy : av T y = .v (.int k b)) (hv : binI op k k a b = some v) (hk : WY (ENV O) ops H0 B π (putA T o.dst (.v v)) H K) : WY (ENV O) ops H0 B (.mob i :: π) T H K :=
 y_0 (r := .v v) h1 (by unfold looksB; rw [ho]) hg (wd_bin h1 ho hg hx hy hv rfl) hk
theorem y_pick {c x y : Operand} {b : Bool} (h1 : ops.toList[i]? = some o) (ho : o.op = .pick c x y) (hg : wantedA o ops T = true) (hc : av T c = .v (.bool b)) (hk : WY (ENV O) ops H0 B π (putA T o.dst (bif b then av T x else av T y)) H K) : WY (ENV O) ops H0 B (.mob i :: π) T H K :=
 y_0 h1 (by unfold looksB; rw [ho]) hg (wd_pick h1 ho hg hc rfl) hk
end
theorem mem_tk {l : List Int} {i : Nat} {z : Int} : z ∈ (l.take i).reverse ↔ ∃ j, j < i ∧ l[j]? = some z := by
 rw [List.mem_reverse, List.mem_iff_getElem?]
 constructor
 · rintro ⟨j, hj⟩
   rw [List.getElem?_take] at hj
   split at hj
   · exact ⟨j, by assumption, hj⟩
   · cases hj
 · rintro ⟨j, h1, h2⟩
   exact ⟨j, by rw [List.getElem?_take, if_pos h1, h2]⟩
variable {O : CallF} (hq : Quiet O)
include hq
theorem cRChk (H : AH) (y : AV) (l : List Int) (hy : Sl H y (ivs l)) (hl : l.length ≤ 1000) (K : AV → AH → Prop) (hk : K (iv (chkE l)) H) : Ca (ENV O) 16 [y] H K := by
 refine ca_intro (hq _ _ _ rfl) (fn := Tryz.f16) (by rfl) rfl ?_
 unfold chkE at hk
 repeat (first | apply qN | refine qM rfl rfl ?_ | refine zq5 rfl rfl rfl rfl rfl ‹_› ?_ | apply qR | apply qS)
 by_cases h4 : (4 : Int) ≤ (l.length : Int)
 rotate_left
 · rw [decide_eq_false h4] at hk
   refine wops_cons (wop_bin (op := .lss) (v := .bool true) rfl rfl rfl rfl (by simp [binI]; omega) ?_)
   repeat (first | apply qN | refine qM rfl rfl ?_ | refine qT rfl ?_ | apply qR | apply qS)
   refine wp_ret ?_
   exact ⟨_, _, rfl, hk⟩
 rw [decide_eq_true h4] at hk
 refine wops_cons (wop_bin (op := .lss) (v := .bool false) rfl rfl rfl rfl (by simp [binI]; omega) ?_)
 repeat (first | apply qN | refine qM rfl rfl ?_ | refine zq5 rfl rfl rfl rfl rfl ‹_› ?_ | refine qF rfl ?_ | apply qR | apply qS | apply qK)
 by_cases h64 : (l.length : Int) ≤ 64
 rotate_left
 · rw [decide_eq_false h64] at hk
   refine wops_cons (wop_bin (op := .gtr) (v := .bool true) rfl rfl rfl rfl (by simp [binI]; omega) ?_)
   repeat (first | apply qN | refine qM rfl rfl ?_ | refine qT rfl ?_ | apply qR | apply qS)
   refine wp_ret ?_
   exact ⟨_, _, rfl, hk⟩
 rw [decide_eq_true h64] at hk
 have hk : K (iv (stE [] l)) H := by
   have e : firstNZ [if true = true then (0 : Int) else 2, if true = true then (0 : Int) else 5, stE [] l] = stE [] l := by
     simp only [if_true, firstNZ]
     by_cases h : stE [] l = 0
     · simp [h]
     · simp [h]
   rw [e] at hk; exact hk
 refine wops_cons (wop_bin (op := .gtr) (v := .bool false) rfl rfl rfl rfl (by simp [binI]; omega) ?_)
 repeat (first | apply qN | refine qM rfl rfl ?_ | refine qF rfl ?_ | apply qR | apply qS | apply qK | apply qB)
 refine wp_loop (fun q T M H' => ∃ (i : Nat) (Y : List AV), q = l.length - i ∧ i ≤ l.length ∧ stE [] l = stE (l.take i).reverse (l.drop i) ∧ H' = H ∧ M = [] ∧ T = (y :: lget Y 0 :: lget Y 1 :: iv (i : Nat) :: lget Y 2 :: lget Y 3 :: lget Y 4 :: lget Y 5 :: lget Y 6 :: lget Y 7 :: lget Y 8 :: lget Y 9 :: lget Y 10 :: lget Y 11 :: lget Y 12 :: lget Y 13 :: lget Y 14 :: lget Y 15 :: lget Y 16 :: lget Y 17 :: lget Y 18 :: lget Y 19 :: lget Y 20 :: lget Y 21 :: lget Y 22 :: lget Y 23 :: lget Y 24 :: lget Y 25 :: lget Y 26 :: lget Y 27 :: lget Y 28 :: lget Y 29 :: lget Y 30 :: lget Y 31 :: lget Y 32 :: lget Y 33 :: lget Y 34 :: lget Y 35 :: lget Y 36 :: lget Y 37 :: lget Y 38 :: lget Y 39 :: lget Y 40 :: lget Y 41 :: [])) l.length
   ⟨0, [_,_,_,_,_,_,_,_,_,_,_,_,_,_,_,_,_,_,_,_,_,_,_,_,_,_,_,_,_,_,_,_,_,_,_,_,_,_,_,_,_,_], rfl, Nat.zero_le _, rfl, rfl, rfl, rfl⟩ ?_
 rintro q T M H1 ⟨i, Y, hq1, hi, hst, rfl, rfl, rfl⟩
 repeat (first | refine qM rfl rfl ?_ | refine zq5 rfl rfl rfl rfl rfl ‹_› ?_ | apply qR | apply qS)
 refine wops_cons (wop_cmp rfl rfl rfl rfl rfl (fun h => ?_) (fun h => ?_))
 rotate_left
 · have h : ¬ ((i : Int) < (l.length : Nat)) := of_decide_eq_false h
   have e : i = l.length := by omega
   subst e
   rw [List.drop_length] at hst
   have hst : stE [] l = 0 := hst
   rw [hst] at hk
   repeat (first | apply qN | refine qM rfl rfl ?_ | refine qF rfl ?_ | apply qR | apply qS | apply qE)
   refine wp_ret ?_
   exact ⟨_, _, rfl, hk⟩
 have hi' : i < l.length := by have h : (i : Int) < (l.length : Nat) := of_decide_eq_true h; omega
 clear h
 obtain ⟨z, hz⟩ := l_some hi'
 rw [drop_cons hz, stE] at hst
 have htk : (l.take (i + 1)).reverse = z :: (l.take i).reverse := by rw [List.take_add_one, hz]; simp
 repeat (first | apply qN | refine qM rfl rfl ?_ | refine qT rfl ?_ | apply qR | apply qS | apply qK | apply qB)
 refine wops_cons (o_indexI rfl rfl hy rfl hz fun pp hpp => ?_)
 repeat (first | refine zq6 rfl rfl ‹_› ?_)
 refine wops_cons (wop_callF rfl rfl rfl (fn := Tryz.f80) (by rfl) ?_)
 refine cBtw hq _ z 0 64 _ ⟨Nat.le_refl _, ?_⟩
 by_cases hb : inB z 0 64 = false
 · rw [hb]
   rw [if_pos hb] at hst
   rw [hst] at hk
   repeat (first | apply qN | refine qM rfl rfl ?_ | refine zq8 rfl rfl rfl ?_ | refine qT rfl ?_ | apply qR | apply qS)
   refine wp_ret ?_
   exact ⟨_, _, rfl, hk⟩
 rw [if_neg hb] at hst
 have hb : inB z 0 64 = true := by simpa using hb
 rw [hb]
 repeat (first | apply qN | refine qM rfl rfl ?_ | refine zq8 rfl rfl rfl ?_ | refine qF rfl ?_ | apply qR | apply qS | apply qK | apply qB)
 refine wp_loop (fun q T M H' => ∃ (j : Nat) (Y : List AV), q = i - j ∧ j ≤ i ∧ (∀ k, k < j → l[k]? = some z → z = 0) ∧ H' = H1 ∧ M = [] ∧ T = (y :: lget Y 0 :: lget Y 1 :: iv (i : Nat) :: iv (j : Nat) :: lget Y 2 :: lget Y 3 :: lget Y 4 :: lget Y 5 :: lget Y 6 :: lget Y 7 :: lget Y 8 :: lget Y 9 :: lget Y 10 :: lget Y 11 :: lget Y 12 :: lget Y 13 :: lget Y 14 :: lget Y 15 :: lget Y 16 :: lget Y 17 :: lget Y 18 :: lget Y 19 :: lget Y 20 :: lget Y 21 :: lget Y 22 :: lget Y 23 :: lget Y 24 :: lget Y 25 :: lget Y 26 :: lget Y 27 :: lget Y 28 :: lget Y 29 :: lget Y 30 :: lget Y 31 :: lget Y 32 :: lget Y 33 :: lget Y 34 :: lget Y 35 :: lget Y 36 :: lget Y 37 :: lget Y 38 :: lget Y 39 :: lget Y 40 :: [])) i
   ⟨0, [_,_,_,_,_,_,_,_,_,_,_,_,_,_,_,_,_,_,_,_,_,_,_,_,_,_,_,_,_,_,_,_,_,_,_,_,_,_,_,_,_], rfl, Nat.zero_le _, (fun k h => absurd h (Nat.not_lt_zero _)), rfl, rfl, rfl⟩ ?_
 rintro q2 T M H2 ⟨j, Y, hq2, hj, hpre, rfl, rfl, rfl⟩
 repeat (first | refine qM rfl rfl ?_ | apply qR | apply qS)
 refine wops_cons (wop_cmp rfl rfl rfl rfl rfl (fun h => ?_) (fun h => ?_))
 rotate_left
 · have h : ¬ ((j : Int) < (i : Nat)) := of_decide_eq_false h
   have e : j = i := by omega
   subst e
   rw [if_neg (fun h => by
     obtain ⟨h1, h2⟩ := h
     obtain ⟨k, h3, h4⟩ := mem_tk.1 h2
     exact h1 (hpre k h3 h4))] at hst
   repeat (first | apply qN | refine qM rfl rfl ?_ | refine zq4 rfl rfl rfl rfl (inc (by omega)) ?_ | refine qF rfl ?_ | apply qR | apply qE)
   exact ⟨l.length - (j + 1), by omega, j + 1, [_,_,_,_,_,_,_,_,_,_,_,_,_,_,_,_,_,_,_,_,_,_,_,_,_,_,_,_,_,_,_,_,_,_,_,_,_,_,_,_,_,_], rfl, by omega, by rw [htk]; exact hst, rfl, rfl, rfl⟩
 have hj' : j < i := by have h : (j : Int) < (i : Nat) := of_decide_eq_true h; omega
 clear h
 obtain ⟨w, hw⟩ := l_some (show j < l.length by omega)
 by_cases hz0 : z = 0
 · repeat (first | apply qN | refine qT rfl ?_ | apply qS | apply qK | apply qB)
   refine Wp.mono (Q := fun x' T' M' H' => x' = .normal ∧ M' = [] ∧ H' = H2 ∧ ∃ (Y : List AV), T' = (y :: lget Y 0 :: lget Y 1 :: iv (i : Nat) :: iv (j : Nat) :: lget Y 2 :: lget Y 3 :: lget Y 4 :: lget Y 5 :: lget Y 6 :: lget Y 7 :: lget Y 8 :: lget Y 9 :: lget Y 10 :: lget Y 11 :: lget Y 12 :: lget Y 13 :: lget Y 14 :: lget Y 15 :: lget Y 16 :: lget Y 17 :: lget Y 18 :: lget Y 19 :: lget Y 20 :: lget Y 21 :: lget Y 22 :: lget Y 23 :: lget Y 24 :: lget Y 25 :: lget Y 26 :: lget Y 27 :: lget Y 28 :: lget Y 29 :: lget Y 30 :: lget Y 31 :: lget Y 32 :: lget Y 33 :: lget Y 34 :: lget Y 35 :: lget Y 36 :: lget Y 37 :: lget Y 38 :: lget Y 39 :: .v (.bool false) :: [])) ?_ ?_
   · refine wp_drawY (fun _ _ => True) rfl ?_
     refine y_move rfl rfl rfl ?_
     refine y_move rfl rfl rfl ?_
     refine y_indexI rfl rfl rfl hy rfl hz fun p hp _ => ?_
     refine y_load rfl rfl rfl hp (fun _ _ => trivial) ?_
     refine y_bin (op := .neq) (v := .bool false) rfl rfl rfl rfl rfl (by simp [binI, hz0]) ?_
     refine y_move rfl rfl rfl ?_
     repeat (first | refine y_skip rfl rfl ?_ | refine y_pick rfl rfl rfl rfl ?_)
     refine y_nil ?_
     exact ⟨rfl, rfl, rfl, [_,_,_,_,_,_,_,_,_,_,_,_,_,_,_,_,_,_,_,_,_,_,_,_,_,_,_,_,_,_,_,_,_,_,_,_,_,_,_,_], rfl⟩
   rintro x' T' M' H' ⟨rfl, rfl, rfl, Y, rfl⟩
   repeat (first | apply qN | refine qM rfl rfl ?_ | refine zq4 rfl rfl rfl rfl (inc (by omega)) ?_ | refine qF rfl ?_ | apply qR | apply qK)
   exact ⟨i - (j + 1), by omega, j + 1, [_,_,_,_,_,_,_,_,_,_,_,_,_,_,_,_,_,_,_,_,_,_,_,_,_,_,_,_,_,_,_,_,_,_,_,_,_,_,_,_,_], rfl, by omega, (fun _ _ _ => hz0), rfl, rfl, rfl⟩
 · repeat (first | apply qN | refine qT rfl ?_ | apply qS | apply qK | apply qB)
   refine Wp.mono (Q := fun x' T' M' H' => x' = .normal ∧ M' = [] ∧ H' = H2 ∧ ∃ (Y : List AV), T' = (y :: lget Y 0 :: lget Y 1 :: iv (i : Nat) :: iv (j : Nat) :: lget Y 2 :: lget Y 3 :: lget Y 4 :: lget Y 5 :: lget Y 6 :: lget Y 7 :: lget Y 8 :: lget Y 9 :: lget Y 10 :: lget Y 11 :: lget Y 12 :: lget Y 13 :: lget Y 14 :: lget Y 15 :: lget Y 16 :: lget Y 17 :: lget Y 18 :: lget Y 19 :: lget Y 20 :: lget Y 21 :: lget Y 22 :: lget Y 23 :: lget Y 24 :: lget Y 25 :: lget Y 26 :: lget Y 27 :: lget Y 28 :: lget Y 29 :: lget Y 30 :: lget Y 31 :: lget Y 32 :: lget Y 33 :: lget Y 34 :: lget Y 35 :: lget Y 36 :: lget Y 37 :: lget Y 38 :: lget Y 39 :: .v (.bool (decide (w = z))) :: [])) ?_ ?_
   · refine wp_drawY (fun _ _ => True) rfl ?_
     refine y_move rfl rfl rfl ?_
     refine y_move rfl rfl rfl ?_
     refine y_indexI rfl rfl rfl hy rfl hz fun p hp _ => ?_
     refine y_load rfl rfl rfl hp (fun _ _ => trivial) ?_
     refine y_bin (op := .neq) (v := .bool true) rfl rfl rfl rfl rfl (by simp [binI, hz0]) ?_
     refine y_move rfl rfl rfl ?_
     refine y_move rfl rfl rfl ?_
     refine y_move rfl rfl rfl ?_
     refine y_indexI rfl rfl rfl hy rfl hw fun p hp _ => ?_
     refine y_load rfl rfl rfl hp (fun _ _ => trivial) ?_
     refine y_move rfl rfl rfl ?_
     refine y_move rfl rfl rfl ?_
     refine y_indexI rfl rfl rfl hy rfl hz fun p hp _ => ?_
     refine y_load rfl rfl rfl hp (fun _ _ => trivial) ?_
     refine y_bin (op := .eql) (v := .bool (decide (w = z))) rfl rfl rfl rfl rfl (by simp only [binI]; by_cases e : w = z <;> simp [e]) ?_
     refine y_pick rfl rfl rfl rfl ?_
     refine y_nil ?_
     exact ⟨rfl, rfl, rfl, [_,_,_,_,_,_,_,_,_,_,_,_,_,_,_,_,_,_,_,_,_,_,_,_,_,_,_,_,_,_,_,_,_,_,_,_,_,_,_,_], rfl⟩
   rintro x' T' M' H' ⟨rfl, rfl, rfl, Y, rfl⟩
   by_cases e : w = z
   · rw [decide_eq_true e]
     subst e
     rw [if_pos ⟨hz0, mem_tk.2 ⟨j, hj', hw⟩⟩] at hst
     rw [hst] at hk
     repeat (first | apply qN | refine qM rfl rfl ?_ | refine qT rfl ?_ | apply qR | apply qS)
     refine wp_ret ?_
     exact ⟨_, _, rfl, hk⟩
   · rw [decide_eq_false e]
     repeat (first | apply qN | refine qM rfl rfl ?_ | refine zq4 rfl rfl rfl rfl (inc (by omega)) ?_ | refine qF rfl ?_ | apply qR | apply qK)
     refine ⟨i - (j + 1), by omega, j + 1, [_,_,_,_,_,_,_,_,_,_,_,_,_,_,_,_,_,_,_,_,_,_,_,_,_,_,_,_,_,_,_,_,_,_,_,_,_,_,_,_,_], rfl, by omega, (fun k h1 h2 => ?_), rfl, rfl, rfl⟩
     by_cases ek : k = j
     · subst ek; rw [hw] at h2; exact absurd (Option.some.inj h2) e
     · exact hpre k (by omega) h2
end Go.Ev
