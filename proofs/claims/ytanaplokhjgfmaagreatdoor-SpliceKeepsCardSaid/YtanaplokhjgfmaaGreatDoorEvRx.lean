/- Part of an evaluator of calls that is proved sound, and of what it gives about this program. No condition of its own. -/
import Derived.Test.YtanaplokhjgfmaaGreatDoorEvRa
import Derived.Test.YtanaplokhjgfmaaGreatDoorEvHa
set_option linter.unusedVariables false
set_option linter.unusedSimpArgs false
set_option linter.unusedSectionVars false
set_option maxRecDepth 100000
set_option maxHeartbeats 4000000
namespace Go.Ev
open Go.Proofs
section
variable {E : Env} {T : List AV} {H : AH} {ops : Array Oper} {o : Oper} {K : AV → AH → Prop}
def Mv (es : List MapEntry) (f : Int → Option Bool) : Prop :=
 (∀ e ∈ es, ∃ (k : Int) (v : Bool), e.key = .int .i64 k ∧ e.val = .bool v) ∧ ∀ k : Int, f k = (es.find? (isK k)).bind fun e => match e.val with | .bool v => some v | _ => none
theorem Mv.nil : Mv [] fun _ => none := ⟨fun e h => by simp at h, fun _ => rfl⟩
end
section
variable {E : Env} {T : List AV} {H H0 : AH} {ops : Array Oper} {o : Oper} {i : Nat} {π : List Stp} {K : List AV → AH → Prop}
theorem k_not {t : TypeId} {x : Operand} {b : Bool} (h1 : ops.toList[i]? = some o) (ho : o.op = .unOp .not t x) (hg : wantedA o ops T = true) (hx : av T x = .v (.bool b)) (hk : WK E ops H0 π (putA T o.dst (.v (.bool (!b)))) H K) : WK E ops H0 (.mob i :: π) T H K := by
 refine k_mob h1 hg ?_ (fun b hb => by rw [rdA_none (by unfold looksB; rw [ho])] at hb; cases hb) hk
 unfold mobEval
 rw [ho]
 simp only
 unfold plainVal
 have h2 : runPure E.P (execOp (fun x => ((av T x).plain).getD undef) o) = some (.value (.bool (!b))) := by
   obtain ⟨dst, op', type, pos, after, guard⟩ := o
   simp only at ho
   subst ho
   simp only [execOp, hx, AV.plain, Option.getD_some, Op.unary, runPure_bind, runPure_pure, Option.bind_some]
 rw [h2, ho]
 simp [Op.operands, hx, AV.plain]
theorem k_rem {t yt : TypeId} {x y : Operand} {k : IntKind} {a b : Int} (h1 : ops.toList[i]? = some o) (ho : o.op = .binOp .rem t x y yt) (hg : wantedA o ops T = true) (hx : av T x = .v (.int k a)) (hy : av T y = .v (.int k b)) (hb : b ≠ 0) (hk : WK E ops H0 π (putA T o.dst (.v (.int k (a.tmod b)))) H K) : WK E ops H0 (.mob i :: π) T H K :=
 k_0 h1 (by unfold looksB; rw [ho]) hg (wd_rem h1 ho hg hx hy hb rfl) hk
end
theorem o_build2 {O : CallF} {T : List AV} {H : AH} {ops : Array Oper} {o : Oper} {K : AV → AH → Prop} {t e : TypeId} {x y : Operand} {z0 : Value} (ho : o.op = .buildSlice t 2 #[(0, x), (1, y)]) (hg : wantedA o ops T = true) [hu : TyS t e] [hs : Cell e] [hz : Zero e z0] (h1 : (av T x).one = true) (h2 : (av T y).one = true) (hr : H.next < 2 ^ 59)
   (hk : K (.slc H.next 0 2 2) (H.add (.cells [av T x, av T y] e 0))) : WOp (ENV O) ops o T H K := by
 refine wop_val (by rw [ho]; rfl) hg (r := .slc H.next 0 2 2) (H' := H.add (.cells [av T x, av T y] e 0)) ?_ (Nat.le_succ _) hk
 have hlt : Nat.blt H.next (2 ^ 59) = true := Nat.ble_eq_true_of_le hr
 unfold opEval; rw [ho]
 simp only [ENV, buildSliceA, hu.u, hs.s, hz.z, hz.c]
 rw [if_pos (by decide)]
 simp [fillA, cells_one h1, cells_one h2, wr, newA, hlt]
 rw [List.drop_eq_nil_of_le (by simp)]
theorem o_build3 {O : CallF} {T : List AV} {H : AH} {ops : Array Oper} {o : Oper} {K : AV → AH → Prop} {t e : TypeId} {x y w : Operand} {z0 : Value} (ho : o.op = .buildSlice t 3 #[(0, x), (1, y), (2, w)]) (hg : wantedA o ops T = true) [hu : TyS t e] [hs : Cell e] [hz : Zero e z0] (h1 : (av T x).one = true) (h2 : (av T y).one = true) (h3 : (av T w).one = true) (hr : H.next < 2 ^ 59)
   (hk : K (.slc H.next 0 3 3) (H.add (.cells [av T x, av T y, av T w] e 0))) : WOp (ENV O) ops o T H K := by
 refine wop_val (by rw [ho]; rfl) hg (r := .slc H.next 0 3 3) (H' := H.add (.cells [av T x, av T y, av T w] e 0)) ?_ (Nat.le_succ _) hk
 have hlt : Nat.blt H.next (2 ^ 59) = true := Nat.ble_eq_true_of_le hr
 unfold opEval; rw [ho]
 simp only [ENV, buildSliceA, hu.u, hs.s, hz.z, hz.c]
 rw [if_pos (by decide)]
 simp [fillA, cells_one h1, cells_one h2, cells_one h3, wr, newA, hlt]
 rw [List.drop_eq_nil_of_le (by simp)]
def fl2 (ms : List (Int × Int)) : List AV := ms.flatMap fun p => [iv p.1, iv p.2]
theorem fl2_len : ∀ ms : List (Int × Int), (fl2 ms).length = ms.length * 2
 | [] => rfl
 | p :: ms => by
   show (iv p.1 :: iv p.2 :: fl2 ms).length = _
   simp only [List.length_cons, fl2_len ms]; omega
theorem fl2_get : ∀ {ms : List (Int × Int)} {i : Nat} {p : Int × Int}, ms[i]? = some p → ((fl2 ms).drop (i * 2)).take 2 = [iv p.1, iv p.2]
 | [], _, _, h => by simp at h
 | q :: ms, 0, p, h => by
   have e : q = p := by simpa using h
   subst e
   rfl
 | q :: ms, i + 1, p, h => by
   have := fl2_get (ms := ms) (i := i) (p := p) (by simpa using h)
   rw [show (i + 1) * 2 = i * 2 + 1 + 1 by omega]
   exact this
def S2 (H : AH) (t : TypeId) (x : AV) (ms : List (Int × Int)) : Prop :=
 (x = .v (.slice none 0 0) ∧ ms = []) ∨ ∃ b, b < H.next ∧ b < 2 ^ 59 ∧ ((∃ c, x = .slc b 0 ms.length c ∧ H.get b = some (.cells (fl2 ms) t 0)) ∨ (x = .slu b 0 ms.length 2 ∧ H.get b = some (.cells (fl2 ms) t 2)))
theorem S2.keep {H H' : AH} {t : TypeId} {x : AV} {ms : List (Int × Int)} (h : S2 H t x ms) (k : Keeps H H') : S2 H' t x ms := by
 rcases h with h | ⟨b, h1, h2, h3⟩
 · exact .inl h
 · refine .inr ⟨b, by have := k.nx; omega, h2, ?_⟩
   rcases h3 with ⟨c, h3, h4⟩ | ⟨h3, h4⟩
   · exact .inl ⟨c, h3, (k.get b h1).trans h4⟩
   · exact .inr ⟨h3, (k.get b h1).trans h4⟩
class TyP (t : TypeId) (e : outParam TypeId) : Prop where
 u : runPure Tryz.prog (underlying t) = some (.slice e)
 s : runPure Tryz.prog (sizeOf e) = some 2
 a : runPure Tryz.prog (isAgg e) = some true
 z : runPure Tryz.prog (zeroValue e) = some (.agg #[.int .i64 0, .int .i64 0])
 i : runPure Tryz.prog (typeInfo e) = some (ti e)
 b : Nat.ble (ti e).bytes (2 ^ 8) = true
instance : TyP 65 120 := ⟨by kernel_rfl, by kernel_rfl, by kernel_rfl, by kernel_rfl, by kernel_rfl, by kernel_rfl⟩
instance : TyP 72 144 := ⟨by kernel_rfl, by kernel_rfl, by kernel_rfl, by kernel_rfl, by kernel_rfl, by kernel_rfl⟩
instance : TyP 55 108 := ⟨by kernel_rfl, by kernel_rfl, by kernel_rfl, by kernel_rfl, by kernel_rfl, by kernel_rfl⟩
instance : TyP 59 138 := ⟨by kernel_rfl, by kernel_rfl, by kernel_rfl, by kernel_rfl, by kernel_rfl, by kernel_rfl⟩
section
variable {O : CallF} {T : List AV} {H H0 : AH} {ops : Array Oper} {o : Oper} {K : AV → AH → Prop}
theorem o_len2 {c : Call} {t e : TypeId} {x : Operand} {ms : List (Int × Int)} {t' : TypeId} (ho : o.op = .call c) (hg : wantedA o ops T = true) (hc : c.callee = .builtin .len) (hargs : c.args.toList = [x]) (ht : c.argTypes.toList = [t]) [hu : TyP t e] (hx : S2 H t' (av T x) ms) (hk : K (iv ms.length) H) : WOp (ENV O) ops o T H K := by
 refine wop_val (by rw [ho]; simp only [still, hc]) hg (r := iv ms.length) ?_ (Nat.le_refl _) hk
 unfold opEval; rw [ho]
 have h2 := hu.u
 simp only [ENV, oCall, hc, oBuiltin, hargs, oLen, lenOpA, arg0 ht, h2]
 rcases hx with ⟨hx, rfl⟩ | ⟨b, _, _, ⟨c, hx, _⟩ | ⟨hx, _⟩⟩ <;> rw [hx] <;> rfl
def G2 (H : AH) (e : TypeId) (s : AV) (ms : List (Int × Int)) : Prop := (s = .v (.slice none 0 0) ∧ ms = []) ∨ ∃ b, b < H.next ∧ b < 2 ^ 59 ∧ s = .slu b 0 ms.length 2 ∧ H.get b = some (.cells (fl2 ms) e 2)
theorem G2.s2 {e : TypeId} {s : AV} {ms : List (Int × Int)} (h : G2 H e s ms) : S2 H e s ms := by
 rcases h with h | ⟨b, h1, h2, h3, h4⟩
 · exact .inl h
 · exact .inr ⟨b, h1, h2, .inr ⟨h3, h4⟩⟩
theorem G2.keep {H' : AH} {e : TypeId} {s : AV} {ms : List (Int × Int)} (h : G2 H e s ms) (k : Keeps H H') : G2 H' e s ms := by
 rcases h with h | ⟨b, h1, h2, h3, h4⟩
 · exact .inl h
 · exact .inr ⟨b, by have := k.nx; omega, h2, h3, (k.get b h1).trans h4⟩
end
theorem Wp.mem {E : Env} {g : FuncId} {rd : Bool} {T : List AV} {M : List Nat} {H : AH} {Q : QX} {c : Code} (P : AH → Prop) (h : P H) (hw : ∀ H, P H → Wp E g rd c T M H Q) : Wp E g rd c T M H Q := hw H h
section
end
def WY (E : Env) (ops : Array Oper) (H0 : AH) (B : Nat → Nat → Prop) : List Stp → List AV → AH → (List AV → AH → Prop) → Prop
 | [], T, H, K => K T H
 | .mob i :: π, T, H, K => ∃ o r, ops.toList[i]? = some o ∧ ((wantedA o ops T = false ∧ r = .v undef) ∨ (wantedA o ops T = true ∧ mobEval E.P T (sing H0 (rdA T o)) o = some r ∧ ∀ b, rdA T o = some b → B i b)) ∧ WY E ops H0 B π (putA T o.dst r) H K
 | .loud i :: π, T, H, K => ∃ o, ops.toList[i]? = some o ∧ ∃ n r H1, evOp E.P E.F (E.evCall n) ops o T H = some (r, H1) ∧ (∀ j b, B j b → waitsB ops i j = true ∨ sameBlk (H1.get b) (H0.get b) = true) ∧ WY E ops H0 B π (putA T o.dst r) H1 K
 | .alc i :: π, T, H, K => ∃ o, ops.toList[i]? = some o ∧ ((wantedA o ops T = false ∧ WY E ops H0 B π (putA T o.dst (.v undef)) H K) ∨ (wantedA o ops T = true ∧ ∃ k cs t H1, laysA E.P T o = some (k, cs, t) ∧ newA t cs H = some H1 ∧ WY E ops H0 B π (putA T o.dst (nvA k H.next)) H1 K))
section
variable {E : Env} {g : FuncId} {rd : Bool} {T : List AV} {M : List Nat} {H H0 : AH} {Q : QX} {ops : Array Oper} {B : Nat → Nat → Prop}
theorem wy_ev {K : List AV → AH → Prop} : ∀ {π : List Stp} {T : List AV} {H : AH}, WY E ops H0 B π T H K → ∃ n T' H' L Hs, evDraw E.P E.F (E.evCall n) ops H0 π T H = some (T', H', L, Hs) ∧ K T' H' ∧ (∀ q ∈ Hs, ∀ j b, B j b → waitsB ops q.1 j = true ∨ sameBlk (q.2.get b) (H0.get b) = true) ∧ (∀ p ∈ L, ∀ b, p.2 = some b → B p.1 b)
 | [], T, H, h => ⟨0, T, H, [], [], rfl, h, fun _ h => by simp at h, fun _ h => by simp at h⟩
 | .mob i :: π, T, H, ⟨o, r, h1, h2, h3⟩ => by
   obtain ⟨n, T', H', L, Hs, k1, k2, k3, k4⟩ := wy_ev h3
   rcases h2 with ⟨h2, rfl⟩ | ⟨h2, h4, h5⟩
   · refine ⟨n, T', H', L, Hs, ?_, k2, k3, k4⟩
     simp only [evDraw, opT h1, h2]
     exact k1
   · refine ⟨n, T', H', (i, rdA T o) :: L, Hs, ?_, k2, k3, fun p hp b hb => ?_⟩
     · simp only [evDraw, opT h1, h2, h4, k1]
     · rcases List.mem_cons.1 hp with rfl | hp
       · exact h5 b hb
       · exact k4 p hp b hb
 | .loud i :: π, T, H, ⟨o, h1, n, r, H1, h2, h5, h3⟩ => by
   obtain ⟨m, T', H', L, Hs, k1, k2, k3, k4⟩ := wy_ev h3
   refine ⟨n + m, T', H', L, (i, H1) :: Hs, ?_, k2, fun q hq => ?_, k4⟩
   · simp only [evDraw, opT h1]
     rw [evOp_le (evCall_le (Nat.le_add_right n m)) h2]
     simp only
     rw [evDraw_le (evCall_le (Nat.le_add_left m n)) k1]
   · rcases List.mem_cons.1 hq with rfl | hq
     · exact h5
     · exact k3 q hq
 | .alc i :: π, T, H, ⟨o, h1, .inl ⟨hw, h4⟩⟩ => by
   obtain ⟨n, T', H', L, Hs, k1, k2, k3, k4⟩ := wy_ev h4
   refine ⟨n, T', H', L, Hs, ?_, k2, k3, k4⟩
   simp only [evDraw, opT h1, hw]
   exact k1
 | .alc i :: π, T, H, ⟨o, h1, .inr ⟨hw, k, cs, t, H1, h2, h3, h4⟩⟩ => by
   obtain ⟨n, T', H', L, Hs, k1, k2, k3, k4⟩ := wy_ev h4
   refine ⟨n, T', H', L, Hs, ?_, k2, k3, k4⟩
   simp only [evDraw, opT h1, hw, h2, h3]
   exact k1
theorem wp_drawY (B : Nat → Nat → Prop) {id : Nat} {π : List Stp} (hp : E.pl.get (planKey g id) = some π) (h : WY E ops H B π T H fun T' H' => Q .normal T' M H') : Wp E g rd (.region id ops true) T M H Q := by
 obtain ⟨n, T', H', L, Hs, k1, k2, k3, k4⟩ := wy_ev h
 refine ⟨n + 1, _, T', M, H', ?_, k2⟩
 show Ev.ev E.P E.F E.O E.pl (n + 1) g rd (.region id ops true) T M H = _
 rw [ev_draw, hp]
 simp only
 unfold evRegion
 rw [show evDraw E.P E.F (Ev.evCall E.P E.F E.O E.pl n) ops H π T H = _ from k1]
 have : (Hs.all fun q => keptB ops H L q.1 q.2) = true := by
   rw [List.all_eq_true]
   intro q hq
   unfold keptB
   rw [List.all_eq_true]
   intro p hp
   cases hb : p.2 with
   | none => rfl
   | some b =>
     rcases k3 q hq p.1 b (k4 p hp b hb) with h | h
     · simp [h]
     · simp [h]
 simp only [this, if_true]
variable {π : List Stp} {i : Nat} {o : Oper} {K : List AV → AH → Prop}
theorem y_nil (h : K T H) : WY E ops H0 B [] T H K := h
theorem y_mob {r : AV} (h1 : ops.toList[i]? = some o) (hg : wantedA o ops T = true) (h : mobEval E.P T (sing H0 (rdA T o)) o = some r) (hb : ∀ b, rdA T o = some b → B i b) (hk : WY E ops H0 B π (putA T o.dst r) H K) : WY E ops H0 B (.mob i :: π) T H K := ⟨o, r, h1, .inr ⟨hg, h, hb⟩, hk⟩
theorem y_loud (h1 : ops.toList[i]? = some o) (hs : still o.op = true) (h : WOp E ops o T H fun r H1 => (∀ j b, B j b → waitsB ops i j = true ∨ sameBlk (H1.get b) (H0.get b) = true) ∧ WY E ops H0 B π (putA T o.dst r) H1 K) : WY E ops H0 B (.loud i :: π) T H K := by
 obtain ⟨n, r, H1, k1, k2, k3⟩ := h
 rw [evOpY_still hs] at k1
 exact ⟨o, h1, n, r, H1, k1, k2, k3⟩
theorem y_move {x : Operand} (h1 : ops.toList[i]? = some o) (ho : o.op = .move x) (hg : wantedA o ops T = true) (hk : WY E ops H0 B π (putA T o.dst (av T x)) H K) : WY E ops H0 B (.mob i :: π) T H K :=
 y_mob h1 hg (by unfold mobEval; rw [ho]) (fun b hb => by rw [rdA_none (by unfold looksB; rw [ho])] at hb; cases hb) hk
theorem y_assign {x : Operand} (h1 : ops.toList[i]? = some o) (ho : o.op = .assign x) (hg : wantedA o ops T = true) (hk : WY E ops H0 B π (putA T o.dst (av T x)) H K) : WY E ops H0 B (.mob i :: π) T H K :=
 y_mob h1 hg (by unfold mobEval; rw [ho]) (fun b hb => by rw [rdA_none (by unfold looksB; rw [ho])] at hb; cases hb) hk
theorem y_0 {r : AV} (h1 : ops.toList[i]? = some o) (hl : looksB o = false) (hg : wantedA o ops T = true) (h : WDr E ops H0 [.mob i] T H (fun T' _ => T' = putA T o.dst r)) (hk : WY E ops H0 B π (putA T o.dst r) H K) : WY E ops H0 B (.mob i :: π) T H K := by
 obtain ⟨o', r', h1', h2, h3⟩ := h
 rw [h1] at h1'; cases h1'
 have h3 : putA T o.dst r' = putA T o.dst r := h3
 rcases h2 with ⟨h2, _⟩ | ⟨h2, h4⟩
 · rw [hg] at h2; cases h2
 · refine ⟨o, r', h1, .inr ⟨hg, h4, fun b hb => by rw [rdA_none hl] at hb; cases hb⟩, ?_⟩
   rw [h3]; exact hk
theorem y_any {r : AV} (h1 : ops.toList[i]? = some o) (hg : wantedA o ops T = true) (h : WDr E ops H0 [.mob i] T H (fun T' _ => T' = putA T o.dst r)) (hb : ∀ b, rdA T o = some b → B i b) (hk : WY E ops H0 B π (putA T o.dst r) H K) : WY E ops H0 B (.mob i :: π) T H K := by
 obtain ⟨o', r', h1', h2, h3⟩ := h
 rw [h1] at h1'; cases h1'
 have h3 : putA T o.dst r' = putA T o.dst r := h3
 rcases h2 with ⟨h2, _⟩ | ⟨h2, h4⟩
 · rw [hg] at h2; cases h2
 · refine ⟨o, r', h1, .inr ⟨hg, h4, hb⟩, ?_⟩
   rw [h3]; exact hk
end
section
variable {O : CallF} {T : List AV} {H H0 : AH} {ops : Array Oper} {o : Oper} {i : Nat} {π : List Stp} {K : List AV → AH → Prop} {B : Nat → Nat → Prop}
theorem y_field {t : TypeId} {x : Operand} {f off b o0 : Nat} (h1 : ops.toList[i]? = some o) (ho : o.op = .fieldAddr t x f) (hg : wantedA o ops T = true) [hf : FA t f off] (hx : av T x = .ptr b o0) (hk : WY (ENV O) ops H0 B π (putA T o.dst (.ptr b (o0 + off))) H K) : WY (ENV O) ops H0 B (.mob i :: π) T H K :=
 y_0 h1 (by unfold looksB; rw [ho]) hg (d_field h1 ho hg hx rfl) hk
theorem y_load {t : TypeId} {x : Operand} {v : AV} (h1 : ops.toList[i]? = some o) (ho : o.op = .load t x) (hg : wantedA o ops T = true) [ha : Cell t] (hx : At H0 (av T x) v) (hL : ∀ b, (av T x).own = some b → B i b)
   (hk : WY (ENV O) ops H0 B π (putA T o.dst v) H K) : WY (ENV O) ops H0 B (.mob i :: π) T H K :=
 y_any h1 hg (d_load h1 ho hg hx rfl) (fun b hb => hL b (rdA_load ho hb)) hk
theorem y_indexI {t e : TypeId} {x y : Operand} {j : Nat} {l : List Int} {z : Int} (h1 : ops.toList[i]? = some o) (ho : o.op = .indexAddr t x y) (hg : wantedA o ops T = true) [hu : TyS t e] [hs : Cell e]
   (hx : Sl H0 (av T x) (ivs l)) (hi : av T y = iv j) (hl : l[j]? = some z) (hk : ∀ p, At H0 p (iv z) → (∀ b, p.own = some b → (av T x).own = some b) → WY (ENV O) ops H0 B π (putA T o.dst p) H K) : WY (ENV O) ops H0 B (.mob i :: π) T H K := by
 obtain ⟨p, _, _, h2, h3⟩ := index_eval (P := Tryz.prog) (F := TF) ho hu.u hs.s hx hi (Int.natCast_nonneg j) (by rw [Int.toNat_natCast]; exact ivs_get hl)
 exact y_mob h1 hg (h2 _) (fun b hb => by rw [rdA_none (by unfold looksB; rw [ho])] at hb; cases hb) (hk p h3 fun b hb => mob_own ho (h2 H) b hb)
theorem y_indexU {t e : TypeId} {x y : Operand} {j b n : Nat} (h1 : ops.toList[i]? = some o) (ho : o.op = .indexAddr t x y) (hg : wantedA o ops T = true) [hu : TyS t e] [hs : Cell e] (hx : av T x = .slu b 0 n 1) (hy : av T y = iv j) (hl : j < n)
   (hk : WY (ENV O) ops H0 B π (putA T o.dst (.ptr b j)) H K) : WY (ENV O) ops H0 B (.mob i :: π) T H K := by
 refine y_mob (r := .ptr b j) h1 hg ?_ (fun b hb => by rw [rdA_none (by unfold looksB; rw [ho])] at hb; cases hb) hk
 unfold mobEval
 rw [ho]
 have h2 := hu.u
 have h3 := hs.s
 have hm : indexAddrA (ENV O).P t (.slu b 0 n 1) (.v (.int .i64 (j : Int))) = some (.ptr b j) := by
   unfold indexAddrA
   simp only [ENV, natA, h2, h3, show Nat.blt j n = true from Nat.ble_eq_true_of_le hl, if_true, Nat.mul_one, Nat.zero_add]
 simp only [hx, hy, isV, hm, Bool.false_eq_true, if_false]
end
section
variable {O : CallF} {T : List AV} {H H0 : AH} {ops : Array Oper} {o : Oper} {i : Nat} {π : List Stp} {K : List AV → AH → Prop} {B : Nat → Nat → Prop}
theorem y_bin {op : BinOp} {t yt : TypeId} {x y : Operand} {k : IntKind} {a b : Int} {v : Value} (h1 : ops.toList[i]? = some o) (ho : o.op = .binOp op t x y yt) (hg : wantedA o ops T = true) (hx : av T x = .v (.int k a)) (hy : av T y = .v (.int k b)) (hv : binI op k k a b = some v) (hk : WY (ENV O) ops H0 B π (putA T o.dst (.v v)) H K) : WY (ENV O) ops H0 B (.mob i :: π) T H K :=
 y_0 (r := .v v) h1 (by unfold looksB; rw [ho]) hg (wd_bin h1 ho hg hx hy hv rfl) hk
end
noncomputable def flds (t : TypeId) := match runPure Tryz.prog (underlying t) with | some (.struct f) => f | _ => #[]
class PrS (t : TypeId) : Prop where
 z : runPure Tryz.prog (zeroValue t) = some (.agg #[.int .i64 0, .int .i64 0])
 u : runPure Tryz.prog (underlying t) = some (.struct (flds t))
 p : runPure Tryz.prog ((flds t).mapM fun f => do pure (f.offset, ← sizeOf f.type)) = some #[(0, 1), (1, 1)]
instance : PrS 108 := ⟨by kernel_rfl, by kernel_rfl, by kernel_rfl⟩
instance : PrS 120 := ⟨by kernel_rfl, by kernel_rfl, by kernel_rfl⟩
instance : PrS 138 := ⟨by kernel_rfl, by kernel_rfl, by kernel_rfl⟩
instance : PrS 144 := ⟨by kernel_rfl, by kernel_rfl, by kernel_rfl⟩
theorem o_buildP {O : CallF} {T : List AV} {H : AH} {ops : Array Oper} {o : Oper} {K : AV → AH → Prop} {t : TypeId} {x y : Operand} {a b : Int} (ho : o.op = .build t #[(0, x), (1, y)]) (hg : wantedA o ops T = true) [hp : PrS t] (hx : av T x = iv a) (hy : av T y = iv b) (hk : K (.agg [iv a, iv b]) H) : WOp (ENV O) ops o T H K := by
 refine wop_val (by rw [ho]; rfl) hg (r := .agg [iv a, iv b]) (H' := H) ?_ (Nat.le_refl _) hk
 unfold opEval; rw [ho]
 have h1 := hp.z
 have h2 := hp.u
 have h3 := hp.p
 simp only [ENV, buildA, h1, h2, h3]
 have e : (#[(0, x), (1, y)] : Array (Nat × Operand)).toList.map (fun p => (p.1, av T p.2)) = [(0, iv a), (1, iv b)] := by simp [hx, hy]
 rw [e]
 rfl
section
variable {O : CallF} {T : List AV} {H H0 : AH} {ops : Array Oper} {o : Oper} {i : Nat} {π : List Stp} {K : AV → AH → Prop}
end
theorem eqInt (d : Nat) (t : TypeId) (a c : Int) (h : runPure Tryz.prog (underlying t) = some (.int .i64)) : runPure Tryz.prog (Op.equalIn (d + 1) t (.int .i64 a) (.int .i64 c)) = some (a == c) := by
 simp only [Op.equalIn, runPure_bind, h, Option.bind_some, if_true]
 rfl
theorem eqStr (d : Nat) (t : TypeId) (fs : Array Field) (f0 f1 : Field) (a b c e : Int) (hu : runPure Tryz.prog (underlying t) = some (.struct fs)) (hl : fs.toList = [f0, f1]) (n0 : f0.name ≠ "_") (n1 : f1.name ≠ "_")
   (p0 : ∀ x y : Value, runPure Tryz.prog (part f0.type #[x, y] f0.offset) = some x) (p1 : ∀ x y : Value, runPure Tryz.prog (part f1.type #[x, y] f1.offset) = some y) (hs : Tryz.prog.stoodInHeld t = false)
   (u0 : runPure Tryz.prog (underlying f0.type) = some (.int .i64)) (u1 : runPure Tryz.prog (underlying f1.type) = some (.int .i64)) :
   runPure Tryz.prog (Op.equalIn (d + 2) t (.agg #[.int .i64 a, .int .i64 b]) (.agg #[.int .i64 c, .int .i64 e])) = some (a == c && b == e) := by
 have hpr : runPure Tryz.prog program = some Tryz.prog := rfl
 rw [show d + 2 = (d + 1) + 1 from rfl, Op.equalIn]
 simp only [runPure_bind, hu, Option.bind_some, hpr, hs, Bool.false_eq_true, if_false]
 rw [← Array.forIn_toList, hl]
 simp only [List.forIn_cons, List.forIn_nil, runPure_bind, if_pos n0, if_pos n1, p0, p1, Option.bind_some, eqInt d _ _ _ u0, eqInt d _ _ _ u1]
 cases a == c
 · rfl
 · simp only [Bool.not_true, Bool.false_eq_true, if_false, runPure_pure, Option.bind_some, runPure_bind, p1, eqInt d _ _ _ u1]
   cases b == e
   · rfl
   · rfl
noncomputable def fd (t : TypeId) (i : Nat) : Field := ((flds t)[i]?).getD ⟨"", 0, 0, false, "", "", 0⟩
class EqS (t : TypeId) : Prop where
 u : runPure Tryz.prog (underlying t) = some (.struct (flds t))
 l : (flds t).toList = [fd t 0, fd t 1]
 n0 : (fd t 0).name ≠ "_"
 n1 : (fd t 1).name ≠ "_"
 p0 : ∀ x y : Value, runPure Tryz.prog (part (fd t 0).type #[x, y] (fd t 0).offset) = some x
 p1 : ∀ x y : Value, runPure Tryz.prog (part (fd t 1).type #[x, y] (fd t 1).offset) = some y
 s : Tryz.prog.stoodInHeld t = false
 i0 : runPure Tryz.prog (underlying (fd t 0).type) = some (.int .i64)
 i1 : runPure Tryz.prog (underlying (fd t 1).type) = some (.int .i64)
 g : Tryz.prog.eqGuardType Tryz.prog.depth t = false
instance : EqS 120 := ⟨by kernel_rfl, by kernel_rfl, of_decide_eq_true (by kernel_rfl), of_decide_eq_true (by kernel_rfl), fun _ _ => by kernel_rfl, fun _ _ => by kernel_rfl, by kernel_rfl, by kernel_rfl, by kernel_rfl, by kernel_rfl⟩
instance : EqS 144 := ⟨by kernel_rfl, by kernel_rfl, of_decide_eq_true (by kernel_rfl), of_decide_eq_true (by kernel_rfl), fun _ _ => by kernel_rfl, fun _ _ => by kernel_rfl, by kernel_rfl, by kernel_rfl, by kernel_rfl, by kernel_rfl⟩
instance : EqS 138 := ⟨by kernel_rfl, by kernel_rfl, of_decide_eq_true (by kernel_rfl), of_decide_eq_true (by kernel_rfl), fun _ _ => by kernel_rfl, fun _ _ => by kernel_rfl, by kernel_rfl, by kernel_rfl, by kernel_rfl, by kernel_rfl⟩
theorem neq_struct (t : TypeId) [h : EqS t] (x y : Operand) (a b c e : Int) :
   runPure Tryz.prog (do Go.eqGuard .neq t x y (.agg #[.int .i64 a, .int .i64 b]) (.agg #[.int .i64 c, .int .i64 e]); Go.binOp .neq t (.agg #[.int .i64 a, .int .i64 b]) (.agg #[.int .i64 c, .int .i64 e])) = some (.bool (!(a == c && b == e))) := by
 have hpr : runPure Tryz.prog program = some Tryz.prog := rfl
 have hg : runPure Tryz.prog (Go.eqGuard .neq t x y (.agg #[.int .i64 a, .int .i64 b]) (.agg #[.int .i64 c, .int .i64 e])) = some () := by
   unfold Go.eqGuard
   simp only [Bool.not_true, Bool.false_eq_true, if_false, runPure_bind, hpr, Option.bind_some, h.g, Bool.not_false, if_true, runPure_pure]
 rw [runPure_bind, hg]
 show runPure Tryz.prog (do pure (Value.bool (!(← Op.equal t (.agg #[.int .i64 a, .int .i64 b]) (.agg #[.int .i64 c, .int .i64 e]))))) = _
 rw [runPure_bind, show Op.equal t (.agg #[.int .i64 a, .int .i64 b]) (.agg #[.int .i64 c, .int .i64 e]) = Op.equalIn (9998 + 2) t (.agg #[.int .i64 a, .int .i64 b]) (.agg #[.int .i64 c, .int .i64 e]) from rfl, eqStr 9998 t _ _ _ a b c e h.u h.l h.n0 h.n1 h.p0 h.p1 h.s h.i0 h.i1]
 rfl
section
variable {O : CallF} {T : List AV} {H H0 : AH} {ops : Array Oper} {o : Oper} {i : Nat} {π : List Stp} {K : List AV → AH → Prop} {B : Nat → Nat → Prop}
theorem y_neqS {t yt : TypeId} {x y : Operand} {a b c e : Int} (h1 : ops.toList[i]? = some o) (ho : o.op = .binOp .neq t x y yt) (hg : wantedA o ops T = true) [hs : EqS t] (hx : av T x = .agg [iv a, iv b]) (hy : av T y = .agg [iv c, iv e]) (hk : WY (ENV O) ops H0 B π (putA T o.dst (.v (.bool (!(a == c && b == e))))) H K) : WY (ENV O) ops H0 B (.mob i :: π) T H K := by
 refine y_mob (r := .v (.bool (!(a == c && b == e)))) h1 hg ?_ (fun b hb => by rw [rdA_none (by unfold looksB; rw [ho])] at hb; cases hb) hk
 unfold mobEval
 rw [ho]
 simp only
 unfold plainVal
 have p1 : (AV.agg [iv a, iv b]).plain = some (.agg #[.int .i64 a, .int .i64 b]) := rfl
 have p2 : (AV.agg [iv c, iv e]).plain = some (.agg #[.int .i64 c, .int .i64 e]) := rfl
 have h2 : runPure (ENV O).P (execOp (fun x => ((av T x).plain).getD undef) o) = some (.value (.bool (!(a == c && b == e)))) := by
   obtain ⟨dst, op', type, pos, after, guard⟩ := o
   simp only at ho
   subst ho
   have h3 := neq_struct t x y a b c e
   simp only [execOp, hx, hy, p1, p2, Option.getD_some]
   rw [runPure_bind]
   show Option.bind (runPure Tryz.prog _) _ = _
   rw [h3]
   rfl
 rw [h2, ho]
 simp [Op.operands, hx, hy, p1, p2]
theorem y_index2 {t e : TypeId} {x k : Operand} {j : Nat} {ms : List (Int × Int)} {p : Int × Int} {t' : TypeId} (h1 : ops.toList[i]? = some o) (ho : o.op = .indexAddr t x k) (hg : wantedA o ops T = true) [hu : TyP t e] (hx : S2 H0 t' (av T x) ms) (hi : av T k = iv j) (hl : ms[j]? = some p)
   (hk : ∀ b gr, b < 2 ^ 59 → H0.get b = some (.cells (fl2 ms) t' gr) → (av T x).own = some b → WY (ENV O) ops H0 B π (putA T o.dst (.ptr b (0 + j * 2))) H K) : WY (ENV O) ops H0 B (.mob i :: π) T H K := by
 have hj := (List.getElem?_eq_some_iff.1 hl).1
 have h2 := hu.u
 have h3 := hu.s
 have hb : Nat.blt j ms.length = true := Nat.ble_eq_true_of_le hj
 have key : ∀ b gr, b < 2 ^ 59 → H0.get b = some (.cells (fl2 ms) t' gr) → (av T x).own = some b → isV (av T x) = false → indexAddrA Tryz.prog t (av T x) (av T k) = some (.ptr b (0 + j * 2)) → WY (ENV O) ops H0 B (.mob i :: π) T H K := fun b gr h39 hgb ho2 hv hm => by
   refine y_mob (r := .ptr b (0 + j * 2)) h1 hg ?_ (fun b hb => by rw [rdA_none (by unfold looksB; rw [ho])] at hb; cases hb) (hk b gr h39 hgb ho2)
   unfold mobEval
   rw [ho]
   simp only [hv, Bool.false_eq_true, if_false]
   exact hm
 rcases hx with ⟨_, rfl⟩ | ⟨b, hbn, h39, ⟨c, hx, hgb⟩ | ⟨hx, hgb⟩⟩
 · simp at hl
 · refine key b 0 h39 hgb (by rw [hx]; rfl) (by rw [hx]; rfl) ?_
   rw [hx, hi]
   unfold indexAddrA
   simp only [natA, h2, h3, hb, if_true, iv]
 · refine key b 2 h39 hgb (by rw [hx]; rfl) (by rw [hx]; rfl) ?_
   rw [hx, hi]
   unfold indexAddrA
   simp only [natA, h2, h3, hb, if_true, iv]
theorem y_loadA {t : TypeId} {n : Nat} {x : Operand} {b off : Nat} {cs r : List AV} {e : TypeId} {g : Nat} (h1 : ops.toList[i]? = some o) (ho : o.op = .load t x) (hg : wantedA o ops T = true) [h4 : Stru t n] (hx : av T x = .ptr b off) (h39 : b < 2 ^ 59) (hc : H0.get b = some (.cells cs e g)) (hr : (cs.drop off).take n = r) (hl : off + n ≤ cs.length) (hB : B i b) (hk : WY (ENV O) ops H0 B π (putA T o.dst (.agg r)) H K) : WY (ENV O) ops H0 B (.mob i :: π) T H K := by
 have hrd : rdA T o = some b := by unfold rdA; rw [ho]; simp only [hx]
 refine y_mob (r := .agg r) h1 hg ?_ (fun c hc => by rw [hrd] at hc; cases hc; exact hB) hk
 have h3 := h4.a
 have h2 := h4.s
 rw [hrd]
 unfold mobEval
 rw [ho]
 simp only [hx]
 have : (sing H0 (some b)).get b = some (.cells cs e g) := by
   unfold sing
   simp only [hc]
   rw [AH.get_set _ _ _ _ h39, if_pos rfl]
 simp only [ENV, loadA, this, h3, h2]
 rw [if_pos (Nat.ble_eq_true_of_le hl), hr]
end
theorem addI {a b : Int} (h : -4000000 ≤ a + b ∧ a + b ≤ 4000000) : binI .add .i64 .i64 a b = some (.int .i64 (a + b)) := by
 show some (Value.int .i64 (IntKind.i64.wrap (a + b))) = _
 rw [wrap_id (by omega) (by omega)]
theorem subI {a b : Int} (h : -4000000 ≤ a - b ∧ a - b ≤ 4000000) : binI .sub .i64 .i64 a b = some (.int .i64 (a - b)) := by
 show some (Value.int .i64 (IntKind.i64.wrap (a - b))) = _
 rw [wrap_id (by omega) (by omega)]
section
variable {O : CallF} {T : List AV} {H H0 : AH} {ops : Array Oper} {o : Oper} {i : Nat} {π : List Stp} {K : List AV → AH → Prop} {B : Nat → Nat → Prop}
theorem y_rem {t yt : TypeId} {x y : Operand} {k : IntKind} {a b : Int} (h1 : ops.toList[i]? = some o) (ho : o.op = .binOp .rem t x y yt) (hg : wantedA o ops T = true) (hx : av T x = .v (.int k a)) (hy : av T y = .v (.int k b)) (hb : b ≠ 0) (hk : WY (ENV O) ops H0 B π (putA T o.dst (.v (.int k (a.tmod b)))) H K) : WY (ENV O) ops H0 B (.mob i :: π) T H K :=
 y_0 h1 (by unfold looksB; rw [ho]) hg (wd_rem h1 ho hg hx hy hb rfl) hk
end
end Go.Ev
