/- Part of an evaluator of calls that is proved sound, and of what it gives about this program. No condition of its own. -/
import Derived.Test.YtjkgjemcmmgefaaGreatDoorEvSix
import Derived.Test.YtjkgjemcmmgefaaGreatDoorEwHa
set_option linter.unusedVariables false
set_option linter.unusedSimpArgs false
set_option linter.unusedSectionVars false
set_option maxRecDepth 100000
namespace Go.Ev
section
variable {E : Env} {g : FuncId} {rd : Bool} {T : List AV} {M : List Nat} {H H0 : AH} {Q : QX} {ops : Array Oper} {o : Oper}
def looksB (o : Oper) : Bool := match o.op with | .load _ _ => true | .slice _ _ _ _ _ => true | _ => false
theorem rdA_none (h : looksB o = false) : rdA T o = none := by
  unfold looksB at h
  unfold rdA
  cases ho : o.op with
  | load t x => rw [ho] at h; cases h
  | slice t x a b c => rw [ho] at h; cases h
  | _ => rfl
def loudsOf : List Stp → List Nat
  | [] => []
  | .loud i :: l => i :: loudsOf l
  | _ :: l => loudsOf l
def mobsOf : List Stp → List Nat
  | [] => []
  | .mob i :: l => i :: mobsOf l
  | _ :: l => mobsOf l
def statB (ops : Array Oper) (π : List Stp) : Bool :=
  (loudsOf π).all fun j => (mobsOf π).all fun i => (match ops.toList[i]? with | some o => !looksB o | none => false) || waitsB ops j i
def WDr (E : Env) (ops : Array Oper) (H0 : AH) : List Stp → List AV → AH → (List AV → AH → Prop) → Prop
  | [], T, H, K => K T H
  | .mob i :: π, T, H, K => ∃ o r, ops.toList[i]? = some o ∧ ((wantedA o ops T = false ∧ r = .v undef) ∨ (wantedA o ops T = true ∧ mobEval E.P T (sing H0 (rdA T o)) o = some r)) ∧ WDr E ops H0 π (putA T o.dst r) H K
  | .loud i :: π, T, H, K => ∃ o, ops.toList[i]? = some o ∧ ∃ n r H1, evOp E.P E.F (E.evCall n) ops o T H = some (r, H1) ∧ WDr E ops H0 π (putA T o.dst r) H1 K
  | .alc i :: π, T, H, K => ∃ o k cs t H1, ops.toList[i]? = some o ∧ laysA E.P T o = some (k, cs, t) ∧ newA t cs H = some H1 ∧ WDr E ops H0 π (putA T o.dst (nvA k H.next)) H1 K
theorem wdr_ev {K : List AV → AH → Prop} : ∀ {π : List Stp} {T : List AV} {H : AH}, WDr E ops H0 π T H K → ∃ n T' H' L Hs, evDraw E.P E.F (E.evCall n) ops H0 π T H = some (T', H', L, Hs) ∧ K T' H' ∧ (∀ q ∈ Hs, q.1 ∈ loudsOf π) ∧ (∀ p ∈ L, p.1 ∈ mobsOf π ∧ ∃ o, ops.toList[p.1]? = some o ∧ (looksB o = false → p.2 = none))
  | [], T, H, h => ⟨0, T, H, [], [], rfl, h, fun _ h => by simp at h, fun _ h => by simp at h⟩
  | .mob i :: π, T, H, ⟨o, r, h1, h2, h3⟩ => by
    obtain ⟨n, T', H', L, Hs, k1, k2, k3, k4⟩ := wdr_ev h3
    rcases h2 with ⟨h2, rfl⟩ | ⟨h2, h4⟩
    · refine ⟨n, T', H', L, Hs, ?_, k2, k3, fun p hp => ⟨List.mem_cons_of_mem _ (k4 p hp).1, (k4 p hp).2⟩⟩
      simp only [evDraw, opT h1, h2]
      exact k1
    · refine ⟨n, T', H', (i, rdA T o) :: L, Hs, ?_, k2, k3, fun p hp => ?_⟩
      · simp only [evDraw, opT h1, h2, h4, k1]
      · rcases List.mem_cons.1 hp with rfl | hp
        · exact ⟨List.mem_cons_self, o, h1, fun h => rdA_none h⟩
        · exact ⟨List.mem_cons_of_mem _ (k4 p hp).1, (k4 p hp).2⟩
  | .loud i :: π, T, H, ⟨o, h1, n, r, H1, h2, h3⟩ => by
    obtain ⟨m, T', H', L, Hs, k1, k2, k3, k4⟩ := wdr_ev h3
    refine ⟨n + m, T', H', L, (i, H1) :: Hs, ?_, k2, fun q hq => ?_, k4⟩
    · simp only [evDraw, opT h1]
      rw [evOp_le (evCall_le (Nat.le_add_right n m)) h2]
      simp only
      rw [evDraw_le (evCall_le (Nat.le_add_left m n)) k1]
    · rcases List.mem_cons.1 hq with rfl | hq
      · exact List.mem_cons_self
      · exact List.mem_cons_of_mem _ (k3 q hq)
  | .alc i :: π, T, H, ⟨o, k, cs, t, H1, h1, h2, h3, h4⟩ => by
    obtain ⟨n, T', H', L, Hs, k1, k2, k3, k4⟩ := wdr_ev h4
    refine ⟨n, T', H', L, Hs, ?_, k2, k3, k4⟩
    simp only [evDraw, opT h1, h2, h3]
    exact k1
theorem wp_drawG {id : Nat} {π : List Stp} (hp : E.pl.get (planKey g id) = some π) (hs : statB ops π = true) (h : WDr E ops H π T H fun T' H' => Q .normal T' M H') : Wp E g rd (.region id ops true) T M H Q := by
  obtain ⟨n, T', H', L, Hs, k1, k2, k3, k4⟩ := wdr_ev h
  refine ⟨n + 1, _, T', M, H', ?_, k2⟩
  show Ev.ev E.P E.F E.O E.pl (n + 1) g rd (.region id ops true) T M H = _
  rw [ev_draw, hp]
  simp only
  unfold evRegion
  rw [show evDraw E.P E.F (Ev.evCall E.P E.F E.O E.pl n) ops H π T H = _ from k1]
  have : (Hs.all fun q => keptB ops H L q.1 q.2) = true := by
    rw [List.all_eq_true]
    intro q hq
    unfold keptB
    rw [List.all_eq_true]
    intro p hp
    obtain ⟨o, h1, h2⟩ := (k4 p hp).2
    have hst := List.all_eq_true.1 (List.all_eq_true.1 hs q.1 (k3 q hq)) p.1 (k4 p hp).1
    rw [h1] at hst
    cases hb : p.2 with
    | none => rfl
    | some b =>
      cases hl : looksB o with
      | false => rw [h2 hl] at hb; cases hb
      | true =>
        simp only [hl, Bool.not_true, Bool.false_or] at hst
        simp [hst]
  simp only [this, if_true]
variable {i : Nat} {π : List Stp} {K : List AV → AH → Prop}
theorem wd_nil (h : K T H) : WDr E ops H0 [] T H K := h
theorem wd_skip (h1 : ops.toList[i]? = some o) (hg : wantedA o ops T = false) (hk : WDr E ops H0 π (putA T o.dst (.v undef)) H K) : WDr E ops H0 (.mob i :: π) T H K := ⟨o, _, h1, .inl ⟨hg, rfl⟩, hk⟩
theorem wd_mob {r : AV} (h1 : ops.toList[i]? = some o) (hg : wantedA o ops T = true) (h : mobEval E.P T (sing H0 (rdA T o)) o = some r) (hk : WDr E ops H0 π (putA T o.dst r) H K) : WDr E ops H0 (.mob i :: π) T H K := ⟨o, r, h1, .inr ⟨hg, h⟩, hk⟩
theorem wd_move {x : Operand} (h1 : ops.toList[i]? = some o) (ho : o.op = .move x) (hg : wantedA o ops T = true) (hk : WDr E ops H0 π (putA T o.dst (av T x)) H K) : WDr E ops H0 (.mob i :: π) T H K := wd_mob h1 hg (by unfold mobEval; rw [ho]) hk
theorem wd_assign {x : Operand} (h1 : ops.toList[i]? = some o) (ho : o.op = .assign x) (hg : wantedA o ops T = true) (hk : WDr E ops H0 π (putA T o.dst (av T x)) H K) : WDr E ops H0 (.mob i :: π) T H K := wd_mob h1 hg (by unfold mobEval; rw [ho]) hk
theorem wd_bin {op : BinOp} {t yt : TypeId} {x y : Operand} {k : IntKind} {a b : Int} {v : Value} (h1 : ops.toList[i]? = some o) (ho : o.op = .binOp op t x y yt) (hg : wantedA o ops T = true) (hx : av T x = .v (.int k a)) (hy : av T y = .v (.int k b)) (hv : binI op k k a b = some v) (hk : WDr E ops H0 π (putA T o.dst (.v v)) H K) : WDr E ops H0 (.mob i :: π) T H K :=
  wd_mob h1 hg (by unfold mobEval; rw [ho]; exact plainVal_bin ho hx hy hv) hk
theorem wd_cmp {op : BinOp} {t yt : TypeId} {x y : Operand} {k : IntKind} {a b : Int} {c : Bool} (h1 : ops.toList[i]? = some o) (ho : o.op = .binOp op t x y yt) (hg : wantedA o ops T = true) (hx : av T x = .v (.int k a)) (hy : av T y = .v (.int k b)) (hv : binI op k k a b = some (.bool c))
    (ht : c = true → WDr E ops H0 π (putA T o.dst (.v (.bool true))) H K) (hf : c = false → WDr E ops H0 π (putA T o.dst (.v (.bool false))) H K) : WDr E ops H0 (.mob i :: π) T H K := by
  refine wd_bin h1 ho hg hx hy hv ?_
  cases c with
  | true => exact ht rfl
  | false => exact hf rfl
theorem wd_pick {c x y : Operand} {b : Bool} (h1 : ops.toList[i]? = some o) (ho : o.op = .pick c x y) (hg : wantedA o ops T = true) (hc : av T c = .v (.bool b)) (hk : WDr E ops H0 π (putA T o.dst (bif b then av T x else av T y)) H K) : WDr E ops H0 (.mob i :: π) T H K := by
  refine wd_mob h1 hg ?_ hk
  unfold mobEval; rw [ho]
  cases b <;> simp only [hc, cond_true, cond_false]
theorem wd_index {t e : TypeId} {x y : Operand} {kd : IntKind} {j : Int} {l : List AV} {v : AV} (h1 : ops.toList[i]? = some o) (ho : o.op = .indexAddr t x y) (hg : wantedA o ops T = true) (hu : runPure E.P (underlying t) = some (.slice e)) (hs : runPure E.P (sizeOf e) = some 1)
    (hx : Sl H0 (av T x) l) (hi : av T y = .v (.int kd j)) (h0 : 0 ≤ j) (hl : l[j.toNat]? = some v) (hk : ∀ p, At H0 p v → WDr E ops H0 π (putA T o.dst p) H K) : WDr E ops H0 (.mob i :: π) T H K := by
  obtain ⟨p, _, _, h2, h3⟩ := index_eval (P := E.P) (F := E.F) ho hu hs hx hi h0 hl
  exact wd_mob h1 hg (h2 _) (hk p h3)
theorem wd_indexOwn {t e : TypeId} {x y : Operand} {kd : IntKind} {j : Int} {b off n cap : Nat} (h1 : ops.toList[i]? = some o) (ho : o.op = .indexAddr t x y) (hg : wantedA o ops T = true) (hu : runPure E.P (underlying t) = some (.slice e)) (hs : runPure E.P (sizeOf e) = some 1)
    (hx : av T x = .slc b off n cap) (hi : av T y = .v (.int kd j)) (h0 : 0 ≤ j) (hl : j < n) (hk : WDr E ops H0 π (putA T o.dst (.ptr b (off + j.toNat))) H K) : WDr E ops H0 (.mob i :: π) T H K := by
  obtain ⟨k, rfl⟩ := Int.eq_ofNat_of_zero_le h0
  refine wd_mob h1 hg ?_ hk
  unfold mobEval; rw [ho]
  have hm : indexAddrA E.P t (.slc b off n cap) (.v (.int kd (k : Int))) = some (.ptr b (off + k)) := by
    unfold indexAddrA
    simp only [natA, hu, hs, Nat.mul_one]
    rw [if_pos (show Nat.blt k n = true from Nat.ble_eq_true_of_le (show k + 1 ≤ n by omega))]
  simp only [hx, hi, isV, Bool.false_eq_true, if_false, hm, Int.toNat_natCast]
theorem wd_load {t : TypeId} {x : Operand} {v : AV} (h1 : ops.toList[i]? = some o) (ho : o.op = .load t x) (hg : wantedA o ops T = true) (ha : runPure E.P (isAgg t) = some false) (hx : At H0 (av T x) v)
    (hk : WDr E ops H0 π (putA T o.dst v) H K) : WDr E ops H0 (.mob i :: π) T H K := by
  have h := mobs_load (E := E) (π := []) (K := fun T' => T' = putA T o.dst v) h1 ho hg ha hx rfl
  obtain ⟨o', r, q1, q2, q3, q4⟩ := h
  rw [opT h1] at q1
  cases q1
  have q4 : putA T o.dst r = putA T o.dst v := q4
  have q5 : mobEval E.P T (sing H0 (rdA T o)) o = some v := by
    unfold mobEval rdA
    rw [ho]
    simp only
    cases hav : av T x with
    | ptr b off =>
      rw [hav] at hx
      obtain ⟨h39, cs, e, g, h1, h2⟩ := hx
      have : (sing H0 (some b)).get b = some (.cells cs e g) := by
        unfold sing
        simp only [h1]
        rw [AH.get_set _ _ _ _ h39, if_pos rfl]
      simp only [loadA, this, ha, h2]
    | v val =>
      rw [hav] at hx
      unfold At at hx
      split at hx
      · rename_i h; cases h
      · rename_i b off h
        cases h
        obtain ⟨vs, u, h1, h2, rfl⟩ := hx
        simp only [loadG, sing, h1, ha, h2, Option.map_some]
      · exact hx.elim
    | _ => rw [hav] at hx; exact hx.elim
  exact wd_mob h1 hg q5 hk
theorem wd_len {c : Call} {t e : TypeId} {x : Operand} {l : List AV} (h1 : ops.toList[i]? = some o) (ho : o.op = .call c) (hg : wantedA o ops T = true) (hc : c.callee = .builtin .len) (hargs : c.args.toList = [x]) (ht : c.argTypes[0]? = some t) (hu : runPure E.P (underlying t) = some (.slice e)) (hx : Sl H0 (av T x) l) (hxo : isV (av T x) = false)
    (hk : WDr E ops H0 π (putA T o.dst (.v (.int .i64 l.length))) H K) : WDr E ops H0 (.mob i :: π) T H K := by
  refine wd_mob h1 hg ?_ hk
  unfold mobEval; rw [ho]
  simp only [hc, hargs, hxo, Bool.false_eq_true, if_false]
  have h1 : lenOpA E.P c.argTypes (av T x) (sing H0 (rdA T o)) = some (.val (.v (goInt l.length)) (sing H0 (rdA T o))) := by
    unfold lenOpA
    rw [ht]
    simp only [hu]
    unfold Sl at hx
    split at hx
    · rename_i h; rw [h] at hxo; cases hxo
    · rename_i h; rw [h]; simp only [hx.1]
    · rename_i h; rw [h]; simp only [hx.1]
    · exact hx.elim
  rw [h1]
  rfl
theorem wd_loud (h1 : ops.toList[i]? = some o) (hs : still o.op = true) (h : WOp E ops o T H fun r H1 => WDr E ops H0 π (putA T o.dst r) H1 K) : WDr E ops H0 (.loud i :: π) T H K := by
  obtain ⟨n, r, H1, k1, k2⟩ := h
  rw [evOpY_still hs] at k1
  exact ⟨o, h1, n, r, H1, k1, k2⟩
theorem wd_loudSkip (h1 : ops.toList[i]? = some o) (hg : wantedA o ops T = false) (hk : WDr E ops H0 π (putA T o.dst (.v undef)) H K) : WDr E ops H0 (.loud i :: π) T H K :=
  ⟨o, h1, 0, _, H, by unfold evOp; rw [hg], hk⟩
theorem wd_loudCall {c : Call} {x : Operand} (h1 : ops.toList[i]? = some o) (ho : o.op = .call c) (hc : c.callee = .value x) (hy : ∀ b, av T x ≠ .yl b) (h : WOp E ops o T H fun r H1 => WDr E ops H0 π (putA T o.dst r) H1 K) : WDr E ops H0 (.loud i :: π) T H K := by
  obtain ⟨n, r, H1, k1, k2⟩ := h
  refine ⟨o, h1, n, r, H1, ?_, k2⟩
  unfold evOpY at k1
  rw [ho] at k1
  simp only [hc] at k1
  exact k1
def WDB (E : Env) (ops : Array Oper) (H0 : AH) (B : Nat → Prop) : List Stp → List AV → AH → (List AV → AH → Prop) → Prop
  | [], T, H, K => K T H
  | .mob i :: π, T, H, K => ∃ o r, ops.toList[i]? = some o ∧ (wantedA o ops T = true ∧ mobEval E.P T (sing H0 (rdA T o)) o = some r) ∧ (∀ b, rdA T o = some b → B b) ∧ WDB E ops H0 B π (putA T o.dst r) H K
  | .loud i :: π, T, H, K => ∃ o, ops.toList[i]? = some o ∧ ∃ n r H1, evOp E.P E.F (E.evCall n) ops o T H = some (r, H1) ∧ (∀ b, B b → sameBlk (H1.get b) (H0.get b) = true) ∧ WDB E ops H0 B π (putA T o.dst r) H1 K
  | .alc _ :: _, _, _, _ => False
theorem wdb_ev {B : Nat → Prop} {K : List AV → AH → Prop} : ∀ {π : List Stp} {T : List AV} {H : AH}, WDB E ops H0 B π T H K → ∃ n T' H' L Hs, evDraw E.P E.F (E.evCall n) ops H0 π T H = some (T', H', L, Hs) ∧ K T' H' ∧ (∀ q ∈ Hs, ∀ b, B b → sameBlk (q.2.get b) (H0.get b) = true) ∧ (∀ p ∈ L, ∀ b, p.2 = some b → B b)
  | [], T, H, h => ⟨0, T, H, [], [], rfl, h, fun _ h => by simp at h, fun _ h => by simp at h⟩
  | .mob i :: π, T, H, ⟨o, r, h1, ⟨h2, h4⟩, h5, h3⟩ => by
    obtain ⟨n, T', H', L, Hs, k1, k2, k3, k4⟩ := wdb_ev h3
    refine ⟨n, T', H', (i, rdA T o) :: L, Hs, ?_, k2, k3, fun p hp => ?_⟩
    · simp only [evDraw, opT h1, h2, h4, k1]
    · rcases List.mem_cons.1 hp with rfl | hp
      · exact h5
      · exact k4 p hp
  | .loud i :: π, T, H, ⟨o, h1, n, r, H1, h2, h5, h3⟩ => by
    obtain ⟨m, T', H', L, Hs, k1, k2, k3, k4⟩ := wdb_ev h3
    refine ⟨n + m, T', H', L, (i, H1) :: Hs, ?_, k2, fun q hq => ?_, k4⟩
    · simp only [evDraw, opT h1]
      rw [evOp_le (evCall_le (Nat.le_add_right n m)) h2]
      simp only
      rw [evDraw_le (evCall_le (Nat.le_add_left m n)) k1]
    · rcases List.mem_cons.1 hq with rfl | hq
      · exact h5
      · exact k3 q hq
  | .alc _ :: _, _, _, h => h.elim
theorem wp_drawB {B : Nat → Prop} {id : Nat} {π : List Stp} (hp : E.pl.get (planKey g id) = some π) (h : WDB E ops H B π T H fun T' H' => Q .normal T' M H') : Wp E g rd (.region id ops true) T M H Q := by
  obtain ⟨n, T', H', L, Hs, k1, k2, k3, k4⟩ := wdb_ev h
  refine ⟨n + 1, _, T', M, H', ?_, k2⟩
  show Ev.ev E.P E.F E.O E.pl (n + 1) g rd (.region id ops true) T M H = _
  rw [ev_draw, hp]
  simp only
  unfold evRegion
  rw [show evDraw E.P E.F (Ev.evCall E.P E.F E.O E.pl n) ops H π T H = _ from k1]
  have : (Hs.all fun q => keptB ops H L q.1 q.2) = true := by
    rw [List.all_eq_true]
    intro q hq
    unfold keptB
    rw [List.all_eq_true]
    intro p hp
    cases hb : p.2 with
    | none => rfl
    | some b =>
      simp [k3 q hq b (k4 p hp b hb)]
  simp only [this, if_true]
theorem wb_nil {B : Nat → Prop} (h : K T H) : WDB E ops H0 B [] T H K := h
theorem wb_move {B : Nat → Prop} {x : Operand} (h1 : ops.toList[i]? = some o) (ho : o.op = .move x) (hg : wantedA o ops T = true) (hk : WDB E ops H0 B π (putA T o.dst (av T x)) H K) : WDB E ops H0 B (.mob i :: π) T H K :=
  ⟨o, _, h1, ⟨hg, by unfold mobEval; rw [ho]⟩, (fun b hb => by rw [rdA_none (by unfold looksB; rw [ho])] at hb; cases hb), hk⟩
theorem wb_assign {B : Nat → Prop} {x : Operand} (h1 : ops.toList[i]? = some o) (ho : o.op = .assign x) (hg : wantedA o ops T = true) (hk : WDB E ops H0 B π (putA T o.dst (av T x)) H K) : WDB E ops H0 B (.mob i :: π) T H K :=
  ⟨o, _, h1, ⟨hg, by unfold mobEval; rw [ho]⟩, (fun b hb => by rw [rdA_none (by unfold looksB; rw [ho])] at hb; cases hb), hk⟩
theorem wb_index {B : Nat → Prop} {t e : TypeId} {x y : Operand} {kd : IntKind} {j : Int} {l : List AV} {v : AV} (h1 : ops.toList[i]? = some o) (ho : o.op = .indexAddr t x y) (hg : wantedA o ops T = true) (hu : runPure E.P (underlying t) = some (.slice e)) (hs : runPure E.P (sizeOf e) = some 1)
    (hx : Sl H0 (av T x) l) (hi : av T y = .v (.int kd j)) (h0 : 0 ≤ j) (hl : l[j.toNat]? = some v) (hk : ∀ p, (∀ b off, p = .ptr b off → (av T x).own = some b) → At H0 p v → WDB E ops H0 B π (putA T o.dst p) H K) : WDB E ops H0 B (.mob i :: π) T H K := by
  obtain ⟨p, _, h3, h2, h4⟩ := index_eval (P := E.P) (F := E.F) ho hu hs hx hi h0 hl
  refine ⟨o, p, h1, ⟨hg, h2 _⟩, (fun b hb => by rw [rdA_none (by unfold looksB; rw [ho])] at hb; cases hb), hk p (fun b off e => ?_) h4⟩
  subst e
  unfold mobEval at h3
  rw [ho] at h3
  simp only at h3
  unfold Sl at hx
  split at hx
  · rename_i a n c hav
    rw [hav] at h3
    simp only [isV, if_true] at h3
    unfold plainVal at h3
    split at h3
    · split at h3
      · cases h3
      · split at h3
        · cases h3
        · cases h3
    · cases h3
  · rename_i b' off' n c hav
    rw [hav] at h3 ⊢
    simp only [isV, Bool.false_eq_true, if_false, indexAddrA, hi] at h3
    split at h3
    · simp only [hu, hs] at h3
      split at h3
      · cases h3; rfl
      · cases h3
    · cases h3
  · rename_i b' off' n c hav
    rw [hav] at h3 ⊢
    simp only [isV, Bool.false_eq_true, if_false, indexAddrA, hi] at h3
    split at h3
    · simp only [hu, hs] at h3
      split at h3
      · cases h3; rfl
      · cases h3
    · cases h3
  · exact hx.elim
theorem wb_load {B : Nat → Prop} {t : TypeId} {x : Operand} {v : AV} (h1 : ops.toList[i]? = some o) (ho : o.op = .load t x) (hg : wantedA o ops T = true) (ha : runPure E.P (isAgg t) = some false) (hx : At H0 (av T x) v) (hb : ∀ b off, av T x = .ptr b off → B b)
    (hk : WDB E ops H0 B π (putA T o.dst v) H K) : WDB E ops H0 B (.mob i :: π) T H K := by
  refine ⟨o, v, h1, ⟨hg, ?_⟩, fun b h => ?_, hk⟩
  · unfold mobEval rdA
    rw [ho]
    simp only
    cases hav : av T x with
    | ptr b off =>
      rw [hav] at hx
      obtain ⟨h39, cs, e, g, h1, h2⟩ := hx
      have : (sing H0 (some b)).get b = some (.cells cs e g) := by
        unfold sing
        simp only [h1]
        rw [AH.get_set _ _ _ _ h39, if_pos rfl]
      simp only [loadA, this, ha, h2]
    | v val =>
      rw [hav] at hx
      unfold At at hx
      split at hx
      · rename_i h; cases h
      · rename_i b off h
        cases h
        obtain ⟨vs, u, h1, h2, rfl⟩ := hx
        simp only [loadG, sing, h1, ha, h2, Option.map_some]
      · exact hx.elim
    | _ => rw [hav] at hx; exact hx.elim
  · unfold rdA at h
    rw [ho] at h
    simp only at h
    split at h
    · rename_i b' off hav
      cases h
      exact hb _ _ hav
    · cases h
theorem wb_loudCall {B : Nat → Prop} {c : Call} {x : Operand} (h1 : ops.toList[i]? = some o) (ho : o.op = .call c) (hc : c.callee = .value x) (hy : ∀ b, av T x ≠ .yl b) (h : WOp E ops o T H fun r H1 => (∀ b, B b → sameBlk (H1.get b) (H0.get b) = true) ∧ WDB E ops H0 B π (putA T o.dst r) H1 K) : WDB E ops H0 B (.loud i :: π) T H K := by
  obtain ⟨n, r, H1, k1, k2⟩ := h
  refine ⟨o, h1, n, r, H1, ?_, k2⟩
  unfold evOpY at k1
  rw [ho] at k1
  simp only [hc] at k1
  exact k1
theorem sameBlk_ivs (l : List Int) (e : TypeId) (g : Nat) : sameBlk (some (.cells (l.map fun z => .v (.int .i64 z)) e g)) (some (.cells (l.map fun z => .v (.int .i64 z)) e g)) = true := by
  have : ∀ l : List Int, beqs (l.map fun z => .v (.int .i64 z)) (l.map fun z => .v (.int .i64 z)) = true := fun l => by
    induction l with
    | nil => rfl
    | cons z l ih => simp [beqs, AV.beq, vbeq, ih]
  simp [sameBlk, this]
theorem sameBlk_slc (b o n c : Nat) (e : TypeId) (g : Nat) : sameBlk (some (.cells [.slc b o n c] e g)) (some (.cells [.slc b o n c] e g)) = true := by
  simp [sameBlk, beqs, AV.beq]
theorem wop_callFn {Kr : AV → AH → Prop} {c : Call} {x : Operand} {f : FuncId} {cap : List AV} {fn : Func} (ho : o.op = .call c) (hc : c.callee = .value x) (hx : av T x = .fn (.func f) [] cap) (hg : wantedA o ops T = true) (hF : E.F.get f = some fn)
    (hk : Ca E f (c.args.toList.map (av T) ++ cap) H fun r H' => H.next ≤ H'.next ∧ Kr r H') : WOp E ops o T H Kr := by
  refine wop_call ho hc (fun b h => by rw [hx] at h; cases h) hg ?_ hk
  unfold opEval; rw [ho]
  simp only [oCall, hc, oCallV, callA, calleeA, hx, hF, List.nil_append]
end
end Go.Ev
namespace Go.Ev
section
variable {E : Env} {g : FuncId} {rd : Bool} {T : List AV} {M : List Nat} {H H0 : AH} {Q : QX} {ops : Array Oper} {o : Oper} {i : Nat} {π : List Stp} {K : List AV → AH → Prop}
theorem plainVal_quo {P : Program} {t yt : TypeId} {x y : Operand} {k : IntKind} {a b : Int} (ho : o.op = .binOp .quo t x y yt) (hx : av T x = .v (.int k a)) (hy : av T y = .v (.int k b)) (hb : b ≠ 0) : plainVal P T o = some (.v (.int k (k.wrap (a.tdiv b)))) := by
  have h2 : runPure P (execOp (fun x => ((av T x).plain).getD undef) o) = some (.value (.int k (k.wrap (a.tdiv b)))) := by
    obtain ⟨dst, op', type, pos, after, guard⟩ := o
    simp only at ho
    subst ho
    simp only [execOp, eqGuard, hx, hy, AV.plain, Option.getD_some, binOp, Op.intDiv, runPure_bind]
    simp [hb, runPure_pure]
  unfold plainVal
  rw [h2, ho]
  simp [Op.operands, hx, hy, AV.plain]
theorem plainVal_rem {P : Program} {t yt : TypeId} {x y : Operand} {k : IntKind} {a b : Int} (ho : o.op = .binOp .rem t x y yt) (hx : av T x = .v (.int k a)) (hy : av T y = .v (.int k b)) (hb : b ≠ 0) : plainVal P T o = some (.v (.int k (a.tmod b))) := by
  have h2 : runPure P (execOp (fun x => ((av T x).plain).getD undef) o) = some (.value (.int k (a.tmod b))) := by
    obtain ⟨dst, op', type, pos, after, guard⟩ := o
    simp only at ho
    subst ho
    simp only [execOp, eqGuard, hx, hy, AV.plain, Option.getD_some, binOp, Op.intDiv, runPure_bind]
    simp [hb, runPure_pure]
  unfold plainVal
  rw [h2, ho]
  simp [Op.operands, hx, hy, AV.plain]
theorem wd_lenA {c : Call} {t e : TypeId} {x : Operand} {l : List AV} (h1 : ops.toList[i]? = some o) (ho : o.op = .call c) (hg : wantedA o ops T = true) (hc : c.callee = .builtin .len) (hargs : c.args.toList = [x]) (ht : c.argTypes.toList = [t]) (hu : runPure E.P (underlying t) = some (.slice e)) (hx : Sl H0 (av T x) l)
    (hk : WDr E ops H0 π (putA T o.dst (.v (.int .i64 l.length))) H K) : WDr E ops H0 (.mob i :: π) T H K := by
  have ht0 : c.argTypes[0]? = some t := by rw [← Array.getElem?_toList, ht]; rfl
  cases hxo : isV (av T x) with
  | false => exact wd_len h1 ho hg hc hargs ht0 hu hx hxo hk
  | true =>
    cases hav : av T x with
    | v val =>
      rw [hav] at hx
      cases val with
      | slice a n cap =>
        obtain ⟨rfl, _⟩ := hx
        refine wd_mob h1 hg (r := .v (goInt l.length)) ?_ hk
        unfold mobEval; rw [ho]
        simp only [hc, hargs, hav, isV, if_true]
        have h2 : runPure E.P (execOp (fun x => ((av T x).plain).getD undef) o) = some (.value (goInt l.length)) := by
          obtain ⟨dst, op', type, pos, after, guard⟩ := o
          simp only at ho
          subst ho
          obtain ⟨callee, args, ats⟩ := c
          simp only at hc hargs ht ht0
          subst hc
          obtain ⟨cb, hex⟩ := exec_builtin (fun x => ((av T x).plain).getD undef) dst type pos after guard .len args ats
          rw [hex]
          have ha : args.map (fun x => ((av T x).plain).getD undef) = #[.slice a l.length cap] := by
            apply Array.ext'; simp [hargs, hav, AV.plain]
          have hat : ats = #[t] := by apply Array.ext'; simp [ht]
          rw [ha, hat]
          show runPure E.P (Builtin.len_ #[t] type #[.slice a l.length cap] >>= fun r => pure (Next.value r)) = _
          rw [runPure_bind]
          have : runPure E.P (Builtin.len_ #[t] type #[.slice a l.length cap]) = some (goInt l.length) := by
            unfold Builtin.len_
            simp [runPure_bind, hu, runPure_pure]
          rw [this]
          rfl
        unfold plainVal
        rw [h2, ho]
        simp [Op.operands, Call.operands, hc, hargs, hav, AV.plain]
      | _ => exact hx.elim
    | _ => rw [hav] at hxo; cases hxo
theorem wd_make {t e : TypeId} {l c : Operand} {k1 k2 : IntKind} {n : Nat} {ti : TypeInfo} {z z0 : Value} (h1 : ops.toList[i]? = some o) (ho : o.op = .makeSlice t l c) (hl : av T l = .v (.int k1 n)) (hc : av T c = .v (.int k2 n)) (hu : runPure E.P (underlying t) = some (.slice e)) (hi : runPure E.P (typeInfo e) = some ti) (hs : runPure E.P (sizeOf e) = some 1) (hz : runPure E.P (zeroValue e) = some z)
    (hz0 : z.cells = #[z0]) (hb : ti.bytes ≤ 2 ^ 16) (hn : n ≤ 2 ^ 32) (hr : H.next < 2 ^ 39) (hk : WDr E ops H0 π (putA T o.dst (.slc H.next 0 n n)) (H.add (.cells (List.replicate n (.v z0)) e 0)) K) : WDr E ops H0 (.alc i :: π) T H K := by
  have h48 : Nat.ble (ti.bytes * n) (2 ^ 48) = true := Nat.ble_eq_true_of_le (by
    have := Nat.mul_le_mul hb hn
    exact Nat.le_trans this (by decide))
  have h62 : Nat.ble n (2 ^ 62) = true := Nat.ble_eq_true_of_le (Nat.le_trans hn (by decide))
  have hlt : Nat.blt H.next (2 ^ 39) = true := Nat.ble_eq_true_of_le hr
  have e0 := zeros z0 n
  refine ⟨o, some (n, n), (if Nat.beq (n * 1) 0 then [] else ((Array.range (n * 1)).map ((#[z0] : Array Value)[· % (#[z0] : Array Value).size]!)).toList).map .v, e, H.add (.cells (List.replicate n (.v z0)) e 0), h1, by unfold laysA; rw [ho]; simp only [hl, hc, natA, hu, hi, hs, hz, h48, h62, Nat.ble_eq_true_of_le (Nat.le_refl n), Bool.true_and, hz0, if_true], ?_, hk⟩
  unfold newA
  rw [hlt, if_pos rfl]
  cases hn0 : Nat.beq (n * 1) 0 with
  | true =>
    have : n = 0 := by have := Nat.eq_of_beq_eq_true hn0; omega
    subst this
    simp
  | false =>
    simp only [Bool.false_eq_true, if_false]
    rw [e0]
theorem wb_mob {B : Nat → Prop} {r : AV} (h1 : ops.toList[i]? = some o) (hg : wantedA o ops T = true) (hl : looksB o = false) (h : ∀ H', mobEval E.P T H' o = some r) (hk : WDB E ops H0 B π (putA T o.dst r) H K) : WDB E ops H0 B (.mob i :: π) T H K :=
  ⟨o, r, h1, ⟨hg, h _⟩, fun b hb => (by rw [rdA_none hl] at hb; cases hb), hk⟩
theorem wb_quo {B : Nat → Prop} {t yt : TypeId} {x y : Operand} {k : IntKind} {a b : Int} (h1 : ops.toList[i]? = some o) (ho : o.op = .binOp .quo t x y yt) (hg : wantedA o ops T = true) (hx : av T x = .v (.int k a)) (hy : av T y = .v (.int k b)) (hb : b ≠ 0) (hk : WDB E ops H0 B π (putA T o.dst (.v (.int k (k.wrap (a.tdiv b))))) H K) : WDB E ops H0 B (.mob i :: π) T H K :=
  wb_mob h1 hg (by unfold looksB; rw [ho]) (fun _ => by unfold mobEval; rw [ho]; exact plainVal_quo ho hx hy hb) hk
theorem wb_rem {B : Nat → Prop} {t yt : TypeId} {x y : Operand} {k : IntKind} {a b : Int} (h1 : ops.toList[i]? = some o) (ho : o.op = .binOp .rem t x y yt) (hg : wantedA o ops T = true) (hx : av T x = .v (.int k a)) (hy : av T y = .v (.int k b)) (hb : b ≠ 0) (hk : WDB E ops H0 B π (putA T o.dst (.v (.int k (a.tmod b)))) H K) : WDB E ops H0 B (.mob i :: π) T H K :=
  wb_mob h1 hg (by unfold looksB; rw [ho]) (fun _ => by unfold mobEval; rw [ho]; exact plainVal_rem ho hx hy hb) hk
theorem wb_indexOwn {B : Nat → Prop} {t e : TypeId} {x y : Operand} {kd : IntKind} {j b n cap : Nat} (h1 : ops.toList[i]? = some o) (ho : o.op = .indexAddr t x y) (hg : wantedA o ops T = true) (hu : runPure E.P (underlying t) = some (.slice e)) (hs : runPure E.P (sizeOf e) = some 1)
    (hx : av T x = .slc b 0 n cap) (hi : av T y = .v (.int kd j)) (hl : j < n) (hk : WDB E ops H0 B π (putA T o.dst (.ptr b j)) H K) : WDB E ops H0 B (.mob i :: π) T H K := by
  have hm : indexAddrA E.P t (.slc b 0 n cap) (.v (.int kd (j : Int))) = some (.ptr b j) := by
    unfold indexAddrA
    simp only [natA, hu, hs, Nat.mul_one, Nat.zero_add]
    rw [if_pos (show Nat.blt j n = true from Nat.ble_eq_true_of_le (show j + 1 ≤ n by omega))]
  exact wb_mob h1 hg (by unfold looksB; rw [ho]) (fun _ => by unfold mobEval; rw [ho]; simp only [hx, hi, isV, Bool.false_eq_true, if_false, hm]) hk
theorem wb_loud {B : Nat → Prop} (h1 : ops.toList[i]? = some o) (hs : still o.op = true) (h : WOp E ops o T H fun r H1 => (∀ b, B b → sameBlk (H1.get b) (H0.get b) = true) ∧ WDB E ops H0 B π (putA T o.dst r) H1 K) : WDB E ops H0 B (.loud i :: π) T H K := by
  obtain ⟨n, r, H1, k1, k2⟩ := h
  rw [evOpY_still hs] at k1
  exact ⟨o, h1, n, r, H1, k1, k2⟩
theorem wop_sliceTo {Kr : AV → AH → Prop} {t e : TypeId} {x h : Operand} {b n cap m : Nat} {kd : IntKind} (ho : o.op = .slice t x none (some h) none) (hg : wantedA o ops T = true) (hu : runPure E.P (underlying t) = some (.slice e)) (hs : runPure E.P (sizeOf e) = some 1) (hx : av T x = .slc b 0 n cap) (hh : av T h = .v (.int kd m)) (hm : m ≤ cap) (hk : Kr (.slc b 0 m cap) H) : WOp E ops o T H Kr := by
  refine wop_val (by rw [ho]; rfl) hg (r := .slc b 0 m cap) ?_ (Nat.le_refl _) hk
  unfold opEval; rw [ho]
  simp only [oSlice, hx, isV, sliceA, boundA, hh, natA, Option.map_some, hu, hs, Option.getD_none, Option.getD_some]
  rw [if_pos (by simp [Nat.ble_eq_true_of_le hm])]
  simp [rv]
end
end Go.Ev
namespace Go.Ev
open Go.Proofs
section
variable {O : CallF} {T : List AV} {H H0 : AH} {ops : Array Oper} {o : Oper} {i : Nat} {π : List Stp} {K : List AV → AH → Prop}
theorem d_load {t : TypeId} {x : Operand} {v : AV} (h1 : ops.toList[i]? = some o) (ho : o.op = .load t x) (hg : wantedA o ops T = true) [ha : Cell t] (hx : At H0 (av T x) v)
    (hk : WDr (ENV O) ops H0 π (putA T o.dst v) H K) : WDr (ENV O) ops H0 (.mob i :: π) T H K := wd_load h1 ho hg ha.a hx hk
theorem d_index {t e : TypeId} {x y : Operand} {j : Nat} {l : List AV} {v : AV} (h1 : ops.toList[i]? = some o) (ho : o.op = .indexAddr t x y) (hg : wantedA o ops T = true) [hu : TyS t e] [hs : Cell e]
    (hx : Sl H0 (av T x) l) (hi : av T y = iv j) (hl : l[j]? = some v) (hk : ∀ p, At H0 p v → WDr (ENV O) ops H0 π (putA T o.dst p) H K) : WDr (ENV O) ops H0 (.mob i :: π) T H K :=
  wd_index h1 ho hg hu.u hs.s hx hi (Int.natCast_nonneg j) (by rw [Int.toNat_natCast]; exact hl) hk
theorem d_indexI {t e : TypeId} {x y : Operand} {j : Nat} {l : List Int} {z : Int} (h1 : ops.toList[i]? = some o) (ho : o.op = .indexAddr t x y) (hg : wantedA o ops T = true) [hu : TyS t e] [hs : Cell e]
    (hx : Sl H0 (av T x) (ivs l)) (hi : av T y = iv j) (hl : l[j]? = some z) (hk : ∀ p, At H0 p (iv z) → WDr (ENV O) ops H0 π (putA T o.dst p) H K) : WDr (ENV O) ops H0 (.mob i :: π) T H K := d_index h1 ho hg hx hi (ivs_get hl) hk
theorem d_indexOwn {t e : TypeId} {x y : Operand} {j : Nat} {b n cap : Nat} (h1 : ops.toList[i]? = some o) (ho : o.op = .indexAddr t x y) (hg : wantedA o ops T = true) [hu : TyS t e] [hs : Cell e]
    (hx : av T x = .slc b 0 n cap) (hi : av T y = iv j) (hl : j < n) (hk : WDr (ENV O) ops H0 π (putA T o.dst (.ptr b j)) H K) : WDr (ENV O) ops H0 (.mob i :: π) T H K :=
  wd_indexOwn h1 ho hg hu.u hs.s hx hi (Int.natCast_nonneg j) (by omega) (by rw [Int.toNat_natCast, Nat.zero_add]; exact hk)
theorem d_lenI {c : Call} {t e : TypeId} {x : Operand} {l : List Int} (h1 : ops.toList[i]? = some o) (ho : o.op = .call c) (hg : wantedA o ops T = true) (hc : c.callee = .builtin .len) (hargs : c.args.toList = [x]) (ht : c.argTypes.toList = [t]) [hu : TyS t e] (hx : Sl H0 (av T x) (ivs l))
    (hk : WDr (ENV O) ops H0 π (putA T o.dst (iv l.length)) H K) : WDr (ENV O) ops H0 (.mob i :: π) T H K := wd_lenA h1 ho hg hc hargs ht hu.u hx (by rw [ivs_length]; exact hk)
theorem d_make {t e : TypeId} {l c : Operand} {n : Nat} {z0 : Value} (h1 : ops.toList[i]? = some o) (ho : o.op = .makeSlice t l c) (hl : av T l = iv n) (hc : av T c = iv n) [hu : TyS t e] [hs : Cell e] [hz : Zero e z0] (hn : n ≤ 2 ^ 32) (hr : H.next < 2 ^ 39)
    (hk : WDr (ENV O) ops H0 π (putA T o.dst (.slc H.next 0 n n)) (H.add (.cells (List.replicate n (.v z0)) e 0)) K) : WDr (ENV O) ops H0 (.alc i :: π) T H K :=
  wd_make h1 ho hl hc hu.u hz.i hs.s hz.z hz.c (Nat.le_trans (Nat.le_of_ble_eq_true hz.b) (by decide)) hn hr hk
end
end Go.Ev
