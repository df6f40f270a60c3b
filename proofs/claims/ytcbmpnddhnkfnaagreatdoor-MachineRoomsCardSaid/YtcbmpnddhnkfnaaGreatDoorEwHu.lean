/- Part of an evaluator of calls that is proved sound, and of what it gives about this program. No condition of its own. -/
import Derived.Test.YtcbmpnddhnkfnaaGreatDoorExHa
import Derived.Test.YtcbmpnddhnkfnaaGreatDoorEwHo
set_option linter.unusedVariables false
set_option linter.unusedSimpArgs false
set_option linter.unusedSectionVars false
set_option maxRecDepth 100000
set_option maxHeartbeats 4000000
namespace Go.Ev
def WX (E : Env) (ops : Array Oper) (H0 : AH) (B : Nat → Prop) : List Stp → List AV → AH → (List AV → AH → Prop) → Prop
 | [], T, H, K => K T H
 | .mob i :: π, T, H, K => ∃ o r, ops.toList[i]? = some o ∧ ((wantedA o ops T = false ∧ r = .v undef) ∨ (wantedA o ops T = true ∧ mobEval E.P T (sing H0 (rdA T o)) o = some r ∧ ∀ b, rdA T o = some b → B b)) ∧ WX E ops H0 B π (putA T o.dst r) H K
 | .loud i :: π, T, H, K => ∃ o, ops.toList[i]? = some o ∧ ∃ n r H1, evOp E.P E.F (E.evCall n) ops o T H = some (r, H1) ∧ (∀ b, B b → H1.get b = H0.get b) ∧ WX E ops H0 B π (putA T o.dst r) H1 K
 | .alc i :: π, T, H, K => ∃ o, ops.toList[i]? = some o ∧ ((wantedA o ops T = false ∧ WX E ops H0 B π (putA T o.dst (.v undef)) H K) ∨ (wantedA o ops T = true ∧ ∃ k cs t H1, laysA E.P T o = some (k, cs, t) ∧ newA t cs H = some H1 ∧ WX E ops H0 B π (putA T o.dst (nvA k H.next)) H1 K))
section
variable {E : Env} {g : FuncId} {rd : Bool} {T : List AV} {M : List Nat} {H H0 : AH} {Q : QX} {ops : Array Oper} {B : Nat → Prop}
theorem wx_ev {K : List AV → AH → Prop} : ∀ {π : List Stp} {T : List AV} {H : AH}, WX E ops H0 B π T H K → ∃ n T' H' L Hs, evDraw E.P E.F (E.evCall n) ops H0 π T H = some (T', H', L, Hs) ∧ K T' H' ∧ (∀ q ∈ Hs, ∀ b, B b → q.2.get b = H0.get b) ∧ (∀ p ∈ L, ∀ b, p.2 = some b → B b)
 | [], T, H, h => ⟨0, T, H, [], [], rfl, h, fun _ h => by simp at h, fun _ h => by simp at h⟩
 | .mob i :: π, T, H, ⟨o, r, h1, h2, h3⟩ => by
   obtain ⟨n, T', H', L, Hs, k1, k2, k3, k4⟩ := wx_ev h3
   rcases h2 with ⟨h2, rfl⟩ | ⟨h2, h4, h5⟩
   · refine ⟨n, T', H', L, Hs, ?_, k2, k3, k4⟩
     simp only [evDraw, opT h1, h2]
     exact k1
   · refine ⟨n, T', H', (i, rdA T o) :: L, Hs, ?_, k2, k3, fun p hp b hb => ?_⟩
     · simp only [evDraw, opT h1, h2, h4, k1]
     · rcases List.mem_cons.1 hp with rfl | hp
       · exact h5 b hb
       · exact k4 p hp b hb
 | .loud i :: π, T, H, ⟨o, h1, n, r, H1, h2, h5, h3⟩ => by
   obtain ⟨m, T', H', L, Hs, k1, k2, k3, k4⟩ := wx_ev h3
   refine ⟨n + m, T', H', L, (i, H1) :: Hs, ?_, k2, fun q hq => ?_, k4⟩
   · simp only [evDraw, opT h1]
     rw [evOp_le (evCall_le (Nat.le_add_right n m)) h2]
     simp only
     rw [evDraw_le (evCall_le (Nat.le_add_left m n)) k1]
   · rcases List.mem_cons.1 hq with rfl | hq
     · exact h5
     · exact k3 q hq
 | .alc i :: π, T, H, ⟨o, h1, .inl ⟨hw, h4⟩⟩ => by
   obtain ⟨n, T', H', L, Hs, k1, k2, k3, k4⟩ := wx_ev h4
   refine ⟨n, T', H', L, Hs, ?_, k2, k3, k4⟩
   simp only [evDraw, opT h1, hw]
   exact k1
 | .alc i :: π, T, H, ⟨o, h1, .inr ⟨hw, k, cs, t, H1, h2, h3, h4⟩⟩ => by
   obtain ⟨n, T', H', L, Hs, k1, k2, k3, k4⟩ := wx_ev h4
   refine ⟨n, T', H', L, Hs, ?_, k2, k3, k4⟩
   simp only [evDraw, opT h1, hw, h2, h3]
   exact k1
theorem wp_drawX (B : Nat → Prop) (hB : ∀ b, B b → sameBlk (H.get b) (H.get b) = true) {id : Nat} {π : List Stp} (hp : E.pl.get (planKey g id) = some π) (h : WX E ops H B π T H fun T' H' => Q .normal T' M H') : Wp E g rd (.region id ops true) T M H Q := by
 obtain ⟨n, T', H', L, Hs, k1, k2, k3, k4⟩ := wx_ev h
 refine ⟨n + 1, _, T', M, H', ?_, k2⟩
 show Ev.ev E.P E.F E.O E.pl (n + 1) g rd (.region id ops true) T M H = _
 rw [ev_draw, hp]
 simp only
 unfold evRegion
 rw [show evDraw E.P E.F (Ev.evCall E.P E.F E.O E.pl n) ops H π T H = _ from k1]
 have : (Hs.all fun q => keptB ops H L q.1 q.2) = true := by
   rw [List.all_eq_true]
   intro q hq
   unfold keptB
   rw [List.all_eq_true]
   intro p hp
   cases hb : p.2 with
   | none => rfl
   | some b =>
     have h1 := k4 p hp b hb
     simp only [Bool.or_eq_true]
     right
     rw [k3 q hq b h1]
     exact hB b h1
 simp only [this, if_true]
variable {π : List Stp} {i : Nat} {o : Oper} {K : List AV → AH → Prop}
theorem x_nil (h : K T H) : WX E ops H0 B [] T H K := h
theorem x_mob {r : AV} (h1 : ops.toList[i]? = some o) (hg : wantedA o ops T = true) (h : mobEval E.P T (sing H0 (rdA T o)) o = some r) (hb : ∀ b, rdA T o = some b → B b) (hk : WX E ops H0 B π (putA T o.dst r) H K) : WX E ops H0 B (.mob i :: π) T H K := ⟨o, r, h1, .inr ⟨hg, h, hb⟩, hk⟩
theorem x_loud (h1 : ops.toList[i]? = some o) (hs : still o.op = true) (h : WOp E ops o T H fun r H1 => (∀ b, B b → H1.get b = H0.get b) ∧ WX E ops H0 B π (putA T o.dst r) H1 K) : WX E ops H0 B (.loud i :: π) T H K := by
 obtain ⟨n, r, H1, k1, k2, k3⟩ := h
 rw [evOpY_still hs] at k1
 exact ⟨o, h1, n, r, H1, k1, k2, k3⟩
theorem x_call {c : Call} {x : Operand} (h1 : ops.toList[i]? = some o) (ho : o.op = .call c) (hc : c.callee = .value x) (hy : ∀ b, av T x ≠ .yl b) (h : WOp E ops o T H fun r H1 => (∀ b, B b → H1.get b = H0.get b) ∧ WX E ops H0 B π (putA T o.dst r) H1 K) : WX E ops H0 B (.loud i :: π) T H K := by
 obtain ⟨n, r, H1, k1, k2, k3⟩ := h
 refine ⟨o, h1, n, r, H1, ?_, k2, k3⟩
 unfold evOpY at k1
 rw [ho] at k1
 simp only [hc] at k1
 exact k1
theorem x_move {x : Operand} (h1 : ops.toList[i]? = some o) (ho : o.op = .move x) (hg : wantedA o ops T = true) (hk : WX E ops H0 B π (putA T o.dst (av T x)) H K) : WX E ops H0 B (.mob i :: π) T H K :=
 x_mob h1 hg (by unfold mobEval; rw [ho]) (fun b hb => by rw [rdA_none (by unfold looksB; rw [ho])] at hb; cases hb) hk
theorem x_assign {x : Operand} (h1 : ops.toList[i]? = some o) (ho : o.op = .assign x) (hg : wantedA o ops T = true) (hk : WX E ops H0 B π (putA T o.dst (av T x)) H K) : WX E ops H0 B (.mob i :: π) T H K :=
 x_mob h1 hg (by unfold mobEval; rw [ho]) (fun b hb => by rw [rdA_none (by unfold looksB; rw [ho])] at hb; cases hb) hk
theorem x_0 {r : AV} (h1 : ops.toList[i]? = some o) (hl : looksB o = false) (hg : wantedA o ops T = true) (h : WDr E ops H0 [.mob i] T H (fun T' _ => T' = putA T o.dst r)) (hk : WX E ops H0 B π (putA T o.dst r) H K) : WX E ops H0 B (.mob i :: π) T H K := by
 obtain ⟨o', r', h1', h2, h3⟩ := h
 rw [h1] at h1'; cases h1'
 have h3 : putA T o.dst r' = putA T o.dst r := h3
 rcases h2 with ⟨h2, _⟩ | ⟨h2, h4⟩
 · rw [hg] at h2; cases h2
 · refine ⟨o, r', h1, .inr ⟨hg, h4, fun b hb => by rw [rdA_none hl] at hb; cases hb⟩, ?_⟩
   rw [h3]; exact hk
end
end Go.Ev
namespace Go.Ev
open Go.Proofs
section
variable {E : Env} {T : List AV} {H H0 : AH} {ops : Array Oper} {o : Oper} {i : Nat} {π : List Stp} {K : List AV → AH → Prop} {B : Nat → Prop}
theorem x_bin {op : BinOp} {t yt : TypeId} {x y : Operand} {k : IntKind} {a b : Int} {v : Value} (h1 : ops.toList[i]? = some o) (ho : o.op = .binOp op t x y yt) (hg : wantedA o ops T = true) (hx : av T x = .v (.int k a)) (hy : av T y = .v (.int k b)) (hv : binI op k k a b = some v) (hk : WX E ops H0 B π (putA T o.dst (.v v)) H K) : WX E ops H0 B (.mob i :: π) T H K :=
 x_0 (r := .v v) h1 (by unfold looksB; rw [ho]) hg (wd_bin h1 ho hg hx hy hv rfl) hk
end
section
variable {O : CallF} {T : List AV} {H H0 : AH} {ops : Array Oper} {o : Oper} {i : Nat} {π : List Stp} {K : List AV → AH → Prop} {B : Nat → Prop}
theorem x_field {t : TypeId} {x : Operand} {f off b o0 : Nat} (h1 : ops.toList[i]? = some o) (ho : o.op = .fieldAddr t x f) (hg : wantedA o ops T = true) [hf : FA t f off] (hx : av T x = .ptr b o0) (hk : WX (ENV O) ops H0 B π (putA T o.dst (.ptr b (o0 + off))) H K) : WX (ENV O) ops H0 B (.mob i :: π) T H K :=
 x_0 h1 (by unfold looksB; rw [ho]) hg (d_field h1 ho hg hx rfl) hk
theorem wdx_mob {r : AV} (h1 : ops.toList[i]? = some o) (hg : wantedA o ops T = true) (h : WDr (ENV O) ops H0 [.mob i] T H (fun T' _ => T' = putA T o.dst r)) (hb : ∀ b, rdA T o = some b → B b) (hk : WX (ENV O) ops H0 B π (putA T o.dst r) H K) : WX (ENV O) ops H0 B (.mob i :: π) T H K := by
 obtain ⟨o', r', h1', h2, h3⟩ := h
 rw [h1] at h1'; cases h1'
 have h3 : putA T o.dst r' = putA T o.dst r := h3
 rcases h2 with ⟨h2, _⟩ | ⟨h2, h4⟩
 · rw [hg] at h2; cases h2
 · refine ⟨o, r', h1, .inr ⟨hg, h4, hb⟩, ?_⟩
   rw [h3]; exact hk
theorem x_load {t : TypeId} {x : Operand} {v : AV} (h1 : ops.toList[i]? = some o) (ho : o.op = .load t x) (hg : wantedA o ops T = true) [ha : Cell t] (hx : At H0 (av T x) v) (hL : ∀ b, (av T x).own = some b → B b)
   (hk : WX (ENV O) ops H0 B π (putA T o.dst v) H K) : WX (ENV O) ops H0 B (.mob i :: π) T H K :=
 wdx_mob h1 hg (d_load h1 ho hg hx rfl) (fun b hb => hL b (rdA_load ho hb)) hk
theorem x_load4 {t : TypeId} {x : Operand} {b : Nat} {m : Mc} {y : AV} (h1 : ops.toList[i]? = some o) (ho : o.op = .load t x) (hg : wantedA o ops T = true) [h4 : Four t] (hx : av T x = .ptr b 0) (hb : Bx H0 b t m y) (hL : ∀ c, (AV.ptr b 0).own = some c → B c) (hk : WX (ENV O) ops H0 B π (putA T o.dst (.agg (mc m y))) H K) : WX (ENV O) ops H0 B (.mob i :: π) T H K :=
 wdx_mob h1 hg (d_load4 h1 ho hg hx hb rfl) (fun c hc => hL c (by have := rdA_load ho hc; rw [hx] at this; exact this)) hk
end
section
variable {E : Env} {T : List AV} {H H0 : AH} {ops : Array Oper} {o : Oper} {i : Nat} {π : List Stp} {K : List AV → AH → Prop} {B : Nat → Prop}
end
end Go.Ev
namespace Go.Ev
open Go.Proofs
section
variable {O : CallF} {T : List AV} {H H0 : AH} {ops : Array Oper} {o : Oper} {i : Nat} {π : List Stp} {K : List AV → AH → Prop} {B : Nat → Prop}
theorem x_indexP {t e : TypeId} {n : Nat} {x y : Operand} {j b off : Nat} (h1 : ops.toList[i]? = some o) (ho : o.op = .indexAddr t x y) (hg : wantedA o ops T = true) [hu : TyA t n e] [hs : Cell e]
   (hx : av T x = .ptr b off) (hi : av T y = iv (j : Int)) (hl : j < n) (hk : WX (ENV O) ops H0 B π (putA T o.dst (.ptr b (off + j))) H K) : WX (ENV O) ops H0 B (.mob i :: π) T H K := by
 refine x_mob h1 hg (r := .ptr b (off + j)) ?_ (fun b hb => by rw [rdA_none (by unfold looksB; rw [ho])] at hb; cases hb) hk
 have h2 := hu.u
 have h3 := hs.s
 have hm : indexAddrA Tryz.prog t (.ptr b off) (.v (.int .i64 (j : Int))) = some (.ptr b (off + j)) := by
   unfold indexAddrA
   simp only [natA, h2, h3, Nat.mul_one]
   rw [if_pos (show Nat.blt j n = true from Nat.ble_eq_true_of_le (show j + 1 ≤ n by omega))]
 unfold mobEval
 rw [ho]
 simp only [ENV, hx, hi, isV, Bool.false_eq_true, if_false, hm]
theorem x_indexOwn {t e : TypeId} {x y : Operand} {j : Nat} {b n cap : Nat} (h1 : ops.toList[i]? = some o) (ho : o.op = .indexAddr t x y) (hg : wantedA o ops T = true) [hu : TyS t e] [hs : Cell e]
   (hx : av T x = .slc b 0 n cap) (hi : av T y = iv (j : Int)) (hl : j < n) (hk : WX (ENV O) ops H0 B π (putA T o.dst (.ptr b j)) H K) : WX (ENV O) ops H0 B (.mob i :: π) T H K :=
 x_0 (r := .ptr b j) h1 (by unfold looksB; rw [ho]) hg (d_indexOwn h1 ho hg hx hi hl rfl) hk
theorem yl_go {lb : Nat} {g : FuncId} {ps : Array Tmp} {asg bo : Code} {args : List AV} {KK : AV → AH → Prop} (hL : H.get lb = some (.lp .ready none g T ps asg bo)) (hl : args.length = ps.size) (hp1 : plansC Tryz.prog TPl g asg = true) (hp2 : plansC Tryz.prog TPl g bo = true)
   (h : Wp (ENV O) g true asg (setArgs ps.toList args T) [] H fun x T1 M1 H1 => x = .normal ∧ H1.get lb = some (.lp .ready none g T ps asg bo) ∧
     Wp (ENV O) g true bo T1 M1 (H1.set lb (some (.lp .busy none g T ps asg bo))) fun x _ _ H3 => jumpOf x = none ∧ H3.get lb = some (.lp .busy none g T ps asg bo) ∧ KK (.v (.bool true)) (H3.set lb (some (.lp .ready none g T ps asg bo)))) : Yl (ENV O) lb args H KK := by
 refine yl_intro hL hl hp1 hp2 (h.mono ?_)
 rintro x T1 M1 H1 ⟨rfl, h1, h2⟩
 refine ⟨rfl, none, g, T, ps, asg, bo, h1, h2.mono ?_⟩
 rintro x T2 M2 H3 ⟨h3, h4, h5⟩
 refine ⟨.busy, none, g, T, ps, asg, bo, h4, ?_⟩
 rw [h3]
 exact h5
end
def idL (n : Nat) : List Int := (List.range n).map fun (k : Nat) => (k : Int)
def othStep (m : Mc) (L : List Int) (p : Nat) : List Int := if (p : Int) ∈ m.sw then L else (L.set (4 * (((p : Int) + m.g - 1).tmod m.g) + 2).toNat (4 * (p : Int))).set (4 * p) (4 * (((p : Int) + m.g - 1).tmod m.g) + 2)
def othL (m : Mc) : Nat → List Int
 | 0 => idL (4 * m.g.toNat)
 | k + 1 => if k < fsE m then othL m k else othStep m (othL m k) k
theorem othStep_length (m : Mc) (L : List Int) (p : Nat) : (othStep m L p).length = L.length := by unfold othStep; split <;> simp
theorem othL_length (m : Mc) : ∀ k, (othL m k).length = 4 * m.g.toNat
 | 0 => by simp [othL, idL]
 | k + 1 => by
   unfold othL
   split
   · exact othL_length m k
   · rw [othStep_length]; exact othL_length m k
structure RdO (H0 : AH) (bL : Nat) (m : Mc) (L : AB) (k : Nat) (H : AH) : Prop where
 nx : H.next + fsE m = H0.next + 3 + k
 gl : H.gl = H0.gl
 get : ∀ b, b < H0.next → b ≠ bL → H.get b = H0.get b
 dfd : H.get H0.next = some .dfd
 lp : H.get (H0.next + 1) = some L
 sl : H.get bL = some (.cells (ivs (othL m k)) 3 0)
theorem othL_fs (m : Mc) : othL m (fsE m) = idL (4 * m.g.toNat) := by
 unfold fsE
 split
 · rfl
 · rename_i h
   show (if 0 < fsE m then othL m 0 else othStep m (othL m 0) 0) = _
   rw [if_pos (by unfold fsE; rw [if_neg h]; decide)]
   rfl
theorem rngO {O : CallF} (hq : Quiet O) {H0 : AH} {bL bs n : Nat} {m : Mc} {x : AV} {T : List AV} {ps : Array Tmp} {asg bo : Code} {KK : AV → AH → Prop} (hg : m.g = n) (hn1 : 1 ≤ n) (hn : n ≤ 16) (hbs : Bx H0 bs 24 m x) (hbsl : bs < H0.next) (hne : bs ≠ bL) (hbL : bL < H0.next) (hr : H0.next + 100 < 2 ^ 39)
   (hgL : H0.get bL = some (.cells (ivs (idL (4 * n))) 3 0))
   (hy : ∀ (k : Nat) (Hm : AH), fsE m ≤ k → k < n → RdO H0 bL m (.lp .ready none 79 T ps asg bo) k Hm → ∀ K : AV → AH → Prop, (∀ H', RdO H0 bL m (.lp .ready none 79 T ps asg bo) (k + 1) H' → Hm.next ≤ H'.next → K (.v (.bool true)) H') → Yl (ENV O) (H0.next + 1) [iv k, .agg (ivs (psL m k))] Hm K)
   (hk : ∀ r H', RdO H0 bL m (.lp .ready none 79 T ps asg bo) n H' → KK r H') : Ca (ENV O) 160 [.yl (H0.next + 1), .ptr bs 0] ((H0.add .dfd).add (.lp .ready none 79 T ps asg bo)) KK := by
 have h39 : H0.next < 2 ^ 39 := by omega
 have h39' : (H0.add .dfd).next < 2 ^ 39 := by show H0.next + 1 < _; omega
 have hgt : ∀ b, b < H0.next → ((H0.add .dfd).add (.lp .ready none 79 T ps asg bo)).get b = H0.get b := fun b hb => by
   rw [get_add_ne h39' (by show b ≠ H0.next + 1; omega), get_add_ne h39 (by omega)]
 refine c159 hq (H0.next + 1) bs m x n hg hn1 hn (RdO H0 bL m (.lp .ready none 79 T ps asg bo)) (fun _ => False) (fun k H h => ⟨hbs.lt, (h.get bs hbsl hne).trans hbs.g⟩) (fun k Hm h1 h2 hR K hk1 _ => hy k Hm h1 h2 hR K hk1) _ ⟨hbs.lt, (hgt bs hbsl).trans hbs.g⟩ (by show H0.next + 2 + 10 < _; omega) (fun H1 k1 n1 => ?_) KK hk (fun _ _ h => h.elim)
 have n1 : H1.next = H0.next + 2 + 1 := n1
 refine ⟨by omega, k1.gl, fun b hb _ => (k1.get b (by show b < H0.next + 2; omega)).trans (hgt b hb), ?_, ?_, ?_⟩
 · refine (k1.get _ (by show H0.next < H0.next + 2; omega)).trans ?_
   rw [get_add_ne h39' (by show H0.next ≠ H0.next + 1; omega), get_add_eq h39]
 · refine (k1.get _ (by show H0.next + 1 < H0.next + 2; omega)).trans ?_
   exact get_add_eq h39'
 · refine (k1.get _ (by show bL < H0.next + 2; omega)).trans ?_
   rw [hgt bL hbL, othL_fs, hgL, hg]
   rfl
end Go.Ev
namespace Go.Ev
open Go.Proofs
theorem idL_length (n : Nat) : (idL n).length = n := by simp [idL]
theorem idL_get {n i : Nat} (h : i < n) : (idL n)[i]? = some (i : Int) := by simp [idL, h]
variable {O : CallF} (hq : Quiet O)
include hq
theorem cNumb (H : AH) (n : Nat) (hn : n ≤ 100000) (hr : H.next + 10 < 2 ^ 39) (K : AV → AH → Prop) (hk : ∀ H', Keeps H H' → H'.next = H.next + 1 → H'.get H.next = some (.cells (ivs (idL n)) 3 0) → K (.slc H.next 0 n n) H') : Ca (ENV O) 128 [iv (n : Nat)] H K := by
 refine ca_intro (hq _ _ _ rfl) (fn := Tryz.f128) (by rfl) rfl ?_
 have r1 : H.next < 2 ^ 39 := by omega
 repeat (first | apply qN | refine qM rfl rfl ?_ | apply qR | apply qS)
 refine wops_cons (o_make (n := n) rfl rfl rfl rfl (by omega) r1 ?_)
 refine WOps.mem (fun H2 => Keeps H H2 ∧ H2.next = H.next + 1 ∧ H2.get H.next = some (.cells (ivs (List.replicate n 0)) 3 0)) ⟨(Keeps.refl H).add _ r1, rfl, ?_⟩ ?_
 · rw [get_add_eq r1, ivs_rep]
 rintro H2 ⟨k2, n2, g2⟩
 have hsl0 : Sl H2 (.slc H.next 0 n n) (ivs (List.replicate n 0)) := ⟨by rw [ivs_length, List.length_replicate], r1, _, _, _, g2, fun j v hv => by rw [Nat.zero_add]; exact hv⟩
 have hlr : (List.replicate n (0 : Int)).length = n := List.length_replicate
 repeat (first | apply qN | refine qM rfl rfl ?_ | refine zq5 rfl rfl rfl rfl rfl ‹_› ?_ | apply qR | apply qS | apply qB)
 rw [hlr]
 refine wp_loop (fun q T M H' => ∃ (i : Nat) (Y : List AV), q = n - i ∧ i ≤ n ∧ Keeps H H' ∧ H'.next = H.next + 1 ∧ H'.get H.next = some (.cells (ivs ((idL n).take i ++ List.replicate (n - i) 0)) 3 0) ∧ M = [] ∧ T = (lget Y 0 :: lget Y 1 :: lget Y 2 :: .slc H.next 0 n n :: lget Y 3 :: lget Y 4 :: lget Y 5 :: lget Y 6 :: iv (n : Nat) :: iv (i : Nat) :: lget Y 7 :: lget Y 8 :: lget Y 9 :: lget Y 10 :: lget Y 11 :: lget Y 12 :: lget Y 13 :: lget Y 14 :: [])) n
   ⟨0, [_,_,_,_,_,_,_,_,_,_,_,_,_,_,_], rfl, Nat.zero_le _, k2, n2, by rw [List.take_zero, List.nil_append, Nat.sub_zero]; exact g2, rfl, rfl⟩ ?_
 rintro q T M H5 ⟨i, Y, hq1, hi, k5, n5, g5, rfl, rfl⟩
 clear hsl0
 repeat (first | apply qR | apply qS)
 refine wops_cons (wop_cmp rfl rfl rfl rfl rfl (fun h => ?_) (fun h => ?_))
 · have h : (i : Int) < (n : Nat) := of_decide_eq_true h
   have hi4 : i < n := by omega
   clear h
   repeat (first | apply qN | refine qM rfl rfl ?_ | refine qT rfl ?_ | apply qR | apply qS | apply qK | apply qB)
   refine wops_cons (o_indexOwn rfl rfl rfl rfl hi4 ?_)
   have hlen : ((idL n).take i ++ List.replicate (n - i) (0 : Int)).length = n := by rw [List.length_append, List.length_take, idL_length, List.length_replicate]; omega
   refine wops_cons (o_store rfl rfl rfl g5 (by rw [ivs_length, hlen]; exact hi4) rfl ?_)
   have hset : (ivs ((idL n).take i ++ List.replicate (n - i) 0)).set i (iv (i : Nat)) = ivs ((idL n).take (i + 1) ++ List.replicate (n - (i + 1)) 0) := by
     rw [ivs_set, fill_set (idL_length _) hi4 (idL_get hi4)]
   refine WOps.mem (fun H6 => Keeps H H6 ∧ H6.next = H.next + 1 ∧ H6.get H.next = some (.cells (ivs ((idL n).take (i + 1) ++ List.replicate (n - (i + 1)) 0)) 3 0)) ⟨k5.set _ (Nat.le_refl _) r1, n5, ?_⟩ ?_
   · rw [← hset]; exact get_set_eq r1
   rintro H6 ⟨k6, n6, g6⟩
   repeat (first | apply qN | refine qM rfl rfl ?_ | refine zq4 rfl rfl rfl rfl (inc (by omega)) ?_ | apply qR)
   exact ⟨n - (i + 1), by omega, i + 1, [_,_,_,_,_,_,_,_,_,_,_,_,_,_,_], rfl, by omega, k6, n6, g6, rfl, rfl⟩
 have h : ¬ ((i : Int) < (n : Nat)) := of_decide_eq_false h
 have e : i = n := by omega
 subst e
 rw [Nat.sub_self, List.replicate_zero, List.append_nil, List.take_of_length_le (by rw [idL_length]; exact Nat.le_refl _)] at g5
 repeat (first | apply qN | refine qM rfl rfl ?_ | refine qF rfl ?_ | apply qR | apply qS | apply qE)
 refine wp_ret ?_
 exact ⟨_, _, rfl, hk H5 k5 n5 g5⟩
end Go.Ev
namespace Go.Ev
open Go.Proofs
theorem Wp.mem {E : Env} {g : FuncId} {rd : Bool} {T : List AV} {M : List Nat} {H : AH} {Q : QX} {c : Code} (P : AH → Prop) (h : P H) (hw : ∀ H, P H → Wp E g rd c T M H Q) : Wp E g rd c T M H Q := hw H h
theorem ps_bounds {m : Mc} {n k : Nat} (hg : m.g = n) (hn : 1 ≤ n) (hk : k < n) : 0 ≤ ((k : Int) + m.g - 1).tmod m.g ∧ ((k : Int) + m.g - 1).tmod m.g < n := by
 rw [hg]
 have e : ((k : Int) + n - 1).tmod n = ((k : Int) + n - 1) % n := Int.tmod_eq_emod_of_nonneg (by omega)
 rw [e]
 exact ⟨Int.emod_nonneg _ (by omega), Int.emod_lt_of_pos _ (by omega)⟩
theorem rdo_next {H6 Hm H8 H9 : AH} {bL k : Nat} {m : Mc} {L : AB} (hR : RdO H6 bL m L k Hm) (hbL : bL < H6.next) (h39 : H6.next + 100 < 2 ^ 39) (hf : fsE m ≤ 1) (n8 : H8.next = Hm.next + 1) (gl8 : H8.gl = Hm.gl) (g8 : ∀ b, b ≠ Hm.next → b ≠ H6.next + 1 → H8.get b = Hm.get b)
   (n9 : H9.next = H8.next) (gl9 : H9.gl = H8.gl) (g9 : ∀ b, b ≠ bL → H9.get b = H8.get b) (g9s : H9.get bL = some (.cells (ivs (othL m (k + 1))) 3 0)) : RdO H6 bL m L (k + 1) (H9.set (H6.next + 1) (some L)) := by
 have hnx := hR.nx
 refine ⟨?_, gl9.trans (gl8.trans hR.gl), fun b h1 h2 => ?_, ?_, get_set_eq (by omega), ?_⟩
 · show H9.next + _ = _; omega
 · rw [get_set_ne (by omega) (by omega), g9 b h2, g8 b (by omega) (by omega)]; exact hR.get b h1 h2
 · rw [get_set_ne (by omega) (by omega), g9 _ (by omega), g8 _ (by omega) (by omega)]; exact hR.dfd
 · rw [get_set_ne (by omega) (by omega)]; exact g9s
theorem oth_succ {m : Mc} {k : Nat} (h : fsE m ≤ k) : othL m (k + 1) = othStep m (othL m k) k := by
 show (if k < fsE m then othL m k else othStep m (othL m k) k) = _
 rw [if_neg (by omega)]
variable {O : CallF} (hq : Quiet O)
include hq
theorem c79 (H : AH) (a x : AV) (m : Mc) (n : Nat) (ha : a.cells = mc m x) (hx : Sl H x (ivs m.sw)) (ho : Old H x) (hsl : m.sw.length ≤ 1000) (hg : m.g = n) (hn1 : 1 ≤ n) (hn : n ≤ 16) (hr : H.next + 200 < 2 ^ 39)
   (K : AV → AH → Prop) (hk : ∀ H' r, Keeps H H' → H'.next ≤ H.next + 100 → Nw H' r (othL m n) → K r H') : Ca (ENV O) 79 [a] H K := by
 refine ca_intro (hq _ _ _ rfl) (fn := Tryz.f79) (by rfl) rfl ?_
 repeat (first | apply qR | apply qS)
 refine wops_cons (o_boxM rfl rfl ha (by omega) fun H1 n1 k1 b1 => ?_)
 have hp1 := b1.p1
 rw [hg] at hp1
 repeat (first | apply qN | refine qM rfl rfl ?_ | refine zqa rfl rfl rfl ?_ | refine zq6 rfl rfl ‹_› ?_ | apply qR | apply qS)
 refine wops_cons (wop_bin (op := .mul) (v := .int .i64 ((4 * n : Nat) : Int)) rfl rfl rfl rfl ?_ ?_)
 · rw [mul4 (by omega)]; congr 2
 refine wops_cons (wop_callF rfl rfl rfl (fn := Tryz.f128) (by rfl) ?_)
 refine cNumb hq H1 (4 * n) (by omega) (by omega) _ fun H2 k2 n2 g2 => ⟨k2.nx, ?_⟩
 have r2 : H2.next < 2 ^ 39 := by omega
 skip
 refine wops_cons (o_alloc rfl rfl r2 ?_)
 refine wops_cons (o_store rfl rfl rfl (get_add_eq (x := .cells [.v (.slice none 0 0)] 22 0) r2) (Nat.succ_pos _) rfl ?_)
 refine WOps.mem (fun H4 => Keeps H H4 ∧ H4.next = H.next + 3 ∧ Bx H4 H.next 24 m x ∧ H4.get (H.next + 1) = some (.cells (ivs (idL (4 * n))) 3 0) ∧ H4.get (H.next + 2) = some (.cells [.slc (H.next + 1) 0 (4 * n) (4 * n)] 22 0)) ⟨?_, ?_, ?_, ?_, ?_⟩ ?_
 · exact ((k1.trans k2).add _ r2).set _ (by omega) r2
 · show H2.next + 1 = _; omega
 · refine ⟨by omega, ?_⟩
   rw [get_set_ne r2 (by omega), get_add_ne r2 (by omega), k2.get _ (by omega)]
   exact b1.g
 · rw [get_set_ne r2 (by omega), get_add_ne r2 (by omega), show H.next + 1 = H1.next by omega, g2]
 · rw [show H.next + 2 = H2.next by omega]
   refine (get_set_eq r2).trans ?_
   rw [show H.next + 1 = H1.next by omega]
   rfl
 rintro H5 ⟨k5, n5, b5, g51, g52⟩
 rw [show H2.next = H.next + 2 by omega]
 clear hp1 n2 g2 r2 k2
 repeat (first | apply qN | refine zqb rfl rfl rfl ‹_› ?_ | apply qR | apply qS)
 refine wops_cons (wop_callF rfl rfl rfl (fn := Tryz.f129) (by rfl) ?_)
 refine c128 hq H5 _ x m rfl (by omega) _ fun H6 k6 n6 b6 => ⟨k6.nx, ?_⟩
 rw [n5] at b6 ⊢
 repeat (first | apply qN | apply qB)
 have hx6 := hx.keep ho (k5.trans k6)
 have ho6 := ho.keep (k5.trans k6)
 have g61 := (k6.get (H.next + 1) (by omega)).trans g51
 have g62 := (k6.get (H.next + 2) (by omega)).trans g52
 have b16 := b5.keep (by omega) k6
 refine wp_range (fn := Tryz.f160) rfl (by omega) (by rfl) ?_
 refine rngO hq (bL := H.next + 1) hg hn1 hn b6 (by omega) (by omega) (by omega) (by omega) g61 (fun k Hm hk1 hk2 hR K hK => ?_) (fun r H7 hR => ?_)
 · have hnx := hR.nx
   have hf1 : fsE m ≤ 1 := by unfold fsE; split <;> omega
   have rm : Hm.next < 2 ^ 39 := by omega
   refine yl_go hR.lp rfl (by kernel_rfl) (by kernel_rfl) ?_
   repeat (first | apply qN | refine qM rfl rfl ?_ | apply qR | apply qS)
   refine wops_cons (o_allocA (zs := [iv 0, iv 0]) rfl rfl (z := .agg #[.int .i64 0, .int .i64 0]) (by kernel_rfl) rfl rm ?_)
   refine wops_cons (o_storeA (n := 2) (vs := ivs (psL m k)) rfl rfl (by kernel_rfl) rfl rfl rfl rfl (get_add_eq rm) (by decide) ?_)
   refine WOps.mem (fun H7 => H7.next = Hm.next + 1 ∧ H7.gl = Hm.gl ∧ (∀ b, b ≠ Hm.next → H7.get b = Hm.get b) ∧ H7.get Hm.next = some (.cells (ivs (psL m k)) 93 0)) ⟨rfl, rfl, fun b hb => (get_set_ne rm hb).trans (get_add_ne rm hb), get_set_eq rm⟩ ?_
   rintro H7 ⟨n7, gl7, g7, g7p⟩
   repeat (first | apply qN)
   refine ⟨rfl, (g7 _ (by omega)).trans hR.lp, ?_⟩
   refine Wp.mem (fun H8 => H8.next = Hm.next + 1 ∧ H8.gl = Hm.gl ∧ (∀ b, b ≠ Hm.next → b ≠ H6.next + 1 → H8.get b = Hm.get b) ∧ H8.get Hm.next = some (.cells (ivs (psL m k)) 93 0) ∧ H8.get (H6.next + 1) = some (.lp .busy none 79 _ _ _ _)) ⟨n7, gl7, fun b h1 h2 => (get_set_ne (by omega) h2).trans (g7 b h1), (get_set_ne (by omega) (by omega)).trans g7p, get_set_eq (by omega)⟩ ?_
   rintro H8 ⟨n8, gl8, g8, g8p, g8l⟩
   have hold : ∀ b, b < H6.next → b ≠ H.next + 1 → H8.get b = H6.get b := fun b h1 h2 => (g8 b (by omega) (by omega)).trans (hR.get b h1 h2)
   have hx8 : Sl H8 x (ivs m.sw) := hx6.frame (gl8.trans hR.gl) fun b hb => hold b (ho6 b hb) (by have := ho b hb; omega)
   have b8 : Bx H8 H.next 24 m x := ⟨by omega, (hold _ (by omega) (by omega)).trans b16.g⟩
   have hp3x := b8.p3
   have g8c : H8.get (H.next + 2) = some (.cells [.slc (H.next + 1) 0 (4 * n) (4 * n)] 22 0) := (hold _ (by omega) (by omega)).trans g62
   have g8s : H8.get (H.next + 1) = some (.cells (ivs (othL m k)) 3 0) := (g8 _ (by omega) (by omega)).trans hR.sl
   repeat (first | refine qM rfl rfl ?_ | refine zqa rfl rfl rfl ?_ | refine zq6 rfl rfl ‹_› ?_ | apply qR | apply qS | apply qB)
   refine wops_cons (wop_callF rfl rfl rfl (fn := Tryz.f85) (by rfl) ?_)
   refine c85 hq H8 x m.sw k hx8 (by omega) _ ⟨Nat.le_refl _, ?_⟩
   repeat (first | apply qN | refine zq8 rfl rfl rfl ?_)
   have hpb := ps_bounds hg hn1 hk2
   have hlo : (othL m k).length = 4 * n := by rw [othL_length, hg]; rfl
   refine wp_cond rfl (fun h => ?_) (fun h => ?_)
   · have hnot : ¬ (k : Int) ∈ m.sw := by simpa using h
     clear h
     have hpc : At H8 (.ptr (H.next + 2) 0) (.slc (H.next + 1) 0 (4 * n) (4 * n)) := at_ptr (by omega) g8c rfl
     have hpa : At H8 (.ptr Hm.next 0) (iv (4 * (((k : Int) + m.g - 1).tmod m.g) + 2)) := at_ptr (by omega) g8p rfl
     have hpd : At H8 (.ptr Hm.next 1) (iv (4 * (k : Int))) := at_ptr (by omega) g8p rfl
     have hB1 : ∀ b, (AV.ptr (H.next + 2) 0).own = some b → (b = H.next + 2 ∨ b = Hm.next) := fun b hb => by cases hb; exact .inl rfl
     have hB2 : ∀ b, (AV.ptr Hm.next 0).own = some b → (b = H.next + 2 ∨ b = Hm.next) := fun b hb => by cases hb; exact .inr rfl
     skip
     refine wp_drawX (fun b => b = H.next + 2 ∨ b = Hm.next) (fun b hb => ?_) rfl ?_
     · rcases hb with rfl | rfl
       · rw [g8c]; simp [sameBlk, beqs, AV.beq]
       · rw [g8p]; simp [sameBlk, beqs_ivs]
     refine x_load rfl rfl rfl hpc hB1 ?_
     refine x_indexP (j := 0) rfl rfl rfl rfl rfl (by decide) ?_
     refine x_load rfl rfl rfl hpa hB2 ?_
     refine x_load rfl rfl rfl hpc hB1 ?_
     refine x_indexP (j := 1) rfl rfl rfl rfl rfl (by decide) ?_
     refine x_load rfl rfl rfl hpd hB2 ?_
     refine x_indexP (j := 1) rfl rfl rfl rfl rfl (by decide) ?_
     refine x_load rfl rfl rfl hpd hB2 ?_
     refine x_indexP (j := 0) rfl rfl rfl rfl rfl (by decide) ?_
     refine x_load rfl rfl rfl hpa hB2 ?_
     obtain ⟨qn, hqn⟩ := Int.eq_ofNat_of_zero_le hpb.1
     have hj1 : 4 * (((k : Int) + m.g - 1).tmod m.g) + 2 = ((4 * qn + 2 : Nat) : Int) := by rw [hqn]; omega
     have hj2 : 4 * (k : Int) = ((4 * k : Nat) : Int) := by omega
     have hqb : qn < n := by omega
     have hbl : H.next + 1 < 2 ^ 39 := by omega
     refine x_indexOwn (j := 4 * qn + 2) rfl rfl rfl rfl (congrArg iv hj1) (by omega) ?_
     refine x_loud rfl rfl (o_store rfl rfl rfl g8s (by rw [ivs_length, hlo]; omega) rfl ⟨fun b hb => get_set_ne hbl (by omega), ?_⟩)
     refine x_indexOwn (j := 4 * k) rfl rfl rfl rfl (congrArg iv hj2) (by omega) ?_
     refine x_loud rfl rfl (o_store rfl rfl rfl (get_set_eq hbl) (by rw [List.length_set, ivs_length, hlo]; omega) rfl ⟨fun b hb => (get_set_ne hbl (by omega)).trans (get_set_ne hbl (by omega)), ?_⟩)
     skip
     refine ⟨rfl, ?_, hK _ (rdo_next hR (by omega) (by omega) hf1 n8 gl8 g8 rfl rfl (fun b hb => (get_set_ne hbl hb).trans (get_set_ne hbl hb)) ?_) ?_⟩
     · exact ((get_set_ne hbl (by omega)).trans (get_set_ne hbl (by omega))).trans g8l
     · refine (get_set_eq hbl).trans ?_
       rw [oth_succ hk1, othStep, if_neg hnot]
       have e1 : (4 * (((k : Int) + m.g - 1).tmod m.g) + 2).toNat = 4 * qn + 2 := by rw [hj1]; rfl
       rw [e1, ← ivs_set, ← ivs_set]
       rfl
     · show Hm.next ≤ H8.next; omega
   · have hin : (k : Int) ∈ m.sw := by simpa using h
     repeat (first | apply qK)
     refine ⟨rfl, g8l, hK _ (rdo_next hR (by omega) (by omega) hf1 n8 gl8 g8 rfl rfl (fun b hb => rfl) ?_) ?_⟩
     · rw [oth_succ hk1, othStep, if_pos hin]; exact g8s
     · show Hm.next ≤ H8.next; omega
 · have hnx := hR.nx
   have hf1 : fsE m ≤ 1 := by unfold fsE; split <;> omega
   have hlo : (othL m n).length = 4 * n := by rw [othL_length, hg]; rfl
   refine ⟨by omega, .ready, none, _, _, _, _, _, .normal, hR.lp, by simp, rfl, ?_⟩
   refine Wp.mem (fun H8 => H8.next = H7.next ∧ H8.gl = H6.gl ∧ (∀ b, b < H6.next → b ≠ H.next + 1 → H8.get b = H6.get b) ∧ H8.get H6.next = some .dfd ∧ H8.get (H.next + 1) = some (.cells (ivs (othL m n)) 3 0)) ⟨rfl, hR.gl, fun b h1 h2 => (get_set_ne (by omega) (by omega)).trans (hR.get b h1 h2), (get_set_ne (by omega) (by omega)).trans hR.dfd, (get_set_ne (by omega) (by omega)).trans hR.sl⟩ ?_
   rintro H8 ⟨n8, gl8, g8, g8d, g8s⟩
   have hpc : At H8 (.ptr (H.next + 2) 0) (.slc (H.next + 1) 0 (4 * n) (4 * n)) := at_ptr (by omega) ((g8 _ (by omega) (by omega)).trans g62) rfl
   repeat (first | apply qN | refine qM rfl rfl ?_ | refine zq6 rfl rfl ‹_› ?_ | apply qR | apply qS)
   refine wp_ret ?_
   have ht : takeMarks [H6.next] H8 = some (H8.set H6.next (some .shut)) := by
     unfold takeMarks
     rw [g8d]
     rfl
   refine ⟨.slc (H.next + 1) 0 (4 * n) (4 * n), H8.set H6.next (some .shut), by unfold leaveM; rw [ht]; rfl, hk _ _ ⟨?_, ?_, fun b hb => ?_⟩ ?_ ?_⟩
   · show H.next ≤ H8.next; omega
   · exact gl8.trans (k5.trans k6).gl
   · rw [get_set_ne (by omega) (by omega), g8 b (by omega) (by omega)]
     exact (k5.trans k6).get b hb
   · show H8.next ≤ _; omega
   · exact ⟨H.next + 1, by rw [hlo], by show H.next + 1 < H8.next; omega, by omega, (get_set_ne (by omega) (by omega)).trans g8s⟩
end Go.Ev
namespace Go.Ev
open Go.Proofs
def nxN (i : Nat) : Nat := if i = 0 then 1 else if i = 1 then 3 else if i = 2 then 0 else 2
def inn (s L : List Int) : Nat → List Int
 | 0 => L
 | i + 1 => (inn s L i).set (s.getD i 0).toNat (s.getD (nxN i) 0)
theorem inn_length (s L : List Int) : ∀ i, (inn s L i).length = L.length
 | 0 => rfl
 | i + 1 => by show ((inn s L i).set _ _).length = _; rw [List.length_set]; exact inn_length s L i
def trnL (m : Mc) : Nat → List Int
 | 0 => List.replicate (4 * m.g.toNat) 0
 | k + 1 => inn (slE m k) (trnL m k) 4
theorem trnL_length (m : Mc) : ∀ k, (trnL m k).length = 4 * m.g.toNat
 | 0 => List.length_replicate
 | k + 1 => by show (inn _ _ 4).length = _; rw [inn_length]; exact trnL_length m k
theorem slE_four (m : Mc) (k : Nat) : ∃ a0 a1 a2 a3 : Int, slE m k = [a0, a1, a2, a3] ∧ (4 * k ≤ a0 ∧ a0 ≤ 4 * k + 3) ∧ (4 * k ≤ a1 ∧ a1 ≤ 4 * k + 3) ∧ (4 * k ≤ a2 ∧ a2 ≤ 4 * k + 3) ∧ (4 * k ≤ a3 ∧ a3 ≤ 4 * k + 3) := by
 obtain ⟨b0, b1, b2, b3, h, h0, h1, h2, h3⟩ := ord_list (fwE m k)
 exact ⟨4 * k + b0, 4 * k + b1, 4 * k + b2, 4 * k + b3, by unfold slE; rw [h]; rfl, by omega, by omega, by omega, by omega⟩
theorem slE_getD (m : Mc) (k : Nat) {i : Nat} (hi : i < 4) : 4 * (k : Int) ≤ (slE m k).getD i 0 ∧ (slE m k).getD i 0 ≤ 4 * k + 3 := by
 obtain ⟨a0, a1, a2, a3, h, h0, h1, h2, h3⟩ := slE_four m k
 rw [h]
 rcases (show i = 0 ∨ i = 1 ∨ i = 2 ∨ i = 3 by omega) with rfl | rfl | rfl | rfl <;> assumption
theorem set_all {L : List Int} {P : Int → Prop} (h : ∀ z ∈ L, P z) {i : Nat} {v : Int} (hv : P v) : ∀ z ∈ L.set i v, P z := fun z hz => by
 rcases List.mem_or_eq_of_mem_set hz with hz | rfl
 · exact h z hz
 · exact hv
theorem trnL_all {m : Mc} {n : Nat} (hg : m.g = n) (hn : 1 ≤ n) : ∀ k, k ≤ n → ∀ z ∈ trnL m k, 0 ≤ z ∧ z < (4 * n : Nat)
 | 0, _, z, hz => by
   have : z = 0 := (List.mem_replicate.1 hz).2
   omega
 | k + 1, hk, z, hz => by
   have ih := trnL_all hg hn k (by omega)
   have hb : ∀ i, i < 4 → 0 ≤ (slE m k).getD i 0 ∧ (slE m k).getD i 0 < (4 * n : Nat) := fun i hi => by have := slE_getD m k hi; omega
   have key : ∀ i, i ≤ 4 → ∀ z ∈ inn (slE m k) (trnL m k) i, 0 ≤ z ∧ z < (4 * n : Nat) := fun i => by
     induction i with
     | zero => exact fun _ => ih
     | succ i ihi =>
       intro hi
       exact set_all (ihi (by omega)) (hb (nxN i) (by unfold nxN; repeat (first | split | omega)))
   exact key 4 (Nat.le_refl _) z hz
def permL (m : Mc) (n : Nat) : List Int := (trnL m n).map fun z => (othL m n).getD z.toNat 0
structure RdG (H0 : AH) (bL : Nat) (m : Mc) (L : AB) (k : Nat) (H : AH) : Prop where
 nx : H.next = H0.next + 2 + 5 * k
 gl : H.gl = H0.gl
 get : ∀ b, b < H0.next → b ≠ bL → H.get b = H0.get b
 dfd : H.get H0.next = some .dfd
 lp : H.get (H0.next + 1) = some L
 sl : H.get bL = some (.cells (ivs (trnL m k)) 3 0)
theorem rngG {O : CallF} (hq : Quiet O) {H0 : AH} {bL bs n : Nat} {m : Mc} {x : AV} {T : List AV} {ps : Array Tmp} {asg bo : Code} {KK : AV → AH → Prop} (hg : m.g = n) (hn : n ≤ 16) (hbs : Bx H0 bs 24 m x) (hbsl : bs < H0.next) (hne : bs ≠ bL) (hbL : bL < H0.next) (hr : H0.next + 300 < 2 ^ 39)
   (hgL : H0.get bL = some (.cells (ivs (List.replicate (4 * n) 0)) 3 0))
   (hy : ∀ (k : Nat) (Hm H1 : AH), k < n → RdG H0 bL m (.lp .ready none 18 T ps asg bo) k Hm → Keeps Hm H1 → H1.next = Hm.next + 4 → ∀ K : AV → AH → Prop, (∀ H', RdG H0 bL m (.lp .ready none 18 T ps asg bo) (k + 1) H' → H1.next ≤ H'.next → K (.v (.bool true)) H') → Yl (ENV O) (H0.next + 1) [.agg (gearC m k)] H1 K)
   (hk : ∀ r H', RdG H0 bL m (.lp .ready none 18 T ps asg bo) n H' → KK r H') : Ca (ENV O) 125 [.yl (H0.next + 1), .ptr bs 0] ((H0.add .dfd).add (.lp .ready none 18 T ps asg bo)) KK := by
 have h39 : H0.next < 2 ^ 39 := by omega
 have h39' : (H0.add .dfd).next < 2 ^ 39 := by show H0.next + 1 < _; omega
 have hgt : ∀ b, b < H0.next → ((H0.add .dfd).add (.lp .ready none 18 T ps asg bo)).get b = H0.get b := fun b hb => by
   rw [get_add_ne h39' (by show b ≠ H0.next + 1; omega), get_add_ne h39 (by omega)]
 refine c125 hq (H0.next + 1) bs m x n hg hn (fun k H => k ≤ n ∧ RdG H0 bL m (.lp .ready none 18 T ps asg bo) k H) (fun k H h => ⟨⟨hbs.lt, (h.2.get bs hbsl hne).trans hbs.g⟩, by have := h.2.nx; omega, by have := h.2.nx; omega⟩) (fun k Hm H1 hk hR k1 n1 K hK => hy k Hm H1 hk hR.2 k1 n1 K fun H' hR' => hK H' ⟨by omega, hR'⟩) _ ⟨Nat.zero_le _, ?_⟩ KK (fun r H' h => hk r H' h.2)
 refine ⟨rfl, rfl, fun b hb _ => hgt b hb, ?_, get_add_eq h39', ?_⟩
 · rw [get_add_ne h39' (by show H0.next ≠ H0.next + 1; omega), get_add_eq h39]
 · rw [hgt bL hbL, hgL, trnL, hg]; rfl
end Go.Ev
namespace Go.Ev
open Go.Proofs
theorem rdg_next {H6 Hm H9 : AH} {bL k : Nat} {m : Mc} {L : AB} (hR : RdG H6 bL m L k Hm) (hbL : bL < H6.next) (h39 : H6.next + 300 < 2 ^ 39)
   (n9 : H9.next = Hm.next + 5) (gl9 : H9.gl = Hm.gl) (g9 : ∀ b, b < Hm.next → b ≠ bL → b ≠ H6.next + 1 → H9.get b = Hm.get b) (g9s : H9.get bL = some (.cells (ivs (trnL m (k + 1))) 3 0)) : RdG H6 bL m L (k + 1) (H9.set (H6.next + 1) (some L)) := by
 have hnx := hR.nx
 refine ⟨?_, gl9.trans hR.gl, fun b h1 h2 => ?_, ?_, get_set_eq (by omega), ?_⟩
 · show H9.next = _; omega
 · rw [get_set_ne (by omega) (by omega), g9 b (by omega) h2 (by omega)]; exact hR.get b h1 h2
 · rw [get_set_ne (by omega) (by omega), g9 _ (by omega) (by omega) (by omega)]; exact hR.dfd
 · rw [get_set_ne (by omega) (by omega)]; exact g9s
theorem nx_nxN (i : Nat) (h : i < 4) : nxE (i : Int) = ((nxN i : Nat) : Int) ∧ nxN i < 4 := by
 rcases (show i = 0 ∨ i = 1 ∨ i = 2 ∨ i = 3 by omega) with rfl | rfl | rfl | rfl <;> exact ⟨rfl, by decide⟩
variable {O : CallF} (hq : Quiet O)
include hq
theorem c18 (H : AH) (a x : AV) (m : Mc) (n : Nat) (ha : a.cells = mc m x) (hx : Sl H x (ivs m.sw)) (ho : Old H x) (hsl : m.sw.length ≤ 1000) (hg : m.g = n) (hn1 : 1 ≤ n) (hn : n ≤ 16) (hm0 : mE m = 0) (hr : H.next + 2000 < 2 ^ 39)
   (K : AV → AH → Prop) (hk : ∀ H' r, Keeps H H' → H'.next ≤ H.next + 1500 → Nw H' r (permL m n) → K (.tup [r, iv 0]) H') : Ca (ENV O) 18 [a] H K := by
 refine ca_intro (hq _ _ _ rfl) (fn := Tryz.f18) (by rfl) rfl ?_
 repeat (first | apply qR | apply qS)
 refine wops_cons (o_boxM rfl rfl ha (by omega) fun H1 n1 k1 b1 => ?_)
 repeat (first | apply qN | refine qM rfl rfl ?_ | refine zqb rfl rfl rfl ‹_› ?_ | apply qR | apply qS)
 refine wops_cons (wop_callF rfl rfl rfl (fn := Tryz.f17) (by rfl) ?_)
 refine c17 hq H1 _ x m rfl (hx.keep ho k1) (ho.keep k1) (by omega) (by omega) _ fun H2 k2 n2 => ⟨k2.nx, ?_⟩
 rw [hm0]
 repeat (first | apply qN | refine qM rfl rfl ?_ | apply qR | apply qS)
 refine wops_cons (wop_bin (op := .neq) (v := .bool false) rfl rfl rfl rfl rfl ?_)
 have b2 := b1.keep (by omega) k2
 have hp1 := b2.p1
 rw [hg] at hp1
 repeat (first | apply qN | refine zqa rfl rfl rfl ?_ | refine zq6 rfl rfl ‹_› ?_ | refine qF rfl ?_ | apply qR | apply qS | apply qK)
 refine wops_cons (wop_bin (op := .mul) (v := .int .i64 ((4 * n : Nat) : Int)) rfl rfl rfl rfl ?_ ?_)
 · rw [mul4 (by omega)]; congr 2
 have r2 : H2.next < 2 ^ 39 := by omega
 refine wops_cons (o_make (n := 4 * n) rfl rfl rfl rfl (by omega) r2 ?_)
 have r3 : (H2.add (.cells (List.replicate (4 * n) (.v (.int .i64 0))) 3 0)).next < 2 ^ 39 := by show H2.next + 1 < _; omega
 refine wops_cons (o_alloc rfl rfl r3 ?_)
 refine wops_cons (o_store rfl rfl rfl (get_add_eq (x := .cells [.v (.slice none 0 0)] 22 0) r3) (Nat.succ_pos _) rfl ?_)
 refine WOps.mem (fun H4 => Keeps H H4 ∧ H4.next = H2.next + 2 ∧ Bx H4 H.next 24 m x ∧ H4.get H2.next = some (.cells (ivs (List.replicate (4 * n) 0)) 3 0) ∧ H4.get (H2.next + 1) = some (.cells [.slc H2.next 0 (4 * n) (4 * n)] 22 0)) ⟨?_, rfl, ⟨by omega, ?_⟩, ?_, ?_⟩ ?_
 · exact (((k1.trans k2).add _ r2).add _ r3).set _ (by show H.next ≤ H2.next + 1; have := k2.nx; omega) r3
 · have := k2.nx
   rw [get_set_ne r3 (by show H.next ≠ H2.next + 1; omega), get_add_ne r3 (by show H.next ≠ H2.next + 1; omega), get_add_ne r2 (by omega)]
   exact b2.g
 · rw [get_set_ne r3 (by show H2.next ≠ H2.next + 1; omega), get_add_ne r3 (by show H2.next ≠ H2.next + 1; omega), get_add_eq r2, ivs_rep]
 · exact get_set_eq r3
 rintro H4 ⟨k4, n4, b4, g41, g42⟩
 show WOps _ _ _ _ _ _
 rw [show (H2.add (.cells (List.replicate (4 * n) (.v (.int .i64 0))) 3 0)).next = H2.next + 1 from rfl]
 clear hp1
 have h2n := k2.nx
 generalize H2.next = b5 at g41 g42 n4 n2 h2n ⊢
 repeat (first | apply qN | refine zqb rfl rfl rfl ‹_› ?_ | apply qR | apply qS)
 refine wops_cons (wop_callF rfl rfl rfl (fn := Tryz.f76) (by rfl) ?_)
 refine c76 hq H4 _ x m rfl (by omega) _ fun H6 k6 n6 b6 => ⟨k6.nx, ?_⟩
 repeat (first | apply qN | apply qB)
 have g61 := (k6.get b5 (by omega)).trans g41
 have g62 := (k6.get (b5 + 1) (by omega)).trans g42
 have b16 := b4.keep (by omega) k6
 have k06 := k4.trans k6
 refine wp_range (fn := Tryz.f125) rfl (by omega) (by rfl) ?_
 refine rngG hq (bL := b5) hg hn b6 (by omega) (by omega) (by omega) (by omega) g61 (fun k Hm Hn hk2 hR kn nn K hK => ?_) (fun r H7 hR => ?_)
 · have hnx := hR.nx
   have rn : Hn.next < 2 ^ 39 := by omega
   obtain ⟨a0, a1, a2, a3, hsl4, hq0, hq1, hq2, hq3⟩ := slE_four m k
   have hgl6 : (gearC m k).length = 6 := by simp [gearC, hsl4, ivs]
   have hones : (gearC m k).all AV.one = true := by simp [gearC, hsl4, ivs, iv, AV.one, Value.oneCell']
   have hwr : wr [iv 0, .v (.bool false), iv 0, iv 0, iv 0, iv 0] 0 (gearC m k) = gearC m k := by simp [wr, gearC, hsl4, ivs]
   have hlo : (trnL m k).length = 4 * n := by rw [trnL_length, hg]; rfl
   refine yl_go ((kn.get _ (by omega)).trans hR.lp) rfl (by kernel_rfl) (by kernel_rfl) ?_
   repeat (first | apply qR)
   refine wops_cons (o_allocA (zs := [iv 0, .v (.bool false), iv 0, iv 0, iv 0, iv 0]) rfl rfl (z := .agg #[.int .i64 0, .bool false, .int .i64 0, .int .i64 0, .int .i64 0, .int .i64 0]) (by kernel_rfl) rfl rn ?_)
   refine wops_cons (o_storeA (n := 6) (vs := gearC m k) rfl rfl (by kernel_rfl) rfl rfl hgl6 hones (get_add_eq rn) (by decide) ?_)
   rw [hwr]
   refine WOps.mem (fun H7 => H7.next = Hn.next + 1 ∧ H7.gl = Hn.gl ∧ (∀ b, b ≠ Hn.next → H7.get b = Hn.get b) ∧ H7.get Hn.next = some (.cells (gearC m k) 108 0)) ⟨rfl, rfl, fun b hb => (get_set_ne rn hb).trans (get_add_ne rn hb), get_set_eq rn⟩ ?_
   rintro H7 ⟨n7, gl7, g7, g7p⟩
   repeat (first | apply qN)
   refine ⟨rfl, (g7 _ (by omega)).trans ((kn.get _ (by omega)).trans hR.lp), ?_⟩
   refine Wp.mem (fun H8 => H8.next = Hn.next + 1 ∧ H8.gl = Hn.gl ∧ (∀ b, b ≠ Hn.next → b ≠ H6.next + 1 → H8.get b = Hn.get b) ∧ H8.get Hn.next = some (.cells (gearC m k) 108 0) ∧ H8.get (H6.next + 1) = some (.lp .busy none 18 _ _ _ _)) ⟨n7, gl7, fun b h1 h2 => (get_set_ne (by omega) h2).trans (g7 b h1), (get_set_ne (by omega) (by omega)).trans g7p, get_set_eq (by omega)⟩ ?_
   rintro H8 ⟨n8, gl8, g8, g8p, g8l⟩
   have hold : ∀ b, b < H6.next → b ≠ b5 → H8.get b = H6.get b := fun b h1 h2 => (g8 b (by omega) (by omega)).trans ((kn.get b (by omega)).trans (hR.get b h1 h2))
   have g8c : H8.get (b5 + 1) = some (.cells [.slc b5 0 (4 * n) (4 * n)] 22 0) := (hold _ (by omega) (by omega)).trans g62
   have g8s : H8.get b5 = some (.cells (ivs (trnL m k)) 3 0) := (g8 _ (by omega) (by omega)).trans ((kn.get _ (by omega)).trans hR.sl)
   repeat (first | refine zqa rfl rfl rfl ?_ | apply qR | apply qS | apply qB)
   refine wops_cons (o_loadA (n := 4) (r := [iv a0, iv a1, iv a2, iv a3]) rfl rfl (by kernel_rfl) (by kernel_rfl) rfl g8p (by simp [gearC, hsl4, ivs]) (by rw [hgl6]; decide) ?_)
   repeat (first | apply qN | refine qM rfl rfl ?_ | apply qB)
   refine wp_loop (fun q T M H' => ∃ (i : Nat) (Y : List AV), q = 4 - i ∧ i ≤ 4 ∧ H'.next = H8.next ∧ H'.gl = H8.gl ∧ (∀ b, b ≠ b5 → H'.get b = H8.get b) ∧ H'.get b5 = some (.cells (ivs (inn (slE m k) (trnL m k) i)) 3 0) ∧ M = [] ∧ T = (lget Y 0 :: lget Y 1 :: lget Y 2 :: lget Y 3 :: lget Y 4 :: .ptr (b5 + 1) 0 :: .ptr Hn.next 0 :: lget Y 5 :: lget Y 6 :: lget Y 7 :: lget Y 8 :: lget Y 9 :: lget Y 10 :: lget Y 11 :: lget Y 12 :: lget Y 13 :: lget Y 14 :: lget Y 15 :: lget Y 16 :: lget Y 17 :: lget Y 18 :: lget Y 19 :: .agg [iv a0, iv a1, iv a2, iv a3] :: iv (i : Nat) :: lget Y 20 :: lget Y 21 :: lget Y 22 :: lget Y 23 :: lget Y 24 :: lget Y 25 :: lget Y 26 :: lget Y 27 :: lget Y 28 :: lget Y 29 :: lget Y 30 :: lget Y 31 :: lget Y 32 :: lget Y 33 :: lget Y 34 :: lget Y 35 :: [])) 4
     ⟨0, [_,_,_,_,_,_,_,_,_,_,_,_,_,_,_,_,_,_,_,_,_,_,_,_,_,_,_,_,_,_,_,_,_,_,_,_], rfl, Nat.zero_le _, rfl, rfl, fun _ _ => rfl, g8s, rfl, rfl⟩ ?_
   rintro q T M H9 ⟨i, Y, hqq, hi, n9, gl9, g9, g9s, rfl, rfl⟩
   repeat (first | apply qR | apply qS)
   refine wops_cons (wop_cmp rfl rfl rfl rfl rfl (fun h => ?_) (fun h => ?_))
   rotate_left
   · have h : ¬ ((i : Int) < 4) := of_decide_eq_false h
     have e : i = 4 := by omega
     subst e
     repeat (first | apply qN | refine qF rfl ?_ | apply qS | apply qE)
     refine ⟨rfl, (g9 _ (by omega)).trans g8l, hK _ (rdg_next hR (by omega) (by omega) (by omega) (gl9.trans (gl8.trans kn.gl)) (fun b h1 h2 h3 => (g9 b h2).trans ((g8 b (by omega) h3).trans (kn.get b h1))) g9s) ?_⟩
     show Hn.next ≤ H9.next; omega
   have h : (i : Int) < 4 := of_decide_eq_true h
   have hi4 : i < 4 := by omega
   clear h
   obtain ⟨hnx1, hnx2⟩ := nx_nxN i hi4
   have hsi := slE_getD m k hi4
   have hgd : [a0, a1, a2, a3].getD i 0 = (slE m k).getD i 0 := by rw [hsl4]
   repeat (first | apply qN | refine qM rfl rfl ?_ | refine qT rfl ?_ | apply qR | apply qS | apply qK | apply qB)
   refine wops_cons (o_index4 (j := i) rfl rfl rfl rfl hi4 ?_)
   rw [hgd]
   repeat (first | apply qN | refine qM rfl rfl ?_)
   have g9c : H9.get (b5 + 1) = some (.cells [.slc b5 0 (4 * n) (4 * n)] 22 0) := (g9 _ (by omega)).trans g8c
   have g9p : H9.get Hn.next = some (.cells (gearC m k) 108 0) := (g9 _ (by omega)).trans g8p
   have hpc : At H9 (.ptr (b5 + 1) 0) (.slc b5 0 (4 * n) (4 * n)) := at_ptr (by omega) g9c rfl
   have hpg : At H9 (.ptr Hn.next (0 + 2 + nxN i)) (iv ((slE m k).getD (nxN i) 0)) := at_ptr rn g9p (by
     have : (gearC m k)[0 + 2 + nxN i]? = (ivs (slE m k))[nxN i]? := by
       rw [show 0 + 2 + nxN i = nxN i + 1 + 1 by omega]; rfl
     rw [this]
     refine ivs_get ?_
     have hl4 : (slE m k).length = 4 := by rw [hsl4]; rfl
     rw [List.getD_eq_getElem?_getD, List.getElem?_eq_getElem (by omega)]
     rfl)
   have hB1 : ∀ b, (AV.ptr (b5 + 1) 0).own = some b → (b = b5 + 1 ∨ b = Hn.next) := fun b hb => by cases hb; exact .inl rfl
   have hB2 : ∀ b, (AV.ptr Hn.next 0).own = some b → (b = b5 + 1 ∨ b = Hn.next) := fun b hb => by cases hb; exact .inr rfl
   refine wp_drawX (fun b => b = b5 + 1 ∨ b = Hn.next) (fun b hb => ?_) rfl ?_
   · rcases hb with rfl | rfl
     · rw [g9c]; simp [sameBlk, beqs, AV.beq]
     · rw [g9p, gearC]
       simp [sameBlk, beqs, AV.beq, vbeq, iv]
       exact beqs_ivs _
   refine x_load rfl rfl rfl hpc hB1 ?_
   refine x_move rfl rfl rfl ?_
   refine x_move rfl rfl rfl ?_
   refine x_field rfl rfl rfl rfl ?_
   refine x_call rfl rfl rfl (fun b h => by cases h) (wop_callF rfl rfl rfl (fn := Tryz.f77) (by rfl) ?_)
   refine c77 hq H9 i (by omega) _ ⟨Nat.le_refl _, fun b hb => rfl, ?_⟩
   rw [hnx1]
   refine x_indexP (j := nxN i) rfl rfl rfl rfl rfl hnx2 ?_
   refine x_load rfl rfl rfl hpg hB2 ?_
   have hj : (slE m k).getD i 0 = (((slE m k).getD i 0).toNat : Int) := by omega
   have hjn : ((slE m k).getD i 0).toNat < 4 * n := by omega
   refine x_indexOwn (j := ((slE m k).getD i 0).toNat) rfl rfl rfl rfl (congrArg iv hj) hjn ?_
   have hb39 : b5 < 2 ^ 39 := by omega
   refine x_loud rfl rfl (o_store rfl rfl rfl g9s (by rw [ivs_length, inn_length, hlo]; exact hjn) rfl ⟨fun b hb => get_set_ne hb39 (by omega), ?_⟩)
   repeat (first | apply qN | refine qM rfl rfl ?_ | refine zq4 rfl rfl rfl rfl (inc (by omega)) ?_ | apply qR)
   refine ⟨4 - (i + 1), by omega, i + 1, [_,_,_,_,_,_,_,_,_,_,_,_,_,_,_,_,_,_,_,_,_,_,_,_,_,_,_,_,_,_,_,_,_,_,_,_], rfl, by omega, n9, gl9, fun b hb => (get_set_ne hb39 hb).trans (g9 b hb), ?_, rfl, rfl⟩
   refine (get_set_eq hb39).trans ?_
   rw [show inn (slE m k) (trnL m k) (i + 1) = (inn (slE m k) (trnL m k) i).set ((slE m k).getD i 0).toNat ((slE m k).getD (nxN i) 0) from rfl, ← ivs_set]
   rfl
 · have hnx := hR.nx
   refine ⟨by omega, .ready, none, _, _, _, _, _, .normal, hR.lp, by simp, rfl, ?_⟩
   refine Wp.mem (fun H8 => H8.next = H7.next ∧ H8.gl = H6.gl ∧ (∀ b, b < H6.next → b ≠ b5 → H8.get b = H6.get b) ∧ H8.get H6.next = some .dfd ∧ H8.get b5 = some (.cells (ivs (trnL m n)) 3 0)) ⟨rfl, hR.gl, fun b h1 h2 => (get_set_ne (by omega) (by omega)).trans (hR.get b h1 h2), (get_set_ne (by omega) (by omega)).trans hR.dfd, (get_set_ne (by omega) (by omega)).trans hR.sl⟩ ?_
   rintro H8 ⟨n8, gl8, g8, g8d, g8s⟩
   have k8 : Keeps H H8 := ⟨by have := k06.nx; omega, gl8.trans k06.gl, fun b hb => (g8 b (by have := k06.nx; omega) (by omega)).trans (k06.get b hb)⟩
   have b8 : Bx H8 H.next 24 m x := ⟨by omega, (g8 _ (by omega) (by omega)).trans b16.g⟩
   have hx8 := hx.keep ho k8
   have ho8 := ho.keep k8
   have hB8 := b8.lk (by omega) hx8
   have g8c : H8.get (b5 + 1) = some (.cells [.slc b5 0 (4 * n) (4 * n)] 22 0) := (g8 _ (by omega) (by omega)).trans g62
   have hpc : At H8 (.ptr (b5 + 1) 0) (.slc b5 0 (4 * n) (4 * n)) := at_ptr (by omega) g8c rfl
   have hL8 : ∀ b, (AV.ptr (b5 + 1) 0).own = some b → Lk H8 b := fun b hb => by
     cases hb
     refine ⟨by omega, ?_⟩
     rw [g8c]; simp [sameBlk, beqs, AV.beq]
   have hlo : (trnL m n).length = 4 * n := by rw [trnL_length, hg]; rfl
   have hNw : Nw H8 (.slc b5 0 (4 * n) (4 * n)) (trnL m n) := ⟨b5, by rw [hlo], by omega, by omega, g8s⟩
   repeat (first | apply qS)
   refine wp_drawK rfl ?_
   repeat (first | refine k_load rfl rfl rfl ‹_› ‹_› ?_ | refine k_load4 rfl rfl rfl rfl ‹_› ‹_› ?_)
   refine k_call rfl rfl rfl (fun b h => by cases h) (wop_callF rfl rfl rfl (fn := Tryz.f79) (by rfl) ?_)
   refine c79 hq H8 _ x m n rfl hx8 ho8 hsl hg hn1 hn (by omega) _ fun H9 r9 k9 n9 hw9 => ⟨k9.nx, k9, ?_⟩
   refine k_call rfl rfl rfl (fun b h => by cases h) (wop_callF rfl rfl rfl (fn := Tryz.f78) (by rfl) ?_)
   have hNw9 := hNw.keep k9
   refine c78 hq H9 r9 _ (othL m n) (trnL m n) hw9.sl hw9.old hNw9.sl hNw9.old (fun z hz => ?_) (by omega) (by omega) _ fun H10 r10 k10 n10 hw10 => ⟨k10.nx, k9.trans k10, ?_⟩
   · have := trnL_all hg hn1 n (Nat.le_refl _) z hz
     rw [othL_length, hg]
     exact ⟨this.1, by omega⟩
   repeat (first | refine k_nil ?_ | refine k_assign rfl rfl rfl ?_)
   refine wp_ret ?_
   have kk : Keeps H8 H10 := k9.trans k10
   have g10d : H10.get H6.next = some .dfd := (kk.get _ (by omega)).trans g8d
   have ht : takeMarks [H6.next] H10 = some (H10.set H6.next (some .shut)) := by
     unfold takeMarks
     rw [g10d]
     rfl
   obtain ⟨b10, rfl, hb1, hb2, hb3⟩ := hw10
   have hne : b10 ≠ H6.next := fun e => by rw [e, g10d] at hb3; cases hb3
   have hkk := k8.trans kk
   refine ⟨.tup [.slc b10 0 (permL m n).length (permL m n).length, iv 0], H10.set H6.next (some .shut), by unfold leaveM; rw [ht]; rfl, hk _ _ ⟨?_, ?_, fun b hb => ?_⟩ ?_ ⟨b10, rfl, hb1, hb2, ?_⟩⟩
   · exact hkk.nx
   · exact hkk.gl
   · rw [get_set_ne (by omega) (by have := k06.nx; omega)]
     exact hkk.get b hb
   · show H10.next ≤ _
     omega
   · rw [get_set_ne (by omega) hne]; exact hb3
end Go.Ev
