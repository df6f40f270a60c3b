/- Part of an evaluator of calls that is proved sound, and of what it gives about this program. No condition of its own. -/
import Derived.Test.YtanaplokhjgfmaaGreatDoorEvSix
import Derived.Test.YtanaplokhjgfmaaGreatDoorEvSeven
set_option linter.unusedVariables false
set_option linter.unusedSimpArgs false
set_option linter.unusedSectionVars false
set_option maxRecDepth 100000
namespace Go.Ev
open Go.Proofs
class TyS (t : TypeId) (e : outParam TypeId) : Prop where
 u : runPure Tryz.prog (underlying t) = some (.slice e)
class Cell (e : TypeId) : Prop where
 s : runPure Tryz.prog (sizeOf e) = some 1
 a : runPure Tryz.prog (isAgg e) = some false
noncomputable def ti (t : TypeId) : TypeInfo := (runPure Tryz.prog (typeInfo t)).getD default
class Zero (e : TypeId) (z0 : outParam Value) : Prop where
 z : runPure Tryz.prog (zeroValue e) = some z0
 c : z0.cells = #[z0]
 i : runPure Tryz.prog (typeInfo e) = some (ti e)
 b : Nat.ble (ti e).bytes (2 ^ 8) = true
instance : TyS 24 3 := ⟨by kernel_rfl⟩
instance : TyS 187 35 := ⟨by kernel_rfl⟩
instance : TyS 219 33 := ⟨by kernel_rfl⟩
instance : Cell 3 := ⟨by kernel_rfl, by kernel_rfl⟩
instance : Cell 4 := ⟨by kernel_rfl, by kernel_rfl⟩
instance : Cell 24 := ⟨by kernel_rfl, by kernel_rfl⟩
instance : Cell 33 := ⟨by kernel_rfl, by kernel_rfl⟩
instance : Cell 35 := ⟨by kernel_rfl, by kernel_rfl⟩
instance : Cell 52 := ⟨by kernel_rfl, by kernel_rfl⟩
instance : Cell 53 := ⟨by kernel_rfl, by kernel_rfl⟩
instance : Cell 55 := ⟨by kernel_rfl, by kernel_rfl⟩
instance : Cell 59 := ⟨by kernel_rfl, by kernel_rfl⟩
instance : Cell 65 := ⟨by kernel_rfl, by kernel_rfl⟩
instance : Cell 72 := ⟨by kernel_rfl, by kernel_rfl⟩
instance : Cell 129 := ⟨by kernel_rfl, by kernel_rfl⟩
instance : Zero 3 (.int .i64 0) := ⟨by kernel_rfl, rfl, by kernel_rfl, by kernel_rfl⟩
instance : Zero 4 (.bool false) := ⟨by kernel_rfl, rfl, by kernel_rfl, by kernel_rfl⟩
instance : Zero 24 (.slice none 0 0) := ⟨by kernel_rfl, rfl, by kernel_rfl, by kernel_rfl⟩
instance : Zero 33 .nilFunc := ⟨by kernel_rfl, rfl, by kernel_rfl, by kernel_rfl⟩
instance : Zero 35 (.int .i64 0) := ⟨by kernel_rfl, rfl, by kernel_rfl, by kernel_rfl⟩
instance : Zero 129 (.map none) := ⟨by kernel_rfl, rfl, by kernel_rfl, by kernel_rfl⟩
noncomputable def ENV (O : CallF) : Env := ⟨Tryz.prog, TF, O, TPl⟩
def Quiet (O : CallF) : Prop := ∀ g args H, (Nat.beq g 10 || (Nat.ble 39 g && Nat.ble g 43) || Nat.beq g 92) = false → O g args H = none
abbrev iv (z : Int) : AV := .v (.int .i64 z)
def ivs (l : List Int) : List AV := l.map iv
theorem ivs_length (l : List Int) : (ivs l).length = l.length := by simp [ivs]
theorem ivs_get {l : List Int} {j : Nat} {z : Int} (h : l[j]? = some z) : (ivs l)[j]? = some (iv z) := by simp [ivs, h]
theorem wrap_id {z : Int} (h1 : -9223372036854775808 ≤ z) (h2 : z < 9223372036854775808) : IntKind.i64.wrap z = z := by
 simp only [IntKind.wrap, IntKind.signed, IntKind.bits, Bool.true_and]
 split
 · rename_i h; have h := of_decide_eq_true h; omega
 · rename_i h; have h := of_decide_eq_false (Bool.eq_false_iff.2 h); omega
theorem inc {i : Nat} (h : i < 4611686018427387904) : binI .add .i64 .i64 (i : Int) 1 = some (.int .i64 ((i + 1 : Nat) : Int)) := by
 show some (Value.int .i64 (IntKind.i64.wrap ((i : Int) + 1))) = _
 rw [wrap_id (by omega) (by omega)]
 rfl
section
variable {O : CallF} {g : FuncId} {rd : Bool} {T : List AV} {M : List Nat} {H : AH} {Q : QX} {ops : Array Oper} {o : Oper} {K : AV → AH → Prop}
theorem arg0 {c : Call} {t : TypeId} {l : List TypeId} (h : c.argTypes.toList = t :: l) : c.argTypes[0]? = some t := by rw [← Array.getElem?_toList, h]; rfl
theorem arg1 {c : Call} {t u : TypeId} {l : List TypeId} (h : c.argTypes.toList = t :: u :: l) : c.argTypes[1]? = some u := by rw [← Array.getElem?_toList, h]; rfl
theorem o_len {c : Call} {t e : TypeId} {x : Operand} {l : List AV} (ho : o.op = .call c) (hg : wantedA o ops T = true) (hc : c.callee = .builtin .len) (hargs : c.args.toList = [x]) (ht : c.argTypes.toList = [t]) [hu : TyS t e] (hx : Sl H (av T x) l)
   (hk : K (iv l.length) H) : WOp (ENV O) ops o T H K := wop_len ho hg hc hargs (arg0 ht) hu.u hx hk
theorem o_lenI {c : Call} {t e : TypeId} {x : Operand} {l : List Int} (ho : o.op = .call c) (hg : wantedA o ops T = true) (hc : c.callee = .builtin .len) (hargs : c.args.toList = [x]) (ht : c.argTypes.toList = [t]) [hu : TyS t e] (hx : Sl H (av T x) (ivs l))
   (hk : K (iv l.length) H) : WOp (ENV O) ops o T H K := wop_len ho hg hc hargs (arg0 ht) hu.u hx (by rw [ivs_length]; exact hk)
theorem o_index {t e : TypeId} {x i : Operand} {j : Nat} {l : List AV} {v : AV} (ho : o.op = .indexAddr t x i) (hg : wantedA o ops T = true) [hu : TyS t e] [hs : Cell e]
   (hx : Sl H (av T x) l) (hi : av T i = iv j) (hl : l[j]? = some v) (hk : ∀ p, At H p v → K p H) : WOp (ENV O) ops o T H K := wop_index ho hg hu.u hs.s hx hi (Int.natCast_nonneg j) (by rw [Int.toNat_natCast]; exact hl) hk
theorem o_indexI {t e : TypeId} {x i : Operand} {j : Nat} {l : List Int} {z : Int} (ho : o.op = .indexAddr t x i) (hg : wantedA o ops T = true) [hu : TyS t e] [hs : Cell e]
   (hx : Sl H (av T x) (ivs l)) (hi : av T i = iv j) (hl : l[j]? = some z) (hk : ∀ p, At H p (iv z) → K p H) : WOp (ENV O) ops o T H K := o_index ho hg hx hi (ivs_get hl) hk
theorem o_indexOwn {t e : TypeId} {x i : Operand} {j : Nat} {b n cap : Nat} (ho : o.op = .indexAddr t x i) (hg : wantedA o ops T = true) [hu : TyS t e] [hs : Cell e]
   (hx : av T x = .slc b 0 n cap) (hi : av T i = iv j) (hl : j < n) (hk : K (.ptr b j) H) : WOp (ENV O) ops o T H K :=
 wop_indexOwn ho hg hu.u hs.s hx hi (Int.natCast_nonneg j) (by omega) (by rw [Int.toNat_natCast, Nat.zero_add]; exact hk)
theorem o_load {t : TypeId} {x : Operand} {v : AV} (ho : o.op = .load t x) (hg : wantedA o ops T = true) [ha : Cell t] (hx : At H (av T x) v) (hk : K v H) : WOp (ENV O) ops o T H K := wop_load ho hg ha.a hx hk
theorem o_store {t : TypeId} {p x : Operand} {b off : Nat} {cs : List AV} {e : TypeId} {gr : Nat} (ho : o.op = .store t p x) (hg : wantedA o ops T = true) [hs : Cell t] (hp : av T p = .ptr b off) (hc : H.get b = some (.cells cs e gr)) (hlt : off < cs.length) (h1 : (av T x).one = true)
   (hk : K (.v undef) (H.set b (some (.cells (cs.set off (av T x)) e gr)))) : WOp (ENV O) ops o T H K := wop_store ho hg hs.s hp hc hlt h1 hk
theorem o_make {t e : TypeId} {l c : Operand} {n : Nat} {z0 : Value} (ho : o.op = .makeSlice t l c) (hg : wantedA o ops T = true) (hl : av T l = iv n) (hc : av T c = iv n) [hu : TyS t e] [hs : Cell e] [hz : Zero e z0] (hn : n ≤ 2 ^ 32) (hr : H.next < 2 ^ 59)
   (hk : K (.slc H.next 0 n n) (H.add (.cells (List.replicate n (.v z0)) e 0))) : WOp (ENV O) ops o T H K :=
 wop_make ho hg hl hc hu.u hz.i hs.s hz.z hz.c (Nat.le_trans (Nat.le_of_ble_eq_true hz.b) (by decide)) hn hr hk
theorem o_alloc {t : TypeId} {z0 : Value} (ho : o.op = .alloc t) (hg : wantedA o ops T = true) [hz : Zero t z0] (hr : H.next < 2 ^ 59) (hk : K (.ptr H.next 0) (H.add (.cells [.v z0] t 0))) : WOp (ENV O) ops o T H K :=
 wop_alloc ho hg hz.z hz.c hr hk
theorem o_box {t : TypeId} {x : Operand} (ho : o.op = .box t x) (hg : wantedA o ops T = true) (h1 : (av T x).one = true) (hr : H.next < 2 ^ 59) (hk : K (.ptr H.next 0) (H.add (.cells [av T x] t 0))) : WOp (ENV O) ops o T H K :=
 wop_box ho hg h1 hr hk
theorem o_append {c : Call} {t xt e e' : TypeId} {s x : Operand} {z0 : Value} {cs : List AV} {v : AV} {bx : Nat} {ex : TypeId} {gx : Nat} (ho : o.op = .call c) (hg : wantedA o ops T = true) (hc : c.callee = .builtin .append) (hargs : c.args.toList = [s, x]) (ht : c.argTypes.toList = [t, xt]) [hu : TyS t e] [hux : TyS xt e']
   [hs : Cell e] [hz : Zero e z0] (hlen : cs.length < 2 ^ 30) (hr : H.next < 2 ^ 59)
   (hx : av T x = .slc bx 0 1 1) (hbx : H.get bx = some (.cells [v] ex gx)) (h1 : v.one = true) (hG : Gr H e (av T s) cs)
   (hk : ∀ r H1, r = .slu H.next 0 (cs.length + 1) 1 → H1.next = H.next + 1 → H1.gl = H.gl → (∀ b, b ≠ H.next → (av T s).own ≠ some b → H1.get b = H.get b) → H1.get H.next = some (.cells (cs ++ [v]) e 1) → Gr H1 e r (cs ++ [v]) → K r H1) : WOp (ENV O) ops o T H K :=
 wop_append1 ho hg hc hargs (arg0 ht) (arg1 ht) hu.u hux.u hz.i hs.s hz.z (by rw [hz.c]; rfl) (Nat.le_of_ble_eq_true hz.b) hlen hr hx hbx h1 hG hk
end
def mvO : Op → Option Operand
 | .move x => some x
 | .assign x => some x
 | _ => none
theorem qM {E : Env} {T : List AV} {H : AH} {ops : Array Oper} {o : Oper} {l : List Oper} {K : List AV → AH → Prop} {x : Operand} (ho : mvO o.op = some x) (hg : wantedA o ops T = true) (hk : WOps E ops l (putA T o.dst (av T x)) H K) : WOps E ops (o :: l) T H K := by
 cases e : o.op with
 | move y => rw [e] at ho; cases ho; exact wops_cons (wop_move e hg hk)
 | assign y => rw [e] at ho; cases ho; exact wops_cons (wop_assign e hg hk)
 | _ => rw [e] at ho; cases ho
theorem qN {E : Env} {T : List AV} {H : AH} {ops : Array Oper} {K : List AV → AH → Prop} (h : K T H) : WOps E ops [] T H K := wops_nil h
theorem qT {E : Env} {g : FuncId} {rd : Bool} {T : List AV} {M : List Nat} {H : AH} {Q : QX} {c : Operand} {a b : Code} (hc : av T c = .v (.bool true)) (h : Wp E g rd a T M H Q) : Wp E g rd (.cond c a b) T M H Q := wp_condT hc h
theorem qF {E : Env} {g : FuncId} {rd : Bool} {T : List AV} {M : List Nat} {H : AH} {Q : QX} {c : Operand} {a b : Code} (hc : av T c = .v (.bool false)) (h : Wp E g rd b T M H Q) : Wp E g rd (.cond c a b) T M H Q := wp_condF hc h
theorem qR {E : Env} {g : FuncId} {rd : Bool} {T : List AV} {M : List Nat} {H : AH} {Q : QX} {id : Nat} {ops : Array Oper} (h : WOps E ops ops.toList T H fun T' H' => Q .normal T' M H') : Wp E g rd (.region id ops false) T M H Q := wp_region h
theorem qS {E : Env} {g : FuncId} {rd : Bool} {T : List AV} {M : List Nat} {H : AH} {Q : QX} {a b : Code} (h : Wp E g rd a T M H (seqQ E g rd b Q)) : Wp E g rd (.seq a b) T M H Q := wp_seq h
theorem qK {E : Env} {g : FuncId} {rd : Bool} {T : List AV} {M : List Nat} {H : AH} {Q : QX} (h : Q .normal T M H) : Wp E g rd .skip T M H Q := wp_skip h
theorem qE {E : Env} {g : FuncId} {rd : Bool} {T : List AV} {M : List Nat} {H : AH} {Q : QX} {id : Nat} (h : Q (.exit id) T M H) : Wp E g rd (.exit id) T M H Q := wp_exit h
theorem qB {E : Env} {g : FuncId} {rd : Bool} {T : List AV} {M : List Nat} {H : AH} {Q : QX} {id : Nat} {b : Code} (h : Wp E g rd b T M H (blockQ id Q)) : Wp E g rd (.block id b) T M H Q := wp_block h
theorem zq1 {E : Env} {T : List AV} {H : AH} {ops : Array Oper} {o : Oper} {l : List Oper} {K : List AV → AH → Prop} (hs : (match o.op with | .defer _ => false | _ => true) = true) (hg : wantedA o ops T = false) (hk : WOps E ops l (putA T o.dst (.v undef)) H K) : WOps E ops (o :: l) T H K := wops_cons (wop_skip' hs hg hk)
theorem zq4 {E : Env} {T : List AV} {H : AH} {ops : Array Oper} {o : Oper} {l : List Oper} {K : List AV → AH → Prop} {t yt : TypeId} {x y : Operand} {k : IntKind} {a b : Int} {v : Value} (ho : o.op = .binOp .add t x y yt) (hg : wantedA o ops T = true) (hx : av T x = .v (.int k a)) (hy : av T y = .v (.int k b)) (hv : binI .add k k a b = some v) (hk : WOps E ops l (putA T o.dst (.v v)) H K) : WOps E ops (o :: l) T H K := wops_cons (wop_bin ho hg hx hy hv hk)
theorem zq5 {O : CallF} {T : List AV} {H : AH} {ops : Array Oper} {o : Oper} {r : List Oper} {K : List AV → AH → Prop} {c : Call} {t e : TypeId} {x : Operand} {l : List Int} (ho : o.op = .call c) (hg : wantedA o ops T = true) (hc : c.callee = .builtin .len) (hargs : c.args.toList = [x]) (ht : c.argTypes.toList = [t]) [hu : TyS t e] (hx : Sl H (av T x) (ivs l)) (hk : WOps (ENV O) ops r (putA T o.dst (iv l.length)) H K) : WOps (ENV O) ops (o :: r) T H K := wops_cons (o_lenI ho hg hc hargs ht hx hk)
theorem zq6 {O : CallF} {T : List AV} {H : AH} {ops : Array Oper} {o : Oper} {r : List Oper} {K : List AV → AH → Prop} {t : TypeId} {x : Operand} {v : AV} (ho : o.op = .load t x) (hg : wantedA o ops T = true) [ha : Cell t] (hx : At H (av T x) v) (hk : WOps (ENV O) ops r (putA T o.dst v) H K) : WOps (ENV O) ops (o :: r) T H K := wops_cons (o_load ho hg hx hk)
theorem zq7 {E : Env} {T : List AV} {H : AH} {ops : Array Oper} {o : Oper} {l : List Oper} {K : List AV → AH → Prop} {c x y : Operand} {b : Bool} (ho : o.op = .pick c x y) (hg : wantedA o ops T = true) (hc : av T c = .v (.bool b)) (hk : WOps E ops l (putA T o.dst (bif b then av T x else av T y)) H K) : WOps E ops (o :: l) T H K := wops_cons (wop_pick ho hg hc hk)
theorem zq8 {E : Env} {T : List AV} {H : AH} {ops : Array Oper} {o : Oper} {l : List Oper} {K : List AV → AH → Prop} {t : TypeId} {x : Operand} {b : Bool} (ho : o.op = .unOp .not t x) (hg : wantedA o ops T = true) (hx : av T x = .v (.bool b)) (hk : WOps E ops l (putA T o.dst (.v (.bool (!b)))) H K) : WOps E ops (o :: l) T H K := wops_cons (wop_not ho hg hx hk)
theorem zq9 {E : Env} {T : List AV} {H : AH} {ops : Array Oper} {o : Oper} {l : List Oper} {K : List AV → AH → Prop} {x : Operand} {i : Nat} {vs : List AV} {v : AV} (ho : o.op = .extract x i) (hg : wantedA o ops T = true) (hx : av T x = .tup vs) (hv : vs[i]? = some v) (hk : WOps E ops l (putA T o.dst v) H K) : WOps E ops (o :: l) T H K := wops_cons (wop_extract ho hg hx hv hk)
end Go.Ev
namespace Go.Ev
section
variable {E : Env} {g : FuncId} {rd : Bool} {T : List AV} {M : List Nat} {H H0 : AH} {Q : QX} {ops : Array Oper} {o : Oper}
def looksB (o : Oper) : Bool := match o.op with | .load _ _ => true | .slice _ _ _ _ _ => true | .lookup _ _ _ _ => true | _ => false
theorem rdA_none (h : looksB o = false) : rdA T o = none := by
 unfold looksB at h
 unfold rdA
 cases ho : o.op with
 | load t x => rw [ho] at h; cases h
 | slice t x a b c => rw [ho] at h; cases h
 | lookup t x k b => rw [ho] at h; cases h
 | _ => rfl
def mobsOf : List Stp → List Nat
 | [] => []
 | .mob i :: l => i :: mobsOf l
 | _ :: l => mobsOf l
def WDr (E : Env) (ops : Array Oper) (H0 : AH) : List Stp → List AV → AH → (List AV → AH → Prop) → Prop
 | [], T, H, K => K T H
 | .mob i :: π, T, H, K => ∃ o r, ops.toList[i]? = some o ∧ ((wantedA o ops T = false ∧ r = .v undef) ∨ (wantedA o ops T = true ∧ mobEval E.P T (sing H0 (rdA T o)) o = some r)) ∧ WDr E ops H0 π (putA T o.dst r) H K
 | .loud i :: π, T, H, K => ∃ o, ops.toList[i]? = some o ∧ ∃ n r H1, evOp E.P E.F (E.evCall n) ops o T H = some (r, H1) ∧ WDr E ops H0 π (putA T o.dst r) H1 K
 | .alc i :: π, T, H, K => ∃ o, ops.toList[i]? = some o ∧ ((wantedA o ops T = false ∧ WDr E ops H0 π (putA T o.dst (.v undef)) H K) ∨ (wantedA o ops T = true ∧ ∃ k cs t H1, laysA E.P T o = some (k, cs, t) ∧ newA t cs H = some H1 ∧ WDr E ops H0 π (putA T o.dst (nvA k H.next)) H1 K))
variable {i : Nat} {π : List Stp} {K : List AV → AH → Prop}
theorem wd_mob {r : AV} (h1 : ops.toList[i]? = some o) (hg : wantedA o ops T = true) (h : mobEval E.P T (sing H0 (rdA T o)) o = some r) (hk : WDr E ops H0 π (putA T o.dst r) H K) : WDr E ops H0 (.mob i :: π) T H K := ⟨o, r, h1, .inr ⟨hg, h⟩, hk⟩
theorem wd_move {x : Operand} (h1 : ops.toList[i]? = some o) (ho : o.op = .move x) (hg : wantedA o ops T = true) (hk : WDr E ops H0 π (putA T o.dst (av T x)) H K) : WDr E ops H0 (.mob i :: π) T H K := wd_mob h1 hg (by unfold mobEval; rw [ho]) hk
theorem wd_bin {op : BinOp} {t yt : TypeId} {x y : Operand} {k : IntKind} {a b : Int} {v : Value} (h1 : ops.toList[i]? = some o) (ho : o.op = .binOp op t x y yt) (hg : wantedA o ops T = true) (hx : av T x = .v (.int k a)) (hy : av T y = .v (.int k b)) (hv : binI op k k a b = some v) (hk : WDr E ops H0 π (putA T o.dst (.v v)) H K) : WDr E ops H0 (.mob i :: π) T H K :=
 wd_mob h1 hg (by unfold mobEval; rw [ho]; exact plainVal_bin ho hx hy hv) hk
theorem wd_pick {c x y : Operand} {b : Bool} (h1 : ops.toList[i]? = some o) (ho : o.op = .pick c x y) (hg : wantedA o ops T = true) (hc : av T c = .v (.bool b)) (hk : WDr E ops H0 π (putA T o.dst (bif b then av T x else av T y)) H K) : WDr E ops H0 (.mob i :: π) T H K := by
 refine wd_mob h1 hg ?_ hk
 unfold mobEval; rw [ho]
 cases b <;> simp only [hc, cond_true, cond_false]
theorem wd_index {t e : TypeId} {x y : Operand} {kd : IntKind} {j : Int} {l : List AV} {v : AV} (h1 : ops.toList[i]? = some o) (ho : o.op = .indexAddr t x y) (hg : wantedA o ops T = true) (hu : runPure E.P (underlying t) = some (.slice e)) (hs : runPure E.P (sizeOf e) = some 1)
   (hx : Sl H0 (av T x) l) (hi : av T y = .v (.int kd j)) (h0 : 0 ≤ j) (hl : l[j.toNat]? = some v) (hk : ∀ p, At H0 p v → WDr E ops H0 π (putA T o.dst p) H K) : WDr E ops H0 (.mob i :: π) T H K := by
 obtain ⟨p, _, _, h2, h3⟩ := index_eval (P := E.P) (F := E.F) ho hu hs hx hi h0 hl
 exact wd_mob h1 hg (h2 _) (hk p h3)
theorem wd_load {t : TypeId} {x : Operand} {v : AV} (h1 : ops.toList[i]? = some o) (ho : o.op = .load t x) (hg : wantedA o ops T = true) (ha : runPure E.P (isAgg t) = some false) (hx : At H0 (av T x) v)
   (hk : WDr E ops H0 π (putA T o.dst v) H K) : WDr E ops H0 (.mob i :: π) T H K := by
 have h := mobs_load (E := E) (π := []) (K := fun T' => T' = putA T o.dst v) h1 ho hg ha hx rfl
 obtain ⟨o', r, q1, q2, q3, q4⟩ := h
 rw [opT h1] at q1
 cases q1
 have q4 : putA T o.dst r = putA T o.dst v := q4
 have q5 : mobEval E.P T (sing H0 (rdA T o)) o = some v := by
   unfold mobEval rdA
   rw [ho]
   simp only
   cases hav : av T x with
   | ptr b off =>
     rw [hav] at hx
     obtain ⟨h39, cs, e, g, h1, h2⟩ := hx
     have : (sing H0 (some b)).get b = some (.cells cs e g) := by
       unfold sing
       simp only [h1]
       rw [AH.get_set _ _ _ _ h39, if_pos rfl]
     simp only [loadA, this, ha, h2]
   | v val =>
     rw [hav] at hx
     unfold At at hx
     split at hx
     · rename_i h; cases h
     · rename_i b off h
       cases h
       obtain ⟨vs, u, h1, h2, rfl⟩ := hx
       simp only [loadG, sing, h1, ha, h2, Option.map_some]
     · exact hx.elim
   | _ => rw [hav] at hx; exact hx.elim
 exact wd_mob h1 hg q5 hk
theorem wd_len {c : Call} {t e : TypeId} {x : Operand} {l : List AV} (h1 : ops.toList[i]? = some o) (ho : o.op = .call c) (hg : wantedA o ops T = true) (hc : c.callee = .builtin .len) (hargs : c.args.toList = [x]) (ht : c.argTypes[0]? = some t) (hu : runPure E.P (underlying t) = some (.slice e)) (hx : Sl H0 (av T x) l) (hxo : isV (av T x) = false)
   (hk : WDr E ops H0 π (putA T o.dst (.v (.int .i64 l.length))) H K) : WDr E ops H0 (.mob i :: π) T H K := by
 refine wd_mob h1 hg ?_ hk
 unfold mobEval; rw [ho]
 simp only [hc, hargs, hxo, Bool.false_eq_true, if_false]
 have h1 : lenOpA E.P c.argTypes (av T x) (sing H0 (rdA T o)) = some (.val (.v (goInt l.length)) (sing H0 (rdA T o))) := by
   unfold lenOpA
   rw [ht]
   simp only [hu]
   unfold Sl at hx
   split at hx
   · rename_i h; rw [h] at hxo; cases hxo
   · rename_i h; rw [h]; simp only [hx.1]
   · rename_i h; rw [h]; simp only [hx.1]
   · exact hx.elim
 rw [h1]
 rfl
theorem wop_callFn {Kr : AV → AH → Prop} {c : Call} {x : Operand} {f : FuncId} {cap : List AV} {fn : Func} (ho : o.op = .call c) (hc : c.callee = .value x) (hx : av T x = .fn (.func f) [] cap) (hg : wantedA o ops T = true) (hF : E.F.get f = some fn)
   (hk : Ca E f (c.args.toList.map (av T) ++ cap) H fun r H' => H.next ≤ H'.next ∧ Kr r H') : WOp E ops o T H Kr := by
 refine wop_call ho hc (fun b h => by rw [hx] at h; cases h) hg ?_ hk
 unfold opEval; rw [ho]
 simp only [oCall, hc, oCallV, callA, calleeA, hx, hF, List.nil_append]
end
end Go.Ev
namespace Go.Ev
section
variable {E : Env} {g : FuncId} {rd : Bool} {T : List AV} {M : List Nat} {H H0 : AH} {Q : QX} {ops : Array Oper} {o : Oper} {i : Nat} {π : List Stp} {K : List AV → AH → Prop}
theorem plainVal_rem {P : Program} {t yt : TypeId} {x y : Operand} {k : IntKind} {a b : Int} (ho : o.op = .binOp .rem t x y yt) (hx : av T x = .v (.int k a)) (hy : av T y = .v (.int k b)) (hb : b ≠ 0) : plainVal P T o = some (.v (.int k (a.tmod b))) := by
 have h2 : runPure P (execOp (fun x => ((av T x).plain).getD undef) o) = some (.value (.int k (a.tmod b))) := by
   obtain ⟨dst, op', type, pos, after, guard⟩ := o
   simp only at ho
   subst ho
   simp only [execOp, eqGuard, hx, hy, AV.plain, Option.getD_some, binOp, Op.intDiv, runPure_bind]
   simp [hb, runPure_pure]
 unfold plainVal
 rw [h2, ho]
 simp [Op.operands, hx, hy, AV.plain]
theorem wd_rem {t yt : TypeId} {x y : Operand} {k : IntKind} {a b : Int} (h1 : ops.toList[i]? = some o) (ho : o.op = .binOp .rem t x y yt) (hg : wantedA o ops T = true) (hx : av T x = .v (.int k a)) (hy : av T y = .v (.int k b)) (hb : b ≠ 0) (hk : WDr E ops H0 π (putA T o.dst (.v (.int k (a.tmod b)))) H K) : WDr E ops H0 (.mob i :: π) T H K :=
 wd_mob h1 hg (by unfold mobEval; rw [ho]; exact plainVal_rem ho hx hy hb) hk
theorem wd_lenA {c : Call} {t e : TypeId} {x : Operand} {l : List AV} (h1 : ops.toList[i]? = some o) (ho : o.op = .call c) (hg : wantedA o ops T = true) (hc : c.callee = .builtin .len) (hargs : c.args.toList = [x]) (ht : c.argTypes.toList = [t]) (hu : runPure E.P (underlying t) = some (.slice e)) (hx : Sl H0 (av T x) l)
   (hk : WDr E ops H0 π (putA T o.dst (.v (.int .i64 l.length))) H K) : WDr E ops H0 (.mob i :: π) T H K := by
 have ht0 : c.argTypes[0]? = some t := by rw [← Array.getElem?_toList, ht]; rfl
 cases hxo : isV (av T x) with
 | false => exact wd_len h1 ho hg hc hargs ht0 hu hx hxo hk
 | true =>
   cases hav : av T x with
   | v val =>
     rw [hav] at hx
     cases val with
     | slice a n cap =>
       obtain ⟨rfl, _⟩ := hx
       refine wd_mob h1 hg (r := .v (goInt l.length)) ?_ hk
       unfold mobEval; rw [ho]
       simp only [hc, hargs, hav, isV, if_true]
       have h2 : runPure E.P (execOp (fun x => ((av T x).plain).getD undef) o) = some (.value (goInt l.length)) := by
         obtain ⟨dst, op', type, pos, after, guard⟩ := o
         simp only at ho
         subst ho
         obtain ⟨callee, args, ats⟩ := c
         simp only at hc hargs ht ht0
         subst hc
         obtain ⟨cb, hex⟩ := exec_builtin (fun x => ((av T x).plain).getD undef) dst type pos after guard .len args ats
         rw [hex]
         have ha : args.map (fun x => ((av T x).plain).getD undef) = #[.slice a l.length cap] := by
           apply Array.ext'; simp [hargs, hav, AV.plain]
         have hat : ats = #[t] := by apply Array.ext'; simp [ht]
         rw [ha, hat]
         show runPure E.P (Builtin.len_ #[t] type #[.slice a l.length cap] >>= fun r => pure (Next.value r)) = _
         rw [runPure_bind]
         have : runPure E.P (Builtin.len_ #[t] type #[.slice a l.length cap]) = some (goInt l.length) := by
           unfold Builtin.len_
           simp [runPure_bind, hu, runPure_pure]
         rw [this]
         rfl
       unfold plainVal
       rw [h2, ho]
       simp [Op.operands, Call.operands, hc, hargs, hav, AV.plain]
     | _ => exact hx.elim
   | _ => rw [hav] at hxo; cases hxo
theorem wd_make {t e : TypeId} {l c : Operand} {k1 k2 : IntKind} {n : Nat} {ti : TypeInfo} {z z0 : Value} (h1 : ops.toList[i]? = some o) (ho : o.op = .makeSlice t l c) (hl : av T l = .v (.int k1 n)) (hc : av T c = .v (.int k2 n)) (hu : runPure E.P (underlying t) = some (.slice e)) (hi : runPure E.P (typeInfo e) = some ti) (hs : runPure E.P (sizeOf e) = some 1) (hz : runPure E.P (zeroValue e) = some z)
   (hz0 : z.cells = #[z0]) (hb : ti.bytes ≤ 2 ^ 16) (hn : n ≤ 2 ^ 32) (hr : H.next < 2 ^ 59) (hk : WDr E ops H0 π (putA T o.dst (.slc H.next 0 n n)) (H.add (.cells (List.replicate n (.v z0)) e 0)) K) (hg : wantedA o ops T = true := by rfl) : WDr E ops H0 (.alc i :: π) T H K := by
 have h48 : Nat.ble (ti.bytes * n) (2 ^ 48) = true := Nat.ble_eq_true_of_le (by
   have := Nat.mul_le_mul hb hn
   exact Nat.le_trans this (by decide))
 have h62 : Nat.ble n (2 ^ 62) = true := Nat.ble_eq_true_of_le (Nat.le_trans hn (by decide))
 have hlt : Nat.blt H.next (2 ^ 59) = true := Nat.ble_eq_true_of_le hr
 have e0 := zeros z0 n
 refine ⟨o, h1, .inr ⟨hg, some (n, n), (if Nat.beq (n * 1) 0 then [] else ((Array.range (n * 1)).map ((#[z0] : Array Value)[· % (#[z0] : Array Value).size]!)).toList).map .v, e, H.add (.cells (List.replicate n (.v z0)) e 0), by unfold laysA; rw [ho]; simp only [hl, hc, natA, hu, hi, hs, hz, h48, h62, Nat.ble_eq_true_of_le (Nat.le_refl n), Bool.true_and, hz0, if_true], ?_, hk⟩⟩
 unfold newA
 rw [hlt, if_pos rfl]
 cases hn0 : Nat.beq (n * 1) 0 with
 | true =>
   have : n = 0 := by have := Nat.eq_of_beq_eq_true hn0; omega
   subst this
   simp
 | false =>
   simp only [Bool.false_eq_true, if_false]
   rw [e0]
end
end Go.Ev
namespace Go.Ev
open Go.Proofs
section
variable {O : CallF} {T : List AV} {H H0 : AH} {ops : Array Oper} {o : Oper} {i : Nat} {π : List Stp} {K : List AV → AH → Prop}
theorem d_load {t : TypeId} {x : Operand} {v : AV} (h1 : ops.toList[i]? = some o) (ho : o.op = .load t x) (hg : wantedA o ops T = true) [ha : Cell t] (hx : At H0 (av T x) v)
   (hk : WDr (ENV O) ops H0 π (putA T o.dst v) H K) : WDr (ENV O) ops H0 (.mob i :: π) T H K := wd_load h1 ho hg ha.a hx hk
theorem d_index {t e : TypeId} {x y : Operand} {j : Nat} {l : List AV} {v : AV} (h1 : ops.toList[i]? = some o) (ho : o.op = .indexAddr t x y) (hg : wantedA o ops T = true) [hu : TyS t e] [hs : Cell e]
   (hx : Sl H0 (av T x) l) (hi : av T y = iv j) (hl : l[j]? = some v) (hk : ∀ p, At H0 p v → WDr (ENV O) ops H0 π (putA T o.dst p) H K) : WDr (ENV O) ops H0 (.mob i :: π) T H K :=
 wd_index h1 ho hg hu.u hs.s hx hi (Int.natCast_nonneg j) (by rw [Int.toNat_natCast]; exact hl) hk
theorem d_lenI {c : Call} {t e : TypeId} {x : Operand} {l : List Int} (h1 : ops.toList[i]? = some o) (ho : o.op = .call c) (hg : wantedA o ops T = true) (hc : c.callee = .builtin .len) (hargs : c.args.toList = [x]) (ht : c.argTypes.toList = [t]) [hu : TyS t e] (hx : Sl H0 (av T x) (ivs l))
   (hk : WDr (ENV O) ops H0 π (putA T o.dst (iv l.length)) H K) : WDr (ENV O) ops H0 (.mob i :: π) T H K := wd_lenA h1 ho hg hc hargs ht hu.u hx (by rw [ivs_length]; exact hk)
theorem d_make {t e : TypeId} {l c : Operand} {n : Nat} {z0 : Value} (h1 : ops.toList[i]? = some o) (ho : o.op = .makeSlice t l c) (hl : av T l = iv n) (hc : av T c = iv n) [hu : TyS t e] [hs : Cell e] [hz : Zero e z0] (hn : n ≤ 2 ^ 32) (hr : H.next < 2 ^ 59)
   (hk : WDr (ENV O) ops H0 π (putA T o.dst (.slc H.next 0 n n)) (H.add (.cells (List.replicate n (.v z0)) e 0)) K) (hg : wantedA o ops T = true := by rfl) : WDr (ENV O) ops H0 (.alc i :: π) T H K :=
 wd_make h1 ho hl hc hu.u hz.i hs.s hz.z hz.c (Nat.le_trans (Nat.le_of_ble_eq_true hz.b) (by decide)) hn hr hk hg
end
end Go.Ev
namespace Go.Ev
open Go.Proofs
class Stru (t : TypeId) (n : outParam Nat) : Prop where
 s : runPure Tryz.prog (sizeOf t) = some n
 a : runPure Tryz.prog (isAgg t) = some true
instance : Stru 120 2 := ⟨by kernel_rfl, by kernel_rfl⟩
instance : Stru 144 2 := ⟨by kernel_rfl, by kernel_rfl⟩
instance : Stru 67 2 := ⟨by kernel_rfl, by kernel_rfl⟩
instance : Stru 74 2 := ⟨by kernel_rfl, by kernel_rfl⟩
instance : Stru 23 5 := ⟨by kernel_rfl, by kernel_rfl⟩
instance : Stru 29 5 := ⟨by kernel_rfl, by kernel_rfl⟩
instance : Stru 26 2 := ⟨by kernel_rfl, by kernel_rfl⟩
instance : Stru 30 2 := ⟨by kernel_rfl, by kernel_rfl⟩
instance : Stru 28 3 := ⟨by kernel_rfl, by kernel_rfl⟩
instance : Stru 32 3 := ⟨by kernel_rfl, by kernel_rfl⟩
instance : Stru 108 2 := ⟨by kernel_rfl, by kernel_rfl⟩
instance : Stru 138 2 := ⟨by kernel_rfl, by kernel_rfl⟩
class FA (t : TypeId) (f : Nat) (off : outParam Nat) : Prop where
 h : ∀ b o, fieldAddrA Tryz.prog t b o f = some (.ptr b (o + off))
instance : FA 120 0 0 := ⟨fun b o => by kernel_rfl⟩
instance : FA 120 1 1 := ⟨fun b o => by kernel_rfl⟩
instance : FA 144 0 0 := ⟨fun b o => by kernel_rfl⟩
instance : FA 144 1 1 := ⟨fun b o => by kernel_rfl⟩
instance : FA 67 0 0 := ⟨fun b o => by kernel_rfl⟩
instance : FA 67 1 1 := ⟨fun b o => by kernel_rfl⟩
instance : FA 74 0 0 := ⟨fun b o => by kernel_rfl⟩
instance : FA 74 1 1 := ⟨fun b o => by kernel_rfl⟩
instance : FA 23 0 0 := ⟨fun b o => by kernel_rfl⟩
instance : FA 23 1 1 := ⟨fun b o => by kernel_rfl⟩
instance : FA 23 2 2 := ⟨fun b o => by kernel_rfl⟩
instance : FA 23 3 3 := ⟨fun b o => by kernel_rfl⟩
instance : FA 23 4 4 := ⟨fun b o => by kernel_rfl⟩
instance : FA 29 0 0 := ⟨fun b o => by kernel_rfl⟩
instance : FA 29 1 1 := ⟨fun b o => by kernel_rfl⟩
instance : FA 29 2 2 := ⟨fun b o => by kernel_rfl⟩
instance : FA 29 3 3 := ⟨fun b o => by kernel_rfl⟩
instance : FA 29 4 4 := ⟨fun b o => by kernel_rfl⟩
instance : FA 26 0 0 := ⟨fun b o => by kernel_rfl⟩
instance : FA 26 1 1 := ⟨fun b o => by kernel_rfl⟩
instance : FA 30 0 0 := ⟨fun b o => by kernel_rfl⟩
instance : FA 30 1 1 := ⟨fun b o => by kernel_rfl⟩
instance : FA 28 0 0 := ⟨fun b o => by kernel_rfl⟩
instance : FA 28 1 1 := ⟨fun b o => by kernel_rfl⟩
instance : FA 28 2 2 := ⟨fun b o => by kernel_rfl⟩
instance : FA 32 0 0 := ⟨fun b o => by kernel_rfl⟩
instance : FA 32 1 1 := ⟨fun b o => by kernel_rfl⟩
instance : FA 32 2 2 := ⟨fun b o => by kernel_rfl⟩
instance : FA 108 0 0 := ⟨fun b o => by kernel_rfl⟩
instance : FA 108 1 1 := ⟨fun b o => by kernel_rfl⟩
instance : FA 138 0 0 := ⟨fun b o => by kernel_rfl⟩
instance : FA 138 1 1 := ⟨fun b o => by kernel_rfl⟩
theorem get_set_ne {H : AH} {b c : Nat} {x : Option AB} (h39 : b < 2 ^ 59) (h : c ≠ b) : (H.set b x).get c = H.get c := by rw [AH.get_set _ _ _ _ h39, if_neg h]
theorem get_set_eq {H : AH} {b : Nat} {x : Option AB} (h39 : b < 2 ^ 59) : (H.set b x).get b = x := by rw [AH.get_set _ _ _ _ h39, if_pos rfl]
theorem get_add_ne {H : AH} {c : Nat} {x : AB} (h39 : H.next < 2 ^ 59) (h : c ≠ H.next) : (H.add x).get c = H.get c := by rw [AH.get_add _ _ _ h39, if_neg h]
theorem get_add_eq {H : AH} {x : AB} (h39 : H.next < 2 ^ 59) : (H.add x).get H.next = some x := by rw [AH.get_add _ _ _ h39, if_pos rfl]
theorem at_ptr {H : AH} {b : Nat} {cs : List AV} {e : TypeId} {g i : Nat} {v : AV} (h39 : b < 2 ^ 59) (h : H.get b = some (.cells cs e g)) (hv : cs[i]? = some v) : At H (.ptr b i) v := ⟨h39, cs, e, g, h, hv⟩
structure Bk (H : AH) (b : Nat) (t : TypeId) (cs : List AV) : Prop where
 lt : b < 2 ^ 59
 g : H.get b = some (.cells cs t 0)
theorem Bk.at {H : AH} {b : Nat} {t : TypeId} {cs : List AV} (h : Bk H b t cs) {i : Nat} {v : AV} (hv : cs[i]? = some v) : At H (.ptr b i) v := at_ptr h.lt h.g hv
theorem Bk.keep {H H' : AH} {b : Nat} {t : TypeId} {cs : List AV} (h : Bk H b t cs) (hb : b < H.next) (k : Keeps H H') : Bk H' b t cs := ⟨h.lt, (k.get b hb).trans h.g⟩
section
variable {O : CallF} {T : List AV} {H H0 : AH} {ops : Array Oper} {o : Oper} {K : AV → AH → Prop}
theorem o_boxS {t : TypeId} {x : Operand} {cs : List AV} (ho : o.op = .box t x) (hg : wantedA o ops T = true) (hx : (av T x).cells = cs) (hr : H.next < 2 ^ 59) (hk : ∀ H1, H1.next = H.next + 1 → Keeps H H1 → Bk H1 H.next t cs → K (.ptr H.next 0) H1) : WOp (ENV O) ops o T H K := by
 refine wop_val (by rw [ho]; rfl) hg (H' := H.add (.cells cs t 0)) (r := .ptr H.next 0) ?_ (Nat.le_succ _) (hk _ rfl ((Keeps.refl H).add _ hr) ⟨hr, get_add_eq hr⟩)
 unfold opEval; rw [ho]
 have hlt : Nat.blt H.next (2 ^ 59) = true := Nat.ble_eq_true_of_le hr
 simp only [boxA, hx, newA, hlt, if_true, Option.map_some]
theorem o_field {t : TypeId} {x : Operand} {f off b o0 : Nat} (ho : o.op = .fieldAddr t x f) (hg : wantedA o ops T = true) [hf : FA t f off] (hx : av T x = .ptr b o0) (hk : K (.ptr b (o0 + off)) H) : WOp (ENV O) ops o T H K := by
 refine wop_val (by rw [ho]; rfl) hg (H' := H) (r := .ptr b (o0 + off)) ?_ (Nat.le_refl _) hk
 unfold opEval; rw [ho]
 simp only [ENV, oFieldAddr, hx, hf.h b o0, rv, Option.map_some]
theorem o_load4 {t : TypeId} {x : Operand} {b n : Nat} {cs : List AV} (ho : o.op = .load t x) (hg : wantedA o ops T = true) [h4 : Stru t n] (hx : av T x = .ptr b 0) (hb : Bk H b t cs) (hk : K (.agg cs) H) (hn : cs.length = n := by rfl) : WOp (ENV O) ops o T H K := by
 refine wop_val (by rw [ho]; rfl) hg (H' := H) (r := .agg cs) ?_ (Nat.le_refl _) hk
 unfold opEval; rw [ho]
 have h3 := h4.a
 have h2 := h4.s
 simp only [ENV, oLoad, hx, loadA, hb.g, h3, h2]
 rw [if_pos (Nat.ble_eq_true_of_le (by omega)), List.drop_zero, List.take_of_length_le (by omega)]
 rfl
variable {i : Nat} {π : List Stp} {KD : List AV → AH → Prop}
theorem d_field {t : TypeId} {x : Operand} {f off b o0 : Nat} (h1 : ops.toList[i]? = some o) (ho : o.op = .fieldAddr t x f) (hg : wantedA o ops T = true) [hf : FA t f off] (hx : av T x = .ptr b o0) (hk : WDr (ENV O) ops H0 π (putA T o.dst (.ptr b (o0 + off))) H KD) : WDr (ENV O) ops H0 (.mob i :: π) T H KD := by
 refine wd_mob h1 hg ?_ hk
 unfold mobEval
 rw [ho]
 simp only [ENV, hx, hf.h b o0]
theorem d_load4 {t : TypeId} {x : Operand} {b n : Nat} {cs : List AV} (h1 : ops.toList[i]? = some o) (ho : o.op = .load t x) (hg : wantedA o ops T = true) [h4 : Stru t n] (hx : av T x = .ptr b 0) (hb : Bk H0 b t cs) (hk : WDr (ENV O) ops H0 π (putA T o.dst (.agg cs)) H KD) (hn : cs.length = n := by rfl) : WDr (ENV O) ops H0 (.mob i :: π) T H KD := by
 refine wd_mob h1 hg ?_ hk
 have h3 := h4.a
 have h2 := h4.s
 unfold mobEval rdA
 rw [ho]
 simp only [hx]
 have : (sing H0 (some b)).get b = some (.cells cs t 0) := by
   unfold sing
   simp only [hb.g]
   rw [AH.get_set _ _ _ _ hb.lt, if_pos rfl]
 simp only [ENV, loadA, this, h3, h2]
 rw [if_pos (Nat.ble_eq_true_of_le (by omega)), List.drop_zero, List.take_of_length_le (by omega)]
end
theorem Wp.cut {E : Env} {g : FuncId} {rd : Bool} {T : List AV} {M : List Nat} {H : AH} {Q : QX} {c : Code} (I : List AV → Prop) (h : I T) (hw : ∀ T, I T → Wp E g rd c T M H Q) : Wp E g rd c T M H Q := hw T h
theorem WOps.cut {E : Env} {ops : Array Oper} {l : List Oper} {T : List AV} {H : AH} {K : List AV → AH → Prop} (I : List AV → Prop) (h : I T) (hw : ∀ T, I T → WOps E ops l T H K) : WOps E ops l T H K := hw T h
theorem l_some {l : List Int} {i : Nat} (h : i < l.length) : ∃ z, l[i]? = some z := ⟨l[i], List.getElem?_eq_getElem h⟩
theorem wops_split {E : Env} {ops : Array Oper} : ∀ (n : Nat) {l : List Oper} {T : List AV} {H : AH} {K : List AV → AH → Prop}, WOps E ops (l.take n) T H (fun T' H' => WOps E ops (l.drop n) T' H' K) → WOps E ops l T H K
 | 0, l, T, H, K, h => by
   obtain ⟨k, T', H', h1, h2⟩ := h
   rw [List.take_zero] at h1
   have h1 : some (T, H) = some (T', H') := h1
   cases h1
   exact h2
 | n + 1, [], T, H, K, h => by
   obtain ⟨k, T', H', h1, h2⟩ := h
   have h1 : some (T, H) = some (T', H') := h1
   cases h1
   exact h2
 | n + 1, o :: l, T, H, K, h => by
   obtain ⟨k, T', H', h1, h2⟩ := h
   rw [List.take_succ_cons, evOpsY_cons] at h1
   split at h1
   · rename_i r H1 hop
     exact wops_cons ⟨k, r, H1, hop, wops_split n ⟨k, T', H', h1, h2⟩⟩
   · cases h1
theorem zqa {O : CallF} {T : List AV} {H : AH} {ops : Array Oper} {o : Oper} {r : List Oper} {K : List AV → AH → Prop} {t : TypeId} {x : Operand} {f off b o0 : Nat} (ho : o.op = .fieldAddr t x f) (hg : wantedA o ops T = true) [hf : FA t f off] (hx : av T x = .ptr b o0) (hk : WOps (ENV O) ops r (putA T o.dst (.ptr b (o0 + off))) H K) : WOps (ENV O) ops (o :: r) T H K := wops_cons (o_field ho hg hx hk)
theorem zqb {O : CallF} {T : List AV} {H : AH} {ops : Array Oper} {o : Oper} {r : List Oper} {K : List AV → AH → Prop} {t : TypeId} {x : Operand} {b n : Nat} {cs : List AV} (ho : o.op = .load t x) (hg : wantedA o ops T = true) [h4 : Stru t n] (hx : av T x = .ptr b 0) (hb : Bk H b t cs) (hk : WOps (ENV O) ops r (putA T o.dst (.agg cs)) H K) (hn : cs.length = n := by rfl) : WOps (ENV O) ops (o :: r) T H K := wops_cons (o_load4 ho hg hx hb hk hn)
end Go.Ev
namespace Go.Ev
def Lk (H : AH) (b : Nat) : Prop := b < H.next ∧ sameBlk (H.get b) (H.get b) = true
theorem Lk.keep {H H' : AH} {b : Nat} (h : Lk H b) (k : Keeps H H') : Lk H' b := ⟨Nat.lt_of_lt_of_le h.1 k.nx, by rw [k.get b h.1]; exact h.2⟩
def WK (E : Env) (ops : Array Oper) (H0 : AH) : List Stp → List AV → AH → (List AV → AH → Prop) → Prop
 | [], T, H, K => K T H
 | .mob i :: π, T, H, K => ∃ o r, ops.toList[i]? = some o ∧ ((wantedA o ops T = false ∧ r = .v undef) ∨ (wantedA o ops T = true ∧ mobEval E.P T (sing H0 (rdA T o)) o = some r ∧ ∀ b, rdA T o = some b → Lk H0 b)) ∧ WK E ops H0 π (putA T o.dst r) H K
 | .loud i :: π, T, H, K => ∃ o, ops.toList[i]? = some o ∧ ∃ n r H1, evOp E.P E.F (E.evCall n) ops o T H = some (r, H1) ∧ Keeps H0 H1 ∧ WK E ops H0 π (putA T o.dst r) H1 K
 | .alc i :: π, T, H, K => ∃ o, ops.toList[i]? = some o ∧ ((wantedA o ops T = false ∧ WK E ops H0 π (putA T o.dst (.v undef)) H K) ∨ (wantedA o ops T = true ∧ ∃ k cs t H1, laysA E.P T o = some (k, cs, t) ∧ newA t cs H = some H1 ∧ WK E ops H0 π (putA T o.dst (nvA k H.next)) H1 K))
section
variable {E : Env} {g : FuncId} {rd : Bool} {T : List AV} {M : List Nat} {H H0 : AH} {Q : QX} {ops : Array Oper}
theorem wk_ev {K : List AV → AH → Prop} : ∀ {π : List Stp} {T : List AV} {H : AH}, WK E ops H0 π T H K → ∃ n T' H' L Hs, evDraw E.P E.F (E.evCall n) ops H0 π T H = some (T', H', L, Hs) ∧ K T' H' ∧ (∀ q ∈ Hs, Keeps H0 q.2) ∧ (∀ p ∈ L, ∀ b, p.2 = some b → Lk H0 b)
 | [], T, H, h => ⟨0, T, H, [], [], rfl, h, fun _ h => by simp at h, fun _ h => by simp at h⟩
 | .mob i :: π, T, H, ⟨o, r, h1, h2, h3⟩ => by
   obtain ⟨n, T', H', L, Hs, k1, k2, k3, k4⟩ := wk_ev h3
   rcases h2 with ⟨h2, rfl⟩ | ⟨h2, h4, h5⟩
   · refine ⟨n, T', H', L, Hs, ?_, k2, k3, k4⟩
     simp only [evDraw, opT h1, h2]
     exact k1
   · refine ⟨n, T', H', (i, rdA T o) :: L, Hs, ?_, k2, k3, fun p hp b hb => ?_⟩
     · simp only [evDraw, opT h1, h2, h4, k1]
     · rcases List.mem_cons.1 hp with rfl | hp
       · exact h5 b hb
       · exact k4 p hp b hb
 | .loud i :: π, T, H, ⟨o, h1, n, r, H1, h2, h5, h3⟩ => by
   obtain ⟨m, T', H', L, Hs, k1, k2, k3, k4⟩ := wk_ev h3
   refine ⟨n + m, T', H', L, (i, H1) :: Hs, ?_, k2, fun q hq => ?_, k4⟩
   · simp only [evDraw, opT h1]
     rw [evOp_le (evCall_le (Nat.le_add_right n m)) h2]
     simp only
     rw [evDraw_le (evCall_le (Nat.le_add_left m n)) k1]
   · rcases List.mem_cons.1 hq with rfl | hq
     · exact h5
     · exact k3 q hq
 | .alc i :: π, T, H, ⟨o, h1, .inl ⟨hw, h4⟩⟩ => by
   obtain ⟨n, T', H', L, Hs, k1, k2, k3, k4⟩ := wk_ev h4
   refine ⟨n, T', H', L, Hs, ?_, k2, k3, k4⟩
   simp only [evDraw, opT h1, hw]
   exact k1
 | .alc i :: π, T, H, ⟨o, h1, .inr ⟨hw, k, cs, t, H1, h2, h3, h4⟩⟩ => by
   obtain ⟨n, T', H', L, Hs, k1, k2, k3, k4⟩ := wk_ev h4
   refine ⟨n, T', H', L, Hs, ?_, k2, k3, k4⟩
   simp only [evDraw, opT h1, hw, h2, h3]
   exact k1
theorem wp_drawK {id : Nat} {π : List Stp} (hp : E.pl.get (planKey g id) = some π) (h : WK E ops H π T H fun T' H' => Q .normal T' M H') : Wp E g rd (.region id ops true) T M H Q := by
 obtain ⟨n, T', H', L, Hs, k1, k2, k3, k4⟩ := wk_ev h
 refine ⟨n + 1, _, T', M, H', ?_, k2⟩
 show Ev.ev E.P E.F E.O E.pl (n + 1) g rd (.region id ops true) T M H = _
 rw [ev_draw, hp]
 simp only
 unfold evRegion
 rw [show evDraw E.P E.F (Ev.evCall E.P E.F E.O E.pl n) ops H π T H = _ from k1]
 have : (Hs.all fun q => keptB ops H L q.1 q.2) = true := by
   rw [List.all_eq_true]
   intro q hq
   unfold keptB
   rw [List.all_eq_true]
   intro p hp
   cases hb : p.2 with
   | none => rfl
   | some b =>
     obtain ⟨h1, h2⟩ := k4 p hp b hb
     simp only [Bool.or_eq_true]
     right
     rw [(k3 q hq).get b h1]
     exact h2
 simp only [this, if_true]
variable {π : List Stp} {i : Nat} {o : Oper} {K : List AV → AH → Prop}
theorem k_nil (h : K T H) : WK E ops H0 [] T H K := h
theorem k_skip (h1 : ops.toList[i]? = some o) (hg : wantedA o ops T = false) (hk : WK E ops H0 π (putA T o.dst (.v undef)) H K) : WK E ops H0 (.mob i :: π) T H K := ⟨o, _, h1, .inl ⟨hg, rfl⟩, hk⟩
theorem k_mob {r : AV} (h1 : ops.toList[i]? = some o) (hg : wantedA o ops T = true) (h : mobEval E.P T (sing H0 (rdA T o)) o = some r) (hb : ∀ b, rdA T o = some b → Lk H0 b) (hk : WK E ops H0 π (putA T o.dst r) H K) : WK E ops H0 (.mob i :: π) T H K := ⟨o, r, h1, .inr ⟨hg, h, hb⟩, hk⟩
theorem k_loudSkip (h1 : ops.toList[i]? = some o) (hg : wantedA o ops T = false) (hk0 : Keeps H0 H) (hk : WK E ops H0 π (putA T o.dst (.v undef)) H K) : WK E ops H0 (.loud i :: π) T H K :=
 ⟨o, h1, 0, _, H, by unfold evOp; rw [hg], hk0, hk⟩
theorem k_loud (h1 : ops.toList[i]? = some o) (hs : still o.op = true) (h : WOp E ops o T H fun r H1 => Keeps H0 H1 ∧ WK E ops H0 π (putA T o.dst r) H1 K) : WK E ops H0 (.loud i :: π) T H K := by
 obtain ⟨n, r, H1, k1, k2, k3⟩ := h
 rw [evOpY_still hs] at k1
 exact ⟨o, h1, n, r, H1, k1, k2, k3⟩
theorem k_call {c : Call} {x : Operand} (h1 : ops.toList[i]? = some o) (ho : o.op = .call c) (hc : c.callee = .value x) (hy : ∀ b, av T x ≠ .yl b) (h : WOp E ops o T H fun r H1 => Keeps H0 H1 ∧ WK E ops H0 π (putA T o.dst r) H1 K) : WK E ops H0 (.loud i :: π) T H K := by
 obtain ⟨n, r, H1, k1, k2, k3⟩ := h
 refine ⟨o, h1, n, r, H1, ?_, k2, k3⟩
 unfold evOpY at k1
 rw [ho] at k1
 simp only [hc] at k1
 exact k1
theorem k_move {x : Operand} (h1 : ops.toList[i]? = some o) (ho : o.op = .move x) (hg : wantedA o ops T = true) (hk : WK E ops H0 π (putA T o.dst (av T x)) H K) : WK E ops H0 (.mob i :: π) T H K :=
 k_mob h1 hg (by unfold mobEval; rw [ho]) (fun b hb => by rw [rdA_none (by unfold looksB; rw [ho])] at hb; cases hb) hk
theorem k_assign {x : Operand} (h1 : ops.toList[i]? = some o) (ho : o.op = .assign x) (hg : wantedA o ops T = true) (hk : WK E ops H0 π (putA T o.dst (av T x)) H K) : WK E ops H0 (.mob i :: π) T H K :=
 k_mob h1 hg (by unfold mobEval; rw [ho]) (fun b hb => by rw [rdA_none (by unfold looksB; rw [ho])] at hb; cases hb) hk
theorem k_0 {r : AV} (h1 : ops.toList[i]? = some o) (hl : looksB o = false) (hg : wantedA o ops T = true) (h : WDr E ops H0 [.mob i] T H (fun T' _ => T' = putA T o.dst r)) (hk : WK E ops H0 π (putA T o.dst r) H K) : WK E ops H0 (.mob i :: π) T H K := by
 obtain ⟨o', r', h1', h2, h3⟩ := h
 rw [h1] at h1'; cases h1'
 have h3 : putA T o.dst r' = putA T o.dst r := h3
 rcases h2 with ⟨h2, _⟩ | ⟨h2, h4⟩
 · rw [hg] at h2; cases h2
 · refine ⟨o, r', h1, .inr ⟨hg, h4, fun b hb => by rw [rdA_none hl] at hb; cases hb⟩, ?_⟩
   rw [h3]; exact hk
end
end Go.Ev
namespace Go.Ev
open Go.Proofs
section
variable {E : Env} {T : List AV} {H H0 : AH} {ops : Array Oper} {o : Oper} {i : Nat} {π : List Stp} {K : List AV → AH → Prop}
theorem k_bin {op : BinOp} {t yt : TypeId} {x y : Operand} {k : IntKind} {a b : Int} {v : Value} (h1 : ops.toList[i]? = some o) (ho : o.op = .binOp op t x y yt) (hg : wantedA o ops T = true) (hx : av T x = .v (.int k a)) (hy : av T y = .v (.int k b)) (hv : binI op k k a b = some v) (hk : WK E ops H0 π (putA T o.dst (.v v)) H K) : WK E ops H0 (.mob i :: π) T H K :=
 k_0 (r := .v v) h1 (by unfold looksB; rw [ho]) hg (wd_bin h1 ho hg hx hy hv rfl) hk
theorem k_pick {c x y : Operand} {b : Bool} (h1 : ops.toList[i]? = some o) (ho : o.op = .pick c x y) (hg : wantedA o ops T = true) (hc : av T c = .v (.bool b)) (hk : WK E ops H0 π (putA T o.dst (bif b then av T x else av T y)) H K) : WK E ops H0 (.mob i :: π) T H K :=
 k_0 h1 (by unfold looksB; rw [ho]) hg (wd_pick h1 ho hg hc rfl) hk
end
section
variable {O : CallF} {T : List AV} {H H0 : AH} {ops : Array Oper} {o : Oper} {i : Nat} {π : List Stp} {K : List AV → AH → Prop}
theorem k_field {t : TypeId} {x : Operand} {f off b o0 : Nat} (h1 : ops.toList[i]? = some o) (ho : o.op = .fieldAddr t x f) (hg : wantedA o ops T = true) [hf : FA t f off] (hx : av T x = .ptr b o0) (hk : WK (ENV O) ops H0 π (putA T o.dst (.ptr b (o0 + off))) H K) : WK (ENV O) ops H0 (.mob i :: π) T H K :=
 k_0 h1 (by unfold looksB; rw [ho]) hg (d_field h1 ho hg hx rfl) hk
theorem k_lenI {c : Call} {t e : TypeId} {x : Operand} {l : List Int} (h1 : ops.toList[i]? = some o) (ho : o.op = .call c) (hg : wantedA o ops T = true) (hc : c.callee = .builtin .len) (hargs : c.args.toList = [x]) (ht : c.argTypes.toList = [t]) [hu : TyS t e] (hx : Sl H0 (av T x) (ivs l))
   (hk : WK (ENV O) ops H0 π (putA T o.dst (iv l.length)) H K) : WK (ENV O) ops H0 (.mob i :: π) T H K :=
 k_0 h1 (by unfold looksB; rw [ho]) hg (d_lenI h1 ho hg hc hargs ht hx rfl) hk
theorem wdr_mob {r : AV} (h1 : ops.toList[i]? = some o) (hg : wantedA o ops T = true) (h : WDr (ENV O) ops H0 [.mob i] T H (fun T' _ => T' = putA T o.dst r)) (hb : ∀ b, rdA T o = some b → Lk H0 b) (hk : WK (ENV O) ops H0 π (putA T o.dst r) H K) : WK (ENV O) ops H0 (.mob i :: π) T H K := by
 obtain ⟨o', r', h1', h2, h3⟩ := h
 rw [h1] at h1'; cases h1'
 have h3 : putA T o.dst r' = putA T o.dst r := h3
 rcases h2 with ⟨h2, _⟩ | ⟨h2, h4⟩
 · rw [hg] at h2; cases h2
 · refine ⟨o, r', h1, .inr ⟨hg, h4, hb⟩, ?_⟩
   rw [h3]; exact hk
theorem rdA_load {t : TypeId} {x : Operand} {b : Nat} (ho : o.op = .load t x) (h : rdA T o = some b) : (av T x).own = some b := by
 unfold rdA at h
 rw [ho] at h
 simp only at h
 split at h
 · rename_i hx; rw [hx]; exact h
 · cases h
theorem k_load {t : TypeId} {x : Operand} {v : AV} (h1 : ops.toList[i]? = some o) (ho : o.op = .load t x) (hg : wantedA o ops T = true) [ha : Cell t] (hx : At H0 (av T x) v) (hL : ∀ b, (av T x).own = some b → Lk H0 b)
   (hk : WK (ENV O) ops H0 π (putA T o.dst v) H K) : WK (ENV O) ops H0 (.mob i :: π) T H K :=
 wdr_mob h1 hg (d_load h1 ho hg hx rfl) (fun b hb => hL b (rdA_load ho hb)) hk
theorem k_load4 {t : TypeId} {x : Operand} {b n : Nat} {cs : List AV} (h1 : ops.toList[i]? = some o) (ho : o.op = .load t x) (hg : wantedA o ops T = true) [h4 : Stru t n] (hx : av T x = .ptr b 0) (hb : Bk H0 b t cs) (hL : ∀ c, (AV.ptr b 0).own = some c → Lk H0 c) (hk : WK (ENV O) ops H0 π (putA T o.dst (.agg cs)) H K) (hn : cs.length = n := by rfl) : WK (ENV O) ops H0 (.mob i :: π) T H K :=
 wdr_mob h1 hg (d_load4 h1 ho hg hx hb rfl hn) (fun c hc => hL c (by have := rdA_load ho hc; rw [hx] at this; exact this)) hk
theorem mob_own {t : TypeId} {x y : Operand} {H' : AH} {p : AV} {P : Program} (ho : o.op = .indexAddr t x y) (h : mobEval P T H' o = some p) : ∀ b, p.own = some b → (av T x).own = some b := by
 intro b hb
 unfold mobEval at h
 rw [ho] at h
 simp only at h
 split at h
 · unfold plainVal at h
   split at h
   · split at h
     · cases h
     · split at h
       · cases h; cases hb
       · cases h
   · cases h
 · unfold indexAddrA at h
   split at h
   · split at h
     all_goals first | (split at h; (split at h; (first | (cases h; simp_all [AV.own]) | cases h)); (first | (cases h; simp_all [AV.own]) | cases h)) | (cases h; simp_all [AV.own]) | cases h
   · cases h
theorem k_indexI {t e : TypeId} {x y : Operand} {j : Nat} {l : List Int} {z : Int} (h1 : ops.toList[i]? = some o) (ho : o.op = .indexAddr t x y) (hg : wantedA o ops T = true) [hu : TyS t e] [hs : Cell e]
   (hx : Sl H0 (av T x) (ivs l)) (hi : av T y = iv j) (hl : l[j]? = some z) (hL : ∀ b, (av T x).own = some b → Lk H0 b) (hk : ∀ p, At H0 p (iv z) → (∀ b, p.own = some b → Lk H0 b) → WK (ENV O) ops H0 π (putA T o.dst p) H K) : WK (ENV O) ops H0 (.mob i :: π) T H K := by
 obtain ⟨p, _, _, h2, h3⟩ := index_eval (P := Tryz.prog) (F := TF) ho hu.u hs.s hx hi (Int.natCast_nonneg j) (by rw [Int.toNat_natCast]; exact ivs_get hl)
 exact k_mob h1 hg (h2 _) (fun b hb => by rw [rdA_none (by unfold looksB; rw [ho])] at hb; cases hb) (hk p h3 fun b hb => hL b (mob_own ho (h2 H) b hb))
theorem Sl.beq {H : AH} {x : AV} {l : List AV} (h : Sl H x l) : x.beq x = true := by
 unfold Sl at h
 split at h
 · simp [AV.beq, vbeq]
 · simp [AV.beq]
 · simp [AV.beq]
 · exact h.elim
theorem Bk.lk {H : AH} {b : Nat} {t : TypeId} {cs : List AV} (h : Bk H b t cs) (hb : b < H.next) (hx : beqs cs cs = true) : ∀ c, (AV.ptr b 0).own = some c → Lk H c := by
 intro c hc
 cases hc
 refine ⟨hb, ?_⟩
 rw [h.g]
 simp [sameBlk, hx]
end
end Go.Ev
