/- Part of an evaluator of calls that is proved sound, and of what it gives about this program. No condition of its own. -/
import Derived.Test.YtjkgjemcmmgefaaGreatDoorEvSix
import Derived.Test.YtjkgjemcmmgefaaGreatDoorEvSeven
set_option linter.unusedVariables false
set_option linter.unusedSimpArgs false
set_option linter.unusedSectionVars false
set_option maxRecDepth 100000
set_option maxHeartbeats 4000000
namespace Go.Ev
open Go.Proofs
class TyS (t : TypeId) (e : outParam TypeId) : Prop where
  u : runPure Tryz.prog (underlying t) = some (.slice e)
class Cell (e : TypeId) : Prop where
  s : runPure Tryz.prog (sizeOf e) = some 1
  a : runPure Tryz.prog (isAgg e) = some false
noncomputable def ti (t : TypeId) : TypeInfo := (runPure Tryz.prog (typeInfo t)).getD default
class Zero (e : TypeId) (z0 : outParam Value) : Prop where
  z : runPure Tryz.prog (zeroValue e) = some z0
  c : z0.cells = #[z0]
  i : runPure Tryz.prog (typeInfo e) = some (ti e)
  b : Nat.ble (ti e).bytes (2 ^ 8) = true
instance : TyS 22 3 := ⟨by kernel_rfl⟩
instance : TyS 36 22 := ⟨by kernel_rfl⟩
instance : TyS 57 4 := ⟨by kernel_rfl⟩
instance : TyS 141 27 := ⟨by kernel_rfl⟩
instance : Cell 3 := ⟨by kernel_rfl, by kernel_rfl⟩
instance : Cell 4 := ⟨by kernel_rfl, by kernel_rfl⟩
instance : Cell 22 := ⟨by kernel_rfl, by kernel_rfl⟩
instance : Cell 27 := ⟨by kernel_rfl, by kernel_rfl⟩
instance : Cell 57 := ⟨by kernel_rfl, by kernel_rfl⟩
instance : Zero 3 (.int .i64 0) := ⟨by kernel_rfl, rfl, by kernel_rfl, by kernel_rfl⟩
instance : Zero 4 (.bool false) := ⟨by kernel_rfl, rfl, by kernel_rfl, by kernel_rfl⟩
instance : Zero 22 (.slice none 0 0) := ⟨by kernel_rfl, rfl, by kernel_rfl, by kernel_rfl⟩
instance : Zero 27 (.int .i64 0) := ⟨by kernel_rfl, rfl, by kernel_rfl, by kernel_rfl⟩
instance : Zero 57 (.slice none 0 0) := ⟨by kernel_rfl, rfl, by kernel_rfl, by kernel_rfl⟩
noncomputable def ENV (O : CallF) : Env := ⟨Tryz.prog, TF, O, TPl⟩
def Quiet (O : CallF) : Prop := ∀ g args H, (Nat.beq g 8 || Nat.beq g 65 || Nat.beq g 34 || (Nat.ble 52 g && Nat.ble g 55)) = false → O g args H = none
abbrev iv (z : Int) : AV := .v (.int .i64 z)
def ivs (l : List Int) : List AV := l.map iv
theorem ivs_length (l : List Int) : (ivs l).length = l.length := by simp [ivs]
theorem ivs_get {l : List Int} {j : Nat} {z : Int} (h : l[j]? = some z) : (ivs l)[j]? = some (iv z) := by simp [ivs, h]
theorem wrap_id {z : Int} (h1 : -9223372036854775808 ≤ z) (h2 : z < 9223372036854775808) : IntKind.i64.wrap z = z := by
  simp only [IntKind.wrap, IntKind.signed, IntKind.bits, Bool.true_and]
  split
  · rename_i h; have h := of_decide_eq_true h; omega
  · rename_i h; have h := of_decide_eq_false (Bool.eq_false_iff.2 h); omega
theorem inc {i : Nat} (h : i < 4611686018427387904) : binI .add .i64 .i64 (i : Int) 1 = some (.int .i64 ((i + 1 : Nat) : Int)) := by
  show some (Value.int .i64 (IntKind.i64.wrap ((i : Int) + 1))) = _
  rw [wrap_id (by omega) (by omega)]
  rfl
section
variable {O : CallF} {g : FuncId} {rd : Bool} {T : List AV} {M : List Nat} {H : AH} {Q : QX} {ops : Array Oper} {o : Oper} {K : AV → AH → Prop}
theorem arg0 {c : Call} {t : TypeId} {l : List TypeId} (h : c.argTypes.toList = t :: l) : c.argTypes[0]? = some t := by rw [← Array.getElem?_toList, h]; rfl
theorem arg1 {c : Call} {t u : TypeId} {l : List TypeId} (h : c.argTypes.toList = t :: u :: l) : c.argTypes[1]? = some u := by rw [← Array.getElem?_toList, h]; rfl
theorem o_len {c : Call} {t e : TypeId} {x : Operand} {l : List AV} (ho : o.op = .call c) (hg : wantedA o ops T = true) (hc : c.callee = .builtin .len) (hargs : c.args.toList = [x]) (ht : c.argTypes.toList = [t]) [hu : TyS t e] (hx : Sl H (av T x) l)
    (hk : K (iv l.length) H) : WOp (ENV O) ops o T H K := wop_len ho hg hc hargs (arg0 ht) hu.u hx hk
theorem o_lenI {c : Call} {t e : TypeId} {x : Operand} {l : List Int} (ho : o.op = .call c) (hg : wantedA o ops T = true) (hc : c.callee = .builtin .len) (hargs : c.args.toList = [x]) (ht : c.argTypes.toList = [t]) [hu : TyS t e] (hx : Sl H (av T x) (ivs l))
    (hk : K (iv l.length) H) : WOp (ENV O) ops o T H K := wop_len ho hg hc hargs (arg0 ht) hu.u hx (by rw [ivs_length]; exact hk)
theorem o_index {t e : TypeId} {x i : Operand} {j : Nat} {l : List AV} {v : AV} (ho : o.op = .indexAddr t x i) (hg : wantedA o ops T = true) [hu : TyS t e] [hs : Cell e]
    (hx : Sl H (av T x) l) (hi : av T i = iv j) (hl : l[j]? = some v) (hk : ∀ p, At H p v → K p H) : WOp (ENV O) ops o T H K := wop_index ho hg hu.u hs.s hx hi (Int.natCast_nonneg j) (by rw [Int.toNat_natCast]; exact hl) hk
theorem o_indexI {t e : TypeId} {x i : Operand} {j : Nat} {l : List Int} {z : Int} (ho : o.op = .indexAddr t x i) (hg : wantedA o ops T = true) [hu : TyS t e] [hs : Cell e]
    (hx : Sl H (av T x) (ivs l)) (hi : av T i = iv j) (hl : l[j]? = some z) (hk : ∀ p, At H p (iv z) → K p H) : WOp (ENV O) ops o T H K := o_index ho hg hx hi (ivs_get hl) hk
theorem o_indexOwn {t e : TypeId} {x i : Operand} {j : Nat} {b n cap : Nat} (ho : o.op = .indexAddr t x i) (hg : wantedA o ops T = true) [hu : TyS t e] [hs : Cell e]
    (hx : av T x = .slc b 0 n cap) (hi : av T i = iv j) (hl : j < n) (hk : K (.ptr b j) H) : WOp (ENV O) ops o T H K :=
  wop_indexOwn ho hg hu.u hs.s hx hi (Int.natCast_nonneg j) (by omega) (by rw [Int.toNat_natCast, Nat.zero_add]; exact hk)
theorem o_load {t : TypeId} {x : Operand} {v : AV} (ho : o.op = .load t x) (hg : wantedA o ops T = true) [ha : Cell t] (hx : At H (av T x) v) (hk : K v H) : WOp (ENV O) ops o T H K := wop_load ho hg ha.a hx hk
theorem o_store {t : TypeId} {p x : Operand} {b off : Nat} {cs : List AV} {e : TypeId} {gr : Nat} (ho : o.op = .store t p x) (hg : wantedA o ops T = true) [hs : Cell t] (hp : av T p = .ptr b off) (hc : H.get b = some (.cells cs e gr)) (hlt : off < cs.length) (h1 : (av T x).one = true)
    (hk : K (.v undef) (H.set b (some (.cells (cs.set off (av T x)) e gr)))) : WOp (ENV O) ops o T H K := wop_store ho hg hs.s hp hc hlt h1 hk
theorem o_make {t e : TypeId} {l c : Operand} {n : Nat} {z0 : Value} (ho : o.op = .makeSlice t l c) (hg : wantedA o ops T = true) (hl : av T l = iv n) (hc : av T c = iv n) [hu : TyS t e] [hs : Cell e] [hz : Zero e z0] (hn : n ≤ 2 ^ 32) (hr : H.next < 2 ^ 39)
    (hk : K (.slc H.next 0 n n) (H.add (.cells (List.replicate n (.v z0)) e 0))) : WOp (ENV O) ops o T H K :=
  wop_make ho hg hl hc hu.u hz.i hs.s hz.z hz.c (Nat.le_trans (Nat.le_of_ble_eq_true hz.b) (by decide)) hn hr hk
theorem o_alloc {t : TypeId} {z0 : Value} (ho : o.op = .alloc t) (hg : wantedA o ops T = true) [hz : Zero t z0] (hr : H.next < 2 ^ 39) (hk : K (.ptr H.next 0) (H.add (.cells [.v z0] t 0))) : WOp (ENV O) ops o T H K :=
  wop_alloc ho hg hz.z hz.c hr hk
theorem o_append {c : Call} {t xt e e' : TypeId} {s x : Operand} {z0 : Value} {cs : List AV} {v : AV} {bx : Nat} {ex : TypeId} {gx : Nat} (ho : o.op = .call c) (hg : wantedA o ops T = true) (hc : c.callee = .builtin .append) (hargs : c.args.toList = [s, x]) (ht : c.argTypes.toList = [t, xt]) [hu : TyS t e] [hux : TyS xt e']
    [hs : Cell e] [hz : Zero e z0] (hlen : cs.length < 2 ^ 30) (hr : H.next < 2 ^ 39)
    (hx : av T x = .slc bx 0 1 1) (hbx : H.get bx = some (.cells [v] ex gx)) (h1 : v.one = true) (hG : Gr H e (av T s) cs)
    (hk : ∀ r H1, r = .slu H.next 0 (cs.length + 1) 1 → H1.next = H.next + 1 → H1.gl = H.gl → (∀ b, b ≠ H.next → (av T s).own ≠ some b → H1.get b = H.get b) → H1.get H.next = some (.cells (cs ++ [v]) e 1) → Gr H1 e r (cs ++ [v]) → K r H1) : WOp (ENV O) ops o T H K :=
  wop_append1 ho hg hc hargs (arg0 ht) (arg1 ht) hu.u hux.u hz.i hs.s hz.z (by rw [hz.c]; rfl) (Nat.le_of_ble_eq_true hz.b) hlen hr hx hbx h1 hG hk
theorem m_load {i : Nat} {π : List Stp} {K : List AV → Prop} {t : TypeId} {x : Operand} {v : AV} (h1 : ops.toList[i]? = some o) (ho : o.op = .load t x) (hg : wantedA o ops T = true) [ha : Cell t] (hx : At H (av T x) v)
    (hk : WMobs (ENV O) ops π (putA T o.dst v) H K) : WMobs (ENV O) ops (.mob i :: π) T H K := mobs_load h1 ho hg ha.a hx hk
theorem m_indexI {i : Nat} {π : List Stp} {K : List AV → Prop} {t e : TypeId} {x y : Operand} {j : Nat} {l : List Int} {z : Int} (h1 : ops.toList[i]? = some o) (ho : o.op = .indexAddr t x y) (hg : wantedA o ops T = true) [hu : TyS t e] [hs : Cell e]
    (hx : Sl H (av T x) (ivs l)) (hi : av T y = iv j) (hl : l[j]? = some z) (hk : ∀ p, At H p (iv z) → WMobs (ENV O) ops π (putA T o.dst p) H K) : WMobs (ENV O) ops (.mob i :: π) T H K :=
  mobs_index h1 ho hg hu.u hs.s hx hi (Int.natCast_nonneg j) (by rw [Int.toNat_natCast]; exact ivs_get hl) hk
theorem o_build1 {t e : TypeId} {x : Operand} {z0 : Value} (ho : o.op = .buildSlice t 1 #[(0, x)]) (hg : wantedA o ops T = true) [hu : TyS t e] [hs : Cell e] [hz : Zero e z0] (h1 : (av T x).one = true) (hr : H.next < 2 ^ 39)
    (hk : K (.slc H.next 0 1 1) (H.add (.cells [av T x] e 0))) : WOp (ENV O) ops o T H K := by
  refine wop_val (by rw [ho]; rfl) hg (r := .slc H.next 0 1 1) (H' := H.add (.cells [av T x] e 0)) ?_ (Nat.le_succ _) hk
  have hlt : Nat.blt H.next (2 ^ 39) = true := Nat.ble_eq_true_of_le hr
  unfold opEval; rw [ho]
  simp only [ENV, buildSliceA, hu.u, hs.s, hz.z, hz.c]
  rw [if_pos (by decide)]
  simp [fillA, cells_one h1, wr, newA, hlt]
end
theorem zq1 {E : Env} {T : List AV} {H : AH} {ops : Array Oper} {o : Oper} {l : List Oper} {K : List AV → AH → Prop} (hs : (match o.op with | .defer _ => false | _ => true) = true) (hg : wantedA o ops T = false) (hk : WOps E ops l (putA T o.dst (.v undef)) H K) : WOps E ops (o :: l) T H K := wops_cons (wop_skip' hs hg hk)
theorem zq2 {E : Env} {T : List AV} {H : AH} {ops : Array Oper} {o : Oper} {l : List Oper} {K : List AV → AH → Prop} {x : Operand} (ho : o.op = .move x) (hg : wantedA o ops T = true) (hk : WOps E ops l (putA T o.dst (av T x)) H K) : WOps E ops (o :: l) T H K := wops_cons (wop_move ho hg hk)
theorem zq3 {E : Env} {T : List AV} {H : AH} {ops : Array Oper} {o : Oper} {l : List Oper} {K : List AV → AH → Prop} {x : Operand} (ho : o.op = .assign x) (hg : wantedA o ops T = true) (hk : WOps E ops l (putA T o.dst (av T x)) H K) : WOps E ops (o :: l) T H K := wops_cons (wop_assign ho hg hk)
theorem zq4 {E : Env} {T : List AV} {H : AH} {ops : Array Oper} {o : Oper} {l : List Oper} {K : List AV → AH → Prop} {t yt : TypeId} {x y : Operand} {k : IntKind} {a b : Int} {v : Value} (ho : o.op = .binOp .add t x y yt) (hg : wantedA o ops T = true) (hx : av T x = .v (.int k a)) (hy : av T y = .v (.int k b)) (hv : binI .add k k a b = some v) (hk : WOps E ops l (putA T o.dst (.v v)) H K) : WOps E ops (o :: l) T H K := wops_cons (wop_bin ho hg hx hy hv hk)
theorem zq5 {O : CallF} {T : List AV} {H : AH} {ops : Array Oper} {o : Oper} {r : List Oper} {K : List AV → AH → Prop} {c : Call} {t e : TypeId} {x : Operand} {l : List Int} (ho : o.op = .call c) (hg : wantedA o ops T = true) (hc : c.callee = .builtin .len) (hargs : c.args.toList = [x]) (ht : c.argTypes.toList = [t]) [hu : TyS t e] (hx : Sl H (av T x) (ivs l)) (hk : WOps (ENV O) ops r (putA T o.dst (iv l.length)) H K) : WOps (ENV O) ops (o :: r) T H K := wops_cons (o_lenI ho hg hc hargs ht hx hk)
theorem zq6 {O : CallF} {T : List AV} {H : AH} {ops : Array Oper} {o : Oper} {r : List Oper} {K : List AV → AH → Prop} {t : TypeId} {x : Operand} {v : AV} (ho : o.op = .load t x) (hg : wantedA o ops T = true) [ha : Cell t] (hx : At H (av T x) v) (hk : WOps (ENV O) ops r (putA T o.dst v) H K) : WOps (ENV O) ops (o :: r) T H K := wops_cons (o_load ho hg hx hk)
theorem zq7 {E : Env} {T : List AV} {H : AH} {ops : Array Oper} {o : Oper} {l : List Oper} {K : List AV → AH → Prop} {c x y : Operand} {b : Bool} (ho : o.op = .pick c x y) (hg : wantedA o ops T = true) (hc : av T c = .v (.bool b)) (hk : WOps E ops l (putA T o.dst (bif b then av T x else av T y)) H K) : WOps E ops (o :: l) T H K := wops_cons (wop_pick ho hg hc hk)
theorem zq8 {E : Env} {T : List AV} {H : AH} {ops : Array Oper} {o : Oper} {l : List Oper} {K : List AV → AH → Prop} {t : TypeId} {x : Operand} {b : Bool} (ho : o.op = .unOp .not t x) (hg : wantedA o ops T = true) (hx : av T x = .v (.bool b)) (hk : WOps E ops l (putA T o.dst (.v (.bool (!b)))) H K) : WOps E ops (o :: l) T H K := wops_cons (wop_not ho hg hx hk)
theorem zq9 {E : Env} {T : List AV} {H : AH} {ops : Array Oper} {o : Oper} {l : List Oper} {K : List AV → AH → Prop} {x : Operand} {i : Nat} {vs : List AV} {v : AV} (ho : o.op = .extract x i) (hg : wantedA o ops T = true) (hx : av T x = .tup vs) (hv : vs[i]? = some v) (hk : WOps E ops l (putA T o.dst v) H K) : WOps E ops (o :: l) T H K := wops_cons (wop_extract ho hg hx hv hk)
end Go.Ev
namespace Go.Ev
open Go.Proofs
def OkP (l : List Int) : Prop := (∀ (i : Nat) (z : Int), l[i]? = some z → 0 ≤ z ∧ z < l.length) ∧ ∀ (k i : Nat) (z : Int), k < i → l[k]? = some z → l[i]? ≠ some z
theorem l_some {l : List Int} {i : Nat} (h : i < l.length) : ∃ z, l[i]? = some z := ⟨l[i], List.getElem?_eq_getElem h⟩
variable {O : CallF} (hq : Quiet O)
include hq
end Go.Ev
namespace Go.Ev
open Go.Proofs
def firstNZ : List Int → Int
  | [] => 0
  | a :: l => if a = 0 then firstNZ l else a
theorem firstNZ_zero {l : List Int} (h : ∀ (j : Nat) (z : Int), l[j]? = some z → z = 0) : firstNZ l = 0 := by
  induction l with
  | nil => rfl
  | cons a l ih => rw [firstNZ, if_pos (h 0 a rfl)]; exact ih fun j z hj => h (j + 1) z (by simpa using hj)
theorem firstNZ_at {l : List Int} {i : Nat} {y : Int} (h : ∀ (j : Nat) (z : Int), j < i → l[j]? = some z → z = 0) (hi : l[i]? = some y) (hy : y ≠ 0) : firstNZ l = y := by
  induction l generalizing i with
  | nil => simp at hi
  | cons a l ih =>
    cases i with
    | zero => simp at hi; subst hi; rw [firstNZ, if_neg hy]
    | succ i => rw [firstNZ, if_pos (h 0 a (Nat.succ_pos _) rfl)]; exact ih (fun j z hj hz => h (j + 1) z (Nat.succ_lt_succ hj) (by simpa using hz)) (by simpa using hi)
variable {O : CallF} (hq : Quiet O)
include hq
theorem c11 (H : AH) (b : Bool) (e : Int) (K : AV → AH → Prop) (hk : K (iv (if b = true then e else 0)) H) : Ca (ENV O) 11 [.v (.bool b), iv e] H K := by
  refine ca_intro (hq _ _ _ rfl) (fn := Tryz.f11) (by rfl) rfl ?_
  cases b with
  | true =>
    repeat (first | refine wops_nil ?_ | refine zq1 rfl rfl ?_ | refine zq2 rfl rfl ?_ | refine zq3 rfl rfl ?_ | refine zq4 rfl rfl rfl rfl (inc (by omega)) ?_ | refine zq5 rfl rfl rfl rfl rfl (by assumption) ?_ | refine zq6 rfl rfl (by assumption) ?_ | refine zq7 rfl rfl rfl ?_ | refine zq8 rfl rfl rfl ?_ | refine zq9 rfl rfl rfl rfl ?_ | refine mobs_move rfl rfl rfl ?_ | refine m_load rfl rfl rfl (by assumption) ?_ | refine mobs_nil ?_ | refine wd_nil ?_ | refine wd_skip rfl rfl ?_ | refine wd_loudSkip rfl rfl ?_ | refine wd_move rfl rfl rfl ?_ | refine wd_assign rfl rfl rfl ?_ | refine wd_pick rfl rfl rfl rfl ?_ | refine d_load rfl rfl rfl (by assumption) ?_ | refine d_lenI rfl rfl rfl rfl rfl rfl (by assumption) ?_ | refine wp_condT rfl ?_ | refine wp_condF rfl ?_ | refine wp_region ?_ | refine wp_seq ?_ | refine wp_skip ?_ | refine wp_exit ?_ | refine wp_block ?_)
    refine wp_ret ?_
    exact ⟨_, _, rfl, hk⟩
  | false =>
    repeat (first | refine wops_nil ?_ | refine zq1 rfl rfl ?_ | refine zq2 rfl rfl ?_ | refine zq3 rfl rfl ?_ | refine zq4 rfl rfl rfl rfl (inc (by omega)) ?_ | refine zq5 rfl rfl rfl rfl rfl (by assumption) ?_ | refine zq6 rfl rfl (by assumption) ?_ | refine zq7 rfl rfl rfl ?_ | refine zq8 rfl rfl rfl ?_ | refine zq9 rfl rfl rfl rfl ?_ | refine mobs_move rfl rfl rfl ?_ | refine m_load rfl rfl rfl (by assumption) ?_ | refine mobs_nil ?_ | refine wd_nil ?_ | refine wd_skip rfl rfl ?_ | refine wd_loudSkip rfl rfl ?_ | refine wd_move rfl rfl rfl ?_ | refine wd_assign rfl rfl rfl ?_ | refine wd_pick rfl rfl rfl rfl ?_ | refine d_load rfl rfl rfl (by assumption) ?_ | refine d_lenI rfl rfl rfl rfl rfl rfl (by assumption) ?_ | refine wp_condT rfl ?_ | refine wp_condF rfl ?_ | refine wp_region ?_ | refine wp_seq ?_ | refine wp_skip ?_ | refine wp_exit ?_ | refine wp_block ?_)
    refine wp_ret ?_
    exact ⟨_, _, rfl, hk⟩
theorem c10 (H : AH) (x : AV) (l : List Int) (hx : Sl H x (ivs l)) (hlen : l.length ≤ 1000) (K : AV → AH → Prop) (hk : K (iv (firstNZ l)) H) : Ca (ENV O) 10 [x] H K := by
  refine ca_intro (hq _ _ _ rfl) (fn := Tryz.f10) (by rfl) rfl ?_
  repeat (first | refine wops_nil ?_ | refine zq1 rfl rfl ?_ | refine zq2 rfl rfl ?_ | refine zq3 rfl rfl ?_ | refine zq4 rfl rfl rfl rfl (inc (by omega)) ?_ | refine zq5 rfl rfl rfl rfl rfl (by assumption) ?_ | refine zq6 rfl rfl (by assumption) ?_ | refine zq7 rfl rfl rfl ?_ | refine zq8 rfl rfl rfl ?_ | refine zq9 rfl rfl rfl rfl ?_ | refine mobs_move rfl rfl rfl ?_ | refine m_load rfl rfl rfl (by assumption) ?_ | refine mobs_nil ?_ | refine wd_nil ?_ | refine wd_skip rfl rfl ?_ | refine wd_loudSkip rfl rfl ?_ | refine wd_move rfl rfl rfl ?_ | refine wd_assign rfl rfl rfl ?_ | refine wd_pick rfl rfl rfl rfl ?_ | refine d_load rfl rfl rfl (by assumption) ?_ | refine d_lenI rfl rfl rfl rfl rfl rfl (by assumption) ?_ | refine wp_condT rfl ?_ | refine wp_condF rfl ?_ | refine wp_region ?_ | refine wp_seq ?_ | refine wp_skip ?_ | refine wp_exit ?_ | refine wp_block ?_)
  refine wp_loop (fun k T M H' => ∃ (i : Nat) (Y : List AV), k = l.length - i ∧ i ≤ l.length ∧ (∀ (j : Nat) (z : Int), j < i → l[j]? = some z → z = 0) ∧ M = [] ∧ H' = H ∧ T = (x :: lget Y 0 :: iv 0 :: iv (i : Nat) :: lget Y 1 :: lget Y 2 :: lget Y 3 :: lget Y 4 :: lget Y 5 :: lget Y 6 :: lget Y 7 :: lget Y 8 :: lget Y 9 :: lget Y 10 :: lget Y 11 :: lget Y 12 :: lget Y 13 :: lget Y 14 :: lget Y 15 :: [])) l.length
    ⟨0, [_,_,_,_,_,_,_,_,_,_,_,_,_,_,_,_], rfl, Nat.zero_le _, fun j z h => absurd h (by omega), rfl, rfl, rfl⟩ ?_
  rintro k T M H' ⟨i, Y, hk1, hi, hr, rfl, rfl, rfl⟩
  repeat (first | refine wops_nil ?_ | refine zq1 rfl rfl ?_ | refine zq2 rfl rfl ?_ | refine zq3 rfl rfl ?_ | refine zq4 rfl rfl rfl rfl (inc (by omega)) ?_ | refine zq5 rfl rfl rfl rfl rfl (by assumption) ?_ | refine zq6 rfl rfl (by assumption) ?_ | refine zq7 rfl rfl rfl ?_ | refine zq8 rfl rfl rfl ?_ | refine zq9 rfl rfl rfl rfl ?_ | refine mobs_move rfl rfl rfl ?_ | refine m_load rfl rfl rfl (by assumption) ?_ | refine mobs_nil ?_ | refine wd_nil ?_ | refine wd_skip rfl rfl ?_ | refine wd_loudSkip rfl rfl ?_ | refine wd_move rfl rfl rfl ?_ | refine wd_assign rfl rfl rfl ?_ | refine wd_pick rfl rfl rfl rfl ?_ | refine d_load rfl rfl rfl (by assumption) ?_ | refine d_lenI rfl rfl rfl rfl rfl rfl (by assumption) ?_ | refine wp_condT rfl ?_ | refine wp_condF rfl ?_ | refine wp_region ?_ | refine wp_seq ?_ | refine wp_skip ?_ | refine wp_exit ?_ | refine wp_block ?_)
  refine wops_cons (wop_cmp rfl rfl rfl rfl rfl (fun h => ?_) (fun h => ?_))
  rotate_left
  · repeat (first | refine wops_nil ?_ | refine zq1 rfl rfl ?_ | refine zq2 rfl rfl ?_ | refine zq3 rfl rfl ?_ | refine zq4 rfl rfl rfl rfl (inc (by omega)) ?_ | refine zq5 rfl rfl rfl rfl rfl (by assumption) ?_ | refine zq6 rfl rfl (by assumption) ?_ | refine zq7 rfl rfl rfl ?_ | refine zq8 rfl rfl rfl ?_ | refine zq9 rfl rfl rfl rfl ?_ | refine mobs_move rfl rfl rfl ?_ | refine m_load rfl rfl rfl (by assumption) ?_ | refine mobs_nil ?_ | refine wd_nil ?_ | refine wd_skip rfl rfl ?_ | refine wd_loudSkip rfl rfl ?_ | refine wd_move rfl rfl rfl ?_ | refine wd_assign rfl rfl rfl ?_ | refine wd_pick rfl rfl rfl rfl ?_ | refine d_load rfl rfl rfl (by assumption) ?_ | refine d_lenI rfl rfl rfl rfl rfl rfl (by assumption) ?_ | refine wp_condT rfl ?_ | refine wp_condF rfl ?_ | refine wp_region ?_ | refine wp_seq ?_ | refine wp_skip ?_ | refine wp_exit ?_ | refine wp_block ?_)
    refine wp_ret ?_
    refine ⟨_, _, rfl, ?_⟩
    have h : ¬ ((i : Int) < l.length) := of_decide_eq_false h
    have : i = l.length := by omega
    subst this
    rw [firstNZ_zero fun j z hj => hr j z (List.getElem?_eq_some_iff.1 hj).1 hj] at hk
    exact hk
  have h : (i : Int) < l.length := of_decide_eq_true h
  obtain ⟨z, hz⟩ := l_some (show i < l.length by omega)
  repeat (first | refine wops_nil ?_ | refine zq1 rfl rfl ?_ | refine zq2 rfl rfl ?_ | refine zq3 rfl rfl ?_ | refine zq4 rfl rfl rfl rfl (inc (by omega)) ?_ | refine zq5 rfl rfl rfl rfl rfl (by assumption) ?_ | refine zq6 rfl rfl (by assumption) ?_ | refine zq7 rfl rfl rfl ?_ | refine zq8 rfl rfl rfl ?_ | refine zq9 rfl rfl rfl rfl ?_ | refine mobs_move rfl rfl rfl ?_ | refine m_load rfl rfl rfl (by assumption) ?_ | refine mobs_nil ?_ | refine wd_nil ?_ | refine wd_skip rfl rfl ?_ | refine wd_loudSkip rfl rfl ?_ | refine wd_move rfl rfl rfl ?_ | refine wd_assign rfl rfl rfl ?_ | refine wd_pick rfl rfl rfl rfl ?_ | refine d_load rfl rfl rfl (by assumption) ?_ | refine d_lenI rfl rfl rfl rfl rfl rfl (by assumption) ?_ | refine wp_condT rfl ?_ | refine wp_condF rfl ?_ | refine wp_region ?_ | refine wp_seq ?_ | refine wp_skip ?_ | refine wp_exit ?_ | refine wp_block ?_)
  refine wops_cons (o_indexI rfl rfl hx rfl hz fun p hp => ?_)
  repeat (first | refine wops_nil ?_ | refine zq1 rfl rfl ?_ | refine zq2 rfl rfl ?_ | refine zq3 rfl rfl ?_ | refine zq4 rfl rfl rfl rfl (inc (by omega)) ?_ | refine zq5 rfl rfl rfl rfl rfl (by assumption) ?_ | refine zq6 rfl rfl (by assumption) ?_ | refine zq7 rfl rfl rfl ?_ | refine zq8 rfl rfl rfl ?_ | refine zq9 rfl rfl rfl rfl ?_ | refine mobs_move rfl rfl rfl ?_ | refine m_load rfl rfl rfl (by assumption) ?_ | refine mobs_nil ?_ | refine wd_nil ?_ | refine wd_skip rfl rfl ?_ | refine wd_loudSkip rfl rfl ?_ | refine wd_move rfl rfl rfl ?_ | refine wd_assign rfl rfl rfl ?_ | refine wd_pick rfl rfl rfl rfl ?_ | refine d_load rfl rfl rfl (by assumption) ?_ | refine d_lenI rfl rfl rfl rfl rfl rfl (by assumption) ?_ | refine wp_condT rfl ?_ | refine wp_condF rfl ?_ | refine wp_region ?_ | refine wp_seq ?_ | refine wp_skip ?_ | refine wp_exit ?_ | refine wp_block ?_)
  refine wops_cons (wop_cmp rfl rfl rfl rfl rfl (fun h => ?_) (fun h => ?_))
  · have hz0 : z ≠ 0 := by simpa using h
    repeat (first | refine wops_nil ?_ | refine zq1 rfl rfl ?_ | refine zq2 rfl rfl ?_ | refine zq3 rfl rfl ?_ | refine zq4 rfl rfl rfl rfl (inc (by omega)) ?_ | refine zq5 rfl rfl rfl rfl rfl (by assumption) ?_ | refine zq6 rfl rfl (by assumption) ?_ | refine zq7 rfl rfl rfl ?_ | refine zq8 rfl rfl rfl ?_ | refine zq9 rfl rfl rfl rfl ?_ | refine mobs_move rfl rfl rfl ?_ | refine m_load rfl rfl rfl (by assumption) ?_ | refine mobs_nil ?_ | refine wd_nil ?_ | refine wd_skip rfl rfl ?_ | refine wd_loudSkip rfl rfl ?_ | refine wd_move rfl rfl rfl ?_ | refine wd_assign rfl rfl rfl ?_ | refine wd_pick rfl rfl rfl rfl ?_ | refine d_load rfl rfl rfl (by assumption) ?_ | refine d_lenI rfl rfl rfl rfl rfl rfl (by assumption) ?_ | refine wp_condT rfl ?_ | refine wp_condF rfl ?_ | refine wp_region ?_ | refine wp_seq ?_ | refine wp_skip ?_ | refine wp_exit ?_ | refine wp_block ?_)
    refine wops_cons (o_indexI rfl rfl hx rfl hz fun p hp => ?_)
    repeat (first | refine wops_nil ?_ | refine zq1 rfl rfl ?_ | refine zq2 rfl rfl ?_ | refine zq3 rfl rfl ?_ | refine zq4 rfl rfl rfl rfl (inc (by omega)) ?_ | refine zq5 rfl rfl rfl rfl rfl (by assumption) ?_ | refine zq6 rfl rfl (by assumption) ?_ | refine zq7 rfl rfl rfl ?_ | refine zq8 rfl rfl rfl ?_ | refine zq9 rfl rfl rfl rfl ?_ | refine mobs_move rfl rfl rfl ?_ | refine m_load rfl rfl rfl (by assumption) ?_ | refine mobs_nil ?_ | refine wd_nil ?_ | refine wd_skip rfl rfl ?_ | refine wd_loudSkip rfl rfl ?_ | refine wd_move rfl rfl rfl ?_ | refine wd_assign rfl rfl rfl ?_ | refine wd_pick rfl rfl rfl rfl ?_ | refine d_load rfl rfl rfl (by assumption) ?_ | refine d_lenI rfl rfl rfl rfl rfl rfl (by assumption) ?_ | refine wp_condT rfl ?_ | refine wp_condF rfl ?_ | refine wp_region ?_ | refine wp_seq ?_ | refine wp_skip ?_ | refine wp_exit ?_ | refine wp_block ?_)
    refine wp_ret ?_
    refine ⟨_, _, rfl, ?_⟩
    rw [firstNZ_at hr hz hz0] at hk
    exact hk
  have hz0 : z = 0 := by simpa using h
  repeat (first | refine wops_nil ?_ | refine zq1 rfl rfl ?_ | refine zq2 rfl rfl ?_ | refine zq3 rfl rfl ?_ | refine zq4 rfl rfl rfl rfl (inc (by omega)) ?_ | refine zq5 rfl rfl rfl rfl rfl (by assumption) ?_ | refine zq6 rfl rfl (by assumption) ?_ | refine zq7 rfl rfl rfl ?_ | refine zq8 rfl rfl rfl ?_ | refine zq9 rfl rfl rfl rfl ?_ | refine mobs_move rfl rfl rfl ?_ | refine m_load rfl rfl rfl (by assumption) ?_ | refine mobs_nil ?_ | refine wd_nil ?_ | refine wd_skip rfl rfl ?_ | refine wd_loudSkip rfl rfl ?_ | refine wd_move rfl rfl rfl ?_ | refine wd_assign rfl rfl rfl ?_ | refine wd_pick rfl rfl rfl rfl ?_ | refine d_load rfl rfl rfl (by assumption) ?_ | refine d_lenI rfl rfl rfl rfl rfl rfl (by assumption) ?_ | refine wp_condT rfl ?_ | refine wp_condF rfl ?_ | refine wp_region ?_ | refine wp_seq ?_ | refine wp_skip ?_ | refine wp_exit ?_ | refine wp_block ?_)
  refine ⟨l.length - (i + 1), by omega, i + 1, [_,_,_,_,_,_,_,_,_,_,_,_,_,_,_,_], rfl, by omega, fun q y hq1 hq2 => ?_, rfl, rfl, rfl⟩
  by_cases e : q = i
  · subst e; rw [hz] at hq2; cases hq2; exact hz0
  · exact hr q y (by omega) hq2
theorem c32 (H : AH) (x y : AV) (l m : List Int) (hx : Sl H x (ivs l)) (hy : Sl H y (ivs m)) (hlen : l.length ≤ 100000) (K : AV → AH → Prop) (hk : K (.v (.bool (decide (l = m)))) H) : Ca (ENV O) 32 [x, y] H K := by
  refine ca_intro (hq _ _ _ rfl) (fn := Tryz.f32) (by rfl) rfl ?_
  repeat (first | refine wops_nil ?_ | refine zq1 rfl rfl ?_ | refine zq2 rfl rfl ?_ | refine zq3 rfl rfl ?_ | refine zq4 rfl rfl rfl rfl (inc (by omega)) ?_ | refine zq5 rfl rfl rfl rfl rfl (by assumption) ?_ | refine zq6 rfl rfl (by assumption) ?_ | refine zq7 rfl rfl rfl ?_ | refine zq8 rfl rfl rfl ?_ | refine zq9 rfl rfl rfl rfl ?_ | refine mobs_move rfl rfl rfl ?_ | refine m_load rfl rfl rfl (by assumption) ?_ | refine mobs_nil ?_ | refine wd_nil ?_ | refine wd_skip rfl rfl ?_ | refine wd_loudSkip rfl rfl ?_ | refine wd_move rfl rfl rfl ?_ | refine wd_assign rfl rfl rfl ?_ | refine wd_pick rfl rfl rfl rfl ?_ | refine d_load rfl rfl rfl (by assumption) ?_ | refine d_lenI rfl rfl rfl rfl rfl rfl (by assumption) ?_ | refine wp_condT rfl ?_ | refine wp_condF rfl ?_ | refine wp_region ?_ | refine wp_seq ?_ | refine wp_skip ?_ | refine wp_exit ?_ | refine wp_block ?_)
  refine wops_cons (wop_cmp rfl rfl rfl rfl rfl (fun h => ?_) (fun h => ?_))
  · have h : (l.length : Int) ≠ m.length := by simpa using h
    repeat (first | refine wops_nil ?_ | refine zq1 rfl rfl ?_ | refine zq2 rfl rfl ?_ | refine zq3 rfl rfl ?_ | refine zq4 rfl rfl rfl rfl (inc (by omega)) ?_ | refine zq5 rfl rfl rfl rfl rfl (by assumption) ?_ | refine zq6 rfl rfl (by assumption) ?_ | refine zq7 rfl rfl rfl ?_ | refine zq8 rfl rfl rfl ?_ | refine zq9 rfl rfl rfl rfl ?_ | refine mobs_move rfl rfl rfl ?_ | refine m_load rfl rfl rfl (by assumption) ?_ | refine mobs_nil ?_ | refine wd_nil ?_ | refine wd_skip rfl rfl ?_ | refine wd_loudSkip rfl rfl ?_ | refine wd_move rfl rfl rfl ?_ | refine wd_assign rfl rfl rfl ?_ | refine wd_pick rfl rfl rfl rfl ?_ | refine d_load rfl rfl rfl (by assumption) ?_ | refine d_lenI rfl rfl rfl rfl rfl rfl (by assumption) ?_ | refine wp_condT rfl ?_ | refine wp_condF rfl ?_ | refine wp_region ?_ | refine wp_seq ?_ | refine wp_skip ?_ | refine wp_exit ?_ | refine wp_block ?_)
    refine wp_ret ?_
    refine ⟨_, _, rfl, ?_⟩
    rw [decide_eq_false (show ¬ l = m from fun e => h (by rw [e]))] at hk
    exact hk
  have hlm : (l.length : Int) = m.length := by simpa using h
  repeat (first | refine wops_nil ?_ | refine zq1 rfl rfl ?_ | refine zq2 rfl rfl ?_ | refine zq3 rfl rfl ?_ | refine zq4 rfl rfl rfl rfl (inc (by omega)) ?_ | refine zq5 rfl rfl rfl rfl rfl (by assumption) ?_ | refine zq6 rfl rfl (by assumption) ?_ | refine zq7 rfl rfl rfl ?_ | refine zq8 rfl rfl rfl ?_ | refine zq9 rfl rfl rfl rfl ?_ | refine mobs_move rfl rfl rfl ?_ | refine m_load rfl rfl rfl (by assumption) ?_ | refine mobs_nil ?_ | refine wd_nil ?_ | refine wd_skip rfl rfl ?_ | refine wd_loudSkip rfl rfl ?_ | refine wd_move rfl rfl rfl ?_ | refine wd_assign rfl rfl rfl ?_ | refine wd_pick rfl rfl rfl rfl ?_ | refine d_load rfl rfl rfl (by assumption) ?_ | refine d_lenI rfl rfl rfl rfl rfl rfl (by assumption) ?_ | refine wp_condT rfl ?_ | refine wp_condF rfl ?_ | refine wp_region ?_ | refine wp_seq ?_ | refine wp_skip ?_ | refine wp_exit ?_ | refine wp_block ?_)
  refine wp_loop (fun k T M H' => ∃ (i : Nat) (Y : List AV), k = l.length - i ∧ i ≤ l.length ∧ (∀ (j : Nat), j < i → l[j]? = m[j]?) ∧ M = [] ∧ H' = H ∧ T = (x :: y :: lget Y 0 :: lget Y 1 :: .v (.bool false) :: iv (i : Nat) :: lget Y 2 :: lget Y 3 :: lget Y 4 :: lget Y 5 :: lget Y 6 :: lget Y 7 :: lget Y 8 :: lget Y 9 :: lget Y 10 :: lget Y 11 :: lget Y 12 :: lget Y 13 :: lget Y 14 :: lget Y 15 :: lget Y 16 :: lget Y 17 :: lget Y 18 :: lget Y 19 :: lget Y 20 :: lget Y 21 :: [])) l.length
    ⟨0, [_,_,_,_,_,_,_,_,_,_,_,_,_,_,_,_,_,_,_,_,_,_], rfl, Nat.zero_le _, fun j h => absurd h (by omega), rfl, rfl, rfl⟩ ?_
  rintro k T M H' ⟨i, Y, hk1, hi, hr, rfl, rfl, rfl⟩
  repeat (first | refine wops_nil ?_ | refine zq1 rfl rfl ?_ | refine zq2 rfl rfl ?_ | refine zq3 rfl rfl ?_ | refine zq4 rfl rfl rfl rfl (inc (by omega)) ?_ | refine zq5 rfl rfl rfl rfl rfl (by assumption) ?_ | refine zq6 rfl rfl (by assumption) ?_ | refine zq7 rfl rfl rfl ?_ | refine zq8 rfl rfl rfl ?_ | refine zq9 rfl rfl rfl rfl ?_ | refine mobs_move rfl rfl rfl ?_ | refine m_load rfl rfl rfl (by assumption) ?_ | refine mobs_nil ?_ | refine wd_nil ?_ | refine wd_skip rfl rfl ?_ | refine wd_loudSkip rfl rfl ?_ | refine wd_move rfl rfl rfl ?_ | refine wd_assign rfl rfl rfl ?_ | refine wd_pick rfl rfl rfl rfl ?_ | refine d_load rfl rfl rfl (by assumption) ?_ | refine d_lenI rfl rfl rfl rfl rfl rfl (by assumption) ?_ | refine wp_condT rfl ?_ | refine wp_condF rfl ?_ | refine wp_region ?_ | refine wp_seq ?_ | refine wp_skip ?_ | refine wp_exit ?_ | refine wp_block ?_)
  refine wops_cons (wop_cmp rfl rfl rfl rfl rfl (fun h => ?_) (fun h => ?_))
  rotate_left
  · repeat (first | refine wops_nil ?_ | refine zq1 rfl rfl ?_ | refine zq2 rfl rfl ?_ | refine zq3 rfl rfl ?_ | refine zq4 rfl rfl rfl rfl (inc (by omega)) ?_ | refine zq5 rfl rfl rfl rfl rfl (by assumption) ?_ | refine zq6 rfl rfl (by assumption) ?_ | refine zq7 rfl rfl rfl ?_ | refine zq8 rfl rfl rfl ?_ | refine zq9 rfl rfl rfl rfl ?_ | refine mobs_move rfl rfl rfl ?_ | refine m_load rfl rfl rfl (by assumption) ?_ | refine mobs_nil ?_ | refine wd_nil ?_ | refine wd_skip rfl rfl ?_ | refine wd_loudSkip rfl rfl ?_ | refine wd_move rfl rfl rfl ?_ | refine wd_assign rfl rfl rfl ?_ | refine wd_pick rfl rfl rfl rfl ?_ | refine d_load rfl rfl rfl (by assumption) ?_ | refine d_lenI rfl rfl rfl rfl rfl rfl (by assumption) ?_ | refine wp_condT rfl ?_ | refine wp_condF rfl ?_ | refine wp_region ?_ | refine wp_seq ?_ | refine wp_skip ?_ | refine wp_exit ?_ | refine wp_block ?_)
    refine wp_ret ?_
    refine ⟨_, _, rfl, ?_⟩
    have h : ¬ ((i : Int) < l.length) := of_decide_eq_false h
    have : i = l.length := by omega
    subst this
    have e : l = m := List.ext_getElem? fun j => by
      rcases Nat.lt_or_ge j l.length with hj | hj
      · exact hr j hj
      · rw [List.getElem?_eq_none hj, List.getElem?_eq_none (by omega)]
    rw [decide_eq_true e] at hk
    exact hk
  have h : (i : Int) < l.length := of_decide_eq_true h
  obtain ⟨z, hz⟩ := l_some (show i < l.length by omega)
  obtain ⟨z2, hz2⟩ := l_some (l := m) (show i < m.length by omega)
  repeat (first | refine wops_nil ?_ | refine zq1 rfl rfl ?_ | refine zq2 rfl rfl ?_ | refine zq3 rfl rfl ?_ | refine zq4 rfl rfl rfl rfl (inc (by omega)) ?_ | refine zq5 rfl rfl rfl rfl rfl (by assumption) ?_ | refine zq6 rfl rfl (by assumption) ?_ | refine zq7 rfl rfl rfl ?_ | refine zq8 rfl rfl rfl ?_ | refine zq9 rfl rfl rfl rfl ?_ | refine mobs_move rfl rfl rfl ?_ | refine m_load rfl rfl rfl (by assumption) ?_ | refine mobs_nil ?_ | refine wd_nil ?_ | refine wd_skip rfl rfl ?_ | refine wd_loudSkip rfl rfl ?_ | refine wd_move rfl rfl rfl ?_ | refine wd_assign rfl rfl rfl ?_ | refine wd_pick rfl rfl rfl rfl ?_ | refine d_load rfl rfl rfl (by assumption) ?_ | refine d_lenI rfl rfl rfl rfl rfl rfl (by assumption) ?_ | refine wp_condT rfl ?_ | refine wp_condF rfl ?_ | refine wp_region ?_ | refine wp_seq ?_ | refine wp_skip ?_ | refine wp_exit ?_ | refine wp_block ?_)
  refine wp_draw rfl ?_
  repeat (first | refine wops_nil ?_ | refine zq1 rfl rfl ?_ | refine zq2 rfl rfl ?_ | refine zq3 rfl rfl ?_ | refine zq4 rfl rfl rfl rfl (inc (by omega)) ?_ | refine zq5 rfl rfl rfl rfl rfl (by assumption) ?_ | refine zq6 rfl rfl (by assumption) ?_ | refine zq7 rfl rfl rfl ?_ | refine zq8 rfl rfl rfl ?_ | refine zq9 rfl rfl rfl rfl ?_ | refine mobs_move rfl rfl rfl ?_ | refine m_load rfl rfl rfl (by assumption) ?_ | refine mobs_nil ?_ | refine wd_nil ?_ | refine wd_skip rfl rfl ?_ | refine wd_loudSkip rfl rfl ?_ | refine wd_move rfl rfl rfl ?_ | refine wd_assign rfl rfl rfl ?_ | refine wd_pick rfl rfl rfl rfl ?_ | refine d_load rfl rfl rfl (by assumption) ?_ | refine d_lenI rfl rfl rfl rfl rfl rfl (by assumption) ?_ | refine wp_condT rfl ?_ | refine wp_condF rfl ?_ | refine wp_region ?_ | refine wp_seq ?_ | refine wp_skip ?_ | refine wp_exit ?_ | refine wp_block ?_)
  refine m_indexI rfl rfl rfl hx rfl hz fun p hp => ?_
  repeat (first | refine wops_nil ?_ | refine zq1 rfl rfl ?_ | refine zq2 rfl rfl ?_ | refine zq3 rfl rfl ?_ | refine zq4 rfl rfl rfl rfl (inc (by omega)) ?_ | refine zq5 rfl rfl rfl rfl rfl (by assumption) ?_ | refine zq6 rfl rfl (by assumption) ?_ | refine zq7 rfl rfl rfl ?_ | refine zq8 rfl rfl rfl ?_ | refine zq9 rfl rfl rfl rfl ?_ | refine mobs_move rfl rfl rfl ?_ | refine m_load rfl rfl rfl (by assumption) ?_ | refine mobs_nil ?_ | refine wd_nil ?_ | refine wd_skip rfl rfl ?_ | refine wd_loudSkip rfl rfl ?_ | refine wd_move rfl rfl rfl ?_ | refine wd_assign rfl rfl rfl ?_ | refine wd_pick rfl rfl rfl rfl ?_ | refine d_load rfl rfl rfl (by assumption) ?_ | refine d_lenI rfl rfl rfl rfl rfl rfl (by assumption) ?_ | refine wp_condT rfl ?_ | refine wp_condF rfl ?_ | refine wp_region ?_ | refine wp_seq ?_ | refine wp_skip ?_ | refine wp_exit ?_ | refine wp_block ?_)
  refine m_indexI rfl rfl rfl hy rfl hz2 fun p hp => ?_
  repeat (first | refine wops_nil ?_ | refine zq1 rfl rfl ?_ | refine zq2 rfl rfl ?_ | refine zq3 rfl rfl ?_ | refine zq4 rfl rfl rfl rfl (inc (by omega)) ?_ | refine zq5 rfl rfl rfl rfl rfl (by assumption) ?_ | refine zq6 rfl rfl (by assumption) ?_ | refine zq7 rfl rfl rfl ?_ | refine zq8 rfl rfl rfl ?_ | refine zq9 rfl rfl rfl rfl ?_ | refine mobs_move rfl rfl rfl ?_ | refine m_load rfl rfl rfl (by assumption) ?_ | refine mobs_nil ?_ | refine wd_nil ?_ | refine wd_skip rfl rfl ?_ | refine wd_loudSkip rfl rfl ?_ | refine wd_move rfl rfl rfl ?_ | refine wd_assign rfl rfl rfl ?_ | refine wd_pick rfl rfl rfl rfl ?_ | refine d_load rfl rfl rfl (by assumption) ?_ | refine d_lenI rfl rfl rfl rfl rfl rfl (by assumption) ?_ | refine wp_condT rfl ?_ | refine wp_condF rfl ?_ | refine wp_region ?_ | refine wp_seq ?_ | refine wp_skip ?_ | refine wp_exit ?_ | refine wp_block ?_)
  refine mobs_cmp rfl rfl rfl rfl rfl rfl (fun h => ?_) (fun h => ?_)
  · have e : z ≠ z2 := by simpa using h
    repeat (first | refine wops_nil ?_ | refine zq1 rfl rfl ?_ | refine zq2 rfl rfl ?_ | refine zq3 rfl rfl ?_ | refine zq4 rfl rfl rfl rfl (inc (by omega)) ?_ | refine zq5 rfl rfl rfl rfl rfl (by assumption) ?_ | refine zq6 rfl rfl (by assumption) ?_ | refine zq7 rfl rfl rfl ?_ | refine zq8 rfl rfl rfl ?_ | refine zq9 rfl rfl rfl rfl ?_ | refine mobs_move rfl rfl rfl ?_ | refine m_load rfl rfl rfl (by assumption) ?_ | refine mobs_nil ?_ | refine wd_nil ?_ | refine wd_skip rfl rfl ?_ | refine wd_loudSkip rfl rfl ?_ | refine wd_move rfl rfl rfl ?_ | refine wd_assign rfl rfl rfl ?_ | refine wd_pick rfl rfl rfl rfl ?_ | refine d_load rfl rfl rfl (by assumption) ?_ | refine d_lenI rfl rfl rfl rfl rfl rfl (by assumption) ?_ | refine wp_condT rfl ?_ | refine wp_condF rfl ?_ | refine wp_region ?_ | refine wp_seq ?_ | refine wp_skip ?_ | refine wp_exit ?_ | refine wp_block ?_)
    refine wp_ret ?_
    refine ⟨_, _, rfl, ?_⟩
    rw [decide_eq_false (show ¬ l = m from fun e' => e (by rw [e', hz2] at hz; cases hz; rfl))] at hk
    exact hk
  have e : z = z2 := by simpa using h
  repeat (first | refine wops_nil ?_ | refine zq1 rfl rfl ?_ | refine zq2 rfl rfl ?_ | refine zq3 rfl rfl ?_ | refine zq4 rfl rfl rfl rfl (inc (by omega)) ?_ | refine zq5 rfl rfl rfl rfl rfl (by assumption) ?_ | refine zq6 rfl rfl (by assumption) ?_ | refine zq7 rfl rfl rfl ?_ | refine zq8 rfl rfl rfl ?_ | refine zq9 rfl rfl rfl rfl ?_ | refine mobs_move rfl rfl rfl ?_ | refine m_load rfl rfl rfl (by assumption) ?_ | refine mobs_nil ?_ | refine wd_nil ?_ | refine wd_skip rfl rfl ?_ | refine wd_loudSkip rfl rfl ?_ | refine wd_move rfl rfl rfl ?_ | refine wd_assign rfl rfl rfl ?_ | refine wd_pick rfl rfl rfl rfl ?_ | refine d_load rfl rfl rfl (by assumption) ?_ | refine d_lenI rfl rfl rfl rfl rfl rfl (by assumption) ?_ | refine wp_condT rfl ?_ | refine wp_condF rfl ?_ | refine wp_region ?_ | refine wp_seq ?_ | refine wp_skip ?_ | refine wp_exit ?_ | refine wp_block ?_)
  refine ⟨l.length - (i + 1), by omega, i + 1, [_,_,_,_,_,_,_,_,_,_,_,_,_,_,_,_,_,_,_,_,_,_], rfl, by omega, fun q hq1 => ?_, rfl, rfl, rfl⟩
  by_cases e' : q = i
  · subst e'; rw [hz, hz2, e]
  · exact hr q (by omega)
def listB (l : List Int) (e bad : Int) (m : List Int) : Bool := if bad = 0 then decide (e = 0) && decide (l = m) else decide (l.length = 0) && decide (e = bad)
theorem c15 (H : AH) (x y : AV) (l m : List Int) (e bad : Int) (hx : Sl H x (ivs l)) (hy : Sl H y (ivs m)) (hlen : l.length ≤ 100000) (K : AV → AH → Prop) (hk : K (.v (.bool (listB l e bad m))) H) : Ca (ENV O) 15 [x, iv e, iv bad, y] H K := by
  refine ca_intro (hq _ _ _ rfl) (fn := Tryz.f15) (by rfl) rfl ?_
  repeat (first | refine wops_nil ?_ | refine zq1 rfl rfl ?_ | refine zq2 rfl rfl ?_ | refine zq3 rfl rfl ?_ | refine zq4 rfl rfl rfl rfl (inc (by omega)) ?_ | refine zq5 rfl rfl rfl rfl rfl (by assumption) ?_ | refine zq6 rfl rfl (by assumption) ?_ | refine zq7 rfl rfl rfl ?_ | refine zq8 rfl rfl rfl ?_ | refine zq9 rfl rfl rfl rfl ?_ | refine mobs_move rfl rfl rfl ?_ | refine m_load rfl rfl rfl (by assumption) ?_ | refine mobs_nil ?_ | refine wd_nil ?_ | refine wd_skip rfl rfl ?_ | refine wd_loudSkip rfl rfl ?_ | refine wd_move rfl rfl rfl ?_ | refine wd_assign rfl rfl rfl ?_ | refine wd_pick rfl rfl rfl rfl ?_ | refine d_load rfl rfl rfl (by assumption) ?_ | refine d_lenI rfl rfl rfl rfl rfl rfl (by assumption) ?_ | refine wp_condT rfl ?_ | refine wp_condF rfl ?_ | refine wp_region ?_ | refine wp_seq ?_ | refine wp_skip ?_ | refine wp_exit ?_ | refine wp_block ?_)
  refine wops_cons (wop_cmp rfl rfl rfl rfl rfl (fun h => ?_) (fun h => ?_))
  · have h : bad ≠ 0 := by simpa using h
    rw [listB, if_neg h] at hk
    repeat (first | refine wops_nil ?_ | refine zq1 rfl rfl ?_ | refine zq2 rfl rfl ?_ | refine zq3 rfl rfl ?_ | refine zq4 rfl rfl rfl rfl (inc (by omega)) ?_ | refine zq5 rfl rfl rfl rfl rfl (by assumption) ?_ | refine zq6 rfl rfl (by assumption) ?_ | refine zq7 rfl rfl rfl ?_ | refine zq8 rfl rfl rfl ?_ | refine zq9 rfl rfl rfl rfl ?_ | refine mobs_move rfl rfl rfl ?_ | refine m_load rfl rfl rfl (by assumption) ?_ | refine mobs_nil ?_ | refine wd_nil ?_ | refine wd_skip rfl rfl ?_ | refine wd_loudSkip rfl rfl ?_ | refine wd_move rfl rfl rfl ?_ | refine wd_assign rfl rfl rfl ?_ | refine wd_pick rfl rfl rfl rfl ?_ | refine d_load rfl rfl rfl (by assumption) ?_ | refine d_lenI rfl rfl rfl rfl rfl rfl (by assumption) ?_ | refine wp_condT rfl ?_ | refine wp_condF rfl ?_ | refine wp_region ?_ | refine wp_seq ?_ | refine wp_skip ?_ | refine wp_exit ?_ | refine wp_block ?_)
    refine wops_cons (wop_cmp rfl rfl rfl rfl rfl (fun h => ?_) (fun h => ?_))
    · have hl : l.length = 0 := by have : (l.length : Int) = 0 := by simpa using h
                                   omega
      rw [decide_eq_true hl, Bool.true_and] at hk
      repeat (first | refine wops_nil ?_ | refine zq1 rfl rfl ?_ | refine zq2 rfl rfl ?_ | refine zq3 rfl rfl ?_ | refine zq4 rfl rfl rfl rfl (inc (by omega)) ?_ | refine zq5 rfl rfl rfl rfl rfl (by assumption) ?_ | refine zq6 rfl rfl (by assumption) ?_ | refine zq7 rfl rfl rfl ?_ | refine zq8 rfl rfl rfl ?_ | refine zq9 rfl rfl rfl rfl ?_ | refine mobs_move rfl rfl rfl ?_ | refine m_load rfl rfl rfl (by assumption) ?_ | refine mobs_nil ?_ | refine wd_nil ?_ | refine wd_skip rfl rfl ?_ | refine wd_loudSkip rfl rfl ?_ | refine wd_move rfl rfl rfl ?_ | refine wd_assign rfl rfl rfl ?_ | refine wd_pick rfl rfl rfl rfl ?_ | refine d_load rfl rfl rfl (by assumption) ?_ | refine d_lenI rfl rfl rfl rfl rfl rfl (by assumption) ?_ | refine wp_condT rfl ?_ | refine wp_condF rfl ?_ | refine wp_region ?_ | refine wp_seq ?_ | refine wp_skip ?_ | refine wp_exit ?_ | refine wp_block ?_)
      refine wops_cons (wop_cmp rfl rfl rfl rfl rfl (fun h => ?_) (fun h => ?_))
      · have he : e = bad := by simpa using h
        rw [decide_eq_true he] at hk
        repeat (first | refine wops_nil ?_ | refine zq1 rfl rfl ?_ | refine zq2 rfl rfl ?_ | refine zq3 rfl rfl ?_ | refine zq4 rfl rfl rfl rfl (inc (by omega)) ?_ | refine zq5 rfl rfl rfl rfl rfl (by assumption) ?_ | refine zq6 rfl rfl (by assumption) ?_ | refine zq7 rfl rfl rfl ?_ | refine zq8 rfl rfl rfl ?_ | refine zq9 rfl rfl rfl rfl ?_ | refine mobs_move rfl rfl rfl ?_ | refine m_load rfl rfl rfl (by assumption) ?_ | refine mobs_nil ?_ | refine wd_nil ?_ | refine wd_skip rfl rfl ?_ | refine wd_loudSkip rfl rfl ?_ | refine wd_move rfl rfl rfl ?_ | refine wd_assign rfl rfl rfl ?_ | refine wd_pick rfl rfl rfl rfl ?_ | refine d_load rfl rfl rfl (by assumption) ?_ | refine d_lenI rfl rfl rfl rfl rfl rfl (by assumption) ?_ | refine wp_condT rfl ?_ | refine wp_condF rfl ?_ | refine wp_region ?_ | refine wp_seq ?_ | refine wp_skip ?_ | refine wp_exit ?_ | refine wp_block ?_)
        refine wp_ret ?_
        exact ⟨_, _, rfl, hk⟩
      · have he : ¬ e = bad := by simpa using h
        rw [decide_eq_false he] at hk
        repeat (first | refine wops_nil ?_ | refine zq1 rfl rfl ?_ | refine zq2 rfl rfl ?_ | refine zq3 rfl rfl ?_ | refine zq4 rfl rfl rfl rfl (inc (by omega)) ?_ | refine zq5 rfl rfl rfl rfl rfl (by assumption) ?_ | refine zq6 rfl rfl (by assumption) ?_ | refine zq7 rfl rfl rfl ?_ | refine zq8 rfl rfl rfl ?_ | refine zq9 rfl rfl rfl rfl ?_ | refine mobs_move rfl rfl rfl ?_ | refine m_load rfl rfl rfl (by assumption) ?_ | refine mobs_nil ?_ | refine wd_nil ?_ | refine wd_skip rfl rfl ?_ | refine wd_loudSkip rfl rfl ?_ | refine wd_move rfl rfl rfl ?_ | refine wd_assign rfl rfl rfl ?_ | refine wd_pick rfl rfl rfl rfl ?_ | refine d_load rfl rfl rfl (by assumption) ?_ | refine d_lenI rfl rfl rfl rfl rfl rfl (by assumption) ?_ | refine wp_condT rfl ?_ | refine wp_condF rfl ?_ | refine wp_region ?_ | refine wp_seq ?_ | refine wp_skip ?_ | refine wp_exit ?_ | refine wp_block ?_)
        refine wp_ret ?_
        exact ⟨_, _, rfl, hk⟩
    · have hl : ¬ l.length = 0 := by have : ¬ (l.length : Int) = 0 := by simpa using h
                                     omega
      rw [decide_eq_false hl, Bool.false_and] at hk
      repeat (first | refine wops_nil ?_ | refine zq1 rfl rfl ?_ | refine zq2 rfl rfl ?_ | refine zq3 rfl rfl ?_ | refine zq4 rfl rfl rfl rfl (inc (by omega)) ?_ | refine zq5 rfl rfl rfl rfl rfl (by assumption) ?_ | refine zq6 rfl rfl (by assumption) ?_ | refine zq7 rfl rfl rfl ?_ | refine zq8 rfl rfl rfl ?_ | refine zq9 rfl rfl rfl rfl ?_ | refine mobs_move rfl rfl rfl ?_ | refine m_load rfl rfl rfl (by assumption) ?_ | refine mobs_nil ?_ | refine wd_nil ?_ | refine wd_skip rfl rfl ?_ | refine wd_loudSkip rfl rfl ?_ | refine wd_move rfl rfl rfl ?_ | refine wd_assign rfl rfl rfl ?_ | refine wd_pick rfl rfl rfl rfl ?_ | refine d_load rfl rfl rfl (by assumption) ?_ | refine d_lenI rfl rfl rfl rfl rfl rfl (by assumption) ?_ | refine wp_condT rfl ?_ | refine wp_condF rfl ?_ | refine wp_region ?_ | refine wp_seq ?_ | refine wp_skip ?_ | refine wp_exit ?_ | refine wp_block ?_)
      refine wp_ret ?_
      exact ⟨_, _, rfl, hk⟩
  · have h : bad = 0 := by simpa using h
    rw [listB, if_pos h] at hk
    repeat (first | refine wops_nil ?_ | refine zq1 rfl rfl ?_ | refine zq2 rfl rfl ?_ | refine zq3 rfl rfl ?_ | refine zq4 rfl rfl rfl rfl (inc (by omega)) ?_ | refine zq5 rfl rfl rfl rfl rfl (by assumption) ?_ | refine zq6 rfl rfl (by assumption) ?_ | refine zq7 rfl rfl rfl ?_ | refine zq8 rfl rfl rfl ?_ | refine zq9 rfl rfl rfl rfl ?_ | refine mobs_move rfl rfl rfl ?_ | refine m_load rfl rfl rfl (by assumption) ?_ | refine mobs_nil ?_ | refine wd_nil ?_ | refine wd_skip rfl rfl ?_ | refine wd_loudSkip rfl rfl ?_ | refine wd_move rfl rfl rfl ?_ | refine wd_assign rfl rfl rfl ?_ | refine wd_pick rfl rfl rfl rfl ?_ | refine d_load rfl rfl rfl (by assumption) ?_ | refine d_lenI rfl rfl rfl rfl rfl rfl (by assumption) ?_ | refine wp_condT rfl ?_ | refine wp_condF rfl ?_ | refine wp_region ?_ | refine wp_seq ?_ | refine wp_skip ?_ | refine wp_exit ?_ | refine wp_block ?_)
    refine wops_cons (wop_cmp rfl rfl rfl rfl rfl (fun h => ?_) (fun h => ?_))
    · have he : e = 0 := by simpa using h
      rw [decide_eq_true he, Bool.true_and] at hk
      repeat (first | refine wops_nil ?_ | refine zq1 rfl rfl ?_ | refine zq2 rfl rfl ?_ | refine zq3 rfl rfl ?_ | refine zq4 rfl rfl rfl rfl (inc (by omega)) ?_ | refine zq5 rfl rfl rfl rfl rfl (by assumption) ?_ | refine zq6 rfl rfl (by assumption) ?_ | refine zq7 rfl rfl rfl ?_ | refine zq8 rfl rfl rfl ?_ | refine zq9 rfl rfl rfl rfl ?_ | refine mobs_move rfl rfl rfl ?_ | refine m_load rfl rfl rfl (by assumption) ?_ | refine mobs_nil ?_ | refine wd_nil ?_ | refine wd_skip rfl rfl ?_ | refine wd_loudSkip rfl rfl ?_ | refine wd_move rfl rfl rfl ?_ | refine wd_assign rfl rfl rfl ?_ | refine wd_pick rfl rfl rfl rfl ?_ | refine d_load rfl rfl rfl (by assumption) ?_ | refine d_lenI rfl rfl rfl rfl rfl rfl (by assumption) ?_ | refine wp_condT rfl ?_ | refine wp_condF rfl ?_ | refine wp_region ?_ | refine wp_seq ?_ | refine wp_skip ?_ | refine wp_exit ?_ | refine wp_block ?_)
      refine wops_cons (wop_callF rfl rfl rfl (fn := Tryz.f32) (by rfl) ?_)
      refine c32 hq H x y l m hx hy hlen _ ⟨Nat.le_refl _, ?_⟩
      repeat (first | refine wops_nil ?_ | refine zq1 rfl rfl ?_ | refine zq2 rfl rfl ?_ | refine zq3 rfl rfl ?_ | refine zq4 rfl rfl rfl rfl (inc (by omega)) ?_ | refine zq5 rfl rfl rfl rfl rfl (by assumption) ?_ | refine zq6 rfl rfl (by assumption) ?_ | refine zq7 rfl rfl rfl ?_ | refine zq8 rfl rfl rfl ?_ | refine zq9 rfl rfl rfl rfl ?_ | refine mobs_move rfl rfl rfl ?_ | refine m_load rfl rfl rfl (by assumption) ?_ | refine mobs_nil ?_ | refine wd_nil ?_ | refine wd_skip rfl rfl ?_ | refine wd_loudSkip rfl rfl ?_ | refine wd_move rfl rfl rfl ?_ | refine wd_assign rfl rfl rfl ?_ | refine wd_pick rfl rfl rfl rfl ?_ | refine d_load rfl rfl rfl (by assumption) ?_ | refine d_lenI rfl rfl rfl rfl rfl rfl (by assumption) ?_ | refine wp_condT rfl ?_ | refine wp_condF rfl ?_ | refine wp_region ?_ | refine wp_seq ?_ | refine wp_skip ?_ | refine wp_exit ?_ | refine wp_block ?_)
      refine wp_ret ?_
      exact ⟨_, _, rfl, hk⟩
    · have he : ¬ e = 0 := by simpa using h
      rw [decide_eq_false he, Bool.false_and] at hk
      repeat (first | refine wops_nil ?_ | refine zq1 rfl rfl ?_ | refine zq2 rfl rfl ?_ | refine zq3 rfl rfl ?_ | refine zq4 rfl rfl rfl rfl (inc (by omega)) ?_ | refine zq5 rfl rfl rfl rfl rfl (by assumption) ?_ | refine zq6 rfl rfl (by assumption) ?_ | refine zq7 rfl rfl rfl ?_ | refine zq8 rfl rfl rfl ?_ | refine zq9 rfl rfl rfl rfl ?_ | refine mobs_move rfl rfl rfl ?_ | refine m_load rfl rfl rfl (by assumption) ?_ | refine mobs_nil ?_ | refine wd_nil ?_ | refine wd_skip rfl rfl ?_ | refine wd_loudSkip rfl rfl ?_ | refine wd_move rfl rfl rfl ?_ | refine wd_assign rfl rfl rfl ?_ | refine wd_pick rfl rfl rfl rfl ?_ | refine d_load rfl rfl rfl (by assumption) ?_ | refine d_lenI rfl rfl rfl rfl rfl rfl (by assumption) ?_ | refine wp_condT rfl ?_ | refine wp_condF rfl ?_ | refine wp_region ?_ | refine wp_seq ?_ | refine wp_skip ?_ | refine wp_exit ?_ | refine wp_block ?_)
      refine wp_ret ?_
      exact ⟨_, _, rfl, hk⟩
end Go.Ev
namespace Go.Ev
open Go.Proofs
def rangeI (n : Nat) : List Int := (List.range n).map fun (i : Nat) => (i : Int)
theorem mem_rangeI {n : Nat} {z : Int} : z ∈ rangeI n ↔ 0 ≤ z ∧ z < n := by
  unfold rangeI
  rw [List.mem_map]
  constructor
  · rintro ⟨i, hi, rfl⟩
    rw [List.mem_range] at hi
    omega
  · rintro ⟨h1, h2⟩
    exact ⟨z.toNat, List.mem_range.2 (by omega), by omega⟩
theorem length_rangeI (n : Nat) : (rangeI n).length = n := by simp [rangeI]
theorem OkP.nodup {l : List Int} (h : OkP l) : l.Nodup := by
  rw [List.nodup_iff_pairwise_ne, List.pairwise_iff_getElem]
  intro i j hi hj hij e
  exact h.2 i j l[i] hij (List.getElem?_eq_getElem hi) (by rw [e]; exact List.getElem?_eq_getElem hj)
theorem OkP.mem {l : List Int} (h : OkP l) {z : Int} (hz : z ∈ l) : 0 ≤ z ∧ z < l.length := by
  obtain ⟨i, hi⟩ := List.mem_iff_getElem?.1 hz
  exact h.1 i z hi
theorem OkP.all {l : List Int} (h : OkP l) {i : Nat} (hi : i < l.length) : (i : Int) ∈ l := by
  rcases Classical.em ((i : Int) ∈ l) with h' | h'
  · exact h'
  · have hs : l ⊆ (rangeI l.length).erase (i : Int) := fun z hz => by
      rw [List.mem_erase_of_ne (fun e => h' (by rw [← e]; exact hz)), mem_rangeI]
      exact h.mem hz
    have := h.nodup.length_le_of_subset hs
    rw [List.length_erase_of_mem (mem_rangeI.2 (by omega)), length_rangeI] at this
    omega
theorem u3 : runPure Tryz.prog (underlying 3) = some (.int .i64) := by kernel_rfl
variable {O : CallF} (hq : Quiet O)
include hq
end Go.Ev
namespace Go.Ev
open Go.Proofs
section
variable {O : CallF} {g : FuncId} {rd : Bool} {T : List AV} {M : List Nat} {H : AH} {Q : QX} {ops : Array Oper} {o : Oper} {K : AV → AH → Prop}
theorem o_build2 {t e : TypeId} {x y : Operand} {z0 : Value} (ho : o.op = .buildSlice t 2 #[(0, x), (1, y)]) (hg : wantedA o ops T = true) [hu : TyS t e] [hs : Cell e] [hz : Zero e z0] (h1 : (av T x).one = true) (h2 : (av T y).one = true) (hr : H.next < 2 ^ 39)
    (hk : K (.slc H.next 0 2 2) (H.add (.cells [av T x, av T y] e 0))) : WOp (ENV O) ops o T H K := by
  refine wop_val (by rw [ho]; rfl) hg (r := .slc H.next 0 2 2) (H' := H.add (.cells [av T x, av T y] e 0)) ?_ (Nat.le_succ _) hk
  have hlt : Nat.blt H.next (2 ^ 39) = true := Nat.ble_eq_true_of_le hr
  unfold opEval; rw [ho]
  simp only [ENV, buildSliceA, hu.u, hs.s, hz.z, hz.c]
  rw [if_pos (by decide)]
  simp [fillA, cells_one h1, cells_one h2, wr, newA, hlt]
  rw [List.drop_eq_nil_of_le (by simp)]
end
theorem sl_new {H : AH} {cs : List AV} {e : TypeId} (hr : H.next < 2 ^ 39) (n : Nat) : Sl (H.add (.cells cs e 0)) (.slc H.next 0 cs.length n) cs :=
  ⟨rfl, hr, cs, e, 0, by rw [AH.get_add _ _ _ hr, if_pos rfl], fun j v h => by rw [Nat.zero_add]; exact h⟩
theorem sl_cells {H : AH} {b n cap : Nat} {cs l : List AV} {e : TypeId} {g : Nat} (h39 : b < 2 ^ 39) (hg : H.get b = some (.cells cs e g)) (hn : n = l.length) (h : ∀ (j : Nat) (v : AV), l[j]? = some v → cs[j]? = some v) : Sl H (.slc b 0 n cap) l :=
  ⟨hn, h39, cs, e, g, hg, fun j v hv => by rw [Nat.zero_add]; exact h j v hv⟩
theorem keeps_append {H0 H H1 : AH} {s : AV} (h : Keeps H0 H) (hn : H1.next = H.next + 1) (hgl : H1.gl = H.gl) (hb : ∀ b, b ≠ H.next → s.own ≠ some b → H1.get b = H.get b) (hs : ∀ b, s.own = some b → H0.next ≤ b) : Keeps H0 H1 :=
  ⟨by have := h.nx; omega, hgl.trans h.gl, fun b hlt => (hb b (by have := h.nx; omega) (fun e => by have := hs b e; omega)).trans (h.get b hlt)⟩
variable {O : CallF} (hq : Quiet O)
include hq
end Go.Ev
namespace Go.Ev
def it (f : Nat → Nat) : Nat → Nat → Nat
  | 0, x => x
  | k + 1, x => f (it f k x)
structure Pm (f : Nat → Nat) (n : Nat) : Prop where
  lt : ∀ x, x < n → f x < n
  inj : ∀ x y, x < n → y < n → f x = f y → x = y
section
variable {f : Nat → Nat} {n : Nat}
end
def fOf (l : List Int) : Nat → Nat := fun x => (l.getD x 0).toNat
theorem OkP.f_get {l : List Int} (h : OkP l) {x : Nat} (hx : x < l.length) : l[x]? = some ((fOf l x : Nat) : Int) := by
  obtain ⟨z, hz⟩ := l_some hx
  have := h.1 x z hz
  rw [hz]
  simp only [fOf, List.getD, hz, Option.getD_some]
  congr 1
  omega
theorem OkP.pm {l : List Int} (h : OkP l) : Pm (fOf l) l.length := by
  refine ⟨fun x hx => ?_, fun x y hx hy e => ?_⟩
  · have := h.1 x _ (h.f_get hx); omega
  · have h1 := h.f_get hx
    have h2 := h.f_get hy
    rw [e] at h1
    rcases Nat.lt_trichotomy x y with hlt | heq | hlt
    · exact absurd h2 (h.2 x y _ hlt h1)
    · exact heq
    · exact absurd h1 (h.2 y x _ hlt h2)
end Go.Ev
namespace Go.Ev
open Go.Proofs
theorem Sl.one {H : AH} {x : AV} {l : List AV} (h : Sl H x l) : x.one = true := by
  unfold Sl at h
  split at h
  · rfl
  · rfl
  · rfl
  · exact h.elim
theorem at_ptr {H : AH} {b : Nat} {cs : List AV} {e : TypeId} {g i : Nat} {v : AV} (h39 : b < 2 ^ 39) (h : H.get b = some (.cells cs e g)) (hv : cs[i]? = some v) : At H (.ptr b i) v := ⟨h39, cs, e, g, h, hv⟩
variable {O : CallF} (hq : Quiet O)
include hq
end Go.Ev
namespace Go.Ev
open Go.Proofs
theorem Wp.mem {E : Env} {g : FuncId} {rd : Bool} {T : List AV} {M : List Nat} {H : AH} {Q : QX} {c : Code} (P : AH → Prop) (h : P H) (hw : ∀ H, P H → Wp E g rd c T M H Q) : Wp E g rd c T M H Q := hw H h
theorem get_set_ne {H : AH} {b c : Nat} {x : Option AB} (h39 : b < 2 ^ 39) (h : c ≠ b) : (H.set b x).get c = H.get c := by rw [AH.get_set _ _ _ _ h39, if_neg h]
theorem get_set_eq {H : AH} {b : Nat} {x : Option AB} (h39 : b < 2 ^ 39) : (H.set b x).get b = x := by rw [AH.get_set _ _ _ _ h39, if_pos rfl]
theorem get_add_ne {H : AH} {c : Nat} {x : AB} (h39 : H.next < 2 ^ 39) (h : c ≠ H.next) : (H.add x).get c = H.get c := by rw [AH.get_add _ _ _ h39, if_neg h]
theorem get_add_eq {H : AH} {x : AB} (h39 : H.next < 2 ^ 39) : (H.add x).get H.next = some x := by rw [AH.get_add _ _ _ h39, if_pos rfl]
end Go.Ev
namespace Go.Ev
open Go.Proofs
theorem o_lenN {O : CallF} {T : List AV} {H : AH} {ops : Array Oper} {o : Oper} {K : AV → AH → Prop} {c : Call} {t e : TypeId} {x : Operand} {l : List AV} {m : Nat} (ho : o.op = .call c) (hg : wantedA o ops T = true) (hc : c.callee = .builtin .len) (hargs : c.args.toList = [x]) (ht : c.argTypes.toList = [t]) [hu : TyS t e] (hx : Sl H (av T x) l) (hm : l.length = m)
    (hk : K (iv m) H) : WOp (ENV O) ops o T H K := o_len ho hg hc hargs ht hx (by rw [hm]; exact hk)
variable {O : CallF} (hq : Quiet O)
include hq
end Go.Ev
