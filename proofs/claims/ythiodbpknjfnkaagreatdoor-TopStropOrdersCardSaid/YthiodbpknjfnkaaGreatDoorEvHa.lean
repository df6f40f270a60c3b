/- Part of an evaluator of calls that is proved sound, and of what it gives about this program. No condition of its own. -/
import Derived.Test.YthiodbpknjfnkaaGreatDoorEvSix
import Derived.Test.YthiodbpknjfnkaaGreatDoorEvSeven
set_option linter.unusedVariables false
set_option linter.unusedSimpArgs false
set_option maxRecDepth 100000
set_option maxHeartbeats 4000000
namespace Go.Ev
open Go.Proofs

/-! ### The program's types -/

class TyS (t : TypeId) (e : outParam TypeId) : Prop where
  u : runPure Tryz.prog (underlying t) = some (.slice e)
class Cell (e : TypeId) : Prop where
  s : runPure Tryz.prog (sizeOf e) = some 1
  a : runPure Tryz.prog (isAgg e) = some false
noncomputable def ti (t : TypeId) : TypeInfo := (runPure Tryz.prog (typeInfo t)).getD default
class Zero (e : TypeId) (z0 : outParam Value) : Prop where
  z : runPure Tryz.prog (zeroValue e) = some z0
  c : z0.cells = #[z0]
  i : runPure Tryz.prog (typeInfo e) = some (ti e)
  b : Nat.ble (ti e).bytes (2 ^ 8) = true

instance : TyS 22 3 := ⟨by kernel_rfl⟩
instance : TyS 32 22 := ⟨by kernel_rfl⟩
instance : TyS 92 4 := ⟨by kernel_rfl⟩
instance : TyS 100 26 := ⟨by kernel_rfl⟩
instance : Cell 3 := ⟨by kernel_rfl, by kernel_rfl⟩
instance : Cell 4 := ⟨by kernel_rfl, by kernel_rfl⟩
instance : Cell 22 := ⟨by kernel_rfl, by kernel_rfl⟩
instance : Cell 26 := ⟨by kernel_rfl, by kernel_rfl⟩
instance : Cell 92 := ⟨by kernel_rfl, by kernel_rfl⟩
instance : Zero 3 (.int .i64 0) := ⟨by kernel_rfl, rfl, by kernel_rfl, by kernel_rfl⟩
instance : Zero 4 (.bool false) := ⟨by kernel_rfl, rfl, by kernel_rfl, by kernel_rfl⟩
instance : Zero 22 (.slice none 0 0) := ⟨by kernel_rfl, rfl, by kernel_rfl, by kernel_rfl⟩
instance : Zero 26 (.int .i64 0) := ⟨by kernel_rfl, rfl, by kernel_rfl, by kernel_rfl⟩
instance : Zero 92 (.slice none 0 0) := ⟨by kernel_rfl, rfl, by kernel_rfl, by kernel_rfl⟩

noncomputable def ENV (O : CallF) : Env := ⟨Tryz.prog, TF, O, TPl⟩
/-- The oracle answers nothing but awake and slices.Insert. -/
def spL : List Nat := [5, 10, 11, 19, 21, 22, 23]
def Quiet (O : CallF) : Prop := ∀ g args H, (spL.any fun a => Nat.beq a g) = false → O g args H = none

/-! ### Numbers -/

abbrev iv (z : Int) : AV := .v (.int .i64 z)
def ivs (l : List Int) : List AV := l.map iv

theorem ivs_length (l : List Int) : (ivs l).length = l.length := by simp [ivs]
theorem ivs_get {l : List Int} {j : Nat} {z : Int} (h : l[j]? = some z) : (ivs l)[j]? = some (iv z) := by simp [ivs, h]

theorem wrap_id {z : Int} (h1 : -9223372036854775808 ≤ z) (h2 : z < 9223372036854775808) : IntKind.i64.wrap z = z := by
  simp only [IntKind.wrap, IntKind.signed, IntKind.bits, Bool.true_and]
  split
  · rename_i h; have h := of_decide_eq_true h; omega
  · rename_i h; have h := of_decide_eq_false (Bool.eq_false_iff.2 h); omega

theorem inc {i : Nat} (h : i < 4611686018427387904) : binI .add .i64 .i64 (i : Int) 1 = some (.int .i64 ((i + 1 : Nat) : Int)) := by
  show some (Value.int .i64 (IntKind.i64.wrap ((i : Int) + 1))) = _
  rw [wrap_id (by omega) (by omega)]
  rfl

section
variable {O : CallF} {g : FuncId} {rd : Bool} {T : List AV} {M : List Nat} {H : AH} {Q : QX} {ops : Array Oper} {o : Oper} {K : AV → AH → Prop}

theorem arg0 {c : Call} {t : TypeId} {l : List TypeId} (h : c.argTypes.toList = t :: l) : c.argTypes[0]? = some t := by rw [← Array.getElem?_toList, h]; rfl
theorem arg1 {c : Call} {t u : TypeId} {l : List TypeId} (h : c.argTypes.toList = t :: u :: l) : c.argTypes[1]? = some u := by rw [← Array.getElem?_toList, h]; rfl

theorem o_len {c : Call} {t e : TypeId} {x : Operand} {l : List AV} (ho : o.op = .call c) (hg : wantedA o ops T = true) (hc : c.callee = .builtin .len) (hargs : c.args.toList = [x]) (ht : c.argTypes.toList = [t]) [hu : TyS t e] (hx : Sl H (av T x) l)
    (hk : K (iv l.length) H) : WOp (ENV O) ops o T H K := wop_len ho hg hc hargs (arg0 ht) hu.u hx hk

theorem o_lenI {c : Call} {t e : TypeId} {x : Operand} {l : List Int} (ho : o.op = .call c) (hg : wantedA o ops T = true) (hc : c.callee = .builtin .len) (hargs : c.args.toList = [x]) (ht : c.argTypes.toList = [t]) [hu : TyS t e] (hx : Sl H (av T x) (ivs l))
    (hk : K (iv l.length) H) : WOp (ENV O) ops o T H K := wop_len ho hg hc hargs (arg0 ht) hu.u hx (by rw [ivs_length]; exact hk)

theorem o_index {t e : TypeId} {x i : Operand} {j : Nat} {l : List AV} {v : AV} (ho : o.op = .indexAddr t x i) (hg : wantedA o ops T = true) [hu : TyS t e] [hs : Cell e]
    (hx : Sl H (av T x) l) (hi : av T i = iv j) (hl : l[j]? = some v) (hk : ∀ p, At H p v → K p H) : WOp (ENV O) ops o T H K := wop_index ho hg hu.u hs.s hx hi (Int.natCast_nonneg j) (by rw [Int.toNat_natCast]; exact hl) hk

theorem o_indexI {t e : TypeId} {x i : Operand} {j : Nat} {l : List Int} {z : Int} (ho : o.op = .indexAddr t x i) (hg : wantedA o ops T = true) [hu : TyS t e] [hs : Cell e]
    (hx : Sl H (av T x) (ivs l)) (hi : av T i = iv j) (hl : l[j]? = some z) (hk : ∀ p, At H p (iv z) → K p H) : WOp (ENV O) ops o T H K := o_index ho hg hx hi (ivs_get hl) hk

theorem o_indexOwn {t e : TypeId} {x i : Operand} {j : Nat} {b n cap : Nat} (ho : o.op = .indexAddr t x i) (hg : wantedA o ops T = true) [hu : TyS t e] [hs : Cell e]
    (hx : av T x = .slc b 0 n cap) (hi : av T i = iv j) (hl : j < n) (hk : K (.ptr b j) H) : WOp (ENV O) ops o T H K :=
  wop_indexOwn ho hg hu.u hs.s hx hi (Int.natCast_nonneg j) (by omega) (by rw [Int.toNat_natCast, Nat.zero_add]; exact hk)

theorem o_load {t : TypeId} {x : Operand} {v : AV} (ho : o.op = .load t x) (hg : wantedA o ops T = true) [ha : Cell t] (hx : At H (av T x) v) (hk : K v H) : WOp (ENV O) ops o T H K := wop_load ho hg ha.a hx hk

theorem o_store {t : TypeId} {p x : Operand} {b off : Nat} {cs : List AV} {e : TypeId} {gr : Nat} (ho : o.op = .store t p x) (hg : wantedA o ops T = true) [hs : Cell t] (hp : av T p = .ptr b off) (hc : H.get b = some (.cells cs e gr)) (hlt : off < cs.length) (h1 : (av T x).one = true)
    (hk : K (.v undef) (H.set b (some (.cells (cs.set off (av T x)) e gr)))) : WOp (ENV O) ops o T H K := wop_store ho hg hs.s hp hc hlt h1 hk

theorem o_make {t e : TypeId} {l c : Operand} {n : Nat} {z0 : Value} (ho : o.op = .makeSlice t l c) (hg : wantedA o ops T = true) (hl : av T l = iv n) (hc : av T c = iv n) [hu : TyS t e] [hs : Cell e] [hz : Zero e z0] (hn : n ≤ 2 ^ 32) (hr : H.next < 2 ^ 39)
    (hk : K (.slc H.next 0 n n) (H.add (.cells (List.replicate n (.v z0)) e 0))) : WOp (ENV O) ops o T H K :=
  wop_make ho hg hl hc hu.u hz.i hs.s hz.z hz.c (Nat.le_trans (Nat.le_of_ble_eq_true hz.b) (by decide)) hn hr hk

theorem o_alloc {t : TypeId} {z0 : Value} (ho : o.op = .alloc t) (hg : wantedA o ops T = true) [hz : Zero t z0] (hr : H.next < 2 ^ 39) (hk : K (.ptr H.next 0) (H.add (.cells [.v z0] t 0))) : WOp (ENV O) ops o T H K :=
  wop_alloc ho hg hz.z hz.c hr hk

theorem o_box {t : TypeId} {x : Operand} (ho : o.op = .box t x) (hg : wantedA o ops T = true) (h1 : (av T x).one = true) (hr : H.next < 2 ^ 39) (hk : K (.ptr H.next 0) (H.add (.cells [av T x] t 0))) : WOp (ENV O) ops o T H K :=
  wop_box ho hg h1 hr hk

theorem o_append {c : Call} {t xt e e' : TypeId} {s x : Operand} {z0 : Value} {cs : List AV} {v : AV} {bx : Nat} {ex : TypeId} {gx : Nat} (ho : o.op = .call c) (hg : wantedA o ops T = true) (hc : c.callee = .builtin .append) (hargs : c.args.toList = [s, x]) (ht : c.argTypes.toList = [t, xt]) [hu : TyS t e] [hux : TyS xt e']
    [hs : Cell e] [hz : Zero e z0] (hlen : cs.length < 2 ^ 30) (hr : H.next < 2 ^ 39)
    (hx : av T x = .slc bx 0 1 1) (hbx : H.get bx = some (.cells [v] ex gx)) (h1 : v.one = true) (hG : Gr H e (av T s) cs)
    (hk : ∀ r H1, r = .slu H.next 0 (cs.length + 1) 1 → H1.next = H.next + 1 → H1.gl = H.gl → (∀ b, b ≠ H.next → (av T s).own ≠ some b → H1.get b = H.get b) → H1.get H.next = some (.cells (cs ++ [v]) e 1) → Gr H1 e r (cs ++ [v]) → K r H1) : WOp (ENV O) ops o T H K :=
  wop_append1 ho hg hc hargs (arg0 ht) (arg1 ht) hu.u hux.u hz.i hs.s hz.z (by rw [hz.c]; rfl) (Nat.le_of_ble_eq_true hz.b) hlen hr hx hbx h1 hG hk

theorem m_load {i : Nat} {π : List Stp} {K : List AV → Prop} {t : TypeId} {x : Operand} {v : AV} (h1 : ops.toList[i]? = some o) (ho : o.op = .load t x) (hg : wantedA o ops T = true) [ha : Cell t] (hx : At H (av T x) v)
    (hk : WMobs (ENV O) ops π (putA T o.dst v) H K) : WMobs (ENV O) ops (.mob i :: π) T H K := mobs_load h1 ho hg ha.a hx hk

theorem m_indexI {i : Nat} {π : List Stp} {K : List AV → Prop} {t e : TypeId} {x y : Operand} {j : Nat} {l : List Int} {z : Int} (h1 : ops.toList[i]? = some o) (ho : o.op = .indexAddr t x y) (hg : wantedA o ops T = true) [hu : TyS t e] [hs : Cell e]
    (hx : Sl H (av T x) (ivs l)) (hi : av T y = iv j) (hl : l[j]? = some z) (hk : ∀ p, At H p (iv z) → WMobs (ENV O) ops π (putA T o.dst p) H K) : WMobs (ENV O) ops (.mob i :: π) T H K :=
  mobs_index h1 ho hg hu.u hs.s hx hi (Int.natCast_nonneg j) (by rw [Int.toNat_natCast]; exact ivs_get hl) hk

/-- A slice written out. -/
theorem o_build1 {t e : TypeId} {x : Operand} {z0 : Value} (ho : o.op = .buildSlice t 1 #[(0, x)]) (hg : wantedA o ops T = true) [hu : TyS t e] [hs : Cell e] [hz : Zero e z0] (h1 : (av T x).one = true) (hr : H.next < 2 ^ 39)
    (hk : K (.slc H.next 0 1 1) (H.add (.cells [av T x] e 0))) : WOp (ENV O) ops o T H K := by
  refine wop_val (by rw [ho]; rfl) hg (r := .slc H.next 0 1 1) (H' := H.add (.cells [av T x] e 0)) ?_ (Nat.le_succ _) hk
  have hlt : Nat.blt H.next (2 ^ 39) = true := Nat.ble_eq_true_of_le hr
  unfold opEval; rw [ho]
  simp only [ENV, buildSliceA, hu.u, hs.s, hz.z, hz.c]
  rw [if_pos (by decide)]
  simp [fillA, cells_one h1, wr, newA, hlt]

end
end Go.Ev
namespace Go.Ev
open Go.Proofs

/-- The list is a permutation of the numbers below its length. -/
def OkP (l : List Int) : Prop := (∀ (i : Nat) (z : Int), l[i]? = some z → 0 ≤ z ∧ z < l.length) ∧ ∀ (k i : Nat) (z : Int), k < i → l[k]? = some z → l[i]? ≠ some z

open Classical in
/-- The error of a permutation. -/
noncomputable def permE (l : List Int) : Int := if 256 < l.length then 5 else if OkP l then 0 else 15

theorem permE_many {l : List Int} (h : 256 < l.length) : permE l = 5 := if_pos h
theorem permE_ok {l : List Int} (h : l.length ≤ 256) (h2 : OkP l) : permE l = 0 := by unfold permE; rw [if_neg (by omega), if_pos h2]
theorem permE_bad {l : List Int} (h : l.length ≤ 256) (h2 : ¬ OkP l) : permE l = 15 := by unfold permE; rw [if_neg (by omega), if_neg h2]

theorem l_some {l : List Int} {i : Nat} (h : i < l.length) : ∃ z, l[i]? = some z := ⟨l[i], List.getElem?_eq_getElem h⟩

variable {O : CallF} (hq : Quiet O)
include hq

theorem c9 (H : AH) (x : AV) (l : List Int) (hx : Sl H x (ivs l)) (K : AV → AH → Prop) (hk : K (iv (permE l)) H) : Ca (ENV O) 4 [x] H K := by
  refine ca_intro (hq _ _ _ rfl) (fn := Tryz.f4) (by rfl) rfl ?_
  repeat (first | refine wops_nil ?_ | refine wops_cons (wop_skip' rfl rfl ?_) | refine wops_cons (wop_move rfl rfl ?_) | refine wops_cons (wop_assign rfl rfl ?_) | refine wops_cons (wop_bin (op := .add) rfl rfl rfl rfl (inc (by omega)) ?_) | refine wops_cons (o_lenI rfl rfl rfl rfl rfl (by assumption) ?_) | refine wops_cons (o_load rfl rfl (by assumption) ?_) | refine wops_cons (wop_pick rfl rfl rfl ?_) | refine wops_cons (wop_not rfl rfl rfl ?_) | refine wops_cons (wop_extract rfl rfl rfl rfl ?_) | refine mobs_move rfl rfl rfl ?_ | refine m_load rfl rfl rfl (by assumption) ?_ | refine mobs_nil ?_ | refine wd_nil ?_ | refine wd_skip rfl rfl ?_ | refine wd_loudSkip rfl rfl ?_ | refine wd_move rfl rfl rfl ?_ | refine wd_assign rfl rfl rfl ?_ | refine wd_pick rfl rfl rfl rfl ?_ | refine d_load rfl rfl rfl (by assumption) ?_ | refine d_lenI rfl rfl rfl rfl rfl rfl (by assumption) ?_ | refine wp_condT rfl ?_ | refine wp_condF rfl ?_ | refine wp_region ?_ | refine wp_seq ?_ | refine wp_skip ?_ | refine wp_exit ?_ | refine wp_block ?_)
  refine wops_cons (wop_cmp rfl rfl rfl rfl rfl (fun h => ?_) (fun h => ?_))
  · repeat (first | refine wops_nil ?_ | refine wops_cons (wop_skip' rfl rfl ?_) | refine wops_cons (wop_move rfl rfl ?_) | refine wops_cons (wop_assign rfl rfl ?_) | refine wops_cons (wop_bin (op := .add) rfl rfl rfl rfl (inc (by omega)) ?_) | refine wops_cons (o_lenI rfl rfl rfl rfl rfl (by assumption) ?_) | refine wops_cons (o_load rfl rfl (by assumption) ?_) | refine wops_cons (wop_pick rfl rfl rfl ?_) | refine wops_cons (wop_not rfl rfl rfl ?_) | refine wops_cons (wop_extract rfl rfl rfl rfl ?_) | refine mobs_move rfl rfl rfl ?_ | refine m_load rfl rfl rfl (by assumption) ?_ | refine mobs_nil ?_ | refine wd_nil ?_ | refine wd_skip rfl rfl ?_ | refine wd_loudSkip rfl rfl ?_ | refine wd_move rfl rfl rfl ?_ | refine wd_assign rfl rfl rfl ?_ | refine wd_pick rfl rfl rfl rfl ?_ | refine d_load rfl rfl rfl (by assumption) ?_ | refine d_lenI rfl rfl rfl rfl rfl rfl (by assumption) ?_ | refine wp_condT rfl ?_ | refine wp_condF rfl ?_ | refine wp_region ?_ | refine wp_seq ?_ | refine wp_skip ?_ | refine wp_exit ?_ | refine wp_block ?_)
    refine wp_ret ?_
    refine ⟨_, _, rfl, ?_⟩
    have h : ((l.length : Int) > 256) := of_decide_eq_true h
    rw [permE_many (by omega)] at hk
    exact hk
  have h256 : ¬ ((l.length : Int) > 256) := of_decide_eq_false h
  clear h
  have hlen : l.length ≤ 256 := by omega
  repeat (first | refine wops_nil ?_ | refine wops_cons (wop_skip' rfl rfl ?_) | refine wops_cons (wop_move rfl rfl ?_) | refine wops_cons (wop_assign rfl rfl ?_) | refine wops_cons (wop_bin (op := .add) rfl rfl rfl rfl (inc (by omega)) ?_) | refine wops_cons (o_lenI rfl rfl rfl rfl rfl (by assumption) ?_) | refine wops_cons (o_load rfl rfl (by assumption) ?_) | refine wops_cons (wop_pick rfl rfl rfl ?_) | refine wops_cons (wop_not rfl rfl rfl ?_) | refine wops_cons (wop_extract rfl rfl rfl rfl ?_) | refine mobs_move rfl rfl rfl ?_ | refine m_load rfl rfl rfl (by assumption) ?_ | refine mobs_nil ?_ | refine wd_nil ?_ | refine wd_skip rfl rfl ?_ | refine wd_loudSkip rfl rfl ?_ | refine wd_move rfl rfl rfl ?_ | refine wd_assign rfl rfl rfl ?_ | refine wd_pick rfl rfl rfl rfl ?_ | refine d_load rfl rfl rfl (by assumption) ?_ | refine d_lenI rfl rfl rfl rfl rfl rfl (by assumption) ?_ | refine wp_condT rfl ?_ | refine wp_condF rfl ?_ | refine wp_region ?_ | refine wp_seq ?_ | refine wp_skip ?_ | refine wp_exit ?_ | refine wp_block ?_)
  refine wp_loop (fun k T M H' => ∃ (i : Nat) (Y : List AV), k = l.length - i ∧ i ≤ l.length ∧ (∀ (j : Nat) (z : Int), j < i → l[j]? = some z → 0 ≤ z ∧ z < l.length) ∧ (∀ (k j : Nat) (z : Int), k < j → j < i → l[k]? = some z → l[j]? ≠ some z) ∧ M = [] ∧ H' = H ∧ T = (x :: lget Y 0 :: iv 0 :: iv (i : Nat) :: lget Y 1 :: lget Y 2 :: lget Y 3 :: lget Y 4 :: lget Y 5 :: lget Y 6 :: lget Y 7 :: lget Y 8 :: lget Y 9 :: lget Y 10 :: lget Y 11 :: lget Y 12 :: lget Y 13 :: lget Y 14 :: lget Y 15 :: lget Y 16 :: lget Y 17 :: lget Y 18 :: lget Y 19 :: lget Y 20 :: lget Y 21 :: lget Y 22 :: lget Y 23 :: lget Y 24 :: lget Y 25 :: lget Y 26 :: lget Y 27 :: lget Y 28 :: lget Y 29 :: lget Y 30 :: lget Y 31 :: lget Y 32 :: lget Y 33 :: lget Y 34 :: lget Y 35 :: lget Y 36 :: lget Y 37 :: lget Y 38 :: [])) l.length
    ⟨0, (_ :: _ :: _ :: _ :: _ :: _ :: _ :: _ :: _ :: _ :: _ :: _ :: _ :: _ :: _ :: _ :: _ :: _ :: _ :: _ :: _ :: _ :: _ :: _ :: _ :: _ :: _ :: _ :: _ :: _ :: _ :: _ :: _ :: _ :: _ :: _ :: _ :: _ :: _ :: []), rfl, Nat.zero_le _, fun j z h => absurd h (by omega), fun k j z _ h => absurd h (by omega), rfl, rfl, rfl⟩ ?_
  rintro k T M H' ⟨i, Y, hk1, hi, hr, hn, rfl, rfl, rfl⟩
  repeat (first | refine wops_nil ?_ | refine wops_cons (wop_skip' rfl rfl ?_) | refine wops_cons (wop_move rfl rfl ?_) | refine wops_cons (wop_assign rfl rfl ?_) | refine wops_cons (wop_bin (op := .add) rfl rfl rfl rfl (inc (by omega)) ?_) | refine wops_cons (o_lenI rfl rfl rfl rfl rfl (by assumption) ?_) | refine wops_cons (o_load rfl rfl (by assumption) ?_) | refine wops_cons (wop_pick rfl rfl rfl ?_) | refine wops_cons (wop_not rfl rfl rfl ?_) | refine wops_cons (wop_extract rfl rfl rfl rfl ?_) | refine mobs_move rfl rfl rfl ?_ | refine m_load rfl rfl rfl (by assumption) ?_ | refine mobs_nil ?_ | refine wd_nil ?_ | refine wd_skip rfl rfl ?_ | refine wd_loudSkip rfl rfl ?_ | refine wd_move rfl rfl rfl ?_ | refine wd_assign rfl rfl rfl ?_ | refine wd_pick rfl rfl rfl rfl ?_ | refine d_load rfl rfl rfl (by assumption) ?_ | refine d_lenI rfl rfl rfl rfl rfl rfl (by assumption) ?_ | refine wp_condT rfl ?_ | refine wp_condF rfl ?_ | refine wp_region ?_ | refine wp_seq ?_ | refine wp_skip ?_ | refine wp_exit ?_ | refine wp_block ?_)
  refine wops_cons (wop_cmp rfl rfl rfl rfl rfl (fun h => ?_) (fun h => ?_))
  rotate_left
  · repeat (first | refine wops_nil ?_ | refine wops_cons (wop_skip' rfl rfl ?_) | refine wops_cons (wop_move rfl rfl ?_) | refine wops_cons (wop_assign rfl rfl ?_) | refine wops_cons (wop_bin (op := .add) rfl rfl rfl rfl (inc (by omega)) ?_) | refine wops_cons (o_lenI rfl rfl rfl rfl rfl (by assumption) ?_) | refine wops_cons (o_load rfl rfl (by assumption) ?_) | refine wops_cons (wop_pick rfl rfl rfl ?_) | refine wops_cons (wop_not rfl rfl rfl ?_) | refine wops_cons (wop_extract rfl rfl rfl rfl ?_) | refine mobs_move rfl rfl rfl ?_ | refine m_load rfl rfl rfl (by assumption) ?_ | refine mobs_nil ?_ | refine wd_nil ?_ | refine wd_skip rfl rfl ?_ | refine wd_loudSkip rfl rfl ?_ | refine wd_move rfl rfl rfl ?_ | refine wd_assign rfl rfl rfl ?_ | refine wd_pick rfl rfl rfl rfl ?_ | refine d_load rfl rfl rfl (by assumption) ?_ | refine d_lenI rfl rfl rfl rfl rfl rfl (by assumption) ?_ | refine wp_condT rfl ?_ | refine wp_condF rfl ?_ | refine wp_region ?_ | refine wp_seq ?_ | refine wp_skip ?_ | refine wp_exit ?_ | refine wp_block ?_)
    refine wp_ret ?_
    refine ⟨_, _, rfl, ?_⟩
    have h : ¬ ((i : Int) < l.length) := of_decide_eq_false h
    have : i = l.length := by omega
    subst this
    rw [permE_ok hlen ⟨fun j z hj => hr j z (List.getElem?_eq_some_iff.1 hj).1 hj, fun k j z hkj h1 h2 => hn k j z hkj (List.getElem?_eq_some_iff.1 h2).1 h1 h2⟩] at hk
    exact hk
  have h : (i : Int) < l.length := of_decide_eq_true h
  have hi' : i < l.length := by omega
  obtain ⟨z, hz⟩ := l_some hi'
  repeat (first | refine wops_nil ?_ | refine wops_cons (wop_skip' rfl rfl ?_) | refine wops_cons (wop_move rfl rfl ?_) | refine wops_cons (wop_assign rfl rfl ?_) | refine wops_cons (wop_bin (op := .add) rfl rfl rfl rfl (inc (by omega)) ?_) | refine wops_cons (o_lenI rfl rfl rfl rfl rfl (by assumption) ?_) | refine wops_cons (o_load rfl rfl (by assumption) ?_) | refine wops_cons (wop_pick rfl rfl rfl ?_) | refine wops_cons (wop_not rfl rfl rfl ?_) | refine wops_cons (wop_extract rfl rfl rfl rfl ?_) | refine mobs_move rfl rfl rfl ?_ | refine m_load rfl rfl rfl (by assumption) ?_ | refine mobs_nil ?_ | refine wd_nil ?_ | refine wd_skip rfl rfl ?_ | refine wd_loudSkip rfl rfl ?_ | refine wd_move rfl rfl rfl ?_ | refine wd_assign rfl rfl rfl ?_ | refine wd_pick rfl rfl rfl rfl ?_ | refine d_load rfl rfl rfl (by assumption) ?_ | refine d_lenI rfl rfl rfl rfl rfl rfl (by assumption) ?_ | refine wp_condT rfl ?_ | refine wp_condF rfl ?_ | refine wp_region ?_ | refine wp_seq ?_ | refine wp_skip ?_ | refine wp_exit ?_ | refine wp_block ?_)
  refine wops_cons (o_indexI rfl rfl hx rfl hz fun p hp => ?_)
  repeat (first | refine wops_nil ?_ | refine wops_cons (wop_skip' rfl rfl ?_) | refine wops_cons (wop_move rfl rfl ?_) | refine wops_cons (wop_assign rfl rfl ?_) | refine wops_cons (wop_bin (op := .add) rfl rfl rfl rfl (inc (by omega)) ?_) | refine wops_cons (o_lenI rfl rfl rfl rfl rfl (by assumption) ?_) | refine wops_cons (o_load rfl rfl (by assumption) ?_) | refine wops_cons (wop_pick rfl rfl rfl ?_) | refine wops_cons (wop_not rfl rfl rfl ?_) | refine wops_cons (wop_extract rfl rfl rfl rfl ?_) | refine mobs_move rfl rfl rfl ?_ | refine m_load rfl rfl rfl (by assumption) ?_ | refine mobs_nil ?_ | refine wd_nil ?_ | refine wd_skip rfl rfl ?_ | refine wd_loudSkip rfl rfl ?_ | refine wd_move rfl rfl rfl ?_ | refine wd_assign rfl rfl rfl ?_ | refine wd_pick rfl rfl rfl rfl ?_ | refine d_load rfl rfl rfl (by assumption) ?_ | refine d_lenI rfl rfl rfl rfl rfl rfl (by assumption) ?_ | refine wp_condT rfl ?_ | refine wp_condF rfl ?_ | refine wp_region ?_ | refine wp_seq ?_ | refine wp_skip ?_ | refine wp_exit ?_ | refine wp_block ?_)
  refine wops_cons (wop_cmp rfl rfl rfl rfl rfl (fun h => ?_) (fun h => ?_))
  · have hz0 : z < 0 := of_decide_eq_true h
    repeat (first | refine wops_nil ?_ | refine wops_cons (wop_skip' rfl rfl ?_) | refine wops_cons (wop_move rfl rfl ?_) | refine wops_cons (wop_assign rfl rfl ?_) | refine wops_cons (wop_bin (op := .add) rfl rfl rfl rfl (inc (by omega)) ?_) | refine wops_cons (o_lenI rfl rfl rfl rfl rfl (by assumption) ?_) | refine wops_cons (o_load rfl rfl (by assumption) ?_) | refine wops_cons (wop_pick rfl rfl rfl ?_) | refine wops_cons (wop_not rfl rfl rfl ?_) | refine wops_cons (wop_extract rfl rfl rfl rfl ?_) | refine mobs_move rfl rfl rfl ?_ | refine m_load rfl rfl rfl (by assumption) ?_ | refine mobs_nil ?_ | refine wd_nil ?_ | refine wd_skip rfl rfl ?_ | refine wd_loudSkip rfl rfl ?_ | refine wd_move rfl rfl rfl ?_ | refine wd_assign rfl rfl rfl ?_ | refine wd_pick rfl rfl rfl rfl ?_ | refine d_load rfl rfl rfl (by assumption) ?_ | refine d_lenI rfl rfl rfl rfl rfl rfl (by assumption) ?_ | refine wp_condT rfl ?_ | refine wp_condF rfl ?_ | refine wp_region ?_ | refine wp_seq ?_ | refine wp_skip ?_ | refine wp_exit ?_ | refine wp_block ?_)
    refine wp_ret ?_
    refine ⟨_, _, rfl, ?_⟩
    rw [permE_bad hlen (fun hok => by have := hok.1 i z hz; omega)] at hk
    exact hk
  have hz0 : ¬ z < 0 := of_decide_eq_false h
  repeat (first | refine wops_nil ?_ | refine wops_cons (wop_skip' rfl rfl ?_) | refine wops_cons (wop_move rfl rfl ?_) | refine wops_cons (wop_assign rfl rfl ?_) | refine wops_cons (wop_bin (op := .add) rfl rfl rfl rfl (inc (by omega)) ?_) | refine wops_cons (o_lenI rfl rfl rfl rfl rfl (by assumption) ?_) | refine wops_cons (o_load rfl rfl (by assumption) ?_) | refine wops_cons (wop_pick rfl rfl rfl ?_) | refine wops_cons (wop_not rfl rfl rfl ?_) | refine wops_cons (wop_extract rfl rfl rfl rfl ?_) | refine mobs_move rfl rfl rfl ?_ | refine m_load rfl rfl rfl (by assumption) ?_ | refine mobs_nil ?_ | refine wd_nil ?_ | refine wd_skip rfl rfl ?_ | refine wd_loudSkip rfl rfl ?_ | refine wd_move rfl rfl rfl ?_ | refine wd_assign rfl rfl rfl ?_ | refine wd_pick rfl rfl rfl rfl ?_ | refine d_load rfl rfl rfl (by assumption) ?_ | refine d_lenI rfl rfl rfl rfl rfl rfl (by assumption) ?_ | refine wp_condT rfl ?_ | refine wp_condF rfl ?_ | refine wp_region ?_ | refine wp_seq ?_ | refine wp_skip ?_ | refine wp_exit ?_ | refine wp_block ?_)
  refine wops_cons (o_indexI rfl rfl hx rfl hz fun p hp => ?_)
  repeat (first | refine wops_nil ?_ | refine wops_cons (wop_skip' rfl rfl ?_) | refine wops_cons (wop_move rfl rfl ?_) | refine wops_cons (wop_assign rfl rfl ?_) | refine wops_cons (wop_bin (op := .add) rfl rfl rfl rfl (inc (by omega)) ?_) | refine wops_cons (o_lenI rfl rfl rfl rfl rfl (by assumption) ?_) | refine wops_cons (o_load rfl rfl (by assumption) ?_) | refine wops_cons (wop_pick rfl rfl rfl ?_) | refine wops_cons (wop_not rfl rfl rfl ?_) | refine wops_cons (wop_extract rfl rfl rfl rfl ?_) | refine mobs_move rfl rfl rfl ?_ | refine m_load rfl rfl rfl (by assumption) ?_ | refine mobs_nil ?_ | refine wd_nil ?_ | refine wd_skip rfl rfl ?_ | refine wd_loudSkip rfl rfl ?_ | refine wd_move rfl rfl rfl ?_ | refine wd_assign rfl rfl rfl ?_ | refine wd_pick rfl rfl rfl rfl ?_ | refine d_load rfl rfl rfl (by assumption) ?_ | refine d_lenI rfl rfl rfl rfl rfl rfl (by assumption) ?_ | refine wp_condT rfl ?_ | refine wp_condF rfl ?_ | refine wp_region ?_ | refine wp_seq ?_ | refine wp_skip ?_ | refine wp_exit ?_ | refine wp_block ?_)
  refine wops_cons (wop_cmp rfl rfl rfl rfl rfl (fun h => ?_) (fun h => ?_))
  · have hz1 : z ≥ l.length := of_decide_eq_true h
    repeat (first | refine wops_nil ?_ | refine wops_cons (wop_skip' rfl rfl ?_) | refine wops_cons (wop_move rfl rfl ?_) | refine wops_cons (wop_assign rfl rfl ?_) | refine wops_cons (wop_bin (op := .add) rfl rfl rfl rfl (inc (by omega)) ?_) | refine wops_cons (o_lenI rfl rfl rfl rfl rfl (by assumption) ?_) | refine wops_cons (o_load rfl rfl (by assumption) ?_) | refine wops_cons (wop_pick rfl rfl rfl ?_) | refine wops_cons (wop_not rfl rfl rfl ?_) | refine wops_cons (wop_extract rfl rfl rfl rfl ?_) | refine mobs_move rfl rfl rfl ?_ | refine m_load rfl rfl rfl (by assumption) ?_ | refine mobs_nil ?_ | refine wd_nil ?_ | refine wd_skip rfl rfl ?_ | refine wd_loudSkip rfl rfl ?_ | refine wd_move rfl rfl rfl ?_ | refine wd_assign rfl rfl rfl ?_ | refine wd_pick rfl rfl rfl rfl ?_ | refine d_load rfl rfl rfl (by assumption) ?_ | refine d_lenI rfl rfl rfl rfl rfl rfl (by assumption) ?_ | refine wp_condT rfl ?_ | refine wp_condF rfl ?_ | refine wp_region ?_ | refine wp_seq ?_ | refine wp_skip ?_ | refine wp_exit ?_ | refine wp_block ?_)
    refine wp_ret ?_
    refine ⟨_, _, rfl, ?_⟩
    rw [permE_bad hlen (fun hok => by have := hok.1 i z hz; omega)] at hk
    exact hk
  have hz1 : ¬ z ≥ l.length := of_decide_eq_false h
  repeat (first | refine wops_nil ?_ | refine wops_cons (wop_skip' rfl rfl ?_) | refine wops_cons (wop_move rfl rfl ?_) | refine wops_cons (wop_assign rfl rfl ?_) | refine wops_cons (wop_bin (op := .add) rfl rfl rfl rfl (inc (by omega)) ?_) | refine wops_cons (o_lenI rfl rfl rfl rfl rfl (by assumption) ?_) | refine wops_cons (o_load rfl rfl (by assumption) ?_) | refine wops_cons (wop_pick rfl rfl rfl ?_) | refine wops_cons (wop_not rfl rfl rfl ?_) | refine wops_cons (wop_extract rfl rfl rfl rfl ?_) | refine mobs_move rfl rfl rfl ?_ | refine m_load rfl rfl rfl (by assumption) ?_ | refine mobs_nil ?_ | refine wd_nil ?_ | refine wd_skip rfl rfl ?_ | refine wd_loudSkip rfl rfl ?_ | refine wd_move rfl rfl rfl ?_ | refine wd_assign rfl rfl rfl ?_ | refine wd_pick rfl rfl rfl rfl ?_ | refine d_load rfl rfl rfl (by assumption) ?_ | refine d_lenI rfl rfl rfl rfl rfl rfl (by assumption) ?_ | refine wp_condT rfl ?_ | refine wp_condF rfl ?_ | refine wp_region ?_ | refine wp_seq ?_ | refine wp_skip ?_ | refine wp_exit ?_ | refine wp_block ?_)
  refine wp_loop (fun k2 T M H2 => ∃ (j : Nat) (Y : List AV), k2 = i - j ∧ j ≤ i ∧ (∀ (k : Nat) (z' : Int), k < j → l[k]? = some z' → z' ≠ z) ∧ M = [] ∧ H2 = H' ∧ T = (x :: lget Y 0 :: iv 0 :: iv (i : Nat) :: iv (j : Nat) :: lget Y 1 :: lget Y 2 :: lget Y 3 :: lget Y 4 :: lget Y 5 :: lget Y 6 :: lget Y 7 :: lget Y 8 :: lget Y 9 :: lget Y 10 :: lget Y 11 :: lget Y 12 :: lget Y 13 :: lget Y 14 :: lget Y 15 :: lget Y 16 :: lget Y 17 :: lget Y 18 :: lget Y 19 :: lget Y 20 :: lget Y 21 :: lget Y 22 :: lget Y 23 :: lget Y 24 :: lget Y 25 :: lget Y 26 :: lget Y 27 :: lget Y 28 :: lget Y 29 :: lget Y 30 :: lget Y 31 :: lget Y 32 :: lget Y 33 :: lget Y 34 :: lget Y 35 :: lget Y 36 :: lget Y 37 :: [])) i
    ⟨0, (_ :: _ :: _ :: _ :: _ :: _ :: _ :: _ :: _ :: _ :: _ :: _ :: _ :: _ :: _ :: _ :: _ :: _ :: _ :: _ :: _ :: _ :: _ :: _ :: _ :: _ :: _ :: _ :: _ :: _ :: _ :: _ :: _ :: _ :: _ :: _ :: _ :: _ :: []), rfl, Nat.zero_le _, fun k z' h => absurd h (by omega), rfl, rfl, rfl⟩ ?_
  rintro k2 T M H2 ⟨j, Y, hk2, hj, hd, rfl, rfl, rfl⟩
  repeat (first | refine wops_nil ?_ | refine wops_cons (wop_skip' rfl rfl ?_) | refine wops_cons (wop_move rfl rfl ?_) | refine wops_cons (wop_assign rfl rfl ?_) | refine wops_cons (wop_bin (op := .add) rfl rfl rfl rfl (inc (by omega)) ?_) | refine wops_cons (o_lenI rfl rfl rfl rfl rfl (by assumption) ?_) | refine wops_cons (o_load rfl rfl (by assumption) ?_) | refine wops_cons (wop_pick rfl rfl rfl ?_) | refine wops_cons (wop_not rfl rfl rfl ?_) | refine wops_cons (wop_extract rfl rfl rfl rfl ?_) | refine mobs_move rfl rfl rfl ?_ | refine m_load rfl rfl rfl (by assumption) ?_ | refine mobs_nil ?_ | refine wd_nil ?_ | refine wd_skip rfl rfl ?_ | refine wd_loudSkip rfl rfl ?_ | refine wd_move rfl rfl rfl ?_ | refine wd_assign rfl rfl rfl ?_ | refine wd_pick rfl rfl rfl rfl ?_ | refine d_load rfl rfl rfl (by assumption) ?_ | refine d_lenI rfl rfl rfl rfl rfl rfl (by assumption) ?_ | refine wp_condT rfl ?_ | refine wp_condF rfl ?_ | refine wp_region ?_ | refine wp_seq ?_ | refine wp_skip ?_ | refine wp_exit ?_ | refine wp_block ?_)
  refine wops_cons (wop_cmp rfl rfl rfl rfl rfl (fun h => ?_) (fun h => ?_))
  rotate_left
  · have hji : ¬ ((j : Int) < i) := of_decide_eq_false h
    have : j = i := by omega
    subst this
    repeat (first | refine wops_nil ?_ | refine wops_cons (wop_skip' rfl rfl ?_) | refine wops_cons (wop_move rfl rfl ?_) | refine wops_cons (wop_assign rfl rfl ?_) | refine wops_cons (wop_bin (op := .add) rfl rfl rfl rfl (inc (by omega)) ?_) | refine wops_cons (o_lenI rfl rfl rfl rfl rfl (by assumption) ?_) | refine wops_cons (o_load rfl rfl (by assumption) ?_) | refine wops_cons (wop_pick rfl rfl rfl ?_) | refine wops_cons (wop_not rfl rfl rfl ?_) | refine wops_cons (wop_extract rfl rfl rfl rfl ?_) | refine mobs_move rfl rfl rfl ?_ | refine m_load rfl rfl rfl (by assumption) ?_ | refine mobs_nil ?_ | refine wd_nil ?_ | refine wd_skip rfl rfl ?_ | refine wd_loudSkip rfl rfl ?_ | refine wd_move rfl rfl rfl ?_ | refine wd_assign rfl rfl rfl ?_ | refine wd_pick rfl rfl rfl rfl ?_ | refine d_load rfl rfl rfl (by assumption) ?_ | refine d_lenI rfl rfl rfl rfl rfl rfl (by assumption) ?_ | refine wp_condT rfl ?_ | refine wp_condF rfl ?_ | refine wp_region ?_ | refine wp_seq ?_ | refine wp_skip ?_ | refine wp_exit ?_ | refine wp_block ?_)
    refine ⟨l.length - (j + 1), by omega, j + 1, (_ :: _ :: _ :: _ :: _ :: _ :: _ :: _ :: _ :: _ :: _ :: _ :: _ :: _ :: _ :: _ :: _ :: _ :: _ :: _ :: _ :: _ :: _ :: _ :: _ :: _ :: _ :: _ :: _ :: _ :: _ :: _ :: _ :: _ :: _ :: _ :: _ :: _ :: _ :: []), rfl, by omega, fun q y hq1 hq2 => ?_, fun k q y hkq hq1 h1 h2 => ?_, rfl, rfl, rfl⟩
    · by_cases e : q = j
      · subst e; rw [hz] at hq2; cases hq2; omega
      · exact hr q y (by omega) hq2
    · by_cases e : q = j
      · subst e; rw [hz] at h2; cases h2; exact hd k _ hkq h1 rfl
      · exact hn k q y hkq (by omega) h1 h2
  have hji : (j : Int) < i := of_decide_eq_true h
  obtain ⟨z2, hz2⟩ := l_some (show j < l.length by omega)
  repeat (first | refine wops_nil ?_ | refine wops_cons (wop_skip' rfl rfl ?_) | refine wops_cons (wop_move rfl rfl ?_) | refine wops_cons (wop_assign rfl rfl ?_) | refine wops_cons (wop_bin (op := .add) rfl rfl rfl rfl (inc (by omega)) ?_) | refine wops_cons (o_lenI rfl rfl rfl rfl rfl (by assumption) ?_) | refine wops_cons (o_load rfl rfl (by assumption) ?_) | refine wops_cons (wop_pick rfl rfl rfl ?_) | refine wops_cons (wop_not rfl rfl rfl ?_) | refine wops_cons (wop_extract rfl rfl rfl rfl ?_) | refine mobs_move rfl rfl rfl ?_ | refine m_load rfl rfl rfl (by assumption) ?_ | refine mobs_nil ?_ | refine wd_nil ?_ | refine wd_skip rfl rfl ?_ | refine wd_loudSkip rfl rfl ?_ | refine wd_move rfl rfl rfl ?_ | refine wd_assign rfl rfl rfl ?_ | refine wd_pick rfl rfl rfl rfl ?_ | refine d_load rfl rfl rfl (by assumption) ?_ | refine d_lenI rfl rfl rfl rfl rfl rfl (by assumption) ?_ | refine wp_condT rfl ?_ | refine wp_condF rfl ?_ | refine wp_region ?_ | refine wp_seq ?_ | refine wp_skip ?_ | refine wp_exit ?_ | refine wp_block ?_)
  refine wp_draw rfl ?_
  repeat (first | refine wops_nil ?_ | refine wops_cons (wop_skip' rfl rfl ?_) | refine wops_cons (wop_move rfl rfl ?_) | refine wops_cons (wop_assign rfl rfl ?_) | refine wops_cons (wop_bin (op := .add) rfl rfl rfl rfl (inc (by omega)) ?_) | refine wops_cons (o_lenI rfl rfl rfl rfl rfl (by assumption) ?_) | refine wops_cons (o_load rfl rfl (by assumption) ?_) | refine wops_cons (wop_pick rfl rfl rfl ?_) | refine wops_cons (wop_not rfl rfl rfl ?_) | refine wops_cons (wop_extract rfl rfl rfl rfl ?_) | refine mobs_move rfl rfl rfl ?_ | refine m_load rfl rfl rfl (by assumption) ?_ | refine mobs_nil ?_ | refine wd_nil ?_ | refine wd_skip rfl rfl ?_ | refine wd_loudSkip rfl rfl ?_ | refine wd_move rfl rfl rfl ?_ | refine wd_assign rfl rfl rfl ?_ | refine wd_pick rfl rfl rfl rfl ?_ | refine d_load rfl rfl rfl (by assumption) ?_ | refine d_lenI rfl rfl rfl rfl rfl rfl (by assumption) ?_ | refine wp_condT rfl ?_ | refine wp_condF rfl ?_ | refine wp_region ?_ | refine wp_seq ?_ | refine wp_skip ?_ | refine wp_exit ?_ | refine wp_block ?_)
  refine m_indexI rfl rfl rfl hx rfl hz2 fun p hp => ?_
  repeat (first | refine wops_nil ?_ | refine wops_cons (wop_skip' rfl rfl ?_) | refine wops_cons (wop_move rfl rfl ?_) | refine wops_cons (wop_assign rfl rfl ?_) | refine wops_cons (wop_bin (op := .add) rfl rfl rfl rfl (inc (by omega)) ?_) | refine wops_cons (o_lenI rfl rfl rfl rfl rfl (by assumption) ?_) | refine wops_cons (o_load rfl rfl (by assumption) ?_) | refine wops_cons (wop_pick rfl rfl rfl ?_) | refine wops_cons (wop_not rfl rfl rfl ?_) | refine wops_cons (wop_extract rfl rfl rfl rfl ?_) | refine mobs_move rfl rfl rfl ?_ | refine m_load rfl rfl rfl (by assumption) ?_ | refine mobs_nil ?_ | refine wd_nil ?_ | refine wd_skip rfl rfl ?_ | refine wd_loudSkip rfl rfl ?_ | refine wd_move rfl rfl rfl ?_ | refine wd_assign rfl rfl rfl ?_ | refine wd_pick rfl rfl rfl rfl ?_ | refine d_load rfl rfl rfl (by assumption) ?_ | refine d_lenI rfl rfl rfl rfl rfl rfl (by assumption) ?_ | refine wp_condT rfl ?_ | refine wp_condF rfl ?_ | refine wp_region ?_ | refine wp_seq ?_ | refine wp_skip ?_ | refine wp_exit ?_ | refine wp_block ?_)
  refine m_indexI rfl rfl rfl hx rfl hz fun p hp => ?_
  repeat (first | refine wops_nil ?_ | refine wops_cons (wop_skip' rfl rfl ?_) | refine wops_cons (wop_move rfl rfl ?_) | refine wops_cons (wop_assign rfl rfl ?_) | refine wops_cons (wop_bin (op := .add) rfl rfl rfl rfl (inc (by omega)) ?_) | refine wops_cons (o_lenI rfl rfl rfl rfl rfl (by assumption) ?_) | refine wops_cons (o_load rfl rfl (by assumption) ?_) | refine wops_cons (wop_pick rfl rfl rfl ?_) | refine wops_cons (wop_not rfl rfl rfl ?_) | refine wops_cons (wop_extract rfl rfl rfl rfl ?_) | refine mobs_move rfl rfl rfl ?_ | refine m_load rfl rfl rfl (by assumption) ?_ | refine mobs_nil ?_ | refine wd_nil ?_ | refine wd_skip rfl rfl ?_ | refine wd_loudSkip rfl rfl ?_ | refine wd_move rfl rfl rfl ?_ | refine wd_assign rfl rfl rfl ?_ | refine wd_pick rfl rfl rfl rfl ?_ | refine d_load rfl rfl rfl (by assumption) ?_ | refine d_lenI rfl rfl rfl rfl rfl rfl (by assumption) ?_ | refine wp_condT rfl ?_ | refine wp_condF rfl ?_ | refine wp_region ?_ | refine wp_seq ?_ | refine wp_skip ?_ | refine wp_exit ?_ | refine wp_block ?_)
  refine mobs_cmp rfl rfl rfl rfl rfl rfl (fun h => ?_) (fun h => ?_)
  · have e : z2 = z := eq_of_beq h
    repeat (first | refine wops_nil ?_ | refine wops_cons (wop_skip' rfl rfl ?_) | refine wops_cons (wop_move rfl rfl ?_) | refine wops_cons (wop_assign rfl rfl ?_) | refine wops_cons (wop_bin (op := .add) rfl rfl rfl rfl (inc (by omega)) ?_) | refine wops_cons (o_lenI rfl rfl rfl rfl rfl (by assumption) ?_) | refine wops_cons (o_load rfl rfl (by assumption) ?_) | refine wops_cons (wop_pick rfl rfl rfl ?_) | refine wops_cons (wop_not rfl rfl rfl ?_) | refine wops_cons (wop_extract rfl rfl rfl rfl ?_) | refine mobs_move rfl rfl rfl ?_ | refine m_load rfl rfl rfl (by assumption) ?_ | refine mobs_nil ?_ | refine wd_nil ?_ | refine wd_skip rfl rfl ?_ | refine wd_loudSkip rfl rfl ?_ | refine wd_move rfl rfl rfl ?_ | refine wd_assign rfl rfl rfl ?_ | refine wd_pick rfl rfl rfl rfl ?_ | refine d_load rfl rfl rfl (by assumption) ?_ | refine d_lenI rfl rfl rfl rfl rfl rfl (by assumption) ?_ | refine wp_condT rfl ?_ | refine wp_condF rfl ?_ | refine wp_region ?_ | refine wp_seq ?_ | refine wp_skip ?_ | refine wp_exit ?_ | refine wp_block ?_)
    refine wp_ret ?_
    refine ⟨_, _, rfl, ?_⟩
    rw [permE_bad hlen (fun hok => hok.2 j i z (by omega) (e ▸ hz2) hz)] at hk
    exact hk
  have e : z2 ≠ z := fun e => by rw [e] at h; simp at h
  repeat (first | refine wops_nil ?_ | refine wops_cons (wop_skip' rfl rfl ?_) | refine wops_cons (wop_move rfl rfl ?_) | refine wops_cons (wop_assign rfl rfl ?_) | refine wops_cons (wop_bin (op := .add) rfl rfl rfl rfl (inc (by omega)) ?_) | refine wops_cons (o_lenI rfl rfl rfl rfl rfl (by assumption) ?_) | refine wops_cons (o_load rfl rfl (by assumption) ?_) | refine wops_cons (wop_pick rfl rfl rfl ?_) | refine wops_cons (wop_not rfl rfl rfl ?_) | refine wops_cons (wop_extract rfl rfl rfl rfl ?_) | refine mobs_move rfl rfl rfl ?_ | refine m_load rfl rfl rfl (by assumption) ?_ | refine mobs_nil ?_ | refine wd_nil ?_ | refine wd_skip rfl rfl ?_ | refine wd_loudSkip rfl rfl ?_ | refine wd_move rfl rfl rfl ?_ | refine wd_assign rfl rfl rfl ?_ | refine wd_pick rfl rfl rfl rfl ?_ | refine d_load rfl rfl rfl (by assumption) ?_ | refine d_lenI rfl rfl rfl rfl rfl rfl (by assumption) ?_ | refine wp_condT rfl ?_ | refine wp_condF rfl ?_ | refine wp_region ?_ | refine wp_seq ?_ | refine wp_skip ?_ | refine wp_exit ?_ | refine wp_block ?_)
  refine ⟨i - (j + 1), by omega, j + 1, (_ :: _ :: _ :: _ :: _ :: _ :: _ :: _ :: _ :: _ :: _ :: _ :: _ :: _ :: _ :: _ :: _ :: _ :: _ :: _ :: _ :: _ :: _ :: _ :: _ :: _ :: _ :: _ :: _ :: _ :: _ :: _ :: _ :: _ :: _ :: _ :: _ :: _ :: []), rfl, by omega, fun k z' hk' hkz => ?_, rfl, rfl, rfl⟩
  by_cases ek : k = j
  · subst ek; rw [hz2] at hkz; cases hkz; exact e
  · exact hd k z' (by omega) hkz
end Go.Ev
namespace Go.Ev
open Go.Proofs

/-- The first number that is not 0, or 0. -/
def firstNZ : List Int → Int
  | [] => 0
  | a :: l => if a = 0 then firstNZ l else a

theorem firstNZ_zero {l : List Int} (h : ∀ (j : Nat) (z : Int), l[j]? = some z → z = 0) : firstNZ l = 0 := by
  induction l with
  | nil => rfl
  | cons a l ih => rw [firstNZ, if_pos (h 0 a rfl)]; exact ih fun j z hj => h (j + 1) z (by simpa using hj)

theorem firstNZ_at {l : List Int} {i : Nat} {y : Int} (h : ∀ (j : Nat) (z : Int), j < i → l[j]? = some z → z = 0) (hi : l[i]? = some y) (hy : y ≠ 0) : firstNZ l = y := by
  induction l generalizing i with
  | nil => simp at hi
  | cons a l ih =>
    cases i with
    | zero => simp at hi; subst hi; rw [firstNZ, if_neg hy]
    | succ i => rw [firstNZ, if_pos (h 0 a (Nat.succ_pos _) rfl)]; exact ih (fun j z hj hz => h (j + 1) z (Nat.succ_lt_succ hj) (by simpa using hz)) (by simpa using hi)

variable {O : CallF} (hq : Quiet O)
include hq

theorem c50 (H : AH) (x : AV) (l : List Int) (hx : Sl H x (ivs l)) (hlen : l.length ≤ 1000) (K : AV → AH → Prop) (hk : K (iv (firstNZ l)) H) : Ca (ENV O) 24 [x] H K := by
  refine ca_intro (hq _ _ _ rfl) (fn := Tryz.f24) (by rfl) rfl ?_
  repeat (first | refine wops_nil ?_ | refine wops_cons (wop_skip' rfl rfl ?_) | refine wops_cons (wop_move rfl rfl ?_) | refine wops_cons (wop_assign rfl rfl ?_) | refine wops_cons (wop_bin (op := .add) rfl rfl rfl rfl (inc (by omega)) ?_) | refine wops_cons (o_lenI rfl rfl rfl rfl rfl (by assumption) ?_) | refine wops_cons (o_load rfl rfl (by assumption) ?_) | refine wops_cons (wop_pick rfl rfl rfl ?_) | refine wops_cons (wop_not rfl rfl rfl ?_) | refine wops_cons (wop_extract rfl rfl rfl rfl ?_) | refine mobs_move rfl rfl rfl ?_ | refine m_load rfl rfl rfl (by assumption) ?_ | refine mobs_nil ?_ | refine wd_nil ?_ | refine wd_skip rfl rfl ?_ | refine wd_loudSkip rfl rfl ?_ | refine wd_move rfl rfl rfl ?_ | refine wd_assign rfl rfl rfl ?_ | refine wd_pick rfl rfl rfl rfl ?_ | refine d_load rfl rfl rfl (by assumption) ?_ | refine d_lenI rfl rfl rfl rfl rfl rfl (by assumption) ?_ | refine wp_condT rfl ?_ | refine wp_condF rfl ?_ | refine wp_region ?_ | refine wp_seq ?_ | refine wp_skip ?_ | refine wp_exit ?_ | refine wp_block ?_)
  refine wp_loop (fun k T M H' => ∃ (i : Nat) (Y : List AV), k = l.length - i ∧ i ≤ l.length ∧ (∀ (j : Nat) (z : Int), j < i → l[j]? = some z → z = 0) ∧ M = [] ∧ H' = H ∧ T = (x :: lget Y 0 :: iv 0 :: lget Y 1 :: lget Y 2 :: x :: iv l.length :: iv (i : Nat) :: lget Y 3 :: lget Y 4 :: lget Y 5 :: lget Y 6 :: lget Y 7 :: lget Y 8 :: lget Y 9 :: [])) l.length
    ⟨0, (_ :: _ :: _ :: _ :: _ :: _ :: _ :: _ :: _ :: _ :: []), rfl, Nat.zero_le _, fun j z h => absurd h (by omega), rfl, rfl, rfl⟩ ?_
  rintro k T M H' ⟨i, Y, hk1, hi, hr, rfl, rfl, rfl⟩
  repeat (first | refine wops_nil ?_ | refine wops_cons (wop_skip' rfl rfl ?_) | refine wops_cons (wop_move rfl rfl ?_) | refine wops_cons (wop_assign rfl rfl ?_) | refine wops_cons (wop_bin (op := .add) rfl rfl rfl rfl (inc (by omega)) ?_) | refine wops_cons (o_lenI rfl rfl rfl rfl rfl (by assumption) ?_) | refine wops_cons (o_load rfl rfl (by assumption) ?_) | refine wops_cons (wop_pick rfl rfl rfl ?_) | refine wops_cons (wop_not rfl rfl rfl ?_) | refine wops_cons (wop_extract rfl rfl rfl rfl ?_) | refine mobs_move rfl rfl rfl ?_ | refine m_load rfl rfl rfl (by assumption) ?_ | refine mobs_nil ?_ | refine wd_nil ?_ | refine wd_skip rfl rfl ?_ | refine wd_loudSkip rfl rfl ?_ | refine wd_move rfl rfl rfl ?_ | refine wd_assign rfl rfl rfl ?_ | refine wd_pick rfl rfl rfl rfl ?_ | refine d_load rfl rfl rfl (by assumption) ?_ | refine d_lenI rfl rfl rfl rfl rfl rfl (by assumption) ?_ | refine wp_condT rfl ?_ | refine wp_condF rfl ?_ | refine wp_region ?_ | refine wp_seq ?_ | refine wp_skip ?_ | refine wp_exit ?_ | refine wp_block ?_)
  refine wops_cons (wop_cmp rfl rfl rfl rfl rfl (fun h => ?_) (fun h => ?_))
  rotate_left
  · repeat (first | refine wops_nil ?_ | refine wops_cons (wop_skip' rfl rfl ?_) | refine wops_cons (wop_move rfl rfl ?_) | refine wops_cons (wop_assign rfl rfl ?_) | refine wops_cons (wop_bin (op := .add) rfl rfl rfl rfl (inc (by omega)) ?_) | refine wops_cons (o_lenI rfl rfl rfl rfl rfl (by assumption) ?_) | refine wops_cons (o_load rfl rfl (by assumption) ?_) | refine wops_cons (wop_pick rfl rfl rfl ?_) | refine wops_cons (wop_not rfl rfl rfl ?_) | refine wops_cons (wop_extract rfl rfl rfl rfl ?_) | refine mobs_move rfl rfl rfl ?_ | refine m_load rfl rfl rfl (by assumption) ?_ | refine mobs_nil ?_ | refine wd_nil ?_ | refine wd_skip rfl rfl ?_ | refine wd_loudSkip rfl rfl ?_ | refine wd_move rfl rfl rfl ?_ | refine wd_assign rfl rfl rfl ?_ | refine wd_pick rfl rfl rfl rfl ?_ | refine d_load rfl rfl rfl (by assumption) ?_ | refine d_lenI rfl rfl rfl rfl rfl rfl (by assumption) ?_ | refine wp_condT rfl ?_ | refine wp_condF rfl ?_ | refine wp_region ?_ | refine wp_seq ?_ | refine wp_skip ?_ | refine wp_exit ?_ | refine wp_block ?_)
    refine wp_ret ?_
    refine ⟨_, _, rfl, ?_⟩
    have h : ¬ ((i : Int) < l.length) := of_decide_eq_false h
    have : i = l.length := by omega
    subst this
    rw [firstNZ_zero fun j z hj => hr j z (List.getElem?_eq_some_iff.1 hj).1 hj] at hk
    exact hk
  have h : (i : Int) < l.length := of_decide_eq_true h
  obtain ⟨z, hz⟩ := l_some (show i < l.length by omega)
  repeat (first | refine wops_nil ?_ | refine wops_cons (wop_skip' rfl rfl ?_) | refine wops_cons (wop_move rfl rfl ?_) | refine wops_cons (wop_assign rfl rfl ?_) | refine wops_cons (wop_bin (op := .add) rfl rfl rfl rfl (inc (by omega)) ?_) | refine wops_cons (o_lenI rfl rfl rfl rfl rfl (by assumption) ?_) | refine wops_cons (o_load rfl rfl (by assumption) ?_) | refine wops_cons (wop_pick rfl rfl rfl ?_) | refine wops_cons (wop_not rfl rfl rfl ?_) | refine wops_cons (wop_extract rfl rfl rfl rfl ?_) | refine mobs_move rfl rfl rfl ?_ | refine m_load rfl rfl rfl (by assumption) ?_ | refine mobs_nil ?_ | refine wd_nil ?_ | refine wd_skip rfl rfl ?_ | refine wd_loudSkip rfl rfl ?_ | refine wd_move rfl rfl rfl ?_ | refine wd_assign rfl rfl rfl ?_ | refine wd_pick rfl rfl rfl rfl ?_ | refine d_load rfl rfl rfl (by assumption) ?_ | refine d_lenI rfl rfl rfl rfl rfl rfl (by assumption) ?_ | refine wp_condT rfl ?_ | refine wp_condF rfl ?_ | refine wp_region ?_ | refine wp_seq ?_ | refine wp_skip ?_ | refine wp_exit ?_ | refine wp_block ?_)
  refine wops_cons (o_indexI rfl rfl hx rfl hz fun p hp => ?_)
  repeat (first | refine wops_nil ?_ | refine wops_cons (wop_skip' rfl rfl ?_) | refine wops_cons (wop_move rfl rfl ?_) | refine wops_cons (wop_assign rfl rfl ?_) | refine wops_cons (wop_bin (op := .add) rfl rfl rfl rfl (inc (by omega)) ?_) | refine wops_cons (o_lenI rfl rfl rfl rfl rfl (by assumption) ?_) | refine wops_cons (o_load rfl rfl (by assumption) ?_) | refine wops_cons (wop_pick rfl rfl rfl ?_) | refine wops_cons (wop_not rfl rfl rfl ?_) | refine wops_cons (wop_extract rfl rfl rfl rfl ?_) | refine mobs_move rfl rfl rfl ?_ | refine m_load rfl rfl rfl (by assumption) ?_ | refine mobs_nil ?_ | refine wd_nil ?_ | refine wd_skip rfl rfl ?_ | refine wd_loudSkip rfl rfl ?_ | refine wd_move rfl rfl rfl ?_ | refine wd_assign rfl rfl rfl ?_ | refine wd_pick rfl rfl rfl rfl ?_ | refine d_load rfl rfl rfl (by assumption) ?_ | refine d_lenI rfl rfl rfl rfl rfl rfl (by assumption) ?_ | refine wp_condT rfl ?_ | refine wp_condF rfl ?_ | refine wp_region ?_ | refine wp_seq ?_ | refine wp_skip ?_ | refine wp_exit ?_ | refine wp_block ?_)
  refine wops_cons (wop_cmp rfl rfl rfl rfl rfl (fun h => ?_) (fun h => ?_))
  · have hz0 : z ≠ 0 := by simpa using h
    repeat (first | refine wops_nil ?_ | refine wops_cons (wop_skip' rfl rfl ?_) | refine wops_cons (wop_move rfl rfl ?_) | refine wops_cons (wop_assign rfl rfl ?_) | refine wops_cons (wop_bin (op := .add) rfl rfl rfl rfl (inc (by omega)) ?_) | refine wops_cons (o_lenI rfl rfl rfl rfl rfl (by assumption) ?_) | refine wops_cons (o_load rfl rfl (by assumption) ?_) | refine wops_cons (wop_pick rfl rfl rfl ?_) | refine wops_cons (wop_not rfl rfl rfl ?_) | refine wops_cons (wop_extract rfl rfl rfl rfl ?_) | refine mobs_move rfl rfl rfl ?_ | refine m_load rfl rfl rfl (by assumption) ?_ | refine mobs_nil ?_ | refine wd_nil ?_ | refine wd_skip rfl rfl ?_ | refine wd_loudSkip rfl rfl ?_ | refine wd_move rfl rfl rfl ?_ | refine wd_assign rfl rfl rfl ?_ | refine wd_pick rfl rfl rfl rfl ?_ | refine d_load rfl rfl rfl (by assumption) ?_ | refine d_lenI rfl rfl rfl rfl rfl rfl (by assumption) ?_ | refine wp_condT rfl ?_ | refine wp_condF rfl ?_ | refine wp_region ?_ | refine wp_seq ?_ | refine wp_skip ?_ | refine wp_exit ?_ | refine wp_block ?_)
    refine wp_ret ?_
    refine ⟨_, _, rfl, ?_⟩
    rw [firstNZ_at hr hz hz0] at hk
    exact hk
  have hz0 : z = 0 := by simpa using h
  repeat (first | refine wops_nil ?_ | refine wops_cons (wop_skip' rfl rfl ?_) | refine wops_cons (wop_move rfl rfl ?_) | refine wops_cons (wop_assign rfl rfl ?_) | refine wops_cons (wop_bin (op := .add) rfl rfl rfl rfl (inc (by omega)) ?_) | refine wops_cons (o_lenI rfl rfl rfl rfl rfl (by assumption) ?_) | refine wops_cons (o_load rfl rfl (by assumption) ?_) | refine wops_cons (wop_pick rfl rfl rfl ?_) | refine wops_cons (wop_not rfl rfl rfl ?_) | refine wops_cons (wop_extract rfl rfl rfl rfl ?_) | refine mobs_move rfl rfl rfl ?_ | refine m_load rfl rfl rfl (by assumption) ?_ | refine mobs_nil ?_ | refine wd_nil ?_ | refine wd_skip rfl rfl ?_ | refine wd_loudSkip rfl rfl ?_ | refine wd_move rfl rfl rfl ?_ | refine wd_assign rfl rfl rfl ?_ | refine wd_pick rfl rfl rfl rfl ?_ | refine d_load rfl rfl rfl (by assumption) ?_ | refine d_lenI rfl rfl rfl rfl rfl rfl (by assumption) ?_ | refine wp_condT rfl ?_ | refine wp_condF rfl ?_ | refine wp_region ?_ | refine wp_seq ?_ | refine wp_skip ?_ | refine wp_exit ?_ | refine wp_block ?_)
  refine ⟨l.length - (i + 1), by omega, i + 1, (_ :: _ :: _ :: _ :: _ :: _ :: _ :: _ :: _ :: _ :: []), rfl, by omega, fun q y hq1 hq2 => ?_, rfl, rfl, rfl⟩
  by_cases e : q = i
  · subst e; rw [hz] at hq2; cases hq2; exact hz0
  · exact hr q y (by omega) hq2

theorem c32 (H : AH) (x y : AV) (l m : List Int) (hx : Sl H x (ivs l)) (hy : Sl H y (ivs m)) (hlen : l.length ≤ 100000) (K : AV → AH → Prop) (hk : K (.v (.bool (decide (l = m)))) H) : Ca (ENV O) 13 [x, y] H K := by
  refine ca_intro (hq _ _ _ rfl) (fn := Tryz.f13) (by rfl) rfl ?_
  repeat (first | refine wops_nil ?_ | refine wops_cons (wop_skip' rfl rfl ?_) | refine wops_cons (wop_move rfl rfl ?_) | refine wops_cons (wop_assign rfl rfl ?_) | refine wops_cons (wop_bin (op := .add) rfl rfl rfl rfl (inc (by omega)) ?_) | refine wops_cons (o_lenI rfl rfl rfl rfl rfl (by assumption) ?_) | refine wops_cons (o_load rfl rfl (by assumption) ?_) | refine wops_cons (wop_pick rfl rfl rfl ?_) | refine wops_cons (wop_not rfl rfl rfl ?_) | refine wops_cons (wop_extract rfl rfl rfl rfl ?_) | refine mobs_move rfl rfl rfl ?_ | refine m_load rfl rfl rfl (by assumption) ?_ | refine mobs_nil ?_ | refine wd_nil ?_ | refine wd_skip rfl rfl ?_ | refine wd_loudSkip rfl rfl ?_ | refine wd_move rfl rfl rfl ?_ | refine wd_assign rfl rfl rfl ?_ | refine wd_pick rfl rfl rfl rfl ?_ | refine d_load rfl rfl rfl (by assumption) ?_ | refine d_lenI rfl rfl rfl rfl rfl rfl (by assumption) ?_ | refine wp_condT rfl ?_ | refine wp_condF rfl ?_ | refine wp_region ?_ | refine wp_seq ?_ | refine wp_skip ?_ | refine wp_exit ?_ | refine wp_block ?_)
  refine wops_cons (wop_cmp rfl rfl rfl rfl rfl (fun h => ?_) (fun h => ?_))
  · have h : (l.length : Int) ≠ m.length := by simpa using h
    repeat (first | refine wops_nil ?_ | refine wops_cons (wop_skip' rfl rfl ?_) | refine wops_cons (wop_move rfl rfl ?_) | refine wops_cons (wop_assign rfl rfl ?_) | refine wops_cons (wop_bin (op := .add) rfl rfl rfl rfl (inc (by omega)) ?_) | refine wops_cons (o_lenI rfl rfl rfl rfl rfl (by assumption) ?_) | refine wops_cons (o_load rfl rfl (by assumption) ?_) | refine wops_cons (wop_pick rfl rfl rfl ?_) | refine wops_cons (wop_not rfl rfl rfl ?_) | refine wops_cons (wop_extract rfl rfl rfl rfl ?_) | refine mobs_move rfl rfl rfl ?_ | refine m_load rfl rfl rfl (by assumption) ?_ | refine mobs_nil ?_ | refine wd_nil ?_ | refine wd_skip rfl rfl ?_ | refine wd_loudSkip rfl rfl ?_ | refine wd_move rfl rfl rfl ?_ | refine wd_assign rfl rfl rfl ?_ | refine wd_pick rfl rfl rfl rfl ?_ | refine d_load rfl rfl rfl (by assumption) ?_ | refine d_lenI rfl rfl rfl rfl rfl rfl (by assumption) ?_ | refine wp_condT rfl ?_ | refine wp_condF rfl ?_ | refine wp_region ?_ | refine wp_seq ?_ | refine wp_skip ?_ | refine wp_exit ?_ | refine wp_block ?_)
    refine wp_ret ?_
    refine ⟨_, _, rfl, ?_⟩
    rw [decide_eq_false (show ¬ l = m from fun e => h (by rw [e]))] at hk
    exact hk
  have hlm : (l.length : Int) = m.length := by simpa using h
  repeat (first | refine wops_nil ?_ | refine wops_cons (wop_skip' rfl rfl ?_) | refine wops_cons (wop_move rfl rfl ?_) | refine wops_cons (wop_assign rfl rfl ?_) | refine wops_cons (wop_bin (op := .add) rfl rfl rfl rfl (inc (by omega)) ?_) | refine wops_cons (o_lenI rfl rfl rfl rfl rfl (by assumption) ?_) | refine wops_cons (o_load rfl rfl (by assumption) ?_) | refine wops_cons (wop_pick rfl rfl rfl ?_) | refine wops_cons (wop_not rfl rfl rfl ?_) | refine wops_cons (wop_extract rfl rfl rfl rfl ?_) | refine mobs_move rfl rfl rfl ?_ | refine m_load rfl rfl rfl (by assumption) ?_ | refine mobs_nil ?_ | refine wd_nil ?_ | refine wd_skip rfl rfl ?_ | refine wd_loudSkip rfl rfl ?_ | refine wd_move rfl rfl rfl ?_ | refine wd_assign rfl rfl rfl ?_ | refine wd_pick rfl rfl rfl rfl ?_ | refine d_load rfl rfl rfl (by assumption) ?_ | refine d_lenI rfl rfl rfl rfl rfl rfl (by assumption) ?_ | refine wp_condT rfl ?_ | refine wp_condF rfl ?_ | refine wp_region ?_ | refine wp_seq ?_ | refine wp_skip ?_ | refine wp_exit ?_ | refine wp_block ?_)
  refine wp_loop (fun k T M H' => ∃ (i : Nat) (Y : List AV), k = l.length - i ∧ i ≤ l.length ∧ (∀ (j : Nat), j < i → l[j]? = m[j]?) ∧ M = [] ∧ H' = H ∧ T = (x :: y :: lget Y 0 :: lget Y 1 :: .v (.bool false) :: iv (i : Nat) :: lget Y 2 :: lget Y 3 :: lget Y 4 :: lget Y 5 :: lget Y 6 :: lget Y 7 :: lget Y 8 :: lget Y 9 :: lget Y 10 :: lget Y 11 :: lget Y 12 :: lget Y 13 :: lget Y 14 :: lget Y 15 :: lget Y 16 :: lget Y 17 :: lget Y 18 :: lget Y 19 :: lget Y 20 :: lget Y 21 :: [])) l.length
    ⟨0, (_ :: _ :: _ :: _ :: _ :: _ :: _ :: _ :: _ :: _ :: _ :: _ :: _ :: _ :: _ :: _ :: _ :: _ :: _ :: _ :: _ :: _ :: []), rfl, Nat.zero_le _, fun j h => absurd h (by omega), rfl, rfl, rfl⟩ ?_
  rintro k T M H' ⟨i, Y, hk1, hi, hr, rfl, rfl, rfl⟩
  repeat (first | refine wops_nil ?_ | refine wops_cons (wop_skip' rfl rfl ?_) | refine wops_cons (wop_move rfl rfl ?_) | refine wops_cons (wop_assign rfl rfl ?_) | refine wops_cons (wop_bin (op := .add) rfl rfl rfl rfl (inc (by omega)) ?_) | refine wops_cons (o_lenI rfl rfl rfl rfl rfl (by assumption) ?_) | refine wops_cons (o_load rfl rfl (by assumption) ?_) | refine wops_cons (wop_pick rfl rfl rfl ?_) | refine wops_cons (wop_not rfl rfl rfl ?_) | refine wops_cons (wop_extract rfl rfl rfl rfl ?_) | refine mobs_move rfl rfl rfl ?_ | refine m_load rfl rfl rfl (by assumption) ?_ | refine mobs_nil ?_ | refine wd_nil ?_ | refine wd_skip rfl rfl ?_ | refine wd_loudSkip rfl rfl ?_ | refine wd_move rfl rfl rfl ?_ | refine wd_assign rfl rfl rfl ?_ | refine wd_pick rfl rfl rfl rfl ?_ | refine d_load rfl rfl rfl (by assumption) ?_ | refine d_lenI rfl rfl rfl rfl rfl rfl (by assumption) ?_ | refine wp_condT rfl ?_ | refine wp_condF rfl ?_ | refine wp_region ?_ | refine wp_seq ?_ | refine wp_skip ?_ | refine wp_exit ?_ | refine wp_block ?_)
  refine wops_cons (wop_cmp rfl rfl rfl rfl rfl (fun h => ?_) (fun h => ?_))
  rotate_left
  · repeat (first | refine wops_nil ?_ | refine wops_cons (wop_skip' rfl rfl ?_) | refine wops_cons (wop_move rfl rfl ?_) | refine wops_cons (wop_assign rfl rfl ?_) | refine wops_cons (wop_bin (op := .add) rfl rfl rfl rfl (inc (by omega)) ?_) | refine wops_cons (o_lenI rfl rfl rfl rfl rfl (by assumption) ?_) | refine wops_cons (o_load rfl rfl (by assumption) ?_) | refine wops_cons (wop_pick rfl rfl rfl ?_) | refine wops_cons (wop_not rfl rfl rfl ?_) | refine wops_cons (wop_extract rfl rfl rfl rfl ?_) | refine mobs_move rfl rfl rfl ?_ | refine m_load rfl rfl rfl (by assumption) ?_ | refine mobs_nil ?_ | refine wd_nil ?_ | refine wd_skip rfl rfl ?_ | refine wd_loudSkip rfl rfl ?_ | refine wd_move rfl rfl rfl ?_ | refine wd_assign rfl rfl rfl ?_ | refine wd_pick rfl rfl rfl rfl ?_ | refine d_load rfl rfl rfl (by assumption) ?_ | refine d_lenI rfl rfl rfl rfl rfl rfl (by assumption) ?_ | refine wp_condT rfl ?_ | refine wp_condF rfl ?_ | refine wp_region ?_ | refine wp_seq ?_ | refine wp_skip ?_ | refine wp_exit ?_ | refine wp_block ?_)
    refine wp_ret ?_
    refine ⟨_, _, rfl, ?_⟩
    have h : ¬ ((i : Int) < l.length) := of_decide_eq_false h
    have : i = l.length := by omega
    subst this
    have e : l = m := List.ext_getElem? fun j => by
      rcases Nat.lt_or_ge j l.length with hj | hj
      · exact hr j hj
      · rw [List.getElem?_eq_none hj, List.getElem?_eq_none (by omega)]
    rw [decide_eq_true e] at hk
    exact hk
  have h : (i : Int) < l.length := of_decide_eq_true h
  obtain ⟨z, hz⟩ := l_some (show i < l.length by omega)
  obtain ⟨z2, hz2⟩ := l_some (l := m) (show i < m.length by omega)
  repeat (first | refine wops_nil ?_ | refine wops_cons (wop_skip' rfl rfl ?_) | refine wops_cons (wop_move rfl rfl ?_) | refine wops_cons (wop_assign rfl rfl ?_) | refine wops_cons (wop_bin (op := .add) rfl rfl rfl rfl (inc (by omega)) ?_) | refine wops_cons (o_lenI rfl rfl rfl rfl rfl (by assumption) ?_) | refine wops_cons (o_load rfl rfl (by assumption) ?_) | refine wops_cons (wop_pick rfl rfl rfl ?_) | refine wops_cons (wop_not rfl rfl rfl ?_) | refine wops_cons (wop_extract rfl rfl rfl rfl ?_) | refine mobs_move rfl rfl rfl ?_ | refine m_load rfl rfl rfl (by assumption) ?_ | refine mobs_nil ?_ | refine wd_nil ?_ | refine wd_skip rfl rfl ?_ | refine wd_loudSkip rfl rfl ?_ | refine wd_move rfl rfl rfl ?_ | refine wd_assign rfl rfl rfl ?_ | refine wd_pick rfl rfl rfl rfl ?_ | refine d_load rfl rfl rfl (by assumption) ?_ | refine d_lenI rfl rfl rfl rfl rfl rfl (by assumption) ?_ | refine wp_condT rfl ?_ | refine wp_condF rfl ?_ | refine wp_region ?_ | refine wp_seq ?_ | refine wp_skip ?_ | refine wp_exit ?_ | refine wp_block ?_)
  refine wp_draw rfl ?_
  repeat (first | refine wops_nil ?_ | refine wops_cons (wop_skip' rfl rfl ?_) | refine wops_cons (wop_move rfl rfl ?_) | refine wops_cons (wop_assign rfl rfl ?_) | refine wops_cons (wop_bin (op := .add) rfl rfl rfl rfl (inc (by omega)) ?_) | refine wops_cons (o_lenI rfl rfl rfl rfl rfl (by assumption) ?_) | refine wops_cons (o_load rfl rfl (by assumption) ?_) | refine wops_cons (wop_pick rfl rfl rfl ?_) | refine wops_cons (wop_not rfl rfl rfl ?_) | refine wops_cons (wop_extract rfl rfl rfl rfl ?_) | refine mobs_move rfl rfl rfl ?_ | refine m_load rfl rfl rfl (by assumption) ?_ | refine mobs_nil ?_ | refine wd_nil ?_ | refine wd_skip rfl rfl ?_ | refine wd_loudSkip rfl rfl ?_ | refine wd_move rfl rfl rfl ?_ | refine wd_assign rfl rfl rfl ?_ | refine wd_pick rfl rfl rfl rfl ?_ | refine d_load rfl rfl rfl (by assumption) ?_ | refine d_lenI rfl rfl rfl rfl rfl rfl (by assumption) ?_ | refine wp_condT rfl ?_ | refine wp_condF rfl ?_ | refine wp_region ?_ | refine wp_seq ?_ | refine wp_skip ?_ | refine wp_exit ?_ | refine wp_block ?_)
  refine m_indexI rfl rfl rfl hx rfl hz fun p hp => ?_
  repeat (first | refine wops_nil ?_ | refine wops_cons (wop_skip' rfl rfl ?_) | refine wops_cons (wop_move rfl rfl ?_) | refine wops_cons (wop_assign rfl rfl ?_) | refine wops_cons (wop_bin (op := .add) rfl rfl rfl rfl (inc (by omega)) ?_) | refine wops_cons (o_lenI rfl rfl rfl rfl rfl (by assumption) ?_) | refine wops_cons (o_load rfl rfl (by assumption) ?_) | refine wops_cons (wop_pick rfl rfl rfl ?_) | refine wops_cons (wop_not rfl rfl rfl ?_) | refine wops_cons (wop_extract rfl rfl rfl rfl ?_) | refine mobs_move rfl rfl rfl ?_ | refine m_load rfl rfl rfl (by assumption) ?_ | refine mobs_nil ?_ | refine wd_nil ?_ | refine wd_skip rfl rfl ?_ | refine wd_loudSkip rfl rfl ?_ | refine wd_move rfl rfl rfl ?_ | refine wd_assign rfl rfl rfl ?_ | refine wd_pick rfl rfl rfl rfl ?_ | refine d_load rfl rfl rfl (by assumption) ?_ | refine d_lenI rfl rfl rfl rfl rfl rfl (by assumption) ?_ | refine wp_condT rfl ?_ | refine wp_condF rfl ?_ | refine wp_region ?_ | refine wp_seq ?_ | refine wp_skip ?_ | refine wp_exit ?_ | refine wp_block ?_)
  refine m_indexI rfl rfl rfl hy rfl hz2 fun p hp => ?_
  repeat (first | refine wops_nil ?_ | refine wops_cons (wop_skip' rfl rfl ?_) | refine wops_cons (wop_move rfl rfl ?_) | refine wops_cons (wop_assign rfl rfl ?_) | refine wops_cons (wop_bin (op := .add) rfl rfl rfl rfl (inc (by omega)) ?_) | refine wops_cons (o_lenI rfl rfl rfl rfl rfl (by assumption) ?_) | refine wops_cons (o_load rfl rfl (by assumption) ?_) | refine wops_cons (wop_pick rfl rfl rfl ?_) | refine wops_cons (wop_not rfl rfl rfl ?_) | refine wops_cons (wop_extract rfl rfl rfl rfl ?_) | refine mobs_move rfl rfl rfl ?_ | refine m_load rfl rfl rfl (by assumption) ?_ | refine mobs_nil ?_ | refine wd_nil ?_ | refine wd_skip rfl rfl ?_ | refine wd_loudSkip rfl rfl ?_ | refine wd_move rfl rfl rfl ?_ | refine wd_assign rfl rfl rfl ?_ | refine wd_pick rfl rfl rfl rfl ?_ | refine d_load rfl rfl rfl (by assumption) ?_ | refine d_lenI rfl rfl rfl rfl rfl rfl (by assumption) ?_ | refine wp_condT rfl ?_ | refine wp_condF rfl ?_ | refine wp_region ?_ | refine wp_seq ?_ | refine wp_skip ?_ | refine wp_exit ?_ | refine wp_block ?_)
  refine mobs_cmp rfl rfl rfl rfl rfl rfl (fun h => ?_) (fun h => ?_)
  · have e : z ≠ z2 := by simpa using h
    repeat (first | refine wops_nil ?_ | refine wops_cons (wop_skip' rfl rfl ?_) | refine wops_cons (wop_move rfl rfl ?_) | refine wops_cons (wop_assign rfl rfl ?_) | refine wops_cons (wop_bin (op := .add) rfl rfl rfl rfl (inc (by omega)) ?_) | refine wops_cons (o_lenI rfl rfl rfl rfl rfl (by assumption) ?_) | refine wops_cons (o_load rfl rfl (by assumption) ?_) | refine wops_cons (wop_pick rfl rfl rfl ?_) | refine wops_cons (wop_not rfl rfl rfl ?_) | refine wops_cons (wop_extract rfl rfl rfl rfl ?_) | refine mobs_move rfl rfl rfl ?_ | refine m_load rfl rfl rfl (by assumption) ?_ | refine mobs_nil ?_ | refine wd_nil ?_ | refine wd_skip rfl rfl ?_ | refine wd_loudSkip rfl rfl ?_ | refine wd_move rfl rfl rfl ?_ | refine wd_assign rfl rfl rfl ?_ | refine wd_pick rfl rfl rfl rfl ?_ | refine d_load rfl rfl rfl (by assumption) ?_ | refine d_lenI rfl rfl rfl rfl rfl rfl (by assumption) ?_ | refine wp_condT rfl ?_ | refine wp_condF rfl ?_ | refine wp_region ?_ | refine wp_seq ?_ | refine wp_skip ?_ | refine wp_exit ?_ | refine wp_block ?_)
    refine wp_ret ?_
    refine ⟨_, _, rfl, ?_⟩
    rw [decide_eq_false (show ¬ l = m from fun e' => e (by rw [e', hz2] at hz; cases hz; rfl))] at hk
    exact hk
  have e : z = z2 := by simpa using h
  repeat (first | refine wops_nil ?_ | refine wops_cons (wop_skip' rfl rfl ?_) | refine wops_cons (wop_move rfl rfl ?_) | refine wops_cons (wop_assign rfl rfl ?_) | refine wops_cons (wop_bin (op := .add) rfl rfl rfl rfl (inc (by omega)) ?_) | refine wops_cons (o_lenI rfl rfl rfl rfl rfl (by assumption) ?_) | refine wops_cons (o_load rfl rfl (by assumption) ?_) | refine wops_cons (wop_pick rfl rfl rfl ?_) | refine wops_cons (wop_not rfl rfl rfl ?_) | refine wops_cons (wop_extract rfl rfl rfl rfl ?_) | refine mobs_move rfl rfl rfl ?_ | refine m_load rfl rfl rfl (by assumption) ?_ | refine mobs_nil ?_ | refine wd_nil ?_ | refine wd_skip rfl rfl ?_ | refine wd_loudSkip rfl rfl ?_ | refine wd_move rfl rfl rfl ?_ | refine wd_assign rfl rfl rfl ?_ | refine wd_pick rfl rfl rfl rfl ?_ | refine d_load rfl rfl rfl (by assumption) ?_ | refine d_lenI rfl rfl rfl rfl rfl rfl (by assumption) ?_ | refine wp_condT rfl ?_ | refine wp_condF rfl ?_ | refine wp_region ?_ | refine wp_seq ?_ | refine wp_skip ?_ | refine wp_exit ?_ | refine wp_block ?_)
  refine ⟨l.length - (i + 1), by omega, i + 1, (_ :: _ :: _ :: _ :: _ :: _ :: _ :: _ :: _ :: _ :: _ :: _ :: _ :: _ :: _ :: _ :: _ :: _ :: _ :: _ :: _ :: _ :: []), rfl, by omega, fun q hq1 => ?_, rfl, rfl, rfl⟩
  by_cases e' : q = i
  · subst e'; rw [hz, hz2, e]
  · exact hr q (by omega)

/-- Does a list that came with an error fit? -/
def listB (l : List Int) (e bad : Int) (m : List Int) : Bool := if bad = 0 then decide (e = 0) && decide (l = m) else decide (l.length = 0) && decide (e = bad)

end Go.Ev
