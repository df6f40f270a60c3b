/- Part of an evaluator of calls that is proved sound, and of what it gives about this program. No condition of its own. -/
import Derived.Test.YtanaplokhjgfmaaGreatDoorEvRx
set_option linter.unusedVariables false
set_option linter.unusedSimpArgs false
set_option linter.unusedSectionVars false
set_option maxRecDepth 100000
set_option maxHeartbeats 4000000
namespace Go.Ev
open Go.Proofs
section
variable {O : CallF} {T : List AV} {H H0 : AH} {ops : Array Oper} {o : Oper} {i : Nat} {π : List Stp} {K : AV → AH → Prop} {B : Nat → Prop}
theorem o_max {c : Call} {x y : Operand} {a b : Int} (ho : o.op = .call c) (hg : wantedA o ops T = true) (hc : c.callee = .builtin .max) (hargs : c.args.toList = [x, y]) (hx : av T x = iv a) (hy : av T y = iv b) (hk : K (iv (if b > a then b else a)) H) : WOp (ENV O) ops o T H K := by
 refine wop_val (by rw [ho]; simp only [still, hc]) hg (r := iv (if b > a then b else a)) ?_ (Nat.le_refl _) hk
 unfold opEval; rw [ho]
 simp only [ENV, oCall, hc, oBuiltin]
 unfold plainOp
 have h2 : runPure Tryz.prog (execOp (fun x => ((av T x).plain).getD undef) o) = some (.value (.int .i64 (if b > a then b else a))) := by
   obtain ⟨dst, op', type, pos, after, guard⟩ := o
   simp only at ho
   subst ho
   obtain ⟨callee, args, ats⟩ := c
   simp only at hc hargs
   subst hc
   have ha : args = #[x, y] := by apply Array.ext'; simpa using hargs
   subst ha
   simp only [execOp, Go.resolve, runPure_bind, runPure_pure, Option.bind_some, Go.invoke, Go.builtin, Builtin.max_, Builtin.max2, List.map_toArray, List.map_cons, List.map_nil, hx, hy, AV.plain, Option.getD_some, List.foldlM_cons, List.foldlM_nil]
 rw [h2, ho]
 obtain ⟨callee, args, ats⟩ := c
 simp only at hc hargs
 subst hc
 have ha : args = #[x, y] := by apply Array.ext'; simpa using hargs
 subst ha
 simp [Op.operands, Call.operands, hx, hy, AV.plain]
end
theorem load2 {H : AH} {b : Nat} {t : TypeId} {x y : AV} [hs : Stru t 2] (h : H.get b = some (.cells [x, y] t 0)) : loadA Tryz.prog t b 0 H = some (.agg [x, y]) := by
 have h1 := hs.a
 have h2 := hs.s
 unfold loadA
 rw [h]
 simp only [h1, h2]
 rfl
def nums (n : Nat) : List Int := (List.range n).map fun (i : Nat) => (i : Int)
theorem nums_len (n : Nat) : (nums n).length = n := by simp [nums]
theorem nums_get {n i : Nat} (h : i < n) : (nums n)[i]? = some (i : Int) := by simp [nums, h]
variable {O : CallF} (hq : Quiet O)
include hq
theorem cNumbers (H : AH) (n : Nat) (hn : n ≤ 1000) (hr : H.next + 10 < 2 ^ 59) (K : AV → AH → Prop) (hk : ∀ H', Keeps H H' → H'.next = H.next + 1 → H'.get H.next = some (.cells (ivs (nums n)) 3 0) → K (.slc H.next 0 n n) H') : Ca (ENV O) 86 [iv (n : Nat)] H K := by
 refine ca_intro (hq _ _ _ rfl) (fn := Tryz.f86) (by rfl) rfl ?_
 have r0 : H.next < 2 ^ 59 := by omega
 repeat (first | apply qN | refine qM rfl rfl ?_ | apply qR | apply qS)
 refine wops_cons (o_make (n := n) rfl rfl rfl rfl (by omega) r0 ?_)
 refine WOps.mem (fun H1 => Keeps H H1 ∧ H1.next = H.next + 1 ∧ H1.get H.next = some (.cells (ivs (List.replicate n 0)) 3 0)) ⟨(Keeps.refl H).add _ r0, rfl, ?_⟩ ?_
 · rw [← ivs_rep]; exact get_add_eq r0
 rintro H1 ⟨k1, n1, g1⟩
 have hS1 : Sl H1 (.slc H.next 0 n n) (ivs (List.replicate n 0)) := ⟨by simp [ivs], r0, _, _, _, g1, fun j v hv => by rw [Nat.zero_add]; exact hv⟩
 repeat (first | apply qN | refine qM rfl rfl ?_ | refine zq5 rfl rfl rfl rfl rfl ‹_› ?_ | apply qR | apply qS | apply qB)
 rw [List.length_replicate]
 refine wp_loop (fun q T M H' => ∃ (i : Nat) (Y : List AV), q = n - i ∧ i ≤ n ∧ Keeps H H' ∧ H'.next = H.next + 1 ∧ H'.get H.next = some (.cells (ivs ((nums n).take i ++ List.replicate (n - i) 0)) 3 0) ∧ M = [] ∧ T = (lget Y 0 :: lget Y 1 :: lget Y 2 :: .slc H.next 0 n n :: lget Y 3 :: lget Y 4 :: lget Y 5 :: .slc H.next 0 n n :: iv (n : Nat) :: iv (i : Nat) :: lget Y 6 :: lget Y 7 :: lget Y 8 :: lget Y 9 :: lget Y 10 :: lget Y 11 :: lget Y 12 :: lget Y 13 :: [])) n
   ⟨0, [_,_,_,_,_,_,_,_,_,_,_,_,_,_], rfl, Nat.zero_le _, k1, n1, g1, rfl, rfl⟩ ?_
 rintro q T M H2 ⟨i, Y, hq2, hi, k2, n2, g2, rfl, rfl⟩
 repeat (first | apply qR | apply qS)
 refine wops_cons (wop_cmp rfl rfl rfl rfl rfl (fun h => ?_) (fun h => ?_))
 rotate_left
 · have h : ¬ ((i : Int) < (n : Nat)) := of_decide_eq_false h
   have e : i = n := by omega
   subst e
   rw [Nat.sub_self, List.replicate_zero, List.append_nil, List.take_of_length_le (by rw [nums_len]; exact Nat.le_refl _)] at g2
   repeat (first | apply qN | refine qM rfl rfl ?_ | refine qF rfl ?_ | apply qR | apply qS | apply qE)
   refine wp_ret ?_
   exact ⟨_, _, rfl, hk H2 k2 n2 g2⟩
 have hi' : i < n := by have h : (i : Int) < (n : Nat) := of_decide_eq_true h; omega
 clear h
 repeat (first | apply qN | refine qM rfl rfl ?_ | refine qT rfl ?_ | apply qR | apply qS | apply qK | apply qB)
 refine wops_cons (o_indexOwn rfl rfl rfl rfl hi' ?_)
 refine wops_cons (o_store rfl rfl rfl g2 (by rw [ivs_length, List.length_append, List.length_take, List.length_replicate, nums_len]; omega) rfl ?_)
 refine WOps.mem (fun H3 => Keeps H H3 ∧ H3.next = H.next + 1 ∧ H3.get H.next = some (.cells (ivs ((nums n).take (i + 1) ++ List.replicate (n - (i + 1)) 0)) 3 0)) ⟨k2.set _ (Nat.le_refl _) r0, n2, ?_⟩ ?_
 · refine (get_set_eq r0).trans ?_
   rw [← fill_set (nums_len n) hi' (nums_get hi'), ← ivs_set]
   rfl
 rintro H3 ⟨k3, n3, g3⟩
 repeat (first | apply qN | refine qM rfl rfl ?_ | refine zq4 rfl rfl rfl rfl (inc (by omega)) ?_ | apply qR)
 exact ⟨n - (i + 1), by omega, i + 1, [_,_,_,_,_,_,_,_,_,_,_,_,_,_], rfl, by omega, k3, n3, g3, rfl, rfl⟩
end Go.Ev
namespace Go.Ev
open Go.Proofs
theorem o_build4 {O : CallF} {T : List AV} {H : AH} {ops : Array Oper} {o : Oper} {K : AV → AH → Prop} {t e : TypeId} {x y w u : Operand} {z0 : Value} (ho : o.op = .buildSlice t 4 #[(0, x), (1, y), (2, w), (3, u)]) (hg : wantedA o ops T = true) [hu : TyS t e] [hs : Cell e] [hz : Zero e z0] (h1 : (av T x).one = true) (h2 : (av T y).one = true) (h3 : (av T w).one = true) (h4 : (av T u).one = true) (hr : H.next < 2 ^ 59)
   (hk : K (.slc H.next 0 4 4) (H.add (.cells [av T x, av T y, av T w, av T u] e 0))) : WOp (ENV O) ops o T H K := by
 refine wop_val (by rw [ho]; rfl) hg (r := .slc H.next 0 4 4) (H' := H.add (.cells [av T x, av T y, av T w, av T u] e 0)) ?_ (Nat.le_succ _) hk
 have hlt : Nat.blt H.next (2 ^ 59) = true := Nat.ble_eq_true_of_le hr
 unfold opEval; rw [ho]
 simp only [ENV, buildSliceA, hu.u, hs.s, hz.z, hz.c]
 rw [if_pos (by decide)]
 simp [fillA, cells_one h1, cells_one h2, cells_one h3, cells_one h4, wr, newA, hlt]
 rw [List.drop_eq_nil_of_le (by simp)]
section
variable {O : CallF} {T : List AV} {H H0 : AH} {ops : Array Oper} {o : Oper} {i : Nat} {π : List Stp} {K : AV → AH → Prop}
end
theorem inB_iff {n lo hi : Int} : inB n lo hi = true ↔ lo ≤ n ∧ n ≤ hi := by unfold inB; simp
theorem wr64 {z : Int} (h : -4000000 ≤ z ∧ z ≤ 4000000) : IntKind.i64.wrap z = z := wrap_id (by omega) (by omega)
variable {O : CallF} (hq : Quiet O)
include hq
end Go.Ev
namespace Go.Ev
open Go.Proofs
section
variable {O : CallF} {T : List AV} {H H0 : AH} {ops : Array Oper} {o : Oper} {i : Nat} {π : List Stp}
theorem k_allocA {K : List AV → AH → Prop} {t : TypeId} {z : Value} {zs : List AV} (h1 : ops.toList[i]? = some o) (ho : o.op = .alloc t) (hg : wantedA o ops T = true) (hz : runPure Tryz.prog (zeroValue t) = some z) (hc : z.cells.toList.map .v = zs) (hr : H.next < 2 ^ 59)
   (hk : WK (ENV O) ops H0 π (putA T o.dst (.ptr H.next 0)) (H.add (.cells zs t 0)) K) : WK (ENV O) ops H0 (.alc i :: π) T H K := by
 have hlt : Nat.blt H.next (2 ^ 59) = true := Nat.ble_eq_true_of_le hr
 refine ⟨o, h1, .inr ⟨hg, none, zs, t, H.add (.cells zs t 0), ?_, ?_, hk⟩⟩
 · unfold laysA; rw [ho]
   simp only [ENV, hz, hc]
 · simp only [newA, hlt, if_true]
theorem k_makeFunc {K : List AV → AH → Prop} {f : Fn} {a b : Array Operand} (h1 : ops.toList[i]? = some o) (ho : o.op = .makeFunc f a b) (hg : wantedA o ops T = true) (hk : WK (ENV O) ops H0 π (putA T o.dst (.fn f (a.toList.map (av T)) (b.toList.map (av T)))) H K) : WK (ENV O) ops H0 (.mob i :: π) T H K :=
 k_mob h1 hg (by unfold mobEval; rw [ho]) (fun b hb => by rw [rdA_none (by unfold looksB; rw [ho])] at hb; cases hb) hk
class NetS (t : TypeId) : Prop where
 z : runPure Tryz.prog (zeroValue t) = some (.agg #[.int .i64 0, .slice none 0 0])
 u : runPure Tryz.prog (underlying t) = some (.struct (flds t))
 p : runPure Tryz.prog ((flds t).mapM fun f => do pure (f.offset, ← sizeOf f.type)) = some #[(0, 1), (1, 1)]
instance : NetS 67 := ⟨by kernel_rfl, by kernel_rfl, by kernel_rfl⟩
instance : NetS 74 := ⟨by kernel_rfl, by kernel_rfl, by kernel_rfl⟩
def Mr (H : AH) (r : AV) (l : List Int) : Prop := (∃ b, r = .slc b 0 l.length l.length ∧ b < H.next ∧ b < 2 ^ 59 ∧ H.get b = some (.cells (ivs l) 3 0)) ∨ ∃ b, r = .slu b 0 l.length 1 ∧ b < H.next ∧ b < 2 ^ 59 ∧ H.get b = some (.cells (ivs l) 3 1)
theorem Mr.sl {r : AV} {l : List Int} (h : Mr H r l) : Sl H r (ivs l) := by
 rcases h with ⟨b, rfl, h1, h2, h3⟩ | ⟨b, rfl, h1, h2, h3⟩
 · exact ⟨(ivs_length l).symm, h2, _, _, _, h3, fun j v hv => by rw [Nat.zero_add]; exact hv⟩
 · exact ⟨(ivs_length l).symm, h2, rfl, _, _, _, h3, fun j v hv => by rw [Nat.zero_add]; exact hv⟩
theorem Mr.old {r : AV} {l : List Int} (h : Mr H r l) : Old H r := by
 rcases h with ⟨b, rfl, h1, h2, h3⟩ | ⟨b, rfl, h1, h2, h3⟩ <;> (intro c hc; cases hc; exact h1)
theorem Mr.lk {r : AV} {l : List Int} (h : Mr H r l) : ∀ b, r.own = some b → Lk H b := by
 rcases h with ⟨b, rfl, h1, h2, h3⟩ | ⟨b, rfl, h1, h2, h3⟩ <;> (intro c hc; cases hc; exact ⟨h1, by rw [h3]; simp [sameBlk, beqs_ivs]⟩)
theorem Mr.keep {H' : AH} {r : AV} {l : List Int} (h : Mr H r l) (k : Keeps H H') : Mr H' r l := by
 rcases h with ⟨b, h0, h1, h2, h3⟩ | ⟨b, h0, h1, h2, h3⟩
 · exact .inl ⟨b, h0, Nat.lt_of_lt_of_le h1 k.nx, h2, (k.get b h1).trans h3⟩
 · exact .inr ⟨b, h0, Nat.lt_of_lt_of_le h1 k.nx, h2, (k.get b h1).trans h3⟩
end
theorem first2n {a b : Int} (h : firstNZ [a, b] = 0) : a = 0 ∧ b = 0 := by
 unfold firstNZ at h
 by_cases ha : a = 0
 · refine ⟨ha, ?_⟩
   rw [if_neg (by simpa using ha)] at h
   unfold firstNZ at h
   by_cases hb : b = 0
   · exact hb
   · rw [if_pos hb] at h; exact h
 · rw [if_pos ha] at h; exact absurd h ha
theorem drop_consP {l : List (Int × Int)} {i : Nat} {z : Int × Int} (h : l[i]? = some z) : l.drop i = z :: l.drop (i + 1) := by
 have hl := (List.getElem?_eq_some_iff.1 h).1
 rw [List.drop_eq_getElem_cons hl]
 congr 1
 exact (List.getElem?_eq_some_iff.1 h).2
variable {O : CallF} (hq : Quiet O)
include hq
end Go.Ev
