/- Part of an evaluator of calls that is proved sound, and of what it gives about this program. No condition of its own. -/
import Derived.Test.YtcbmpnddhnkfnaaGreatDoorEwHk
set_option linter.unusedVariables false
set_option linter.unusedSimpArgs false
set_option linter.unusedSectionVars false
set_option maxRecDepth 100000
set_option maxHeartbeats 4000000
namespace Go.Ev
open Go.Proofs
def nxE (i : Int) : Int := if i = 0 then 1 else if i = 1 then 3 else if i = 2 then 0 else 2
variable {O : CallF} (hq : Quiet O)
include hq
theorem c77 (H : AH) (i : Int) (hi : 0 ≤ i ∧ i ≤ 3) (K : AV → AH → Prop) (hk : K (iv (nxE i)) H) : Ca (ENV O) 77 [iv i] H K := by
 refine ca_intro (hq _ _ _ rfl) (fn := Tryz.f77) (by rfl) rfl ?_
 repeat (first | apply qN | refine qM rfl rfl ?_ | apply qR | apply qS)
 refine wops_cons (wop_val (r := .agg [iv 1, iv 3, iv 0, iv 2]) (H' := H) rfl rfl (by kernel_rfl) (Nat.le_refl _) ?_)
 repeat (first | refine qM rfl rfl ?_)
 rcases (show i = 0 ∨ i = 1 ∨ i = 2 ∨ i = 3 by omega) with rfl | rfl | rfl | rfl
 · refine wops_cons (wop_val (r := iv 1) (H' := H) rfl rfl (by kernel_rfl) (Nat.le_refl _) ?_)
   repeat (first | apply qN | refine qM rfl rfl ?_)
   refine wp_ret ?_
   exact ⟨_, _, rfl, hk⟩
 · refine wops_cons (wop_val (r := iv 3) (H' := H) rfl rfl (by kernel_rfl) (Nat.le_refl _) ?_)
   repeat (first | apply qN | refine qM rfl rfl ?_)
   refine wp_ret ?_
   exact ⟨_, _, rfl, hk⟩
 · refine wops_cons (wop_val (r := iv 0) (H' := H) rfl rfl (by kernel_rfl) (Nat.le_refl _) ?_)
   repeat (first | apply qN | refine qM rfl rfl ?_)
   refine wp_ret ?_
   exact ⟨_, _, rfl, hk⟩
 · refine wops_cons (wop_val (r := iv 2) (H' := H) rfl rfl (by kernel_rfl) (Nat.le_refl _) ?_)
   repeat (first | apply qN | refine qM rfl rfl ?_)
   refine wp_ret ?_
   exact ⟨_, _, rfl, hk⟩
end Go.Ev
namespace Go.Ev
open Go.Proofs
theorem idx_pure (a0 a1 a2 a3 : Int) : ∀ j : Nat, j < 4 → runPure Tryz.prog (Instr.index 106 (.agg #[.int .i64 a0, .int .i64 a1, .int .i64 a2, .int .i64 a3]) (.int .i64 (j : Int))) = some (.int .i64 ([a0, a1, a2, a3].getD j 0))
 | 0, _ => by kernel_rfl
 | 1, _ => by kernel_rfl
 | 2, _ => by kernel_rfl
 | 3, _ => by kernel_rfl
 | n + 4, h => by omega
section
variable {O : CallF} {T : List AV} {H H0 : AH} {ops : Array Oper} {o : Oper} {K : AV → AH → Prop}
theorem o_index4 {x i : Operand} {a0 a1 a2 a3 : Int} {j : Nat} (ho : o.op = .index 106 x i) (hg : wantedA o ops T = true) (hx : av T x = .agg [iv a0, iv a1, iv a2, iv a3]) (hi : av T i = iv (j : Int)) (hj : j < 4) (hk : K (iv ([a0, a1, a2, a3].getD j 0)) H) : WOp (ENV O) ops o T H K := by
 refine wop_val (by rw [ho]; rfl) hg (r := iv ([a0, a1, a2, a3].getD j 0)) (H' := H) ?_ (Nat.le_refl _) hk
 unfold opEval; rw [ho]
 simp only
 unfold plainOp
 have h2 : runPure Tryz.prog (execOp (fun x => ((av T x).plain).getD undef) o) = some (.value (.int .i64 ([a0, a1, a2, a3].getD j 0))) := by
   obtain ⟨dst, op', type, pos, after, guard⟩ := o
   simp only at ho
   subst ho
   have := idx_pure a0 a1 a2 a3 j hj
   simp only [execOp, hx, hi, AV.plain, plains, iv, Option.getD_some, runPure_bind, this, runPure_pure, Option.bind_some]
 show (if _ then _ else _) = _
 rw [show (ENV O).P = Tryz.prog from rfl, h2, ho]
 simp [Op.operands, hx, hi, AV.plain, plains, iv]
theorem o_loadA {t : TypeId} {n : Nat} {x : Operand} {b off : Nat} {cs r : List AV} {e : TypeId} {g : Nat} (ho : o.op = .load t x) (hg : wantedA o ops T = true) (ha : runPure Tryz.prog (isAgg t) = some true) (hs : runPure Tryz.prog (sizeOf t) = some n) (hx : av T x = .ptr b off) (hc : H.get b = some (.cells cs e g)) (hr : (cs.drop off).take n = r) (hl : off + n ≤ cs.length) (hk : K (.agg r) H) : WOp (ENV O) ops o T H K := by
 refine wop_val (by rw [ho]; rfl) hg (H' := H) (r := .agg r) ?_ (Nat.le_refl _) hk
 unfold opEval; rw [ho]
 simp only [ENV, oLoad, hx, loadA, hc, ha, hs]
 rw [if_pos (Nat.ble_eq_true_of_le hl), hr]
 rfl
theorem o_storeA {t : TypeId} {n : Nat} {p x : Operand} {b off : Nat} {cs : List AV} {e : TypeId} {g : Nat} {vs : List AV} (ho : o.op = .store t p x) (hg : wantedA o ops T = true) (hs : runPure Tryz.prog (sizeOf t) = some n) (hp : av T p = .ptr b off) (hx : (av T x).cells = vs) (hn : vs.length = n) (h1 : vs.all AV.one = true) (hc : H.get b = some (.cells cs e g)) (hl : off + n ≤ cs.length)
   (hk : K (.v undef) (H.set b (some (.cells (wr cs off vs) e g)))) : WOp (ENV O) ops o T H K := by
 refine wop_val (by rw [ho]; rfl) hg (r := .v undef) (H' := H.set b (some (.cells (wr cs off vs) e g))) ?_ (Nat.le_refl _) hk
 unfold opEval; rw [ho]
 have e1 : Nat.beq (av T x).cells.length n = true := by rw [hx, hn]; exact Nat.beq_refl n
 have e2 : (Nat.ble (off + (av T x).cells.length) cs.length && (av T x).cells.all AV.one) = true := by rw [hx, hn, h1, Nat.ble_eq_true_of_le hl]; rfl
 simp only [ENV, storeOpA, hp, hs, e1, if_true, storeA, hc]
 rw [if_pos e2, hx]
 rfl
theorem o_allocA {t : TypeId} {z : Value} {zs : List AV} (ho : o.op = .alloc t) (hg : wantedA o ops T = true) (hz : runPure Tryz.prog (zeroValue t) = some z) (hc : z.cells.toList.map .v = zs) (hr : H.next < 2 ^ 39) (hk : K (.ptr H.next 0) (H.add (.cells zs t 0))) : WOp (ENV O) ops o T H K := by
 refine wop_val (by rw [ho]; rfl) hg (H' := H.add (.cells zs t 0)) (r := .ptr H.next 0) ?_ (Nat.le_succ _) hk
 unfold opEval; rw [ho]
 have hlt : Nat.blt H.next (2 ^ 39) = true := Nat.ble_eq_true_of_le hr
 simp only [ENV, allocA, hz, hc, newA, hlt, if_true, Option.map_some]
end
end Go.Ev
namespace Go.Ev
open Go.Proofs
def fwE (m : Mc) (n : Int) : Bool := decide (m.t = 1) == decide (n.tmod 2 = 0)
def ordE (b : Bool) : List Int := if b = true then [0, 1, 3, 2] else [0, 3, 1, 2]
def slE (m : Mc) (n : Int) : List Int := (ordE (fwE m n)).map fun s => 4 * n + s
def gearC (m : Mc) (n : Int) : List AV := iv n :: .v (.bool (fwE m n)) :: ivs (slE m n)
instance : FA 108 0 0 := ⟨fun b o => by kernel_rfl⟩
instance : FA 108 1 1 := ⟨fun b o => by kernel_rfl⟩
instance : FA 108 2 2 := ⟨fun b o => by kernel_rfl⟩
theorem WOps.mem {E : Env} {ops : Array Oper} {l : List Oper} {T : List AV} {H : AH} {K : List AV → AH → Prop} (P : AH → Prop) (h : P H) (hw : ∀ H', P H' → WOps E ops l T H' K) : WOps E ops l T H K := hw H h
class TyA (t : TypeId) (n : outParam Nat) (e : outParam TypeId) : Prop where
 u : runPure Tryz.prog (underlying t) = some (.array n e)
instance : TyA 106 4 3 := ⟨by kernel_rfl⟩
instance : TyA 93 2 3 := ⟨by kernel_rfl⟩
theorem o_indexP {O : CallF} {T : List AV} {H : AH} {ops : Array Oper} {o : Oper} {K : AV → AH → Prop} {t e : TypeId} {n : Nat} {x i : Operand} {j b off : Nat} (ho : o.op = .indexAddr t x i) (hg : wantedA o ops T = true) [hu : TyA t n e] [hs : Cell e]
   (hx : av T x = .ptr b off) (hi : av T i = iv (j : Int)) (hl : j < n) (hk : K (.ptr b (off + j)) H) : WOp (ENV O) ops o T H K := by
 refine wop_val (by rw [ho]; rfl) hg (r := .ptr b (off + j)) ?_ (Nat.le_refl _) hk
 unfold opEval; rw [ho]
 have h2 := hu.u
 have h3 := hs.s
 have hm : indexAddrA Tryz.prog t (.ptr b off) (.v (.int .i64 (j : Int))) = some (.ptr b (off + j)) := by
   unfold indexAddrA
   simp only [natA, h2, h3, Nat.mul_one]
   rw [if_pos (show Nat.blt j n = true from Nat.ble_eq_true_of_le (show j + 1 ≤ n by omega))]
 simp only [ENV, oIndexAddr, hx, hi, isV, hm, rv]
theorem ord_list (b : Bool) : ∃ a0 a1 a2 a3 : Int, ordE b = [a0, a1, a2, a3] ∧ (0 ≤ a0 ∧ a0 ≤ 3) ∧ (0 ≤ a1 ∧ a1 ≤ 3) ∧ (0 ≤ a2 ∧ a2 ≤ 3) ∧ (0 ≤ a3 ∧ a3 ≤ 3) := by
 cases b with
 | true => exact ⟨0, 1, 3, 2, rfl, by decide, by decide, by decide, by decide⟩
 | false => exact ⟨0, 3, 1, 2, rfl, by decide, by decide, by decide, by decide⟩
variable {O : CallF} (hq : Quiet O)
include hq
theorem c126 (H : AH) (a x : AV) (m : Mc) (n : Int) (ha : a.cells = mc m x) (hn : 0 ≤ n ∧ n ≤ 100) (hr : H.next + 20 < 2 ^ 39) (K : AV → AH → Prop) (hk : ∀ H', Keeps H H' → H'.next = H.next + 4 → K (.agg (gearC m n)) H') : Ca (ENV O) 126 [a, iv n] H K := by
 refine ca_intro (hq _ _ _ rfl) (fn := Tryz.f126) (by rfl) rfl ?_
 repeat (first | apply qR | apply qS)
 refine wops_cons (o_boxM rfl rfl ha (by omega) fun H1 n1 k1 b1 => ?_)
 have hp2 := b1.p2
 have r1 : H1.next < 2 ^ 39 := by omega
 refine wops_cons (o_allocA (zs := [iv 0, .v (.bool false), iv 0, iv 0, iv 0, iv 0]) rfl rfl (z := .agg #[.int .i64 0, .bool false, .int .i64 0, .int .i64 0, .int .i64 0, .int .i64 0]) (by kernel_rfl) rfl r1 ?_)
 have k2 := k1.add (.cells [iv 0, .v (.bool false), iv 0, iv 0, iv 0, iv 0] 108 0) r1
 have g2 : (H1.add (.cells [iv 0, .v (.bool false), iv 0, iv 0, iv 0, iv 0] 108 0)).get H1.next = some (.cells [iv 0, .v (.bool false), iv 0, iv 0, iv 0, iv 0] 108 0) := get_add_eq r1
 have n2 : (H1.add (.cells [iv 0, .v (.bool false), iv 0, iv 0, iv 0, iv 0] 108 0)).next = H1.next + 1 := rfl
 have b2 := b1.keep (by omega) ((Keeps.refl H1).add (.cells [iv 0, .v (.bool false), iv 0, iv 0, iv 0, iv 0] 108 0) r1)
 refine WOps.H (H' := H1.add (.cells [iv 0, .v (.bool false), iv 0, iv 0, iv 0, iv 0] 108 0)) rfl ?_
 generalize H1.add (.cells [iv 0, .v (.bool false), iv 0, iv 0, iv 0, iv 0] 108 0) = H2 at k2 g2 n2 b2 ⊢
 rw [n1] at g2 ⊢
 clear hp2
 have hp2 := b2.p2
 repeat (first | apply qN | refine qM rfl rfl ?_ | refine zqa rfl rfl rfl ?_ | refine zq6 rfl rfl ‹_› ?_ | apply qR | apply qS)
 refine wops_cons (wop_val (r := .v (.bool (decide (m.t = 1)))) (H' := H2) rfl rfl (by kernel_rfl) (Nat.le_refl _) ?_)
 repeat (first | refine qM rfl rfl ?_)
 refine wops_cons (wop_rem rfl rfl rfl rfl (by decide) ?_)
 refine wops_cons (wop_val (r := .v (.bool (decide (n.tmod 2 = 0)))) (H' := H2) rfl rfl (by kernel_rfl) (Nat.le_refl _) ?_)
 refine wops_cons (wop_val (r := .v (.bool (fwE m n))) (H' := H2) rfl rfl (by kernel_rfl) (Nat.le_refl _) ?_)
 refine wops_cons (wop_val (r := .agg [iv n, .v (.bool (fwE m n)), iv 0, iv 0, iv 0, iv 0]) (H' := H2) rfl rfl (by kernel_rfl) (Nat.le_refl _) ?_)
 have r2 : H2.next < 2 ^ 39 := by omega
 refine wops_cons (o_allocA (zs := [iv 0, .v (.bool false), iv 0, iv 0, iv 0, iv 0]) rfl rfl (z := .agg #[.int .i64 0, .bool false, .int .i64 0, .int .i64 0, .int .i64 0, .int .i64 0]) (by kernel_rfl) rfl r2 ?_)
 refine wops_cons (o_storeA (n := 6) (vs := [iv n, .v (.bool (fwE m n)), iv 0, iv 0, iv 0, iv 0]) rfl rfl (by kernel_rfl) rfl rfl rfl rfl (get_add_eq r2) (by decide) ?_)
 refine WOps.mem (fun H4 => Keeps H H4 ∧ H4.next = H.next + 3 ∧ H4.get (H.next + 1) = some (.cells [iv 0, .v (.bool false), iv 0, iv 0, iv 0, iv 0] 108 0) ∧ H4.get (H.next + 2) = some (.cells [iv n, .v (.bool (fwE m n)), iv 0, iv 0, iv 0, iv 0] 108 0)) ⟨?_, ?_, ?_, ?_⟩ ?_
 · exact (k2.add _ r2).set _ (by omega) r2
 · show H2.next + 1 = _; omega
 · rw [get_set_ne r2 (by omega), get_add_ne r2 (by omega)]; exact g2
 · rw [show H.next + 2 = H2.next by omega, get_set_eq r2]; rfl
 rintro H4 ⟨k4, n4, g41, g42⟩
 rw [show H2.next = H.next + 2 by omega]
 clear hp2
 repeat (first | apply qN | apply qR | apply qS)
 refine wops_cons (wop_val (r := .agg [iv 0, iv 1, iv 3, iv 2]) (H' := H4) rfl rfl (by kernel_rfl) (Nat.le_refl _) ?_)
 have r4 : H4.next < 2 ^ 39 := by omega
 refine wops_cons (o_allocA (zs := [iv 0, iv 0, iv 0, iv 0]) rfl rfl (z := .agg #[.int .i64 0, .int .i64 0, .int .i64 0, .int .i64 0]) (by kernel_rfl) rfl r4 ?_)
 refine wops_cons (o_storeA (n := 4) (vs := [iv 0, iv 1, iv 3, iv 2]) rfl rfl (by kernel_rfl) rfl rfl rfl rfl (get_add_eq r4) (by decide) ?_)
 refine WOps.mem (fun H5 => Keeps H H5 ∧ H5.next = H.next + 4 ∧ H5.get (H.next + 1) = some (.cells [iv 0, .v (.bool false), iv 0, iv 0, iv 0, iv 0] 108 0) ∧ H5.get (H.next + 2) = some (.cells [iv n, .v (.bool (fwE m n)), iv 0, iv 0, iv 0, iv 0] 108 0) ∧ H5.get (H.next + 3) = some (.cells [iv 0, iv 1, iv 3, iv 2] 106 0)) ⟨?_, ?_, ?_, ?_, ?_⟩ ?_
 · exact (k4.add _ r4).set _ (by omega) r4
 · show H4.next + 1 = _; omega
 · rw [get_set_ne r4 (by omega), get_add_ne r4 (by omega)]; exact g41
 · rw [get_set_ne r4 (by omega), get_add_ne r4 (by omega)]; exact g42
 · rw [show H.next + 3 = H4.next by omega, get_set_eq r4]; rfl
 rintro H5 ⟨k5, n5, g51, g52, g53⟩
 rw [show H4.next = H.next + 3 by omega]
 have hpf : At H5 (.ptr (H.next + 2) 1) (.v (.bool (fwE m n))) := at_ptr (by omega) g52 rfl
 repeat (first | apply qN | refine zqa rfl rfl rfl ?_ | refine zq6 rfl rfl ‹_› ?_ | refine zq8 rfl rfl rfl ?_ | apply qR | apply qS)
 refine Wp.mono (Q := fun e T' M' H' => e = .normal ∧ M' = [] ∧ (∃ (Y : List AV), T' = (lget Y 0 :: iv n :: lget Y 1 :: lget Y 2 :: .ptr (H.next + 1) 0 :: .ptr (H.next + 2) 0 :: .ptr (H.next + 3) 0 :: lget Y 3 :: lget Y 4 :: lget Y 5 :: lget Y 6 :: lget Y 7 :: lget Y 8 :: lget Y 9 :: lget Y 10 :: lget Y 11 :: lget Y 12 :: lget Y 13 :: lget Y 14 :: lget Y 15 :: lget Y 16 :: lget Y 17 :: lget Y 18 :: lget Y 19 :: lget Y 20 :: lget Y 21 :: lget Y 22 :: lget Y 23 :: lget Y 24 :: lget Y 25 :: lget Y 26 :: lget Y 27 :: lget Y 28 :: lget Y 29 :: lget Y 30 :: lget Y 31 :: [])) ∧ Keeps H H' ∧ H'.next = H.next + 4 ∧ H'.get (H.next + 1) = some (.cells [iv 0, .v (.bool false), iv 0, iv 0, iv 0, iv 0] 108 0) ∧ H'.get (H.next + 2) = some (.cells [iv n, .v (.bool (fwE m n)), iv 0, iv 0, iv 0, iv 0] 108 0) ∧ H'.get (H.next + 3) = some (.cells (ivs (ordE (fwE m n))) 106 0)) ?_ ?_
 · refine wp_cond rfl (fun h => ?_) (fun h => ?_)
   · have hf : fwE m n = false := by simpa using h
     repeat (first | apply qR)
     refine wops_cons (wop_val (r := .agg [iv 0, iv 3, iv 1, iv 2]) (H' := H5) rfl rfl (by kernel_rfl) (Nat.le_refl _) ?_)
     refine wops_cons (o_storeA (n := 4) (vs := [iv 0, iv 3, iv 1, iv 2]) rfl rfl (by kernel_rfl) rfl rfl rfl rfl g53 (by decide) ?_)
     repeat (first | apply qN)
     refine ⟨rfl, rfl, ⟨[_,_,_,_,_,_,_,_,_,_,_,_,_,_,_,_,_,_,_,_,_,_,_,_,_,_,_,_,_,_,_,_], rfl⟩, k5.set _ (by omega) (by omega), n5, ?_, ?_, ?_⟩
     · rw [get_set_ne (by omega) (by omega)]; exact g51
     · rw [get_set_ne (by omega) (by omega)]; exact g52
     · rw [get_set_eq (by omega), hf]; rfl
   · have hf : fwE m n = true := by simpa using h
     repeat (first | apply qK)
     refine ⟨rfl, rfl, ⟨[_,_,_,_,_,_,_,_,_,_,_,_,_,_,_,_,_,_,_,_,_,_,_,_,_,_,_,_,_,_,_,_], rfl⟩, k5, n5, g51, g52, ?_⟩
     rw [g53, hf]; rfl
 rintro e T' M' H6 ⟨rfl, rfl, ⟨Y, rfl⟩, k6, n6, g61, g62, g63⟩
 obtain ⟨a0, a1, a2, a3, hord, ha0, ha1, ha2, ha3⟩ := ord_list (fwE m n)
 rw [hord] at g63
 have hsl : slE m n = [4 * n + a0, 4 * n + a1, 4 * n + a2, 4 * n + a3] := by unfold slE; rw [hord]; rfl
 show Wp _ _ _ _ _ _ _ _
 repeat (first | apply qR | apply qS)
 refine wops_cons (o_loadA (n := 4) (r := [iv a0, iv a1, iv a2, iv a3]) rfl rfl (by kernel_rfl) (by kernel_rfl) rfl g63 rfl (by simp [ivs]) ?_)
 repeat (first | apply qN | refine qM rfl rfl ?_ | apply qB)
 refine wp_loop (fun q T M H' => ∃ (i : Nat) (Y : List AV), q = 4 - i ∧ i ≤ 4 ∧ Keeps H H' ∧ H'.next = H.next + 4 ∧ H'.get (H.next + 1) = some (.cells [iv 0, .v (.bool false), iv 0, iv 0, iv 0, iv 0] 108 0) ∧ H'.get (H.next + 2) = some (.cells (iv n :: .v (.bool (fwE m n)) :: ivs ((slE m n).take i ++ List.replicate (4 - i) 0)) 108 0) ∧ M = [] ∧ T = (lget Y 0 :: iv n :: lget Y 1 :: lget Y 2 :: .ptr (H.next + 1) 0 :: .ptr (H.next + 2) 0 :: lget Y 3 :: lget Y 4 :: lget Y 5 :: lget Y 6 :: lget Y 7 :: lget Y 8 :: lget Y 9 :: lget Y 10 :: lget Y 11 :: lget Y 12 :: lget Y 13 :: lget Y 14 :: lget Y 15 :: lget Y 16 :: lget Y 17 :: lget Y 18 :: lget Y 19 :: .agg [iv a0, iv a1, iv a2, iv a3] :: iv (i : Nat) :: lget Y 20 :: lget Y 21 :: lget Y 22 :: lget Y 23 :: lget Y 24 :: lget Y 25 :: lget Y 26 :: lget Y 27 :: lget Y 28 :: lget Y 29 :: lget Y 30 :: [])) 4
   ⟨0, [_,_,_,_,_,_,_,_,_,_,_,_,_,_,_,_,_,_,_,_,_,_,_,_,_,_,_,_,_,_,_], rfl, Nat.zero_le _, k6, n6, g61, (by rw [List.take_zero]; exact g62), rfl, rfl⟩ ?_
 rintro q T M H7 ⟨i, Y, hq1, hi, k7, n7, g71, g72, rfl, rfl⟩
 repeat (first | apply qR | apply qS)
 refine wops_cons (wop_cmp rfl rfl rfl rfl rfl (fun h => ?_) (fun h => ?_))
 rotate_left
 · have h : ¬ ((i : Int) < 4) := of_decide_eq_false h
   have e : i = 4 := by omega
   subst e
   rw [Nat.sub_self, List.replicate_zero, List.append_nil, List.take_of_length_le (by rw [hsl]; simp)] at g72
   repeat (first | apply qN | refine qF rfl ?_ | apply qR | apply qS | apply qE)
   refine wops_cons (o_loadA (n := 6) (r := gearC m n) rfl rfl (by kernel_rfl) (by kernel_rfl) rfl g72 (by rw [hsl]; simp [gearC, hsl, ivs]) (by rw [hsl]; simp [ivs]) ?_)
   have hones : (gearC m n).all AV.one = true := by simp [gearC, hsl, ivs, iv, AV.one, Value.oneCell']
   refine wops_cons (o_storeA (n := 6) (vs := gearC m n) rfl rfl (by kernel_rfl) rfl rfl (by simp [gearC, hsl, ivs]) hones g71 (by decide) ?_)
   have hw : wr [iv 0, .v (.bool false), iv 0, iv 0, iv 0, iv 0] 0 (gearC m n) = gearC m n := by simp [wr, gearC, hsl, ivs]
   rw [hw]
   refine WOps.mem (fun H9 => Keeps H H9 ∧ H9.next = H.next + 4 ∧ H9.get (H.next + 1) = some (.cells (gearC m n) 108 0)) ⟨k7.set _ (by omega) (by omega), n7, get_set_eq (by omega)⟩ ?_
   rintro H9 ⟨k9, n9, g9⟩
   repeat (first | apply qN)
   refine Wp.cut (fun T => ∃ Y : List AV, T = (lget Y 0 :: lget Y 1 :: lget Y 2 :: lget Y 3 :: .ptr (H.next + 1) 0 :: lget Y 4 :: lget Y 5 :: lget Y 6 :: lget Y 7 :: lget Y 8 :: lget Y 9 :: lget Y 10 :: lget Y 11 :: lget Y 12 :: lget Y 13 :: lget Y 14 :: lget Y 15 :: lget Y 16 :: lget Y 17 :: lget Y 18 :: lget Y 19 :: lget Y 20 :: lget Y 21 :: lget Y 22 :: lget Y 23 :: lget Y 24 :: lget Y 25 :: lget Y 26 :: lget Y 27 :: lget Y 28 :: lget Y 29 :: lget Y 30 :: lget Y 31 :: lget Y 32 :: lget Y 33 :: lget Y 34 :: [])) ⟨[_,_,_,_,_,_,_,_,_,_,_,_,_,_,_,_,_,_,_,_,_,_,_,_,_,_,_,_,_,_,_,_,_,_,_], rfl⟩ ?_
   rintro T ⟨Y, rfl⟩
   refine wp_ret ?_
   refine ⟨.agg (gearC m n), H9, ?_, hk H9 k9 n9⟩
   have hl : loadA Tryz.prog 108 (H.next + 1) 0 H9 = some (.agg (gearC m n)) := by
     unfold loadA
     rw [g9]
     simp only
     rw [show runPure Tryz.prog (isAgg 108) = some true by kernel_rfl]
     simp only
     rw [show runPure Tryz.prog (sizeOf 108) = some 6 by kernel_rfl]
     simp [gearC, hsl, ivs]
   have hres : resA Tryz.prog (lget Y 0 :: lget Y 1 :: lget Y 2 :: lget Y 3 :: .ptr (H.next + 1) 0 :: lget Y 4 :: lget Y 5 :: lget Y 6 :: lget Y 7 :: lget Y 8 :: lget Y 9 :: lget Y 10 :: lget Y 11 :: lget Y 12 :: lget Y 13 :: lget Y 14 :: lget Y 15 :: lget Y 16 :: lget Y 17 :: lget Y 18 :: lget Y 19 :: lget Y 20 :: lget Y 21 :: lget Y 22 :: lget Y 23 :: lget Y 24 :: lget Y 25 :: lget Y 26 :: lget Y 27 :: lget Y 28 :: lget Y 29 :: lget Y 30 :: lget Y 31 :: lget Y 32 :: lget Y 33 :: lget Y 34 :: []) H9 Tryz.f126.results.toList = some [.agg (gearC m n)] := by
     show (match loadA Tryz.prog 108 (H.next + 1) 0 H9, (some [] : Option (List AV)) with | some x, some m => some (x :: m) | _, _ => none) = _
     rw [hl]
   unfold leaveM resultsA
   simp only [takeMarks]
   rw [show (ENV O).P = Tryz.prog from rfl, hres]
 have h : (i : Int) < 4 := of_decide_eq_true h
 have hi4 : i < 4 := by omega
 clear h
 repeat (first | apply qN | refine qM rfl rfl ?_ | refine qT rfl ?_ | apply qR | apply qS | apply qK | apply qB)
 refine wops_cons (o_index4 (j := i) rfl rfl rfl rfl hi4 ?_)
 repeat (first | apply qN | refine qM rfl rfl ?_ | apply qR)
 have hoz : 0 ≤ [a0, a1, a2, a3].getD i 0 ∧ [a0, a1, a2, a3].getD i 0 ≤ 3 := by
   rcases (show i = 0 ∨ i = 1 ∨ i = 2 ∨ i = 3 by omega) with rfl | rfl | rfl | rfl <;> assumption
 refine wops_cons (wop_callF rfl rfl rfl (fn := Tryz.f159) (by rfl) ?_)
 refine c158 hq H7 n _ (by omega) hoz _ ⟨Nat.le_refl _, ?_⟩
 repeat (first | refine zqa rfl rfl rfl ?_)
 refine wops_cons (o_indexP (j := i) rfl rfl rfl rfl hi4 ?_)
 have hz : (slE m n)[i]? = some (4 * n + [a0, a1, a2, a3].getD i 0) := by
   rw [hsl]
   rcases (show i = 0 ∨ i = 1 ∨ i = 2 ∨ i = 3 by omega) with rfl | rfl | rfl | rfl <;> rfl
 have hl4 : (slE m n).length = 4 := by rw [hsl]; rfl
 refine wops_cons (o_store rfl rfl rfl g72 (by simp [ivs_length, hl4]; omega) rfl ?_)
 refine WOps.mem (fun H8 => Keeps H H8 ∧ H8.next = H.next + 4 ∧ H8.get (H.next + 1) = some (.cells [iv 0, .v (.bool false), iv 0, iv 0, iv 0, iv 0] 108 0) ∧ H8.get (H.next + 2) = some (.cells (iv n :: .v (.bool (fwE m n)) :: ivs ((slE m n).take (i + 1) ++ List.replicate (4 - (i + 1)) 0)) 108 0)) ⟨?_, ?_, ?_, ?_⟩ ?_
 · exact k7.set _ (by omega) (by omega)
 · exact n7
 · rw [get_set_ne (by omega) (by omega)]; exact g71
 · rw [get_set_eq (by omega), show 0 + 2 + i = i + 1 + 1 by omega, List.set_cons_succ, List.set_cons_succ]
   show some (AB.cells (iv n :: AV.v (.bool (fwE m n)) :: (ivs ((slE m n).take i ++ List.replicate (4 - i) 0)).set i (iv (4 * n + [a0, a1, a2, a3].getD i 0))) 108 0) = _
   rw [ivs_set, fill_set hl4 hi4 hz]
 rintro H8 ⟨k8, n8, g81, g82⟩
 repeat (first | apply qN | refine qM rfl rfl ?_ | refine zq4 rfl rfl rfl rfl (inc (by omega)) ?_ | apply qR)
 exact ⟨4 - (i + 1), by omega, i + 1, [_,_,_,_,_,_,_,_,_,_,_,_,_,_,_,_,_,_,_,_,_,_,_,_,_,_,_,_,_,_,_], rfl, by omega, k8, n8, g81, g82, rfl, rfl⟩
end Go.Ev
namespace Go.Ev
open Go.Proofs
variable {O : CallF} (hq : Quiet O)
include hq
theorem c76 (H : AH) (a x : AV) (m : Mc) (ha : a.cells = mc m x) (hr : H.next < 2 ^ 39) (K : AV → AH → Prop) (hk : ∀ H', Keeps H H' → H'.next = H.next + 1 → Bx H' H.next 24 m x → K (.fn (.func 125) [] [.ptr H.next 0]) H') : Ca (ENV O) 76 [a] H K := by
 refine ca_intro (hq _ _ _ rfl) (fn := Tryz.f76) (by rfl) rfl ?_
 repeat (first | apply qR | apply qS)
 refine wops_cons (o_boxM rfl rfl ha hr fun H1 n1 k1 b1 => ?_)
 repeat (first | apply qN | refine qM rfl rfl ?_ | apply qR | apply qS)
 refine wops_cons (wop_makeFunc rfl rfl ?_)
 repeat (first | apply qN | refine qM rfl rfl ?_)
 refine wp_ret ?_
 exact ⟨_, _, rfl, hk H1 k1 n1 b1⟩
theorem c128 (H : AH) (a x : AV) (m : Mc) (ha : a.cells = mc m x) (hr : H.next < 2 ^ 39) (K : AV → AH → Prop) (hk : ∀ H', Keeps H H' → H'.next = H.next + 1 → Bx H' H.next 24 m x → K (.fn (.func 160) [] [.ptr H.next 0]) H') : Ca (ENV O) 129 [a] H K := by
 refine ca_intro (hq _ _ _ rfl) (fn := Tryz.f129) (by rfl) rfl ?_
 repeat (first | apply qR | apply qS)
 refine wops_cons (o_boxM rfl rfl ha hr fun H1 n1 k1 b1 => ?_)
 repeat (first | apply qN | refine qM rfl rfl ?_ | apply qR | apply qS)
 refine wops_cons (wop_makeFunc rfl rfl ?_)
 repeat (first | apply qN | refine qM rfl rfl ?_)
 refine wp_ret ?_
 exact ⟨_, _, rfl, hk H1 k1 n1 b1⟩
theorem c125 (lb b : Nat) (m : Mc) (x : AV) (n : Nat) (hg : m.g = n) (hn : n ≤ 16) (R : Nat → AH → Prop)
   (hm : ∀ k H, R k H → Bx H b 24 m x ∧ b < H.next ∧ H.next + 100 < 2 ^ 39)
   (hy : ∀ (k : Nat) (H H1 : AH), k < n → R k H → Keeps H H1 → H1.next = H.next + 4 → ∀ K : AV → AH → Prop, (∀ H', R (k + 1) H' → H1.next ≤ H'.next → K (.v (.bool true)) H') → Yl (ENV O) lb [.agg (gearC m k)] H1 K)
   (H : AH) (h0 : R 0 H) (K : AV → AH → Prop) (hk : ∀ r H', R n H' → K r H') : Ca (ENV O) 125 [.yl lb, .ptr b 0] H K := by
 refine ca_intro (hq _ _ _ rfl) (fn := Tryz.f125) (by rfl) rfl ?_
 have hp1 := (hm _ _ h0).1.p1
 rw [hg] at hp1
 repeat (first | apply qN | refine qM rfl rfl ?_ | refine zqa rfl rfl rfl ?_ | refine zq6 rfl rfl ‹_› ?_ | apply qR | apply qS | apply qB)
 refine wp_loop (fun q T M H' => ∃ (i : Nat) (Y : List AV), q = n - i ∧ i ≤ n ∧ R i H' ∧ M = [] ∧ T = (.yl lb :: .ptr b 0 :: lget Y 0 :: lget Y 1 :: lget Y 2 :: iv (n : Nat) :: iv (i : Nat) :: lget Y 3 :: lget Y 4 :: lget Y 5 :: lget Y 6 :: lget Y 7 :: lget Y 8 :: lget Y 9 :: lget Y 10 :: lget Y 11 :: [])) n
   ⟨0, [_,_,_,_,_,_,_,_,_,_,_,_], rfl, Nat.zero_le _, h0, rfl, rfl⟩ ?_
 rintro q T M H1 ⟨i, Y, hq1, hi, hR, rfl, rfl⟩
 obtain ⟨b1, hb1, hr1⟩ := hm _ _ hR
 repeat (first | apply qR | apply qS)
 refine wops_cons (wop_cmp rfl rfl rfl rfl rfl (fun h => ?_) (fun h => ?_))
 rotate_left
 · have h : ¬ ((i : Int) < n) := of_decide_eq_false h
   have e : i = n := by omega
   subst e
   repeat (first | apply qN | refine qF rfl ?_ | apply qS | apply qE)
   exact ⟨_, _, rfl, hk _ _ hR⟩
 have h : (i : Int) < n := of_decide_eq_true h
 repeat (first | apply qN | refine qM rfl rfl ?_ | refine zqb rfl rfl rfl ‹_› ?_ | refine qT rfl ?_ | apply qR | apply qS | apply qK | apply qB)
 refine wops_cons (wop_callF rfl rfl rfl (fn := Tryz.f126) (by rfl) ?_)
 refine c126 hq H1 _ x m i rfl (by omega) (by omega) _ fun H2 k2 n2 => ⟨k2.nx, ?_⟩
 refine wops_cons (wop_yield rfl rfl rfl rfl ?_)
 refine hy i H1 H2 (by omega) hR k2 n2 _ fun H3 hR3 hn3 => ⟨hn3, ?_⟩
 repeat (first | apply qN | refine qM rfl rfl ?_ | refine zq4 rfl rfl rfl rfl (inc (by omega)) ?_ | refine zq8 rfl rfl rfl ?_ | refine qF rfl ?_ | apply qR | apply qK)
 exact ⟨n - (i + 1), by omega, i + 1, [_,_,_,_,_,_,_,_,_,_,_,_], rfl, by omega, hR3, rfl, rfl⟩
end Go.Ev
namespace Go.Ev
open Go.Proofs
def fsE (m : Mc) : Nat := if m.ring = true then 0 else 1
def psL (m : Mc) (p : Nat) : List Int := [4 * (((p : Int) + m.g - 1).tmod m.g) + 2, 4 * (p : Int)]
variable {O : CallF} (hq : Quiet O)
include hq
theorem c159 (lb b : Nat) (m : Mc) (x : AV) (n : Nat) (hg : m.g = n) (hn1 : 1 ≤ n) (hn : n ≤ 16) (R : Nat → AH → Prop) (St : AH → Prop)
   (hm : ∀ k H, R k H → Bx H b 24 m x)
   (hy : ∀ (k : Nat) (H : AH), fsE m ≤ k → k < n → R k H → ∀ K : AV → AH → Prop, (∀ H', R (k + 1) H' → H.next ≤ H'.next → K (.v (.bool true)) H') → (∀ H', St H' → H.next ≤ H'.next → K (.v (.bool false)) H') → Yl (ENV O) lb [iv k, .agg (ivs (psL m k))] H K)
   (H : AH) (hb : Bx H b 24 m x) (hr : H.next + 10 < 2 ^ 39) (h0 : ∀ H1, Keeps H H1 → H1.next = H.next + 1 → R (fsE m) H1) (K : AV → AH → Prop) (hk : ∀ r H', R n H' → K r H') (hk2 : ∀ r H', St H' → K r H') : Ca (ENV O) 160 [.yl lb, .ptr b 0] H K := by
 refine ca_intro (hq _ _ _ rfl) (fn := Tryz.f160) (by rfl) rfl ?_
 repeat (first | refine zqb rfl rfl rfl ‹_› ?_ | apply qR | apply qS)
 refine wops_cons (wop_callF rfl rfl rfl (fn := Tryz.f124) (by rfl) ?_)
 refine c124 hq H _ x m rfl (by omega) _ fun H1 k1 n1 => ⟨k1.nx, ?_⟩
 have hfs : iv (if m.ring = true then 0 else 1) = iv (fsE m : Nat) := by
   unfold fsE
   split <;> rfl
 rw [hfs]
 have hR1 := h0 H1 k1 n1
 have hf1 : fsE m ≤ 1 := by unfold fsE; split <;> omega
 repeat (first | apply qN | refine qM rfl rfl ?_ | apply qB)
 refine wp_loop (fun q T M H' => ∃ (i : Nat) (Y : List AV), q = n - i ∧ fsE m ≤ i ∧ i ≤ n ∧ R i H' ∧ M = [] ∧ T = (.yl lb :: .ptr b 0 :: lget Y 0 :: iv (i : Nat) :: lget Y 1 :: lget Y 2 :: lget Y 3 :: lget Y 4 :: lget Y 5 :: lget Y 6 :: lget Y 7 :: lget Y 8 :: lget Y 9 :: lget Y 10 :: lget Y 11 :: lget Y 12 :: lget Y 13 :: lget Y 14 :: lget Y 15 :: lget Y 16 :: lget Y 17 :: lget Y 18 :: lget Y 19 :: lget Y 20 :: lget Y 21 :: lget Y 22 :: lget Y 23 :: lget Y 24 :: lget Y 25 :: lget Y 26 :: [])) (n - fsE m)
   ⟨fsE m, [_,_,_,_,_,_,_,_,_,_,_,_,_,_,_,_,_,_,_,_,_,_,_,_,_,_,_], rfl, Nat.le_refl _, by omega, hR1, rfl, rfl⟩ ?_
 rintro q T M H2 ⟨i, Y, hq1, hi, hile, hR, rfl, rfl⟩
 have b2 := hm _ _ hR
 have hp1 := b2.p1
 rw [hg] at hp1
 repeat (first | refine qM rfl rfl ?_ | refine zqa rfl rfl rfl ?_ | refine zq6 rfl rfl ‹_› ?_ | apply qR | apply qS)
 refine wops_cons (wop_cmp rfl rfl rfl rfl rfl (fun h => ?_) (fun h => ?_))
 rotate_left
 · have h : ¬ ((i : Int) < n) := of_decide_eq_false h
   have e : i = n := by omega
   subst e
   repeat (first | apply qN | refine qF rfl ?_ | apply qE)
   exact ⟨_, _, rfl, hk _ _ hR⟩
 have h : (i : Int) < n := of_decide_eq_true h
 have hin : i < n := by omega
 repeat (first | apply qN | refine qM rfl rfl ?_ | refine zqa rfl rfl rfl ?_ | refine zq6 rfl rfl ‹_› ?_ | refine qT rfl ?_ | apply qR | apply qS | apply qK | apply qB)
 refine wops_cons (wop_bin (op := .add) (v := .int .i64 ((i : Int) + n)) rfl rfl rfl rfl ?_ ?_)
 · show some (Value.int .i64 (IntKind.i64.wrap ((i : Int) + n))) = _
   rw [wrap_id (by omega) (by omega)]
 refine wops_cons (wop_bin (op := .sub) rfl rfl rfl rfl (sub1 (by omega)) ?_)
 repeat (first | refine zqa rfl rfl rfl ?_ | refine zq6 rfl rfl ‹_› ?_)
 refine wops_cons (wop_rem rfl rfl rfl rfl (by omega) ?_)
 have hmod : 0 ≤ ((i : Int) + n - 1).tmod n ∧ ((i : Int) + n - 1).tmod n < n := by
   have e : ((i : Int) + n - 1).tmod n = ((i : Int) + n - 1) % n := Int.tmod_eq_emod_of_nonneg (by omega)
   rw [e]
   exact ⟨Int.emod_nonneg _ (by omega), Int.emod_lt_of_pos _ (by omega)⟩
 repeat (first | apply qN | refine qM rfl rfl ?_ | apply qR | apply qS)
 refine wops_cons (wop_callF rfl rfl rfl (fn := Tryz.f159) (by rfl) ?_)
 refine c158 hq H2 (((i : Int) + n - 1).tmod n) 2 (by omega) (by omega) _ ⟨Nat.le_refl _, ?_⟩
 repeat (first | refine qM rfl rfl ?_)
 refine wops_cons (wop_callF rfl rfl rfl (fn := Tryz.f159) (by rfl) ?_)
 refine c158 hq H2 i 0 (by omega) (by omega) _ ⟨Nat.le_refl _, ?_⟩
 have hps : ivs (psL m i) = [iv (4 * (((i : Int) + n - 1).tmod n) + 2), iv (4 * (i : Int) + 0)] := by
   unfold psL; rw [hg, Int.add_zero]; rfl
 refine wops_cons (wop_val (r := .agg [iv (4 * (((i : Int) + n - 1).tmod n) + 2), iv (4 * (i : Int) + 0)]) (H' := H2) rfl rfl (by kernel_rfl) (Nat.le_refl _) ?_)
 rw [← hps]
 refine wops_cons (wop_yield rfl rfl rfl rfl ?_)
 refine hy i H2 hi hin hR _ (fun H3 hR3 hn3 => ⟨hn3, ?_⟩) (fun H3 hS hn3 => ⟨hn3, ?_⟩)
 · repeat (first | apply qN | refine qM rfl rfl ?_ | refine zq4 rfl rfl rfl rfl (inc (by omega)) ?_ | refine zq8 rfl rfl rfl ?_ | refine qF rfl ?_ | apply qR | apply qK)
   exact ⟨n - (i + 1), by omega, i + 1, [_,_,_,_,_,_,_,_,_,_,_,_,_,_,_,_,_,_,_,_,_,_,_,_,_,_,_], rfl, by omega, by omega, hR3, rfl, rfl⟩
 · repeat (first | apply qN | refine zq8 rfl rfl rfl ?_ | refine qT rfl ?_)
   refine wp_ret ?_
   exact ⟨_, _, rfl, hk2 _ _ hS⟩
end Go.Ev
