/- Part of an evaluator of calls that is proved sound, and of what it gives about this program. No condition of its own. -/
import Derived.Test.YtanaplokhjgfmaaGreatDoorEvEf
set_option linter.unusedVariables false
set_option linter.unusedSimpArgs false
set_option linter.unusedSectionVars false
set_option maxRecDepth 100000
set_option maxHeartbeats 4000000
namespace Go.Ev
open Go.Proofs
section
variable {O : CallF} {T : List AV} {H H0 : AH} {ops : Array Oper} {o : Oper} {i : Nat} {π : List Stp} {K : List AV → AH → Prop} {B : Nat → Nat → Prop}
theorem y_buildP {t : TypeId} {x y : Operand} {a b : Int} (h1 : ops.toList[i]? = some o) (ho : o.op = .build t #[(0, x), (1, y)]) (hg : wantedA o ops T = true) [hp : PrS t] (hx : av T x = iv a) (hy : av T y = iv b) (hk : WY (ENV O) ops H0 B π (putA T o.dst (.agg [iv a, iv b])) H K) : WY (ENV O) ops H0 B (.mob i :: π) T H K := by
 refine y_mob h1 hg ?_ (fun b hb => by rw [rdA_none (by unfold looksB; rw [ho])] at hb; cases hb) hk
 unfold mobEval; rw [ho]
 have h1 := hp.z
 have h2 := hp.u
 have h3 := hp.p
 simp only [ENV, buildA, h1, h2, h3]
 have e : (#[(0, x), (1, y)] : Array (Nat × Operand)).toList.map (fun p => (p.1, av T p.2)) = [(0, iv a), (1, iv b)] := by simp [hx, hy]
 rw [e]
 rfl
end
structure Tkd (r : Ru) (tk gp : List Int) (k : Tk) (j : Nat) (z g : Int) : Prop where
 st : StOk r tk gp
 a : k.a = (j : Int)
 z : tk[j]? = some z
 g : gp[j]? = some g
 b : 0 ≤ k.b ∧ k.b ≤ 8
 c : 0 ≤ k.c ∧ k.c ≤ 8
theorem Tkd.zb {r : Ru} {tk gp : List Int} {k : Tk} {j : Nat} {z g : Int} (h : Tkd r tk gp k j z g) : 0 ≤ z ∧ z ≤ r.f + r.t := h.st.tk z (List.mem_of_getElem? h.z)
theorem Tkd.gb {r : Ru} {tk gp : List Int} {k : Tk} {j : Nat} {z g : Int} (h : Tkd r tk gp k j z g) : 0 ≤ g ∧ g ≤ r.s - 1 := h.st.gp g (List.mem_of_getElem? h.g)
def gapA (r : Ru) (k : Tk) (g : Int) : Int := (g + k.b + k.c).tmod r.s
def ruled (r : Ru) (k : Tk) (v : Bool) : Bool := decide (k.b = r.o) && (decide ((if v = true then r.u else 1) ≤ k.c) && decide (k.c ≤ r.u))
variable {O : CallF} (hq : Quiet O)
include hq
theorem c81 (H : AH) (r : Ru) (k : Tk) (rv kv x y : AV) (tk gp : List Int) (j : Nat) (z g : Int) (hrv : rv.cells = r.cs) (hkv : kv.cells = k.cs) (hT : Tkd r tk gp k j z g) (hy : Ky H y gp) (hxb : x.beq x = true) (hx1 : x.one = true) (hr : H.next + 20 < 2 ^ 59) (K : AV → AH → Prop) (hk : ∀ H', Keeps H H' → H'.next ≤ H.next + 4 → K (iv (gapA r k g)) H') : Ca (ENV O) 81 [rv, .agg [x, y], kv] H K := by
 refine ca_intro (hq _ _ _ rfl) (fn := Tryz.f81) (by rfl) rfl ?_
 have r0 : H.next < 2 ^ 59 := by omega
 have hR := hT.st.ru
 have hgb := hT.gb
 have hb := hT.b
 have hc := hT.c
 repeat (first | apply qR | apply qS)
 refine wops_cons (o_boxS (cs := r.cs) rfl rfl hrv r0 fun H1 n1 k1 b1 => ?_)
 have r1 : H1.next < 2 ^ 59 := by omega
 refine wops_cons (o_boxS (cs := [x, y]) rfl rfl rfl r1 fun H2 n2 k2 b2 => ?_)
 have r2 : H2.next < 2 ^ 59 := by omega
 refine wops_cons (o_boxS (cs := k.cs) rfl rfl hkv r2 fun H3 n3 k3 b3 => ?_)
 have x1 := k1.nx
 have x2 := k2.nx
 have x3 := k3.nx
 have k03 := (k1.trans k2).trans k3
 have b1 := b1.keep (by omega) (k2.trans k3)
 have b2 := b2.keep (by omega) k3
 have hy3 := hy.keep k03
 have hsy := hy3.sl
 have p0 : At H3 (.ptr H.next 0) (iv r.s) := b1.at rfl
 have s1 : At H3 (.ptr H1.next 1) y := b2.at rfl
 have q0 : At H3 (.ptr H2.next 0) (iv (j : Nat)) := by rw [← hT.a]; exact b3.at rfl
 have q1 : At H3 (.ptr H2.next 1) (iv k.b) := b3.at rfl
 have q2 : At H3 (.ptr H2.next 2) (iv k.c) := b3.at rfl
 have hyb : y.beq y = true := hy3.sl.beq
 have sb : beqs [x, y] [x, y] = true := by simp [beqs, hxb, hyb]
 have L := fun n => lkP (n := n) b1 (by omega) (ru_beq r)
 have M := fun n => lkP (n := n) b2 (by omega) sb
 have N := fun n => lkP (n := n) b3 (by omega) (tk_beq k)
 repeat (first | apply qN | refine qM rfl rfl ?_ | apply qS)
 refine wp_drawK rfl ?_
 refine k_field rfl rfl rfl rfl ?_
 refine k_load rfl rfl rfl s1 (M _) ?_
 refine k_field rfl rfl rfl rfl ?_
 refine k_load rfl rfl rfl q0 (N _) ?_
 refine k_indexI rfl rfl rfl hsy rfl hT.g hy3.lk fun pp hpp hpo => ?_
 refine k_load rfl rfl rfl hpp hpo ?_
 refine k_field rfl rfl rfl rfl ?_
 refine k_load rfl rfl rfl q1 (N _) ?_
 refine k_bin (op := .add) (v := .int .i64 (g + k.b)) rfl rfl rfl rfl rfl (addI (by omega)) ?_
 refine k_field rfl rfl rfl rfl ?_
 refine k_load rfl rfl rfl q2 (N _) ?_
 refine k_bin (op := .add) (v := .int .i64 (g + k.b + k.c)) rfl rfl rfl rfl rfl (addI (by omega)) ?_
 refine k_field rfl rfl rfl rfl ?_
 refine k_load rfl rfl rfl p0 (L _) ?_
 refine k_rem rfl rfl rfl rfl rfl (by omega) ?_
 repeat (first | refine k_nil ?_ | refine k_assign rfl rfl rfl ?_)
 refine wp_ret ?_
 exact ⟨_, _, rfl, hk H3 k03 (by omega)⟩
theorem c138 (H : AH) (r : Ru) (k : Tk) (rv kv x y : AV) (tk gp : List Int) (j : Nat) (z g : Int) (hrv : rv.cells = r.cs) (hkv : kv.cells = k.cs) (hT : Tkd r tk gp k j z g) (hx : Ky H x tk) (hy : Ky H y gp) (hr : H.next + 20 < 2 ^ 59) (K : AV → AH → Prop) (hk : ∀ H', Keeps H H' → H'.next ≤ H.next + 4 → K (.agg [iv (z + 1), iv (gapA r k g)]) H') : Ca (ENV O) 138 [rv, .agg [x, y], kv] H K := by
 refine ca_intro (hq _ _ _ rfl) (fn := Tryz.f138) (by rfl) rfl ?_
 have r0 : H.next < 2 ^ 59 := by omega
 have hR := hT.st.ru
 have hgb := hT.gb
 have hzb := hT.zb
 have hb := hT.b
 have hc := hT.c
 repeat (first | apply qR | apply qS)
 refine wops_cons (o_boxS (cs := r.cs) rfl rfl hrv r0 fun H1 n1 k1 b1 => ?_)
 have r1 : H1.next < 2 ^ 59 := by omega
 refine wops_cons (o_boxS (cs := [x, y]) rfl rfl rfl r1 fun H2 n2 k2 b2 => ?_)
 have r2 : H2.next < 2 ^ 59 := by omega
 refine wops_cons (o_boxS (cs := k.cs) rfl rfl hkv r2 fun H3 n3 k3 b3 => ?_)
 have r3 : H3.next < 2 ^ 59 := by omega
 refine wops_cons (o_allocA (zs := [iv 0, iv 0]) rfl rfl (z := .agg #[.int .i64 0, .int .i64 0]) (by kernel_rfl) rfl r3 ?_)
 refine WOps.mem (fun H4 => Keeps H3 H4 ∧ H4.next = H3.next + 1 ∧ H4.get H3.next = some (.cells [iv 0, iv 0] 189 0)) ⟨(Keeps.refl H3).add _ r3, rfl, get_add_eq r3⟩ ?_
 rintro H4 ⟨k4, n4, g4⟩
 have x1 := k1.nx
 have x2 := k2.nx
 have x3 := k3.nx
 have k03 := (k1.trans k2).trans k3
 have k04 := k03.trans k4
 have b1 := b1.keep (by omega) ((k2.trans k3).trans k4)
 have b2 := b2.keep (by omega) (k3.trans k4)
 have b3 := b3.keep (by omega) k4
 have hx4 := hx.keep k04
 have hy4 := hy.keep k04
 have hsx := hx4.sl
 have hsy := hy4.sl
 have p0 : At H4 (.ptr H.next 0) (iv r.s) := b1.at rfl
 have s0 : At H4 (.ptr H1.next 0) x := b2.at rfl
 have s1 : At H4 (.ptr H1.next 1) y := b2.at rfl
 have q0 : At H4 (.ptr H2.next 0) (iv (j : Nat)) := by rw [← hT.a]; exact b3.at rfl
 have q1 : At H4 (.ptr H2.next 1) (iv k.b) := b3.at rfl
 have q2 : At H4 (.ptr H2.next 2) (iv k.c) := b3.at rfl
 show WOps _ _ _ _ _ _
 repeat (first | apply qN | apply qS)
 refine wp_drawY (fun j b => j = 1 ∨ j = 3 ∨ j = 5 ∨ j = 8 ∨ j = 10 ∨ j = 12 ∨ j = 14 ∨ j = 17 ∨ j = 20) rfl ?_
 refine y_field rfl rfl rfl rfl ?_
 refine y_load rfl rfl rfl s0 (fun b hb => by simp) ?_
 refine y_field rfl rfl rfl rfl ?_
 refine y_load rfl rfl rfl q0 (fun b hb => by simp) ?_
 refine y_indexI rfl rfl rfl hsx rfl hT.z fun pp hpp hpo => ?_
 refine y_load rfl rfl rfl hpp (fun b hb => by simp) ?_
 refine y_bin (op := .add) (v := .int .i64 (z + 1)) rfl rfl rfl rfl rfl (addI (by omega)) ?_
 refine y_field rfl rfl rfl rfl ?_
 refine y_load rfl rfl rfl s1 (fun b hb => by simp) ?_
 refine y_field rfl rfl rfl rfl ?_
 refine y_load rfl rfl rfl q0 (fun b hb => by simp) ?_
 refine y_indexI rfl rfl rfl hsy rfl hT.g fun pp2 hpp2 hpo2 => ?_
 refine y_load rfl rfl rfl hpp2 (fun b hb => by simp) ?_
 refine y_field rfl rfl rfl rfl ?_
 refine y_load rfl rfl rfl q1 (fun b hb => by simp) ?_
 refine y_bin (op := .add) (v := .int .i64 (g + k.b)) rfl rfl rfl rfl rfl (addI (by omega)) ?_
 refine y_field rfl rfl rfl rfl ?_
 refine y_load rfl rfl rfl q2 (fun b hb => by simp) ?_
 refine y_bin (op := .add) (v := .int .i64 (g + k.b + k.c)) rfl rfl rfl rfl rfl (addI (by omega)) ?_
 refine y_field rfl rfl rfl rfl ?_
 refine y_load rfl rfl rfl p0 (fun b hb => by simp) ?_
 refine y_rem rfl rfl rfl rfl rfl (by omega) ?_
 refine y_buildP rfl rfl rfl rfl rfl ?_
 refine y_loud rfl rfl (o_storeA (n := 2) (vs := [iv (z + 1), iv (gapA r k g)]) rfl rfl (by kernel_rfl) rfl rfl rfl rfl g4 (Nat.le_refl _) ⟨fun j b hb => .inl ?_, ?_⟩)
 · rcases hb with rfl | rfl | rfl | rfl | rfl | rfl | rfl | rfl | rfl <;> kernel_rfl
 refine y_nil ?_
 refine Wp.mem (fun H5 => Keeps H H5 ∧ H5.next = H4.next ∧ H5.get H3.next = some (.cells [iv (z + 1), iv (gapA r k g)] 189 0)) ⟨k04.set _ (by omega) r3, rfl, get_set_eq r3⟩ ?_
 rintro H5 ⟨k5, n5, g5⟩
 skip
 refine Wp.cut (fun T => ∃ Y : List AV, T = (lget Y 0 :: lget Y 1 :: lget Y 2 :: lget Y 3 :: lget Y 4 :: lget Y 5 :: .ptr H3.next 0 :: lget Y 6 :: lget Y 7 :: lget Y 8 :: lget Y 9 :: lget Y 10 :: lget Y 11 :: lget Y 12 :: lget Y 13 :: lget Y 14 :: lget Y 15 :: lget Y 16 :: lget Y 17 :: lget Y 18 :: lget Y 19 :: lget Y 20 :: lget Y 21 :: lget Y 22 :: lget Y 23 :: lget Y 24 :: lget Y 25 :: lget Y 26 :: lget Y 27 :: lget Y 28 :: [])) ⟨[_,_,_,_,_,_,_,_,_,_,_,_,_,_,_,_,_,_,_,_,_,_,_,_,_,_,_,_,_], rfl⟩ ?_
 rintro T ⟨Y, rfl⟩
 refine wp_ret ?_
 refine ⟨.agg [iv (z + 1), iv (gapA r k g)], H5, ?_, hk H5 k5 (by omega)⟩
 have hres : resA Tryz.prog (lget Y 0 :: lget Y 1 :: lget Y 2 :: lget Y 3 :: lget Y 4 :: lget Y 5 :: .ptr H3.next 0 :: lget Y 6 :: lget Y 7 :: lget Y 8 :: lget Y 9 :: lget Y 10 :: lget Y 11 :: lget Y 12 :: lget Y 13 :: lget Y 14 :: lget Y 15 :: lget Y 16 :: lget Y 17 :: lget Y 18 :: lget Y 19 :: lget Y 20 :: lget Y 21 :: lget Y 22 :: lget Y 23 :: lget Y 24 :: lget Y 25 :: lget Y 26 :: lget Y 27 :: lget Y 28 :: []) H5 Tryz.f138.results.toList = some [.agg [iv (z + 1), iv (gapA r k g)]] := by
   show (match loadA Tryz.prog 189 H3.next 0 H5, (some [] : Option (List AV)) with | some x, some m => some (x :: m) | _, _ => none) = _
   rw [load2 g5]
 unfold leaveM resultsA
 simp only [takeMarks]
 rw [show (ENV O).P = Tryz.prog from rfl, hres]
theorem c136 (H : AH) (r : Ru) (k : Tk) (rv kv : AV) (v : Bool) (hrv : rv.cells = r.cs) (hkv : kv.cells = k.cs) (hr : H.next + 20 < 2 ^ 59) (K : AV → AH → Prop) (hk : ∀ H', Keeps H H' → H'.next = H.next + 2 → K (.v (.bool (ruled r k v))) H') : Ca (ENV O) 136 [rv, kv, .v (.bool v)] H K := by
 refine ca_intro (hq _ _ _ rfl) (fn := Tryz.f136) (by rfl) rfl ?_
 have r0 : H.next < 2 ^ 59 := by omega
 repeat (first | apply qR | apply qS)
 refine wops_cons (o_boxS (cs := r.cs) rfl rfl hrv r0 fun H1 n1 k1 b1 => ?_)
 have r1 : H1.next < 2 ^ 59 := by omega
 refine wops_cons (o_boxS (cs := k.cs) rfl rfl hkv r1 fun H2 n2 k2 b2 => ?_)
 have x1 := k1.nx
 have b1 := b1.keep (by omega) k2
 have p1 : At H2 (.ptr H.next 1) (iv r.o) := b1.at rfl
 have p2 : At H2 (.ptr H.next 2) (iv r.u) := b1.at rfl
 have q1 : At H2 (.ptr H1.next 1) (iv k.b) := b2.at rfl
 have q2 : At H2 (.ptr H1.next 2) (iv k.c) := b2.at rfl
 have hk := hk H2 (k1.trans k2) (by omega)
 unfold ruled at hk
 have hle : ∀ a b : Int, binI .leq .i64 .i64 a b = some (.bool (decide (a ≤ b))) := fun a b => rfl
 cases v with
 | true =>
   rw [if_pos rfl] at hk
   repeat (first | apply qN | refine qM rfl rfl ?_ | refine zqa rfl rfl rfl ?_ | refine zq6 rfl rfl ‹_› ?_ | refine qT rfl ?_ | apply qR | apply qS)
   refine wops_cons (wop_bin (op := .eql) (v := .bool (decide (k.b = r.o))) rfl rfl rfl rfl (by simp [binI]; rfl) ?_)
   generalize decide (k.b = r.o) = A at hk ⊢
   cases A with
   | false =>
     repeat (first | apply qN | refine zq1 rfl rfl ?_ | refine qM rfl rfl ?_ | refine zq7 rfl rfl rfl ?_)
     refine wp_ret ?_
     exact ⟨_, _, rfl, hk⟩
   | true =>
     repeat (first | refine qM rfl rfl ?_ | refine zqa rfl rfl rfl ?_ | refine zq6 rfl rfl ‹_› ?_)
     refine wops_cons (wop_bin (op := .leq) (v := .bool (decide (r.u ≤ k.c))) rfl rfl rfl rfl (hle _ _) ?_)
     generalize decide (r.u ≤ k.c) = A at hk ⊢
     cases A with
     | false =>
       repeat (first | apply qN | refine zq1 rfl rfl ?_ | refine qM rfl rfl ?_ | refine zq7 rfl rfl rfl ?_)
       refine wp_ret ?_
       exact ⟨_, _, rfl, hk⟩
     | true =>
       repeat (first | refine qM rfl rfl ?_ | refine zqa rfl rfl rfl ?_ | refine zq6 rfl rfl ‹_› ?_ | refine zq7 rfl rfl rfl ?_)
       refine wops_cons (wop_bin (op := .leq) (v := .bool (decide (k.c ≤ r.u))) rfl rfl rfl rfl (hle _ _) ?_)
       generalize decide (k.c ≤ r.u) = A at hk ⊢
       repeat (first | apply qN | refine qM rfl rfl ?_ | refine zq7 rfl rfl rfl ?_)
       refine wp_ret ?_
       exact ⟨_, _, rfl, hk⟩
 | false =>
   rw [if_neg (by decide)] at hk
   repeat (first | apply qN | refine qM rfl rfl ?_ | refine zqa rfl rfl rfl ?_ | refine zq6 rfl rfl ‹_› ?_ | refine qF rfl ?_ | apply qR | apply qS | apply qK)
   refine wops_cons (wop_bin (op := .eql) (v := .bool (decide (k.b = r.o))) rfl rfl rfl rfl (by simp [binI]; rfl) ?_)
   generalize decide (k.b = r.o) = A at hk ⊢
   cases A with
   | false =>
     repeat (first | apply qN | refine zq1 rfl rfl ?_ | refine qM rfl rfl ?_ | refine zq7 rfl rfl rfl ?_)
     refine wp_ret ?_
     exact ⟨_, _, rfl, hk⟩
   | true =>
     repeat (first | refine qM rfl rfl ?_ | refine zqa rfl rfl rfl ?_ | refine zq6 rfl rfl ‹_› ?_)
     refine wops_cons (wop_bin (op := .leq) (v := .bool (decide ((1 : Int) ≤ k.c))) rfl rfl rfl rfl (hle _ _) ?_)
     generalize decide ((1 : Int) ≤ k.c) = A at hk ⊢
     cases A with
     | false =>
       repeat (first | apply qN | refine zq1 rfl rfl ?_ | refine qM rfl rfl ?_ | refine zq7 rfl rfl rfl ?_)
       refine wp_ret ?_
       exact ⟨_, _, rfl, hk⟩
     | true =>
       repeat (first | refine qM rfl rfl ?_ | refine zqa rfl rfl rfl ?_ | refine zq6 rfl rfl ‹_› ?_ | refine zq7 rfl rfl rfl ?_)
       refine wops_cons (wop_bin (op := .leq) (v := .bool (decide (k.c ≤ r.u))) rfl rfl rfl rfl (hle _ _) ?_)
       generalize decide (k.c ≤ r.u) = A at hk ⊢
       repeat (first | apply qN | refine qM rfl rfl ?_ | refine zq7 rfl rfl rfl ?_)
       refine wp_ret ?_
       exact ⟨_, _, rfl, hk⟩
end Go.Ev
