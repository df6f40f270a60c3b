/- Part of an evaluator of calls that is proved sound, and of what it gives about this program. No condition of its own. -/
import Derived.Test.YtanaplokhjgfmaaGreatDoorEvDe
set_option linter.unusedVariables false
set_option linter.unusedSimpArgs false
set_option linter.unusedSectionVars false
set_option maxRecDepth 100000
set_option maxHeartbeats 4000000
namespace Go.Ev
open Go.Proofs
def kv (p : Int × Int) : Value := .agg #[.int .i64 p.1, .int .i64 p.2]
instance : EqS 189 := ⟨by kernel_rfl, by kernel_rfl, of_decide_eq_true (by kernel_rfl), of_decide_eq_true (by kernel_rfl), fun _ _ => by kernel_rfl, fun _ _ => by kernel_rfl, by kernel_rfl, by kernel_rfl, by kernel_rfl, by kernel_rfl⟩
instance : PrS 189 := ⟨by kernel_rfl, by kernel_rfl, by kernel_rfl⟩
instance : Stru 189 2 := ⟨by kernel_rfl, by kernel_rfl⟩
instance : FA 189 0 0 := ⟨fun b o => by kernel_rfl⟩
instance : FA 189 1 1 := ⟨fun b o => by kernel_rfl⟩
theorem u129 : runPure Tryz.prog (underlying 129) = some (.map 189 4) := by kernel_rfl
theorem z4 : runPure Tryz.prog (zeroValue 4) = some (.bool false) := by kernel_rfl
theorem chkS (e : Bool) (p : Int × Int) : runPure Tryz.prog (Instr.checkKey e 10000 189 (kv p)) = some () := by
 obtain ⟨a, b⟩ := p
 unfold kv
 kernel_rfl
structure Sp (es : List MapEntry) (L : List (Int × Int)) : Prop where
 k : es.map (·.key) = L.map kv
 v : ∀ e ∈ es, e.val = .bool true
theorem Sp.nil : Sp [] [] := ⟨rfl, fun e h => by simp at h⟩
theorem Sp.len {es : List MapEntry} {L : List (Int × Int)} (h : Sp es L) : es.length = L.length := by
 have := congrArg List.length h.k
 simpa using this
theorem findAskS (p : Int × Int) : ∀ (es : List MapEntry) (L : List (Int × Int)) (i : Nat), Sp es L → runPure Tryz.prog (Instr.findAsking 189 (kv p) es i) = some (match L.findIdx? (fun q => p == q) with | some j => some (i + j, .bool true) | none => none)
 | [], [], i, _ => rfl
 | [], _ :: _, i, h => by have := h.len; simp at this
 | _ :: _, [], i, h => by have := h.len; simp at this
 | e :: es, q :: L, i, h => by
   have hk : e.key = kv q ∧ es.map (·.key) = L.map kv := by simpa using h.k
   have hv := h.v e (by simp)
   have ih := findAskS p es L (i + 1) ⟨hk.2, fun e he => h.v e (List.mem_cons_of_mem _ he)⟩
   have hs : EqS 189 := inferInstance
   have heq : runPure Tryz.prog (Op.equal 189 (kv p) (kv q)) = some (p == q) := by
     rw [show Op.equal 189 (kv p) (kv q) = Op.equalIn (9998 + 2) 189 (.agg #[.int .i64 p.1, .int .i64 p.2]) (.agg #[.int .i64 q.1, .int .i64 q.2]) from rfl, eqStr 9998 189 _ _ _ p.1 p.2 q.1 q.2 hs.u hs.l hs.n0 hs.n1 hs.p0 hs.p1 hs.s hs.i0 hs.i1]
     rfl
   unfold Instr.findAsking
   rw [runPure_bind, hk.1, heq]
   simp only [Option.bind_some]
   by_cases hpq : p = q
   · subst hpq
     simp [List.findIdx?_cons, hv, runPure_pure]
   · have hb : (p == q) = false := by simpa using hpq
     simp only [hb, Bool.false_eq_true, if_false, List.findIdx?_cons]
     rw [ih]
     cases L.findIdx? (fun q => p == q) with
     | none => rfl
     | some j => simp [Nat.add_comm, Nat.add_left_comm]
theorem findKeyS {p : Int × Int} {es : List MapEntry} {L : List (Int × Int)} (h : Sp es L) : runPure Tryz.prog (Instr.findKey 189 (kv p) es) = some (match L.findIdx? (fun q => p == q) with | some j => some (j, .bool true) | none => none) := by
 have hs : EqS 189 := inferInstance
 unfold Instr.findKey
 rw [runPure_bind, hs.u]
 simp only [Option.bind_some]
 cases es with
 | nil =>
   cases L with
   | nil => rfl
   | cons => have := h.len; simp at this
 | cons e es =>
   have e0 : Instr.findNow (.struct (flds 189)) (kv p) (e :: es) 0 = none := by
     unfold Instr.findNow
     have : Instr.sameNow (.struct (flds 189)) (kv p) e.key = none := rfl
     rw [this]
   rw [e0]
   have := findAskS p (e :: es) L 0 h
   simpa using this
theorem keySt (p : Int × Int) : runPure Tryz.prog (Instr.keyThatStays (kv p) (kv p)) = some (kv p) := by
 unfold Instr.keyThatStays
 have : Instr.sameBits 10000 (kv p) (kv p) = true := by
   obtain ⟨a, b⟩ := p
   simp [kv, Instr.sameBits]
 simp [this, runPure_pure]
section
variable {O : CallF} {T : List AV} {H H0 : AH} {ops : Array Oper} {o : Oper} {i : Nat} {π : List Stp} {K : AV → AH → Prop}
theorem idx_mem {p : Int × Int} {L : List (Int × Int)} : (p ∈ L → ∃ j, L.findIdx? (fun q => p == q) = some j ∧ L[j]? = some p) ∧ (¬ p ∈ L → L.findIdx? (fun q => p == q) = none) := by
 constructor
 · intro h
   cases hf : L.findIdx? (fun q => p == q) with
   | none =>
     rw [List.findIdx?_eq_none_iff] at hf
     have := hf p h
     simp at this
   | some j =>
     obtain ⟨hj, h1, _⟩ := List.findIdx?_eq_some_iff_getElem.1 hf
     have h1 : p = L[j] := by simpa using h1
     exact ⟨j, rfl, by rw [List.getElem?_eq_getElem hj, ← h1]⟩
 · intro h
   rw [List.findIdx?_eq_none_iff]
   intro x hx
   simp
   intro e; subst e; exact h hx
theorem o_putS {m k x : Operand} {b : Nat} {p : Int × Int} {es : List MapEntry} {L : List (Int × Int)} {cl : Nat} (ho : o.op = .mapUpdate 129 m k x) (hg : wantedA o ops T = true) (hm : av T m = .mp b) (hk' : av T k = .agg [iv p.1, iv p.2]) (hx : av T x = .v (.bool true)) (hb : H.get b = some (.map es cl)) (hS : Sp es L)
   (hk : ∀ es' cl', Sp es' (if p ∈ L then L else L ++ [p]) → K (.v undef) (H.set b (some (.map es' cl')))) : WOp (ENV O) ops o T H K := by
 have hpl : (AV.agg [iv p.1, iv p.2]).plain = some (kv p) := rfl
 by_cases hin : p ∈ L
 · obtain ⟨j, hj, hL⟩ := (idx_mem (L := L)).1 hin
   have hek : (es.map (·.key))[j]? = some (kv p) := by rw [hS.k, List.getElem?_map, hL]; rfl
   rw [List.getElem?_map] at hek
   obtain ⟨e, he, hek⟩ : ∃ e, es[j]? = some e ∧ e.key = kv p := by
     cases h : es[j]? with
     | none => rw [h] at hek; simp at hek
     | some e => rw [h] at hek; exact ⟨e, rfl, by simpa using hek⟩
   refine wop_val (by rw [ho]; rfl) hg (r := .v undef) (H' := H.set b (some (.map (es.modify j fun e => { e with key := kv p, val := .bool true }) cl))) ?_ (Nat.le_refl _) (hk _ _ ?_)
   · unfold opEval; rw [ho]
     have h3 : runPure Tryz.prog (Instr.keyThatStays (((es.toArray[j]?).map (·.key)).getD (kv p)) (kv p)) = some (kv p) := by
       have : es.toArray[j]? = some e := by simpa using he
       rw [this]
       simp only [Option.map_some, Option.getD_some, hek]
       exact keySt p
     have h4 := findKeyS (p := p) hS
     rw [hj] at h4
     simp only [ENV, oMapUpdate, hm, hk', hx, hpl, AV.plain, mapUpdateA, u129, hb, chkS, h4, h3]
   · rw [if_pos hin]
     refine ⟨?_, fun e' he' => ?_⟩
     · rw [← hS.k]
       refine List.ext_getElem? fun n => ?_
       rw [List.getElem?_map, List.getElem?_map, List.getElem?_modify]
       by_cases hn : j = n
       · subst hn
         rw [he]; simp [hek]
       · cases es[n]? <;> simp [hn]
     · obtain ⟨n, hn⟩ := List.mem_iff_getElem?.1 he'
       rw [List.getElem?_modify] at hn
       by_cases hjn : j = n
       · subst hjn
         rw [he] at hn
         simp at hn
         rw [← hn]
       · cases hen : es[n]? with
         | none => rw [hen] at hn; simp at hn
         | some e2 =>
           rw [hen] at hn
           simp [hjn] at hn
           subst hn
           exact hS.v _ (List.mem_of_getElem? hen)
 · have hj := (idx_mem (L := L)).2 hin
   refine wop_val (by rw [ho]; rfl) hg (r := .v undef) (H' := H.set b (some (.map (es ++ [{ key := kv p, val := .bool true, born := cl }]) (cl + 1)))) ?_ (Nat.le_refl _) (hk _ _ ?_)
   · unfold opEval; rw [ho]
     have h4 := findKeyS (p := p) hS
     rw [hj] at h4
     simp only [ENV, oMapUpdate, hm, hk', hx, hpl, AV.plain, mapUpdateA, u129, hb, chkS, h4]
   · rw [if_neg hin]
     refine ⟨by rw [List.map_append, List.map_append, hS.k]; rfl, fun e' he' => ?_⟩
     rcases List.mem_append.1 he' with h | h
     · exact hS.v _ h
     · simp at h; rw [h]
theorem o_getS {m k : Operand} {b : Nat} {p : Int × Int} {es : List MapEntry} {L : List (Int × Int)} {cl : Nat} (ho : o.op = .lookup 129 m k false) (hg : wantedA o ops T = true) (hm : av T m = .mp b) (hk' : av T k = .agg [iv p.1, iv p.2]) (hb : H.get b = some (.map es cl)) (hS : Sp es L)
   (hk : K (.v (.bool (decide (p ∈ L)))) H) : WOp (ENV O) ops o T H K := by
 have hpl : (AV.agg [iv p.1, iv p.2]).plain = some (kv p) := rfl
 refine wop_val (by rw [ho]; rfl) hg (r := .v (.bool (decide (p ∈ L)))) ?_ (Nat.le_refl _) hk
 unfold opEval; rw [ho]
 have h4 := findKeyS (p := p) hS
 by_cases hin : p ∈ L
 · obtain ⟨j, hj, hL⟩ := (idx_mem (L := L)).1 hin
   rw [hj] at h4
   rw [decide_eq_true hin]
   simp only [ENV, oLookup, hm, hk', hpl, lookupA, u129, hb, chkS, h4, z4]
   rfl
 · have hj := (idx_mem (L := L)).2 hin
   rw [hj] at h4
   rw [decide_eq_false hin]
   simp only [ENV, oLookup, hm, hk', hpl, lookupA, u129, hb, chkS, h4, z4]
   rfl
theorem o_lenM {c : Call} {x : Operand} {b : Nat} {es : List MapEntry} {L : List (Int × Int)} {cl : Nat} (ho : o.op = .call c) (hg : wantedA o ops T = true) (hc : c.callee = .builtin .len) (hargs : c.args.toList = [x]) (ht : c.argTypes.toList = [129]) (hx : av T x = .mp b) (hb : H.get b = some (.map es cl)) (hS : Sp es L)
   (hk : K (iv L.length) H) : WOp (ENV O) ops o T H K := by
 refine wop_val (by rw [ho]; simp only [still, hc]) hg (r := iv L.length) ?_ (Nat.le_refl _) hk
 unfold opEval; rw [ho]
 rw [← hS.len]
 simp only [ENV, oCall, hc, oBuiltin, hargs, oLen, lenOpA, arg0 ht, u129, hx, hb]
 rfl
end
def spt : List (Int × Int) → List (Int × Int) → List (Int × Int)
 | L, [] => L
 | L, p :: ps => spt (if p ∈ L then L else L ++ [p]) ps
theorem spt_mem (p : Int × Int) : ∀ (ps L : List (Int × Int)), p ∈ spt L ps ↔ p ∈ L ∨ p ∈ ps
 | [], L => by simp [spt]
 | q :: ps, L => by
   rw [spt, spt_mem p ps]
   by_cases h : q ∈ L
   · rw [if_pos h]
     constructor
     · rintro (h1 | h1)
       · exact .inl h1
       · exact .inr (List.mem_cons_of_mem _ h1)
     · rintro (h1 | h1)
       · exact .inl h1
       · rcases List.mem_cons.1 h1 with rfl | h1
         · exact .inl h
         · exact .inr h1
   · rw [if_neg h]
     simp [or_assoc]
theorem spt_le : ∀ (ps L : List (Int × Int)), (spt L ps).length ≤ L.length + ps.length
 | [], L => by simp [spt]
 | q :: ps, L => by
   rw [spt]
   by_cases h : q ∈ L
   · rw [if_pos h]
     have := spt_le ps L
     simp; omega
   · rw [if_neg h]
     have := spt_le ps (L ++ [q])
     simp at this ⊢; omega
theorem spt_nodup : ∀ (ps L : List (Int × Int)), (spt L ps).length = L.length + ps.length ↔ (ps.Nodup ∧ ∀ p ∈ ps, p ∉ L)
 | [], L => by simp [spt]
 | q :: ps, L => by
   rw [spt]
   by_cases h : q ∈ L
   · rw [if_pos h]
     have := spt_le ps L
     constructor
     · intro e; simp at e; omega
     · rintro ⟨_, h2⟩; exact absurd h (h2 q (by simp))
   · rw [if_neg h]
     have ih := spt_nodup ps (L ++ [q])
     rw [List.length_append] at ih
     rw [show L.length + (q :: ps).length = L.length + [q].length + ps.length by simp; omega, ih]
     simp only [List.nodup_cons, List.mem_append, List.mem_singleton, List.mem_cons, forall_eq_or_imp, not_or]
     constructor
     · rintro ⟨h1, h2⟩
       exact ⟨⟨fun hq => (h2 q hq).2.1 rfl, h1⟩, h, fun p hp => (h2 p hp).1⟩
     · rintro ⟨⟨h1, h2⟩, h3, h4⟩
       exact ⟨h2, fun p hp => ⟨h4 p hp, fun e => h1 (by rw [← e]; exact hp), by simp⟩⟩
end Go.Ev
namespace Go.Ev
open Go.Proofs
theorem o_build5 {O : CallF} {T : List AV} {H : AH} {ops : Array Oper} {o : Oper} {K : AV → AH → Prop} {t e : TypeId} {x y w u q : Operand} {z0 : Value} (ho : o.op = .buildSlice t 5 #[(0, x), (1, y), (2, w), (3, u), (4, q)]) (hg : wantedA o ops T = true) [hu : TyS t e] [hs : Cell e] [hz : Zero e z0] (h1 : (av T x).one = true) (h2 : (av T y).one = true) (h3 : (av T w).one = true) (h4 : (av T u).one = true) (h5 : (av T q).one = true) (hr : H.next < 2 ^ 59)
   (hk : K (.slc H.next 0 5 5) (H.add (.cells [av T x, av T y, av T w, av T u, av T q] e 0))) : WOp (ENV O) ops o T H K := by
 refine wop_val (by rw [ho]; rfl) hg (r := .slc H.next 0 5 5) (H' := H.add (.cells [av T x, av T y, av T w, av T u, av T q] e 0)) ?_ (Nat.le_succ _) hk
 have hlt : Nat.blt H.next (2 ^ 59) = true := Nat.ble_eq_true_of_le hr
 unfold opEval; rw [ho]
 simp only [ENV, buildSliceA, hu.u, hs.s, hz.z, hz.c]
 rw [if_pos (by decide)]
 simp [fillA, cells_one h1, cells_one h2, cells_one h3, cells_one h4, cells_one h5, wr, newA, hlt]
 rw [List.drop_eq_nil_of_le (by simp)]
structure Ru where
 s : Int
 o : Int
 u : Int
 f : Int
 t : Int
def Ru.cs (r : Ru) : List AV := [iv r.s, iv r.o, iv r.u, iv r.f, iv r.t]
def rg (n lo hi : Int) : Int := if inB n lo hi = true then 0 else 3
abbrev w64 (z : Int) : Int := IntKind.i64.wrap z
def ruE (r : Ru) : Int := firstNZ [rg r.s 2 8, rg r.o 0 (w64 (r.s - 1)), rg r.u 1 (w64 (r.s - 1)), rg r.f 1 20, rg r.t 0 20]
theorem rg_0 {n lo hi : Int} : rg n lo hi = 0 ↔ lo ≤ n ∧ n ≤ hi := by
 unfold rg
 cases h : inB n lo hi with
 | true => simpa using inB_iff.1 h
 | false =>
   simp
   intro h1
   by_cases h2 : hi < n
   · exact h2
   · have := inB_iff.2 (show lo ≤ n ∧ n ≤ hi from ⟨h1, by omega⟩); rw [h] at this; cases this
theorem rg_3 {n lo hi : Int} (h : rg n lo hi ≠ 0) : rg n lo hi = 3 := by
 unfold rg at h ⊢
 split
 · rename_i h1; rw [if_pos h1] at h; exact absurd rfl h
 · rfl
theorem fnz_ne {z : Int} {l : List Int} (h : z ≠ 0) : firstNZ (z :: l) = z := by rw [firstNZ_cons, if_pos h]
theorem fnz_0 {z : Int} {l : List Int} (h : z = 0) : firstNZ (z :: l) = firstNZ l := by rw [firstNZ_cons, if_neg (by simpa using h)]
theorem ruE_ok {r : Ru} (h : ruE r = 0) : 2 ≤ r.s ∧ r.s ≤ 8 ∧ 0 ≤ r.o ∧ r.o ≤ r.s - 1 ∧ 1 ≤ r.u ∧ r.u ≤ r.s - 1 ∧ 1 ≤ r.f ∧ r.f ≤ 20 ∧ 0 ≤ r.t ∧ r.t ≤ 20 := by
 unfold ruE at h
 by_cases h1 : rg r.s 2 8 = 0
 · rw [fnz_0 h1] at h
   have h1 := rg_0.1 h1
   have hw : w64 (r.s - 1) = r.s - 1 := wr64 (by omega)
   rw [hw] at h
   by_cases h2 : rg r.o 0 (r.s - 1) = 0
   · rw [fnz_0 h2] at h
     by_cases h3 : rg r.u 1 (r.s - 1) = 0
     · rw [fnz_0 h3] at h
       obtain ⟨h4, h5⟩ := first2n h
       have h2 := rg_0.1 h2
       have h3 := rg_0.1 h3
       have h4 := rg_0.1 h4
       have h5 := rg_0.1 h5
       omega
     · rw [fnz_ne h3] at h; exact absurd h h3
   · rw [fnz_ne h2] at h; exact absurd h h2
 · rw [fnz_ne h1] at h; exact absurd h h1
theorem lkS {H : AH} {b : Nat} {t : TypeId} {cs : List AV} (h : Bk H b t cs) (hb : b < H.next) (hc : beqs cs cs = true) : ∀ c, (AV.ptr b 0).own = some c → Lk H c := fun c hc' => by
 cases hc'
 exact ⟨hb, by rw [h.g]; simp [sameBlk, hc]⟩
theorem lkP {H : AH} {b n : Nat} {t : TypeId} {cs : List AV} (h : Bk H b t cs) (hb : b < H.next) (hc : beqs cs cs = true) : ∀ c, (AV.ptr b n).own = some c → Lk H c := lkS h hb hc
theorem ru_beq (r : Ru) : beqs r.cs r.cs = true := by simp [Ru.cs, beqs, AV.beq, vbeq, iv]
def eachE (e : Int → Int) : List Int → Int
 | [] => 0
 | z :: l => if e z = 0 then eachE e l else e z
variable {O : CallF} (hq : Quiet O)
include hq
theorem c14 (H : AH) (r : Ru) (mv : AV) (hmv : mv.cells = r.cs) (hr : H.next + 20 < 2 ^ 59) (K : AV → AH → Prop) (hk : ∀ H', Keeps H H' → H'.next ≤ H.next + 2 → K (iv (ruE r)) H') : Ca (ENV O) 14 [mv] H K := by
 refine ca_intro (hq _ _ _ rfl) (fn := Tryz.f14) (by rfl) rfl ?_
 have r0 : H.next < 2 ^ 59 := by omega
 repeat (first | apply qR | apply qS)
 refine wops_cons (o_boxS (cs := r.cs) rfl rfl hmv r0 fun H1 n1 k1 b1 => ?_)
 have p0 : At H1 (.ptr H.next 0) (iv r.s) := b1.at rfl
 have p1 : At H1 (.ptr H.next 1) (iv r.o) := b1.at rfl
 have p2 : At H1 (.ptr H.next 2) (iv r.u) := b1.at rfl
 have p3 : At H1 (.ptr H.next 3) (iv r.f) := b1.at rfl
 have p4 : At H1 (.ptr H.next 4) (iv r.t) := b1.at rfl
 have L := fun n => lkP (n := n) b1 (by omega) (ru_beq r)
 have r1 : H1.next < 2 ^ 59 := by omega
 repeat (first | apply qN | refine qM rfl rfl ?_ | apply qS)
 refine wp_drawK rfl ?_
 refine k_field rfl rfl rfl rfl ?_
 refine k_load rfl rfl rfl p0 (L _) ?_
 refine k_field rfl rfl rfl rfl ?_
 refine k_load rfl rfl rfl p1 (L _) ?_
 refine k_field rfl rfl rfl rfl ?_
 refine k_load rfl rfl rfl p0 (L _) ?_
 refine k_bin (op := .sub) (v := .int .i64 (w64 (r.s - 1))) rfl rfl rfl rfl rfl rfl ?_
 refine k_field rfl rfl rfl rfl ?_
 refine k_load rfl rfl rfl p2 (L _) ?_
 refine k_field rfl rfl rfl rfl ?_
 refine k_load rfl rfl rfl p0 (L _) ?_
 refine k_bin (op := .sub) (v := .int .i64 (w64 (r.s - 1))) rfl rfl rfl rfl rfl rfl ?_
 refine k_field rfl rfl rfl rfl ?_
 refine k_load rfl rfl rfl p3 (L _) ?_
 refine k_field rfl rfl rfl rfl ?_
 refine k_load rfl rfl rfl p4 (L _) ?_
 refine k_call rfl rfl rfl (fun b h => by cases h) (wop_callF rfl rfl rfl (fn := Tryz.f69) (by rfl) ?_)
 refine cRange hq H1 r.s 2 8 _ ⟨Nat.le_refl _, Keeps.refl _, ?_⟩
 refine k_call rfl rfl rfl (fun b h => by cases h) (wop_callF rfl rfl rfl (fn := Tryz.f69) (by rfl) ?_)
 refine cRange hq H1 r.o 0 (w64 (r.s - 1)) _ ⟨Nat.le_refl _, Keeps.refl _, ?_⟩
 refine k_call rfl rfl rfl (fun b h => by cases h) (wop_callF rfl rfl rfl (fn := Tryz.f69) (by rfl) ?_)
 refine cRange hq H1 r.u 1 (w64 (r.s - 1)) _ ⟨Nat.le_refl _, Keeps.refl _, ?_⟩
 refine k_call rfl rfl rfl (fun b h => by cases h) (wop_callF rfl rfl rfl (fn := Tryz.f69) (by rfl) ?_)
 refine cRange hq H1 r.f 1 20 _ ⟨Nat.le_refl _, Keeps.refl _, ?_⟩
 refine k_call rfl rfl rfl (fun b h => by cases h) (wop_callF rfl rfl rfl (fn := Tryz.f69) (by rfl) ?_)
 refine cRange hq H1 r.t 0 20 _ ⟨Nat.le_refl _, Keeps.refl _, ?_⟩
 refine k_loud rfl rfl (o_build5 rfl rfl rfl rfl rfl rfl rfl r1 ⟨(Keeps.refl H1).add _ r1, ?_⟩)
 refine WK.mem (fun H2 => Keeps H1 H2 ∧ H2.next = H1.next + 1 ∧ Sl H2 (.slc H1.next 0 5 5) (ivs [rg r.s 2 8, rg r.o 0 (w64 (r.s - 1)), rg r.u 1 (w64 (r.s - 1)), rg r.f 1 20, rg r.t 0 20])) ⟨(Keeps.refl H1).add _ r1, rfl, sl_new (cs := ivs [rg r.s 2 8, rg r.o 0 (w64 (r.s - 1)), rg r.u 1 (w64 (r.s - 1)), rg r.f 1 20, rg r.t 0 20]) r1 5⟩ ?_
 rintro H2 ⟨k2, n2, hs2⟩
 refine k_call rfl rfl rfl (fun b h => by cases h) (wop_callF rfl rfl rfl (fn := Tryz.f68) (by rfl) ?_)
 refine cFirst hq H2 _ _ hs2 (by show 5 ≤ 1000; decide) _ ⟨Nat.le_refl _, k2, ?_⟩
 clear hs2
 show WK _ _ _ _ _ _ _
 rw [show firstNZ [rg r.s 2 8, rg r.o 0 (w64 (r.s - 1)), rg r.u 1 (w64 (r.s - 1)), rg r.f 1 20, rg r.t 0 20] = ruE r from rfl]
 repeat (first | refine k_nil ?_ | refine k_assign rfl rfl rfl ?_)
 refine wp_ret ?_
 exact ⟨_, _, rfl, hk H2 (k1.trans k2) (by omega)⟩
theorem c13 (H : AH) (r : Ru) (mv : AV) (hmv : mv.cells = r.cs) (hr : H.next + 20 < 2 ^ 59) (K : AV → AH → Prop) (hk : ∀ H', Keeps H H' → H'.next = H.next + 1 → K (iv (ruE r)) H') : Ca (ENV O) 13 [mv] H K := by
 refine ca_intro (hq _ _ _ rfl) (fn := Tryz.f13) (by rfl) rfl ?_
 have r0 : H.next < 2 ^ 59 := by omega
 repeat (first | apply qR | apply qS)
 refine wops_cons (o_boxS (cs := r.cs) rfl rfl hmv r0 fun H1 n1 k1 b1 => ?_)
 have p0 : At H1 (.ptr H.next 0) (iv r.s) := b1.at rfl
 have p1 : At H1 (.ptr H.next 1) (iv r.o) := b1.at rfl
 have p2 : At H1 (.ptr H.next 2) (iv r.u) := b1.at rfl
 have p3 : At H1 (.ptr H.next 3) (iv r.f) := b1.at rfl
 have p4 : At H1 (.ptr H.next 4) (iv r.t) := b1.at rfl
 have hk := hk H1 k1 n1
 unfold ruE at hk
 repeat (first | apply qN | refine qM rfl rfl ?_ | refine zqa rfl rfl rfl ?_ | refine zq6 rfl rfl ‹_› ?_ | apply qR | apply qS)
 refine wops_cons (wop_callF rfl rfl rfl (fn := Tryz.f67) (by rfl) ?_)
 refine cOut hq H1 r.s 2 8 _ ⟨Nat.le_refl _, ?_⟩
 cases h1 : inB r.s 2 8 with
 | false =>
   rw [show rg r.s 2 8 = 3 by unfold rg; rw [h1]; rfl, fnz_ne (by decide)] at hk
   repeat (first | apply qN | refine zq1 rfl rfl ?_ | refine qM rfl rfl ?_ | refine zq7 rfl rfl rfl ?_ | refine qT rfl ?_ | apply qR | apply qS)
   refine wp_ret ?_
   exact ⟨_, _, rfl, hk⟩
 | true =>
 rw [fnz_0 (show rg r.s 2 8 = 0 by unfold rg; rw [h1]; rfl)] at hk
 repeat (first | refine qM rfl rfl ?_ | refine zqa rfl rfl rfl ?_ | refine zq6 rfl rfl ‹_› ?_)
 refine wops_cons (wop_bin (op := .sub) (v := .int .i64 (w64 (r.s - 1))) rfl rfl rfl rfl rfl ?_)
 refine wops_cons (wop_callF rfl rfl rfl (fn := Tryz.f67) (by rfl) ?_)
 refine cOut hq H1 r.o 0 (w64 (r.s - 1)) _ ⟨Nat.le_refl _, ?_⟩
 cases h2 : inB r.o 0 (w64 (r.s - 1)) with
 | false =>
   rw [show rg r.o 0 (w64 (r.s - 1)) = 3 by unfold rg; rw [h2]; rfl, fnz_ne (by decide)] at hk
   repeat (first | apply qN | refine zq1 rfl rfl ?_ | refine qM rfl rfl ?_ | refine zq7 rfl rfl rfl ?_ | refine qT rfl ?_ | apply qR | apply qS)
   refine wp_ret ?_
   exact ⟨_, _, rfl, hk⟩
 | true =>
 rw [fnz_0 (show rg r.o 0 (w64 (r.s - 1)) = 0 by unfold rg; rw [h2]; rfl)] at hk
 repeat (first | refine qM rfl rfl ?_ | refine zqa rfl rfl rfl ?_ | refine zq6 rfl rfl ‹_› ?_ | refine zq7 rfl rfl rfl ?_)
 refine wops_cons (wop_bin (op := .sub) (v := .int .i64 (w64 (r.s - 1))) rfl rfl rfl rfl rfl ?_)
 refine wops_cons (wop_callF rfl rfl rfl (fn := Tryz.f67) (by rfl) ?_)
 refine cOut hq H1 r.u 1 (w64 (r.s - 1)) _ ⟨Nat.le_refl _, ?_⟩
 cases h3 : inB r.u 1 (w64 (r.s - 1)) with
 | false =>
   rw [show rg r.u 1 (w64 (r.s - 1)) = 3 by unfold rg; rw [h3]; rfl, fnz_ne (by decide)] at hk
   repeat (first | apply qN | refine zq1 rfl rfl ?_ | refine qM rfl rfl ?_ | refine zq7 rfl rfl rfl ?_ | refine qT rfl ?_ | apply qR | apply qS)
   refine wp_ret ?_
   exact ⟨_, _, rfl, hk⟩
 | true =>
 rw [fnz_0 (show rg r.u 1 (w64 (r.s - 1)) = 0 by unfold rg; rw [h3]; rfl)] at hk
 repeat (first | refine qM rfl rfl ?_ | refine zqa rfl rfl rfl ?_ | refine zq6 rfl rfl ‹_› ?_ | refine zq7 rfl rfl rfl ?_)
 refine wops_cons (wop_callF rfl rfl rfl (fn := Tryz.f67) (by rfl) ?_)
 refine cOut hq H1 r.f 1 20 _ ⟨Nat.le_refl _, ?_⟩
 cases h4 : inB r.f 1 20 with
 | false =>
   rw [show rg r.f 1 20 = 3 by unfold rg; rw [h4]; rfl, fnz_ne (by decide)] at hk
   repeat (first | apply qN | refine zq1 rfl rfl ?_ | refine qM rfl rfl ?_ | refine zq7 rfl rfl rfl ?_ | refine qT rfl ?_ | apply qR | apply qS)
   refine wp_ret ?_
   exact ⟨_, _, rfl, hk⟩
 | true =>
 rw [fnz_0 (show rg r.f 1 20 = 0 by unfold rg; rw [h4]; rfl)] at hk
 repeat (first | refine qM rfl rfl ?_ | refine zqa rfl rfl rfl ?_ | refine zq6 rfl rfl ‹_› ?_ | refine zq7 rfl rfl rfl ?_)
 refine wops_cons (wop_callF rfl rfl rfl (fn := Tryz.f67) (by rfl) ?_)
 refine cOut hq H1 r.t 0 20 _ ⟨Nat.le_refl _, ?_⟩
 cases h5 : inB r.t 0 20 with
 | false =>
   rw [show rg r.t 0 20 = 3 by unfold rg; rw [h5]; rfl, fnz_ne (by decide)] at hk
   repeat (first | apply qN | refine qM rfl rfl ?_ | refine zq7 rfl rfl rfl ?_ | refine qT rfl ?_ | apply qR | apply qS)
   refine wp_ret ?_
   exact ⟨_, _, rfl, hk⟩
 | true =>
 rw [show rg r.t 0 20 = 0 by unfold rg; rw [h5]; rfl] at hk
 repeat (first | apply qN | refine qM rfl rfl ?_ | refine zq7 rfl rfl rfl ?_ | refine qF rfl ?_ | apply qR | apply qS | apply qK)
 refine wp_ret ?_
 exact ⟨_, _, rfl, hk⟩
theorem c73 (H : AH) (r : Ru) (mv : AV) (hmv : mv.cells = r.cs) (hr : H.next + 20 < 2 ^ 59) (K : AV → AH → Prop) (hk : ∀ H', Keeps H H' → H'.next = H.next + 1 → K (iv (w64 (r.f + r.t))) H') : Ca (ENV O) 73 [mv] H K := by
 refine ca_intro (hq _ _ _ rfl) (fn := Tryz.f73) (by rfl) rfl ?_
 have r0 : H.next < 2 ^ 59 := by omega
 repeat (first | apply qR | apply qS)
 refine wops_cons (o_boxS (cs := r.cs) rfl rfl hmv r0 fun H1 n1 k1 b1 => ?_)
 have p3 : At H1 (.ptr H.next 3) (iv r.f) := b1.at rfl
 have p4 : At H1 (.ptr H.next 4) (iv r.t) := b1.at rfl
 repeat (first | apply qN | refine qM rfl rfl ?_ | refine zqa rfl rfl rfl ?_ | refine zq6 rfl rfl ‹_› ?_ | apply qR | apply qS)
 refine wops_cons (wop_bin (op := .add) (v := .int .i64 (w64 (r.f + r.t))) rfl rfl rfl rfl rfl ?_)
 repeat (first | apply qN | refine qM rfl rfl ?_)
 refine wp_ret ?_
 exact ⟨_, _, rfl, hk H1 k1 n1⟩
theorem c72 (H : AH) (rb : Nat) (r : Ru) (z : Int) (hb : Bk H rb 23 r.cs) (hr : H.next + 30 < 2 ^ 59) (K : AV → AH → Prop) (hk : ∀ H', Keeps H H' → H'.next ≤ H.next + 4 → K (iv (rg z 0 (w64 (r.f + r.t)))) H') : Ca (ENV O) 72 [iv z, .ptr rb 0] H K := by
 refine ca_intro (hq _ _ _ rfl) (fn := Tryz.f72) (by rfl) rfl ?_
 have hb' : Bk H rb 23 [iv r.s, iv r.o, iv r.u, iv r.f, iv r.t] := hb
 repeat (first | apply qN | refine qM rfl rfl ?_ | refine zqb rfl rfl rfl ‹_› ?_ | apply qR | apply qS)
 refine wops_cons (wop_callF rfl rfl rfl (fn := Tryz.f73) (by rfl) ?_)
 refine c73 hq H r _ rfl (by omega) _ fun H1 k1 n1 => ⟨k1.nx, ?_⟩
 refine wops_cons (wop_callF rfl rfl rfl (fn := Tryz.f69) (by rfl) ?_)
 refine cRange hq H1 z 0 (w64 (r.f + r.t)) _ ⟨Nat.le_refl _, ?_⟩
 repeat (first | apply qN | refine qM rfl rfl ?_)
 refine wp_ret ?_
 exact ⟨_, _, rfl, hk H1 k1 (by omega)⟩
theorem c74 (H : AH) (rb : Nat) (r : Ru) (z : Int) (hb : Bk H rb 23 r.cs) (K : AV → AH → Prop) (hk : ∀ H', Keeps H H' → H'.next ≤ H.next + 4 → K (iv (rg z 0 (w64 (r.s - 1)))) H') : Ca (ENV O) 74 [iv z, .ptr rb 0] H K := by
 refine ca_intro (hq _ _ _ rfl) (fn := Tryz.f74) (by rfl) rfl ?_
 have p0 : At H (.ptr rb 0) (iv r.s) := hb.at rfl
 repeat (first | apply qN | refine qM rfl rfl ?_ | refine zqa rfl rfl rfl ?_ | refine zq6 rfl rfl ‹_› ?_ | apply qR | apply qS)
 refine wops_cons (wop_bin (op := .sub) (v := .int .i64 (w64 (r.s - 1))) rfl rfl rfl rfl rfl ?_)
 refine wops_cons (wop_callF rfl rfl rfl (fn := Tryz.f69) (by rfl) ?_)
 refine cRange hq H z 0 (w64 (r.s - 1)) _ ⟨Nat.le_refl _, ?_⟩
 repeat (first | apply qN | refine qM rfl rfl ?_)
 refine wp_ret ?_
 exact ⟨_, _, rfl, hk H (Keeps.refl H) (by omega)⟩
theorem c71 (H : AH) (y : AV) (l : List Int) (g : FuncId) (fn : Func) (cap : List AV) (e : Int → Int) (hF : (ENV O).F.get g = some fn) (hy : Sl H y (ivs l)) (hoy : Old H y) (hl : l.length ≤ 100000)
   (hc : ∀ H' z (K : AV → AH → Prop), Keeps H H' → H'.next ≤ H.next + 4 * l.length → (∀ H'', Keeps H' H'' → H''.next ≤ H'.next + 4 → K (iv (e z)) H'') → Ca (ENV O) g ([iv z] ++ cap) H' K) (K : AV → AH → Prop)
   (hk : ∀ H', Keeps H H' → H'.next ≤ H.next + 4 * l.length → K (iv (eachE e l)) H') : Ca (ENV O) 71 [y, .fn (.func g) [] cap] H K := by
 refine ca_intro (hq _ _ _ rfl) (fn := Tryz.f71) (by rfl) rfl ?_
 repeat (first | apply qN | refine qM rfl rfl ?_ | refine zq5 rfl rfl rfl rfl rfl ‹_› ?_ | apply qR | apply qS | apply qB)
 refine wp_loop (fun q T M H' => ∃ (i : Nat) (Y : List AV), q = l.length - i ∧ i ≤ l.length ∧ Keeps H H' ∧ H'.next ≤ H.next + 4 * i ∧ eachE e l = eachE e (l.drop i) ∧ M = [] ∧ T = (lget Y 0 :: .fn (.func g) [] cap :: lget Y 1 :: lget Y 2 :: lget Y 3 :: lget Y 4 :: lget Y 5 :: lget Y 6 :: y :: iv (l.length : Nat) :: iv (i : Nat) :: lget Y 7 :: lget Y 8 :: lget Y 9 :: lget Y 10 :: lget Y 11 :: lget Y 12 :: lget Y 13 :: lget Y 14 :: lget Y 15 :: lget Y 16 :: [])) l.length
   ⟨0, [_,_,_,_,_,_,_,_,_,_,_,_,_,_,_,_,_], rfl, Nat.zero_le _, Keeps.refl H, Nat.le_refl _, rfl, rfl, rfl⟩ ?_
 rintro q T M H1 ⟨i, Y, hq1, hi, k1, n1, hst, rfl, rfl⟩
 have hy1 := hy.keep hoy k1
 repeat (first | apply qR | apply qS)
 refine wops_cons (wop_cmp rfl rfl rfl rfl rfl (fun h => ?_) (fun h => ?_))
 rotate_left
 · have h : ¬ ((i : Int) < (l.length : Nat)) := of_decide_eq_false h
   have e : i = l.length := by omega
   subst e
   rw [List.drop_length] at hst
   have hk := hk H1 k1 n1
   rw [hst] at hk
   repeat (first | apply qN | refine qM rfl rfl ?_ | refine qF rfl ?_ | apply qR | apply qS | apply qE)
   refine wp_ret ?_
   exact ⟨_, _, rfl, hk⟩
 have hi' : i < l.length := by have h : (i : Int) < (l.length : Nat) := of_decide_eq_true h; omega
 clear h
 obtain ⟨z, hz⟩ := l_some hi'
 rw [drop_cons hz, eachE] at hst
 repeat (first | apply qN | refine qT rfl ?_ | apply qR | apply qS | apply qK | apply qB)
 refine wops_cons (o_indexI rfl rfl hy1 rfl hz fun pp hpp => ?_)
 repeat (first | apply qN | refine qM rfl rfl ?_ | refine zq6 rfl rfl ‹_› ?_ | apply qR | apply qS)
 refine wops_cons (wop_callFn rfl rfl rfl rfl hF ?_)
 refine hc H1 z _ k1 (by omega) fun H2 k2 n2 => ⟨k2.nx, ?_⟩
 by_cases hw0 : e z = 0
 · rw [if_pos hw0] at hst
   rw [hw0]
   repeat (first | apply qN | refine qM rfl rfl ?_ | apply qR | apply qS)
   refine wops_cons (wop_bin (op := .neq) (v := .bool false) rfl rfl rfl rfl rfl ?_)
   repeat (first | apply qN | refine qM rfl rfl ?_ | refine zq4 rfl rfl rfl rfl (inc (by omega)) ?_ | refine qF rfl ?_ | apply qR | apply qK)
   exact ⟨l.length - (i + 1), by omega, i + 1, [_,_,_,_,_,_,_,_,_,_,_,_,_,_,_,_,_], rfl, by omega, k1.trans k2, by omega, hst, rfl, rfl⟩
 · rw [if_neg hw0] at hst
   have hk := hk H2 (k1.trans k2) (by omega)
   rw [hst] at hk
   generalize e z = w at hw0 hk ⊢
   repeat (first | apply qN | refine qM rfl rfl ?_ | apply qR | apply qS)
   refine wops_cons (wop_bin (op := .neq) (v := .bool true) rfl rfl rfl rfl (by simp [binI, hw0]) ?_)
   repeat (first | apply qN | refine qM rfl rfl ?_ | refine qT rfl ?_ | apply qR | apply qS)
   refine wp_ret ?_
   exact ⟨_, _, rfl, hk⟩
end Go.Ev
namespace Go.Ev
open Go.Proofs
section
variable {E : Env} {ops : Array Oper} {H0 : AH}
theorem WK.mono {K K' : List AV → AH → Prop} (hq : ∀ T H, K T H → K' T H) : ∀ {π : List Stp} {T : List AV} {H : AH}, WK E ops H0 π T H K → WK E ops H0 π T H K'
 | [], T, H, h => hq T H h
 | .mob i :: π, T, H, ⟨o, r, h1, h2, h3⟩ => ⟨o, r, h1, h2, WK.mono hq h3⟩
 | .loud i :: π, T, H, ⟨o, h1, n, r, H1, h2, h5, h3⟩ => ⟨o, h1, n, r, H1, h2, h5, WK.mono hq h3⟩
 | .alc i :: π, T, H, ⟨o, h1, .inl ⟨hw, h4⟩⟩ => ⟨o, h1, .inl ⟨hw, WK.mono hq h4⟩⟩
 | .alc i :: π, T, H, ⟨o, h1, .inr ⟨hw, k, cs, t, H1, h2, h3, h4⟩⟩ => ⟨o, h1, .inr ⟨hw, k, cs, t, H1, h2, h3, WK.mono hq h4⟩⟩
theorem wk_split : ∀ (n : Nat) {π : List Stp} {T : List AV} {H : AH} {K : List AV → AH → Prop}, WK E ops H0 (π.take n) T H (fun T' H' => WK E ops H0 (π.drop n) T' H' K) → WK E ops H0 π T H K
 | 0, π, T, H, K, h => h
 | n + 1, [], T, H, K, h => h
 | n + 1, .mob i :: π, T, H, K, ⟨o, r, h1, h2, h3⟩ => ⟨o, r, h1, h2, wk_split n h3⟩
 | n + 1, .loud i :: π, T, H, K, ⟨o, h1, m, r, H1, h2, h5, h3⟩ => ⟨o, h1, m, r, H1, h2, h5, wk_split n h3⟩
 | n + 1, .alc i :: π, T, H, K, ⟨o, h1, .inl ⟨hw, h4⟩⟩ => ⟨o, h1, .inl ⟨hw, wk_split n h4⟩⟩
 | n + 1, .alc i :: π, T, H, K, ⟨o, h1, .inr ⟨hw, k, cs, t, H1, h2, h3, h4⟩⟩ => ⟨o, h1, .inr ⟨hw, k, cs, t, H1, h2, h3, wk_split n h4⟩⟩
end
section
variable {O : CallF} {T : List AV} {H H0 : AH} {ops : Array Oper} {o : Oper} {i : Nat} {π : List Stp} {K : AV → AH → Prop} {B : Nat → Prop}
theorem o_min {c : Call} {x y : Operand} {a b : Int} (ho : o.op = .call c) (hg : wantedA o ops T = true) (hc : c.callee = .builtin .min) (hargs : c.args.toList = [x, y]) (hx : av T x = iv a) (hy : av T y = iv b) (hk : K (iv (if b < a then b else a)) H) : WOp (ENV O) ops o T H K := by
 refine wop_val (by rw [ho]; simp only [still, hc]) hg (r := iv (if b < a then b else a)) ?_ (Nat.le_refl _) hk
 unfold opEval; rw [ho]
 simp only [ENV, oCall, hc, oBuiltin]
 unfold plainOp
 have h2 : runPure Tryz.prog (execOp (fun x => ((av T x).plain).getD undef) o) = some (.value (.int .i64 (if b < a then b else a))) := by
   obtain ⟨dst, op', type, pos, after, guard⟩ := o
   simp only at ho
   subst ho
   obtain ⟨callee, args, ats⟩ := c
   simp only at hc hargs
   subst hc
   have ha : args = #[x, y] := by apply Array.ext'; simpa using hargs
   subst ha
   simp only [execOp, Go.resolve, runPure_bind, runPure_pure, Option.bind_some, Go.invoke, Go.builtin, Builtin.min_, Builtin.min2, List.map_toArray, List.map_cons, List.map_nil, hx, hy, AV.plain, Option.getD_some, List.foldlM_cons, List.foldlM_nil]
 rw [h2, ho]
 obtain ⟨callee, args, ats⟩ := c
 simp only at hc hargs
 subst hc
 have ha : args = #[x, y] := by apply Array.ext'; simpa using hargs
 subst ha
 simp [Op.operands, Call.operands, hx, hy, AV.plain]
end
def mxF : Int → List Int → Int
 | a, [] => a
 | a, b :: l => mxF (if b > a then b else a) l
def mnF : Int → List Int → Int
 | a, [] => a
 | a, b :: l => mnF (if b < a then b else a) l
theorem mxF_p : ∀ (l : List Int) (a : Int), (a ≤ mxF a l ∧ ∀ z ∈ l, z ≤ mxF a l) ∧ (mxF a l = a ∨ mxF a l ∈ l)
 | [], a => ⟨⟨Int.le_refl _, fun z h => by simp at h⟩, .inl rfl⟩
 | b :: l, a => by
   obtain ⟨⟨h1, h2⟩, h3⟩ := mxF_p l (if b > a then b else a)
   rw [mxF]
   generalize mxF (if b > a then b else a) l = m at h1 h2 h3 ⊢
   refine ⟨⟨by split at h1 <;> omega, fun z hz => ?_⟩, ?_⟩
   · rcases List.mem_cons.1 hz with rfl | hz
     · split at h1 <;> omega
     · exact h2 z hz
   · rcases h3 with h3 | h3
     · split at h3
       · exact .inr (by rw [h3]; simp)
       · exact .inl h3
     · exact .inr (List.mem_cons_of_mem _ h3)
theorem mnF_p : ∀ (l : List Int) (a : Int), (mnF a l ≤ a ∧ ∀ z ∈ l, mnF a l ≤ z) ∧ (mnF a l = a ∨ mnF a l ∈ l)
 | [], a => ⟨⟨Int.le_refl _, fun z h => by simp at h⟩, .inl rfl⟩
 | b :: l, a => by
   obtain ⟨⟨h1, h2⟩, h3⟩ := mnF_p l (if b < a then b else a)
   rw [mnF]
   generalize mnF (if b < a then b else a) l = m at h1 h2 h3 ⊢
   refine ⟨⟨by split at h1 <;> omega, fun z hz => ?_⟩, ?_⟩
   · rcases List.mem_cons.1 hz with rfl | hz
     · split at h1 <;> omega
     · exact h2 z hz
   · rcases h3 with h3 | h3
     · split at h3
       · exact .inr (by rw [h3]; simp)
       · exact .inl h3
     · exact .inr (List.mem_cons_of_mem _ h3)
def mxL (l : List Int) : Int := mxF (l.headD 0) l.tail
def mnL (l : List Int) : Int := mnF (l.headD 0) l.tail
theorem even_iff {l : List Int} (h : l ≠ []) : mxL l - mnL l ≤ 1 ↔ ∀ x ∈ l, ∀ y ∈ l, ¬ x > y + 1 := by
 cases l with
 | nil => exact absurd rfl h
 | cons a l =>
   show mxF a l - mnF a l ≤ 1 ↔ _
   obtain ⟨⟨h1, h2⟩, h3⟩ := mxF_p l a
   obtain ⟨⟨g1, g2⟩, g3⟩ := mnF_p l a
   generalize mxF a l = M at h1 h2 h3 ⊢
   generalize mnF a l = m at g1 g2 g3 ⊢
   have hM : M ∈ a :: l := by rcases h3 with e | e <;> simp [e]
   have hm : m ∈ a :: l := by rcases g3 with e | e <;> simp [e]
   have h4 : ∀ x ∈ a :: l, m ≤ x ∧ x ≤ M := fun x hx => by
     rcases List.mem_cons.1 hx with rfl | hx
     · exact ⟨g1, h1⟩
     · exact ⟨g2 x hx, h2 x hx⟩
   constructor
   · intro e x hx y hy
     have := h4 x hx
     have := h4 y hy
     omega
   · intro e
     have := e M hM m hm
     omega
theorem mnL_min {l : List Int} (h : l ≠ []) {z : Int} (hz : z ∈ l) : z = mnL l ↔ ∀ x ∈ l, ¬ x < z := by
 cases l with
 | nil => exact absurd rfl h
 | cons a l =>
   show z = mnF a l ↔ _
   obtain ⟨⟨g1, g2⟩, g3⟩ := mnF_p l a
   generalize mnF a l = m at g1 g2 g3 ⊢
   have hm : m ∈ a :: l := by rcases g3 with e | e <;> simp [e]
   have h4 : ∀ x ∈ a :: l, m ≤ x := fun x hx => by
     rcases List.mem_cons.1 hx with rfl | hx
     · exact g1
     · exact g2 x hx
   constructor
   · rintro rfl x hx
     have := h4 x hx
     omega
   · intro e
     have h5 := e m hm
     have h6 := h4 z hz
     omega
def prs (tk gp : List Int) : List (Int × Int) := tk.zip gp
theorem prs_get {tk gp : List Int} {i : Nat} {a b : Int} (h1 : tk[i]? = some a) (h2 : gp[i]? = some b) : (prs tk gp)[i]? = some (a, b) := by
 unfold prs
 exact List.getElem?_zip_eq_some.2 ⟨h1, h2⟩
variable {O : CallF} (hq : Quiet O)
include hq
theorem c75 (H : AH) (y : AV) (a : Int) (l : List Int) (hy : Sl H y (ivs (a :: l))) (hl : l.length ≤ 100000) (K : AV → AH → Prop) (hk : K (iv (mxL (a :: l))) H) : Ca (ENV O) 75 [y] H K := by
 refine ca_intro (hq _ _ _ rfl) (fn := Tryz.f75) (by rfl) rfl ?_
 have hcl : (a :: l).length ≤ 100001 := by simp; omega
 repeat (first | apply qN | refine qM rfl rfl ?_ | refine zq5 rfl rfl rfl rfl rfl ‹_› ?_ | apply qR | apply qS)
 refine wops_cons (wop_bin (op := .lss) (v := .bool false) rfl rfl rfl rfl (by show some (Value.bool (decide (((a :: l).length : Int) < 1))) = _; rw [decide_eq_false (by simp; omega)]) ?_)
 repeat (first | apply qN | refine qM rfl rfl ?_ | refine qF rfl ?_ | apply qR | apply qS | apply qK)
 refine wops_cons (o_indexI (j := 0) (z := a) rfl rfl hy rfl rfl fun p hp => ?_)
 repeat (first | apply qN | refine qM rfl rfl ?_ | refine zq6 rfl rfl ‹_› ?_ | apply qR | apply qS | apply qB)
 refine wp_loop (fun q T M H' => ∃ (i : Nat) (m : Int) (Y : List AV), q = (a :: l).length - i ∧ i ≤ (a :: l).length ∧ H' = H ∧ mxL (a :: l) = mxF m ((a :: l).drop i) ∧ M = [] ∧ T = (y :: lget Y 0 :: lget Y 1 :: iv m :: iv (i : Nat) :: lget Y 2 :: lget Y 3 :: lget Y 4 :: lget Y 5 :: lget Y 6 :: lget Y 7 :: lget Y 8 :: lget Y 9 :: lget Y 10 :: lget Y 11 :: lget Y 12 :: lget Y 13 :: lget Y 14 :: lget Y 15 :: lget Y 16 :: lget Y 17 :: lget Y 18 :: lget Y 19 :: lget Y 20 :: lget Y 21 :: [])) l.length
   ⟨1, a, [_,_,_,_,_,_,_,_,_,_,_,_,_,_,_,_,_,_,_,_,_,_], by simp, by simp, rfl, rfl, rfl, rfl⟩ ?_
 rintro q T M H1 ⟨i, m, Y, hq1, hi, rfl, hm, rfl, rfl⟩
 repeat (first | refine qM rfl rfl ?_ | refine zq5 rfl rfl rfl rfl rfl ‹_› ?_ | apply qR | apply qS)
 refine wops_cons (wop_cmp rfl rfl rfl rfl rfl (fun h => ?_) (fun h => ?_))
 rotate_left
 · have h : ¬ ((i : Int) < ((a :: l).length : Nat)) := of_decide_eq_false h
   have e : i = (a :: l).length := by omega
   subst e
   rw [List.drop_length] at hm
   rw [hm] at hk
   repeat (first | apply qN | refine qM rfl rfl ?_ | refine qF rfl ?_ | apply qR | apply qS | apply qE)
   refine wp_ret ?_
   exact ⟨_, _, rfl, hk⟩
 have hi' : i < (a :: l).length := by have h : (i : Int) < ((a :: l).length : Nat) := of_decide_eq_true h; omega
 clear h
 obtain ⟨z, hz⟩ := l_some hi'
 rw [drop_cons hz, mxF] at hm
 repeat (first | apply qN | refine qM rfl rfl ?_ | refine qT rfl ?_ | apply qR | apply qS | apply qK | apply qB)
 refine wops_cons (o_indexI rfl rfl hy rfl hz fun p hp => ?_)
 repeat (first | refine zq6 rfl rfl ‹_› ?_)
 refine wops_cons (o_max rfl rfl rfl rfl rfl rfl ?_)
 repeat (first | apply qN | refine qM rfl rfl ?_ | refine zq4 rfl rfl rfl rfl (inc (by omega)) ?_ | apply qR)
 exact ⟨(a :: l).length - (i + 1), by omega, i + 1, _, [_,_,_,_,_,_,_,_,_,_,_,_,_,_,_,_,_,_,_,_,_,_], rfl, by omega, rfl, hm, rfl, rfl⟩
theorem c76 (H : AH) (y : AV) (a : Int) (l : List Int) (hy : Sl H y (ivs (a :: l))) (hl : l.length ≤ 100000) (K : AV → AH → Prop) (hk : K (iv (mnL (a :: l))) H) : Ca (ENV O) 76 [y] H K := by
 refine ca_intro (hq _ _ _ rfl) (fn := Tryz.f76) (by rfl) rfl ?_
 have hcl : (a :: l).length ≤ 100001 := by simp; omega
 repeat (first | apply qN | refine qM rfl rfl ?_ | refine zq5 rfl rfl rfl rfl rfl ‹_› ?_ | apply qR | apply qS)
 refine wops_cons (wop_bin (op := .lss) (v := .bool false) rfl rfl rfl rfl (by show some (Value.bool (decide (((a :: l).length : Int) < 1))) = _; rw [decide_eq_false (by simp; omega)]) ?_)
 repeat (first | apply qN | refine qM rfl rfl ?_ | refine qF rfl ?_ | apply qR | apply qS | apply qK)
 refine wops_cons (o_indexI (j := 0) (z := a) rfl rfl hy rfl rfl fun p hp => ?_)
 repeat (first | apply qN | refine qM rfl rfl ?_ | refine zq6 rfl rfl ‹_› ?_ | apply qR | apply qS | apply qB)
 refine wp_loop (fun q T M H' => ∃ (i : Nat) (m : Int) (Y : List AV), q = (a :: l).length - i ∧ i ≤ (a :: l).length ∧ H' = H ∧ mnL (a :: l) = mnF m ((a :: l).drop i) ∧ M = [] ∧ T = (y :: lget Y 0 :: lget Y 1 :: iv m :: iv (i : Nat) :: lget Y 2 :: lget Y 3 :: lget Y 4 :: lget Y 5 :: lget Y 6 :: lget Y 7 :: lget Y 8 :: lget Y 9 :: lget Y 10 :: lget Y 11 :: lget Y 12 :: lget Y 13 :: lget Y 14 :: lget Y 15 :: lget Y 16 :: lget Y 17 :: lget Y 18 :: lget Y 19 :: lget Y 20 :: lget Y 21 :: [])) l.length
   ⟨1, a, [_,_,_,_,_,_,_,_,_,_,_,_,_,_,_,_,_,_,_,_,_,_], by simp, by simp, rfl, rfl, rfl, rfl⟩ ?_
 rintro q T M H1 ⟨i, m, Y, hq1, hi, rfl, hm, rfl, rfl⟩
 repeat (first | refine qM rfl rfl ?_ | refine zq5 rfl rfl rfl rfl rfl ‹_› ?_ | apply qR | apply qS)
 refine wops_cons (wop_cmp rfl rfl rfl rfl rfl (fun h => ?_) (fun h => ?_))
 rotate_left
 · have h : ¬ ((i : Int) < ((a :: l).length : Nat)) := of_decide_eq_false h
   have e : i = (a :: l).length := by omega
   subst e
   rw [List.drop_length] at hm
   rw [hm] at hk
   repeat (first | apply qN | refine qM rfl rfl ?_ | refine qF rfl ?_ | apply qR | apply qS | apply qE)
   refine wp_ret ?_
   exact ⟨_, _, rfl, hk⟩
 have hi' : i < (a :: l).length := by have h : (i : Int) < ((a :: l).length : Nat) := of_decide_eq_true h; omega
 clear h
 obtain ⟨z, hz⟩ := l_some hi'
 rw [drop_cons hz, mnF] at hm
 repeat (first | apply qN | refine qM rfl rfl ?_ | refine qT rfl ?_ | apply qR | apply qS | apply qK | apply qB)
 refine wops_cons (o_indexI rfl rfl hy rfl hz fun p hp => ?_)
 repeat (first | refine zq6 rfl rfl ‹_› ?_)
 refine wops_cons (o_min rfl rfl rfl rfl rfl rfl ?_)
 repeat (first | apply qN | refine qM rfl rfl ?_ | refine zq4 rfl rfl rfl rfl (inc (by omega)) ?_ | apply qR)
 exact ⟨(a :: l).length - (i + 1), by omega, i + 1, _, [_,_,_,_,_,_,_,_,_,_,_,_,_,_,_,_,_,_,_,_,_,_], rfl, by omega, rfl, hm, rfl, rfl⟩
theorem c77 (H : AH) (x y : AV) (tk gp : List Int) (hx : Ky H x tk) (hy : Ky H y gp) (hn : gp.length = tk.length) (hl : tk.length ≤ 100000) (hr : H.next + 20 < 2 ^ 59) (K : AV → AH → Prop)
   (hk : ∀ H' es cl, Keeps H H' → H'.next = H.next + 2 → H'.get (H.next + 1) = some (.map es cl) → Sp es (spt [] (prs tk gp)) → K (.mp (H.next + 1)) H') : Ca (ENV O) 77 [.agg [x, y]] H K := by
 refine ca_intro (hq _ _ _ rfl) (fn := Tryz.f77) (by rfl) rfl ?_
 have r0 : H.next < 2 ^ 59 := by omega
 repeat (first | apply qR | apply qS)
 refine wops_cons (o_boxS (cs := [x, y]) rfl rfl rfl r0 fun H1 n1 k1 b1 => ?_)
 have r1 : H1.next < 2 ^ 59 := by omega
 repeat (first | apply qN | refine qM rfl rfl ?_ | apply qR | apply qS)
 refine wops_cons (wop_makeMap rfl rfl r1 ?_)
 refine WOps.mem (fun H2 => Keeps H H2 ∧ H2.next = H.next + 2 ∧ H2.get H1.next = some (.map [] 0) ∧ Bk H2 H.next 26 [x, y]) ⟨k1.add _ r1, by show H1.next + 1 = _; omega, get_add_eq r1, b1.keep (by omega) ((Keeps.refl H1).add _ r1)⟩ ?_
 rintro H2 ⟨k2, n2, g2, b2⟩
 have p0 : At H2 (.ptr H.next 0) x := b2.at rfl
 have hx2 := (hx.keep k2).sl
 show WOps _ _ _ _ _ _
 rw [show H1.next = H.next + 1 from n1] at g2 ⊢
 repeat (first | apply qN | refine qM rfl rfl ?_ | refine zqa rfl rfl rfl ?_ | refine zq5 rfl rfl rfl rfl rfl ‹_› ?_ | refine zq6 rfl rfl ‹_› ?_ | apply qR | apply qS | apply qB)
 refine wp_loop (fun q T M H' => ∃ (i : Nat) (es : List MapEntry) (cl : Nat) (L : List (Int × Int)) (Y : List AV), q = tk.length - i ∧ i ≤ tk.length ∧ Keeps H H' ∧ H'.next = H.next + 2 ∧ Bk H' H.next 26 [x, y] ∧ H'.get (H.next + 1) = some (.map es cl) ∧ Sp es L ∧ spt [] (prs tk gp) = spt L ((prs tk gp).drop i) ∧ M = [] ∧ T = (lget Y 0 :: .ptr H.next 0 :: lget Y 1 :: .mp (H.next + 1) :: lget Y 2 :: lget Y 3 :: lget Y 4 :: lget Y 5 :: x :: iv (tk.length : Nat) :: iv (i : Nat) :: lget Y 6 :: lget Y 7 :: lget Y 8 :: lget Y 9 :: lget Y 10 :: lget Y 11 :: lget Y 12 :: lget Y 13 :: lget Y 14 :: lget Y 15 :: lget Y 16 :: lget Y 17 :: lget Y 18 :: lget Y 19 :: [])) tk.length
   ⟨0, [], 0, [], [_,_,_,_,_,_,_,_,_,_,_,_,_,_,_,_,_,_,_,_], rfl, Nat.zero_le _, k2, n2, b2, g2, Sp.nil, rfl, rfl, rfl⟩ ?_
 rintro q T M H3 ⟨i, es, cl, L, Y, hq3, hi, k3, n3, b3, g3, hS, hL, rfl, rfl⟩
 repeat (first | apply qR | apply qS)
 refine wops_cons (wop_cmp rfl rfl rfl rfl rfl (fun h => ?_) (fun h => ?_))
 rotate_left
 · have h : ¬ ((i : Int) < (tk.length : Nat)) := of_decide_eq_false h
   have e : i = tk.length := by omega
   subst e
   have hz : (prs tk gp).drop tk.length = [] := List.drop_eq_nil_of_le (by unfold prs; rw [List.length_zip]; omega)
   rw [hz] at hL
   rw [show spt L [] = L from rfl] at hL
   rw [← hL] at hS
   repeat (first | apply qN | refine qM rfl rfl ?_ | refine qF rfl ?_ | apply qR | apply qS | apply qE)
   refine wp_ret ?_
   exact ⟨_, _, rfl, hk H3 es cl k3 n3 g3 hS⟩
 have hi' : i < tk.length := by have h : (i : Int) < (tk.length : Nat) := of_decide_eq_true h; omega
 clear h
 obtain ⟨a, ha⟩ := l_some hi'
 obtain ⟨b, hb⟩ := l_some (show i < gp.length by omega)
 rw [drop_consP (prs_get ha hb), spt] at hL
 have hx3 := (hx.keep k3).sl
 have hy3 := (hy.keep k3).sl
 have p1 : At H3 (.ptr H.next 1) y := b3.at rfl
 repeat (first | apply qN | refine qM rfl rfl ?_ | refine qT rfl ?_ | apply qR | apply qS | apply qK | apply qB)
 refine wops_cons (o_indexI rfl rfl hx3 rfl ha fun p hp => ?_)
 repeat (first | apply qN | refine qM rfl rfl ?_ | refine zqa rfl rfl rfl ?_ | refine zq6 rfl rfl ‹_› ?_ | apply qR)
 refine wops_cons (o_indexI rfl rfl hy3 rfl hb fun p2 hp2 => ?_)
 repeat (first | refine zq6 rfl rfl ‹_› ?_)
 refine wops_cons (o_buildP rfl rfl rfl rfl ?_)
 have rm : H.next + 1 < 2 ^ 59 := by omega
 refine wops_cons (o_putS (p := (a, b)) rfl rfl rfl rfl rfl g3 hS fun es' cl' hS' => ?_)
 refine WOps.mem (fun H4 => Keeps H H4 ∧ H4.next = H.next + 2 ∧ Bk H4 H.next 26 [x, y] ∧ H4.get (H.next + 1) = some (.map es' cl')) ⟨k3.set _ (by omega) rm, n3, ⟨b3.lt, by rw [get_set_ne rm (by omega)]; exact b3.g⟩, get_set_eq rm⟩ ?_
 rintro H4 ⟨k4, n4, b4, g4⟩
 repeat (first | apply qN | refine qM rfl rfl ?_ | refine zq4 rfl rfl rfl rfl (inc (by omega)) ?_ | apply qR)
 exact ⟨tk.length - (i + 1), by omega, i + 1, es', cl', _, [_,_,_,_,_,_,_,_,_,_,_,_,_,_,_,_,_,_,_,_], rfl, by omega, k4, n4, b4, g4, hS', hL, rfl, rfl⟩
end Go.Ev
