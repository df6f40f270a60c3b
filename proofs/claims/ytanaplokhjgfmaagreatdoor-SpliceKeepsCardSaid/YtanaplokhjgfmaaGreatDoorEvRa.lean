/- Part of an evaluator of calls that is proved sound, and of what it gives about this program. No condition of its own. -/
import Derived.Test.YtanaplokhjgfmaaGreatDoorEvHa
set_option linter.unusedVariables false
set_option linter.unusedSimpArgs false
set_option linter.unusedSectionVars false
set_option maxRecDepth 100000
set_option maxHeartbeats 4000000
namespace Go.Ev
open Go.Proofs
def inB (n lo hi : Int) : Bool := decide (lo ≤ n ∧ n ≤ hi)
def firstNZ : List Int → Int
 | [] => 0
 | z :: l => if z ≠ 0 then z else firstNZ l
theorem firstNZ_cons (z : Int) (l : List Int) : firstNZ (z :: l) = if z ≠ 0 then z else firstNZ l := rfl
theorem sl_new {H : AH} {cs : List AV} {e : TypeId} (hr : H.next < 2 ^ 59) (n : Nat) : Sl (H.add (.cells cs e 0)) (.slc H.next 0 cs.length n) cs :=
 ⟨rfl, hr, cs, e, 0, by rw [AH.get_add _ _ _ hr, if_pos rfl], fun j v h => by rw [Nat.zero_add]; exact h⟩
def CapOk (x : AV) : Prop := match x with | .v (.slice _ n c) => n ≤ c | .slc _ _ n c => n ≤ c | _ => True
section
variable {O : CallF} {T : List AV} {H : AH} {ops : Array Oper} {o : Oper} {K : AV → AH → Prop}
end
def Nw (H : AH) (r : AV) (l : List Int) : Prop := ∃ b, r = .slc b 0 l.length l.length ∧ b < H.next ∧ b < 2 ^ 59 ∧ H.get b = some (.cells (ivs l) 3 0)
theorem beqs_ivs : ∀ l : List Int, beqs (ivs l) (ivs l) = true
 | [] => rfl
 | x :: l => by
   show (AV.beq (iv x) (iv x) && beqs (ivs l) (ivs l)) = true
   rw [beqs_ivs l]
   simp [AV.beq, iv, vbeq]
theorem Nw.sl {H : AH} {r : AV} {l : List Int} (h : Nw H r l) : Sl H r (ivs l) := by
 obtain ⟨b, rfl, h1, h2, h3⟩ := h
 exact ⟨(ivs_length l).symm, h2, _, _, _, h3, fun j v hv => by rw [Nat.zero_add]; exact hv⟩
theorem Nw.old {H : AH} {r : AV} {l : List Int} (h : Nw H r l) : Old H r := by
 obtain ⟨b, rfl, h1, h2, h3⟩ := h
 intro c hc; cases hc; exact h1
theorem Nw.lk {H : AH} {r : AV} {l : List Int} (h : Nw H r l) : ∀ c, r.own = some c → Lk H c := by
 obtain ⟨b, rfl, h1, h2, h3⟩ := h
 intro c hc; cases hc
 refine ⟨h1, ?_⟩
 rw [h3]
 simp [sameBlk, beqs_ivs]
theorem Nw.cap {H : AH} {r : AV} {l : List Int} (h : Nw H r l) : CapOk r := by
 obtain ⟨b, rfl, h1, h2, h3⟩ := h
 exact Nat.le_refl _
theorem Nw.keep {H H' : AH} {r : AV} {l : List Int} (h : Nw H r l) (k : Keeps H H') : Nw H' r l := by
 obtain ⟨b, rfl, h1, h2, h3⟩ := h
 exact ⟨b, rfl, Nat.lt_of_lt_of_le h1 k.nx, h2, (k.get b h1).trans h3⟩
theorem ivs_rep (n : Nat) : List.replicate n (AV.v (.int .i64 0)) = ivs (List.replicate n 0) := by simp [ivs, iv]
theorem ivs_set (l : List Int) (i : Nat) (z : Int) : (ivs l).set i (iv z) = ivs (l.set i z) := by simp [ivs, List.map_set]
theorem fill_set {l : List Int} {n i : Nat} (hl : l.length = n) (hi : i < n) {z : Int} (hz : l[i]? = some z) : (l.take i ++ List.replicate (n - i) (0 : Int)).set i z = l.take (i + 1) ++ List.replicate (n - (i + 1)) 0 := by
 have h1 : (l.take i).length = i := by rw [List.length_take]; omega
 rw [List.set_append_right _ _ (by omega), h1, Nat.sub_self, List.take_add_one, hz]
 obtain ⟨k, hk⟩ : ∃ k, n - i = k + 1 := ⟨n - i - 1, by omega⟩
 rw [hk, List.replicate_succ, List.set_cons_zero, show n - (i + 1) = k by omega]
 simp
theorem WOps.H {E : Env} {ops : Array Oper} {l : List Oper} {T : List AV} {H H' : AH} {K : List AV → AH → Prop} (h : H = H') (hw : WOps E ops l T H' K) : WOps E ops l T H K := h ▸ hw
section
variable {O : CallF} {T : List AV} {H H0 : AH} {ops : Array Oper} {o : Oper} {K : AV → AH → Prop}
theorem o_storeA {t : TypeId} {n : Nat} {p x : Operand} {b off : Nat} {cs : List AV} {e : TypeId} {g : Nat} {vs : List AV} (ho : o.op = .store t p x) (hg : wantedA o ops T = true) (hs : runPure Tryz.prog (sizeOf t) = some n) (hp : av T p = .ptr b off) (hx : (av T x).cells = vs) (hn : vs.length = n) (h1 : vs.all AV.one = true) (hc : H.get b = some (.cells cs e g)) (hl : off + n ≤ cs.length)
   (hk : K (.v undef) (H.set b (some (.cells (wr cs off vs) e g)))) : WOp (ENV O) ops o T H K := by
 refine wop_val (by rw [ho]; rfl) hg (r := .v undef) (H' := H.set b (some (.cells (wr cs off vs) e g))) ?_ (Nat.le_refl _) hk
 unfold opEval; rw [ho]
 have e1 : Nat.beq (av T x).cells.length n = true := by rw [hx, hn]; exact Nat.beq_refl n
 have e2 : (Nat.ble (off + (av T x).cells.length) cs.length && (av T x).cells.all AV.one) = true := by rw [hx, hn, h1, Nat.ble_eq_true_of_le hl]; rfl
 simp only [ENV, storeOpA, hp, hs, e1, if_true, storeA, hc]
 rw [if_pos e2, hx]
 rfl
theorem o_allocA {t : TypeId} {z : Value} {zs : List AV} (ho : o.op = .alloc t) (hg : wantedA o ops T = true) (hz : runPure Tryz.prog (zeroValue t) = some z) (hc : z.cells.toList.map .v = zs) (hr : H.next < 2 ^ 59) (hk : K (.ptr H.next 0) (H.add (.cells zs t 0))) : WOp (ENV O) ops o T H K := by
 refine wop_val (by rw [ho]; rfl) hg (H' := H.add (.cells zs t 0)) (r := .ptr H.next 0) ?_ (Nat.le_succ _) hk
 unfold opEval; rw [ho]
 have hlt : Nat.blt H.next (2 ^ 59) = true := Nat.ble_eq_true_of_le hr
 simp only [ENV, allocA, hz, hc, newA, hlt, if_true, Option.map_some]
end
theorem WOps.mem {E : Env} {ops : Array Oper} {l : List Oper} {T : List AV} {H : AH} {K : List AV → AH → Prop} (P : AH → Prop) (h : P H) (hw : ∀ H', P H' → WOps E ops l T H' K) : WOps E ops l T H K := hw H h
theorem first_sl {H : AH} {x : Value} {l : List AV} (h : Sl H (.v x) l) : lenA (.v x) = some l.length ∧ firstA 1 l.length (.v x) H = some l := by
 cases x with
 | slice a n cap =>
   obtain ⟨hn, h⟩ := h
   subst hn
   refine ⟨rfl, ?_⟩
   rcases h with rfl | ⟨b, off, vs, rfl, hgl, hv⟩
   · cases a with
     | none => rfl
     | some a => rfl
   · cases l with
     | nil => rfl
     | cons z l =>
       have hle : off + (l.length + 1) ≤ vs.length := by
         obtain ⟨w, hw⟩ : ∃ w, (z :: l)[l.length]? = some w := ⟨_, List.getElem?_eq_getElem (by simp)⟩
         obtain ⟨u, hu, _⟩ := hv _ _ hw
         have := (List.getElem?_eq_some_iff.1 hu).1
         omega
       unfold firstA
       simp only [List.length_cons, Nat.mul_one, show Nat.beq (l.length + 1) 0 = false from rfl, hgl]
       rw [if_pos (Nat.ble_eq_true_of_le hle)]
       congr 1
       apply List.ext_getElem?
       intro j
       rw [List.getElem?_map, List.getElem?_take, List.getElem?_drop]
       rcases Nat.lt_or_ge j (l.length + 1) with hj | hj
       · rw [if_pos hj]
         obtain ⟨w, hw⟩ : ∃ w, (z :: l)[j]? = some w := ⟨_, List.getElem?_eq_getElem (by simpa using hj)⟩
         obtain ⟨u, hu, rfl⟩ := hv _ _ hw
         rw [hu, hw]; rfl
       · rw [if_neg (by omega), List.getElem?_eq_none (by simpa using hj)]; rfl
 | _ => exact h.elim
theorem wop_appendE {E : Env} {T : List AV} {H : AH} {ops : Array Oper} {o : Oper} {K : AV → AH → Prop} {c : Call} {t xt e e' e0 : TypeId} {s x : Operand} {i : TypeInfo} {z : Value} {new : List AV} {b n g : Nat} (ho : o.op = .call c) (hg : wantedA o ops T = true) (hc : c.callee = .builtin .append) (hargs : c.args.toList = [s, x]) (ht : c.argTypes[0]? = some t) (hxt : c.argTypes[1]? = some xt)
   (hu : runPure E.P (underlying t) = some (.slice e)) (hux : runPure E.P (underlying xt) = some (.slice e')) (hi : runPure E.P (typeInfo e) = some i) (hs : runPure E.P (sizeOf e) = some 1) (hz : runPure E.P (zeroValue e) = some z) (hz0 : z.cells.size = 1) (hb : i.bytes ≤ 2 ^ 8)
   (hlen : n ≤ 2 ^ 30) (hr : H.next < 2 ^ 59) (hsx : av T s = .slc b 0 0 0) (hgb : H.get b = some (.cells [] e0 g)) (hn : lenA (av T x) = some n) (hf : firstA 1 n (av T x) H = some new) (h1 : new.all AV.one = true) (hnl : new.length = n)
   (hk0 : n = 0 → K (.slc b 0 0 0) (H.set b (some (.cells [] e0 g)))) (hk : 0 < n → K (.slu H.next 0 n 1) (H.add (.cells new e 1))) : WOp E ops o T H K := by
 have hlt : Nat.blt H.next (2 ^ 59) = true := Nat.ble_eq_true_of_le hr
 have e1 : Nat.ble ((0 + n) * i.bytes) (2 ^ 47) = true := Nat.ble_eq_true_of_le (by
   rw [Nat.zero_add]
   have := Nat.mul_le_mul hlen hb
   exact Nat.le_trans this (by decide))
 have e2 : Nat.ble (0 + n) (2 ^ 47) = true := Nat.ble_eq_true_of_le (by rw [Nat.zero_add]; exact Nat.le_trans hlen (by decide))
 have hf' : firstA (0 + 1) n (av T x) H = some new := hf
 have hall : (new.all AV.one && Nat.beq new.length (n * (0 + 1))) = true := by rw [h1, hnl]; simp
 rcases Nat.eq_zero_or_pos n with h0 | h0
 · subst h0
   have : new = [] := List.eq_nil_of_length_eq_zero hnl
   subst this
   refine wop_val (by rw [ho]; simp only [still, hc]) hg (r := .slc b 0 0 0) (H' := H.set b (some (.cells [] e0 g))) ?_ (Nat.le_refl _) (hk0 rfl)
   unfold opEval; rw [ho]
   simp only [oCall, hc, oBuiltin, hargs, appendA, ht, hxt, hu, hux, isIntD, hi, hs, hz, hz0, hn]
   rw [if_pos (by decide), hf']
   simp only
   rw [if_pos (by decide)]
   simp only [hsx]
   rw [if_pos (by decide)]
   simp only [storeA, hgb]
   rw [if_pos (by decide)]
   rfl
 · refine wop_val (by rw [ho]; simp only [still, hc]) hg (r := .slu H.next 0 n 1) (H' := H.add (.cells new e 1)) ?_ (Nat.le_succ _) (hk h0)
   unfold opEval; rw [ho]
   simp only [oCall, hc, oBuiltin, hargs, appendA, ht, hxt, hu, hux, isIntD, hi, hs, hz, hz0, hn]
   rw [if_pos (by decide), hf']
   simp only
   rw [if_pos hall]
   simp only [hsx]
   rw [if_neg (by intro h; have := Nat.le_of_ble_eq_true h; omega)]
   simp only [hgb]
   rw [if_pos (by rw [e1, e2]; simp)]
   simp only [newU, hlt, if_true, Option.map_some, Nat.zero_add]
   simp
theorem ivs_one (l : List Int) : (ivs l).all AV.one = true := by
 rw [List.all_eq_true]
 intro v hv
 obtain ⟨w, _, rfl⟩ := List.mem_map.1 hv
 rfl
structure Ky (H : AH) (v : AV) (l : List Int) : Prop where
 sl : Sl H v (ivs l)
 old : Old H v
 cap : CapOk v
 lk : ∀ b, v.own = some b → Lk H b
theorem Ky.keep {H H' : AH} {v : AV} {l : List Int} (h : Ky H v l) (k : Keeps H H') : Ky H' v l := ⟨h.sl.keep h.old k, h.old.keep k, h.cap, fun b hb => (h.lk b hb).keep k⟩
theorem Nw.ky {H : AH} {v : AV} {l : List Int} (h : Nw H v l) : Ky H v l := ⟨h.sl, h.old, h.cap, h.lk⟩
section
variable {O : CallF} {T : List AV} {H H0 : AH} {ops : Array Oper} {o : Oper} {i : Nat} {π : List Stp}
theorem o_build0 {K : AV → AH → Prop} {t e : TypeId} {z0 : Value} (ho : o.op = .buildSlice t 0 #[]) (hg : wantedA o ops T = true) [hu : TyS t e] [hs : Cell e] [hz : Zero e z0] (hr : H.next < 2 ^ 59)
   (hk : K (.slc H.next 0 0 0) (H.add (.cells [] e 0))) : WOp (ENV O) ops o T H K := by
 refine wop_val (by rw [ho]; rfl) hg (r := .slc H.next 0 0 0) (H' := H.add (.cells [] e 0)) ?_ (Nat.le_succ _) hk
 have hlt : Nat.blt H.next (2 ^ 59) = true := Nat.ble_eq_true_of_le hr
 unfold opEval; rw [ho]
 simp only [ENV, buildSliceA, hu.u, hs.s, hz.z, hz.c]
 rw [if_pos (by decide)]
 simp [fillA, newA, hlt]
end
def Ap (H : AH) (r : AV) (l : List Int) : Prop :=
 (r = .v (.slice none 0 0) ∧ l = []) ∨ (∃ b, r = .slc b 0 0 0 ∧ l = [] ∧ b < H.next ∧ b < 2 ^ 59 ∧ H.get b = some (.cells [] 3 0)) ∨ (∃ b, r = .slu b 0 l.length 1 ∧ b < H.next ∧ b < 2 ^ 59 ∧ H.get b = some (.cells (ivs l) 3 1))
theorem Ap.ky {H : AH} {r : AV} {l : List Int} (h : Ap H r l) : Ky H r l := by
 rcases h with ⟨rfl, rfl⟩ | ⟨b, rfl, rfl, h1, h2, h3⟩ | ⟨b, rfl, h1, h2, h3⟩
 · exact ⟨⟨rfl, .inl rfl⟩, Old.v _, Nat.le_refl _, fun b hb => by cases hb⟩
 · refine ⟨⟨rfl, h2, _, _, _, h3, fun j v hv => by simp [ivs] at hv⟩, fun d hd => by cases hd; exact h1, Nat.le_refl _, fun d hd => ?_⟩
   cases hd
   exact ⟨h1, by rw [h3]; simp [sameBlk, beqs]⟩
 · refine ⟨⟨(ivs_length l).symm, h2, rfl, _, _, _, h3, fun j v hv => by rw [Nat.zero_add]; exact hv⟩, fun d hd => by cases hd; exact h1, trivial, fun d hd => ?_⟩
   cases hd
   exact ⟨h1, by rw [h3]; simp [sameBlk, beqs_ivs]⟩
theorem Ap.keep {H H' : AH} {r : AV} {l : List Int} (h : Ap H r l) (k : Keeps H H') : Ap H' r l := by
 rcases h with h | ⟨b, h0, h1, h2, h3, h4⟩ | ⟨b, h0, h2, h3, h4⟩
 · exact .inl h
 · exact .inr (.inl ⟨b, h0, h1, Nat.lt_of_lt_of_le h2 k.nx, h3, (k.get b h2).trans h4⟩)
 · exact .inr (.inr ⟨b, h0, Nat.lt_of_lt_of_le h2 k.nx, h3, (k.get b h2).trans h4⟩)
theorem ivs_snoc (l : List Int) (z : Int) : ivs (l ++ [z]) = ivs l ++ [iv z] := by simp [ivs]
section
variable {O : CallF} {T : List AV} {H H0 : AH} {ops : Array Oper} {o : Oper} {i : Nat} {π : List Stp}
theorem o_append1A {K : AV → AH → Prop} {c : Call} {t xt e' : TypeId} {s x : Operand} {l : List Int} {z : Int} {bx : Nat} {ex : TypeId} {gx : Nat} (ho : o.op = .call c) (hg : wantedA o ops T = true) (hc : c.callee = .builtin .append) (hargs : c.args.toList = [s, x]) (ht : c.argTypes.toList = [t, xt]) [hu : TyS t 3] [hux : TyS xt e']
   (hlen : l.length < 2 ^ 20) (hr : H.next < 2 ^ 59) (hx : av T x = .slc bx 0 1 1) (hbx : H.get bx = some (.cells [iv z] ex gx)) (hA : Ap H (av T s) l) (hn : ∀ b, (av T s).own = some b → H0.next ≤ b) (k0 : Keeps H0 H)
   (hk : ∀ r H1, Ap H1 r (l ++ [z]) → (∀ b, r.own = some b → H.next ≤ b) → Keeps H0 H1 → H1.next = H.next + 1 → (∀ b, b ≠ H.next → (av T s).own ≠ some b → H1.get b = H.get b) → K r H1) : WOp (ENV O) ops o T H K := by
 have hGr : Gr H 3 (av T s) (ivs l) → WOp (ENV O) ops o T H K := fun hG => by
   refine o_append (cs := ivs l) (v := iv z) ho hg hc hargs ht (by rw [ivs_length]; omega) hr hx hbx rfl hG fun r H1 e1 n1 gl1 g1 g2 _ => ?_
   rw [ivs_length] at e1
   refine hk r H1 (.inr (.inr ⟨H.next, ?_, by omega, hr, ?_⟩)) (fun b hb => ?_) ⟨by have := k0.nx; omega, gl1.trans k0.gl, fun b hb => ?_⟩ n1 g1
   · rw [e1, List.length_append]; rfl
   · rw [g2, ivs_snoc]
   · rw [e1] at hb; cases hb; exact Nat.le_refl _
   · rw [g1 b (by have := k0.nx; omega) (fun e => by have := hn b e; omega)]; exact k0.get b hb
 rcases hA with ⟨h1, h2⟩ | ⟨b, h0, h1, h2, h3, h4⟩ | ⟨b, h0, h2, h3, h4⟩
 · exact hGr (.inl ⟨h1, by rw [h2]; rfl⟩)
 · subst h1
   have hz : Zero 3 (.int .i64 0) := inferInstance
   have hs : Cell 3 := inferInstance
   refine wop_appendE (n := 1) (new := [iv z]) ho hg hc hargs (arg0 ht) (arg1 ht) hu.u hux.u hz.i hs.s hz.z (by rw [hz.c]; rfl) (Nat.le_of_ble_eq_true hz.b) (by decide) hr h0 h4 (by rw [hx]; rfl) (by rw [hx]; unfold firstA; simp only [hbx]; rfl) rfl rfl (fun e => by cases e) (fun _ => ?_)
   refine hk _ _ (.inr (.inr ⟨H.next, rfl, Nat.lt_succ_self _, hr, get_add_eq hr⟩)) (fun d hd => by cases hd; exact Nat.le_refl _) (k0.add _ hr) rfl fun d hd _ => get_add_ne hr hd
 · exact hGr (.inr ⟨b, h2, h3, by rw [ivs_length]; exact h0, h4⟩)
theorem o_appendA {K : AV → AH → Prop} {c : Call} {t xt e' : TypeId} {s x : Operand} {y : Value} {l : List Int} {b : Nat} (ho : o.op = .call c) (hg : wantedA o ops T = true) (hc : c.callee = .builtin .append) (hargs : c.args.toList = [s, x]) (ht : c.argTypes.toList = [t, xt]) [hu : TyS t 3] [hux : TyS xt e']
   (hlen : l.length ≤ 2 ^ 30) (hr : H.next < 2 ^ 59) (hsx : av T s = .slc b 0 0 0) (hbn : b < H.next) (hgb : H.get b = some (.cells [] 3 0)) (hx : av T x = .v y) (hy : Sl H (.v y) (ivs l)) (hb0 : H0.next ≤ b) (hk0 : Keeps H0 H)
   (hk : ∀ a H4, Ap H4 a l → (∀ d, a.own = some d → H0.next ≤ d) → Keeps H0 H4 → H4.next ≤ H.next + 1 → H.next ≤ H4.next → K a H4) : WOp (ENV O) ops o T H K := by
 obtain ⟨f1, f2⟩ := first_sl hy
 rw [ivs_length] at f1 f2
 have hz : Zero 3 (.int .i64 0) := inferInstance
 have hs : Cell 3 := inferInstance
 have hb39 : b < 2 ^ 59 := by omega
 refine wop_appendE ho hg hc hargs (arg0 ht) (arg1 ht) hu.u hux.u hz.i hs.s hz.z (by rw [hz.c]; rfl) (Nat.le_of_ble_eq_true hz.b) hlen hr hsx hgb (by rw [hx]; exact f1) (by rw [hx]; exact f2) (ivs_one l) (ivs_length l) (fun h0 => ?_) (fun h0 => ?_)
 · have e : l = [] := List.eq_nil_of_length_eq_zero h0
   subst e
   exact hk _ _ (.inr (.inl ⟨b, rfl, rfl, hbn, hb39, get_set_eq hb39⟩)) (fun d hd => by cases hd; exact hb0) (hk0.set _ hb0 hb39) (Nat.le_succ _) (Nat.le_refl _)
 · exact hk _ _ (.inr (.inr ⟨H.next, rfl, Nat.lt_succ_self _, hr, get_add_eq hr⟩)) (fun d hd => by cases hd; have := hk0.nx; omega) (hk0.add _ hr) (Nat.le_refl _) (Nat.le_succ _)
theorem k_build0 {K : List AV → AH → Prop} {t e : TypeId} {z0 : Value} (h1 : ops.toList[i]? = some o) (ho : o.op = .buildSlice t 0 #[]) (hg : wantedA o ops T = true) [hu : TyS t e] [hs : Cell e] [hz : Zero e z0] (hr : H.next < 2 ^ 59)
   (hk : WK (ENV O) ops H0 π (putA T o.dst (.slc H.next 0 0 0)) (H.add (.cells [] e 0)) K) : WK (ENV O) ops H0 (.alc i :: π) T H K := by
 have hlt : Nat.blt H.next (2 ^ 59) = true := Nat.ble_eq_true_of_le hr
 refine ⟨o, h1, .inr ⟨hg, some (0, 0), [], e, H.add (.cells [] e 0), ?_, ?_, hk⟩⟩
 · unfold laysA; rw [ho]
   simp only [ENV, hu.u, hs.s, hz.z, hz.c]
   rw [if_pos (by decide)]
   simp [fillA]
 · simp only [newA, hlt, if_true]
theorem WK.mem {K : List AV → AH → Prop} (P : AH → Prop) (h : P H) (hw : ∀ H, P H → WK (ENV O) ops H0 π T H K) : WK (ENV O) ops H0 π T H K := hw H h
theorem k_extract {K : List AV → AH → Prop} {x : Operand} {j : Nat} {vs : List AV} {v : AV} (h1 : ops.toList[i]? = some o) (ho : o.op = .extract x j) (hg : wantedA o ops T = true) (hx : av T x = .tup vs) (hv : vs[j]? = some v) (hk : WK (ENV O) ops H0 π (putA T o.dst v) H K) : WK (ENV O) ops H0 (.mob i :: π) T H K := by
 refine k_mob h1 hg (r := v) ?_ (fun b hb => by rw [rdA_none (by unfold looksB; rw [ho])] at hb; cases hb) hk
 unfold mobEval
 rw [ho]
 simp only [hx, hv]
end
theorem Ap.gr {H : AH} {r : AV} {l : List Int} (h : Ap H r l) (hne : l ≠ []) : Gr H 3 r (ivs l) := by
 rcases h with ⟨_, e⟩ | ⟨b, _, e, _⟩ | ⟨b, rfl, h1, h2, h3⟩
 · exact absurd e hne
 · exact absurd e hne
 · exact .inr ⟨b, h1, h2, by rw [ivs_length], h3⟩
theorem Sl.one {H : AH} {x : AV} {l : List AV} (h : Sl H x l) : x.one = true := by
 unfold Sl at h
 split at h
 · rfl
 · rfl
 · rfl
 · exact h.elim
end Go.Ev
namespace Go.Ev
open Go.Proofs
def statJ (ops : Array Oper) (π : List Stp) (j : Nat) : Bool := (mobsOf π).all fun i => (match ops.toList[i]? with | some o => !looksB o | none => false) || waitsB ops j i
def WDC (E : Env) (ops : Array Oper) (H0 : AH) (π0 : List Stp) (B : Nat → Prop) : List Stp → List AV → AH → (List AV → AH → Prop) → Prop
 | [], T, H, K => K T H
 | .mob i :: π, T, H, K => i ∈ mobsOf π0 ∧ (∀ o b, ops.toList[i]? = some o → rdA T o = some b → B b) ∧ WDr E ops H0 [.mob i] T H (fun T' H' => H' = H ∧ WDC E ops H0 π0 B π T' H K)
 | .loud i :: π, T, H, K => WDr E ops H0 [.loud i] T H (fun T' H' => (statJ ops π0 i = true ∨ ∀ b, B b → sameBlk (H'.get b) (H0.get b) = true) ∧ WDC E ops H0 π0 B π T' H' K)
 | .alc _ :: _, _, _, _ => False
section
variable {E : Env} {g : FuncId} {rd : Bool} {T : List AV} {M : List Nat} {H H0 : AH} {Q : QX} {ops : Array Oper}
theorem wdc_ev {π0 : List Stp} {B : Nat → Prop} {K : List AV → AH → Prop} : ∀ {π : List Stp} {T : List AV} {H : AH}, WDC E ops H0 π0 B π T H K → ∃ n T' H' L Hs, evDraw E.P E.F (E.evCall n) ops H0 π T H = some (T', H', L, Hs) ∧ K T' H' ∧ (∀ q ∈ Hs, statJ ops π0 q.1 = true ∨ ∀ b, B b → sameBlk (q.2.get b) (H0.get b) = true) ∧
   (∀ p ∈ L, p.1 ∈ mobsOf π0 ∧ (∃ o, ops.toList[p.1]? = some o ∧ (looksB o = false → p.2 = none)) ∧ ∀ b, p.2 = some b → B b)
 | [], T, H, h => ⟨0, T, H, [], [], rfl, h, fun _ h => by simp at h, fun _ h => by simp at h⟩
 | .mob i :: π, T, H, ⟨hi, hb, o, r, h1, h2, _, h3⟩ => by
   obtain ⟨n, T', H', L, Hs, k1, k2, k3, k4⟩ := wdc_ev h3
   rcases h2 with ⟨h2, rfl⟩ | ⟨h2, h4⟩
   · refine ⟨n, T', H', L, Hs, ?_, k2, k3, k4⟩
     simp only [evDraw, opT h1, h2]
     exact k1
   · refine ⟨n, T', H', (i, rdA T o) :: L, Hs, ?_, k2, k3, fun p hp => ?_⟩
     · simp only [evDraw, opT h1, h2, h4, k1]
     · rcases List.mem_cons.1 hp with rfl | hp
       · exact ⟨hi, ⟨o, h1, fun h => rdA_none h⟩, fun b hb' => hb o b h1 hb'⟩
       · exact k4 p hp
 | .loud i :: π, T, H, ⟨o, h1, n, r, H1, h2, h5, h3⟩ => by
   obtain ⟨m, T', H', L, Hs, k1, k2, k3, k4⟩ := wdc_ev h3
   refine ⟨n + m, T', H', L, (i, H1) :: Hs, ?_, k2, fun q hq => ?_, k4⟩
   · simp only [evDraw, opT h1]
     rw [evOp_le (evCall_le (Nat.le_add_right n m)) h2]
     simp only
     rw [evDraw_le (evCall_le (Nat.le_add_left m n)) k1]
   · rcases List.mem_cons.1 hq with rfl | hq
     · exact h5
     · exact k3 q hq
 | .alc _ :: _, _, _, h => h.elim
theorem wp_drawC (B : Nat → Prop) {id : Nat} {π : List Stp} (hp : E.pl.get (planKey g id) = some π) (h : WDC E ops H π B π T H fun T' H' => Q .normal T' M H') : Wp E g rd (.region id ops true) T M H Q := by
 obtain ⟨n, T', H', L, Hs, k1, k2, k3, k4⟩ := wdc_ev h
 refine ⟨n + 1, _, T', M, H', ?_, k2⟩
 show Ev.ev E.P E.F E.O E.pl (n + 1) g rd (.region id ops true) T M H = _
 rw [ev_draw, hp]
 simp only
 unfold evRegion
 rw [show evDraw E.P E.F (Ev.evCall E.P E.F E.O E.pl n) ops H π T H = _ from k1]
 have : (Hs.all fun q => keptB ops H L q.1 q.2) = true := by
   rw [List.all_eq_true]
   intro q hq
   unfold keptB
   rw [List.all_eq_true]
   intro p hp
   obtain ⟨h0, ⟨o, h1, h2⟩, h3⟩ := k4 p hp
   cases hb : p.2 with
   | none => rfl
   | some b =>
     rcases k3 q hq with hst | hst
     · have hst := List.all_eq_true.1 hst p.1 h0
       rw [h1] at hst
       cases hl : looksB o with
       | false => rw [h2 hl] at hb; cases hb
       | true =>
         simp only [hl, Bool.not_true, Bool.false_or] at hst
         simp [hst]
     · simp [hst b (h3 b hb)]
 simp only [this, if_true]
variable {π0 π : List Stp} {B : Nat → Prop} {i : Nat} {K : List AV → AH → Prop}
theorem wc_nil (h : K T H) : WDC E ops H0 π0 B [] T H K := h
theorem wc_mob (hi : i ∈ mobsOf π0) (h : WDr E ops H0 [.mob i] T H (fun T' H' => H' = H ∧ WDC E ops H0 π0 B π T' H K)) (hb : ∀ o b, ops.toList[i]? = some o → rdA T o = some b → B b) : WDC E ops H0 π0 B (.mob i :: π) T H K := ⟨hi, hb, h⟩
end
section
variable {O : CallF} {T : List AV} {H H0 : AH} {ops : Array Oper} {o : Oper} {i : Nat} {π0 π : List Stp} {K : List AV → AH → Prop}
def AnyB : Nat → Prop := fun _ => True
theorem wc_move {x : Operand} (hi : i ∈ mobsOf π0) (h1 : ops.toList[i]? = some o) (ho : o.op = .move x) (hg : wantedA o ops T = true) (hk : WDC (ENV O) ops H0 π0 AnyB π (putA T o.dst (av T x)) H K) : WDC (ENV O) ops H0 π0 AnyB (.mob i :: π) T H K :=
 wc_mob hi (wd_move h1 ho hg ⟨rfl, hk⟩) (fun _ _ _ _ => trivial)
theorem wc_index {t e : TypeId} {x y : Operand} {j : Nat} {l : List AV} {v : AV} (hi : i ∈ mobsOf π0) (h1 : ops.toList[i]? = some o) (ho : o.op = .indexAddr t x y) (hg : wantedA o ops T = true) [hu : TyS t e] [hs : Cell e] (hx : Sl H0 (av T x) l) (hy : av T y = iv j) (hl : l[j]? = some v)
   (hk : ∀ p, At H0 p v → WDC (ENV O) ops H0 π0 AnyB π (putA T o.dst p) H K) : WDC (ENV O) ops H0 π0 AnyB (.mob i :: π) T H K :=
 wc_mob hi (d_index h1 ho hg hx hy hl fun p hp => ⟨rfl, hk p hp⟩) (fun _ _ _ _ => trivial)
theorem wc_load {t : TypeId} {x : Operand} {v : AV} (hi : i ∈ mobsOf π0) (h1 : ops.toList[i]? = some o) (ho : o.op = .load t x) (hg : wantedA o ops T = true) [ha : Cell t] (hx : At H0 (av T x) v) (hk : WDC (ENV O) ops H0 π0 AnyB π (putA T o.dst v) H K) : WDC (ENV O) ops H0 π0 AnyB (.mob i :: π) T H K :=
 wc_mob hi (d_load h1 ho hg hx ⟨rfl, hk⟩) (fun _ _ _ _ => trivial)
theorem wc_bin {op : BinOp} {t yt : TypeId} {x y : Operand} {k : IntKind} {a b : Int} {v : Value} (hi : i ∈ mobsOf π0) (h1 : ops.toList[i]? = some o) (ho : o.op = .binOp op t x y yt) (hg : wantedA o ops T = true) (hx : av T x = .v (.int k a)) (hy : av T y = .v (.int k b)) (hv : binI op k k a b = some v) (hk : WDC (ENV O) ops H0 π0 AnyB π (putA T o.dst (.v v)) H K) : WDC (ENV O) ops H0 π0 AnyB (.mob i :: π) T H K :=
 wc_mob hi (wd_bin h1 ho hg hx hy hv ⟨rfl, hk⟩) (fun _ _ _ _ => trivial)
end
section
variable {O : CallF} {T : List AV} {H H0 : AH} {ops : Array Oper} {o : Oper} {i : Nat} {π0 π : List Stp} {K : List AV → AH → Prop}
end
end Go.Ev
namespace Go.Ev
open Go.Proofs
theorem drop_cons {l : List Int} {i : Nat} {z : Int} (h : l[i]? = some z) : l.drop i = z :: l.drop (i + 1) := by
 have hl := (List.getElem?_eq_some_iff.1 h).1
 rw [List.drop_eq_getElem_cons hl]
 congr 1
 exact (List.getElem?_eq_some_iff.1 h).2
section
variable {O : CallF} {T : List AV} {H H0 : AH} {ops : Array Oper} {o : Oper} {i : Nat} {π : List Stp}
theorem o_nilEq {K : AV → AH → Prop} {t yt : TypeId} {x : Operand} {a : Option Addr} {n cap : Nat} (ho : o.op = .binOp .eql t x (.const (.slice none 0 0)) yt) (hg : wantedA o ops T = true) (ht : t = 24) (hx : av T x = .v (.slice a n cap)) (hk : K (.v (.bool a.isNone)) H) : WOp (ENV O) ops o T H K := by
 subst ht
 refine wop_val (by rw [ho]; rfl) hg (r := .v (.bool a.isNone)) ?_ (Nat.le_refl _) hk
 unfold opEval; rw [ho]
 have hc : av T (.const (.slice none 0 0)) = .v (.slice none 0 0) := rfl
 have h0 : nilEqA Tryz.prog 24 (.v (.slice a n cap)) (.v (.slice none 0 0)) = false := by rfl
 simp only [ENV, oBin, oBinSlow, hx, hc, h0]
 unfold plainOp
 have h2 : runPure Tryz.prog (execOp (fun x => ((av T x).plain).getD undef) o) = some (.value (.bool a.isNone)) := by
   obtain ⟨dst, op', type, pos, after, guard⟩ := o
   simp only at ho
   subst ho
   cases a with
   | none => simp only [execOp, eqGuard, hx, hc, AV.plain, Option.getD_some]; kernel_rfl
   | some a => simp only [execOp, eqGuard, hx, hc, AV.plain, Option.getD_some]; kernel_rfl
 rw [h2, ho]
 simp [Op.operands, hx, hc, AV.plain]
theorem o_nilEqU {K : AV → AH → Prop} {t yt : TypeId} {x : Operand} {b off n sz : Nat} (ho : o.op = .binOp .eql t x (.const (.slice none 0 0)) yt) (hg : wantedA o ops T = true) (ht : t = 24) (hx : av T x = .slu b off n sz) (hk : K (.v (.bool false)) H) : WOp (ENV O) ops o T H K := by
 subst ht
 refine wop_val (by rw [ho]; rfl) hg (r := .v (.bool false)) ?_ (Nat.le_refl _) hk
 unfold opEval; rw [ho]
 have hc : av T (.const (.slice none 0 0)) = .v (.slice none 0 0) := rfl
 have h0 : nilEqA Tryz.prog 24 (.slu b off n sz) (.v (.slice none 0 0)) = true := by rfl
 simp only [ENV, oBin, oBinSlow, hx, hc, h0]
end
variable {O : CallF} (hq : Quiet O)
include hq
theorem cThat (H : AH) (b : Bool) (e : Int) (K : AV → AH → Prop) (hk : K (iv (if b = true then 0 else e)) H) : Ca (ENV O) 70 [.v (.bool b), iv e] H K := by
 refine ca_intro (hq _ _ _ rfl) (fn := Tryz.f70) (by rfl) rfl ?_
 cases b with
 | true =>
   repeat (first | apply qN | refine qM rfl rfl ?_ | refine qT rfl ?_ | apply qR | apply qS)
   refine wp_ret ?_
   exact ⟨_, _, rfl, hk⟩
 | false =>
   repeat (first | apply qN | refine qM rfl rfl ?_ | refine qF rfl ?_ | apply qR | apply qS | apply qK)
   refine wp_ret ?_
   exact ⟨_, _, rfl, hk⟩
theorem cRange (H : AH) (n lo hi : Int) (K : AV → AH → Prop) (hk : K (iv (if inB n lo hi = true then 0 else 3)) H) : Ca (ENV O) 69 [iv n, iv lo, iv hi] H K := by
 refine ca_intro (hq _ _ _ rfl) (fn := Tryz.f69) (by rfl) rfl ?_
 repeat (first | apply qN | refine qM rfl rfl ?_ | apply qR | apply qS)
 refine wops_split 6 ?_
 refine WOps.mono (K := fun T' H' => H = H' ∧ ∃ (Y : List AV), T' = (lget Y 0 :: lget Y 1 :: lget Y 2 :: lget Y 3 :: lget Y 4 :: lget Y 5 :: lget Y 6 :: lget Y 7 :: lget Y 8 :: lget Y 9 :: lget Y 10 :: lget Y 11 :: lget Y 12 :: lget Y 13 :: .v (.bool (inB n lo hi)) :: lget Y 14 :: [])) ?_ ?_
 · refine wops_cons (wop_cmp rfl rfl rfl rfl rfl (fun h => ?_) (fun h => ?_))
   · have h1 : lo ≤ n := of_decide_eq_true h
     clear h
     repeat (first | refine qM rfl rfl ?_)
     refine wops_cons (wop_cmp rfl rfl rfl rfl rfl (fun h => ?_) (fun h => ?_))
     · have h2 : n ≤ hi := of_decide_eq_true h
       rw [show inB n lo hi = true by simp [inB, h1, h2]]
       repeat (first | apply qN | refine zq7 rfl rfl rfl ?_)
       exact ⟨rfl, [_,_,_,_,_,_,_,_,_,_,_,_,_,_,_], rfl⟩
     · have h2 : ¬ n ≤ hi := of_decide_eq_false h
       rw [show inB n lo hi = false by simp [inB, h1, h2]]
       repeat (first | apply qN | refine zq7 rfl rfl rfl ?_)
       exact ⟨rfl, [_,_,_,_,_,_,_,_,_,_,_,_,_,_,_], rfl⟩
   · have h1 : ¬ lo ≤ n := of_decide_eq_false h
     rw [show inB n lo hi = false by simp [inB, h1]]
     repeat (first | apply qN | refine zq1 rfl rfl ?_ | refine qM rfl rfl ?_ | refine zq7 rfl rfl rfl ?_)
     exact ⟨rfl, [_,_,_,_,_,_,_,_,_,_,_,_,_,_,_], rfl⟩
 rintro T' H' ⟨rfl, Y, rfl⟩
 refine wops_cons (wop_callF rfl rfl rfl (fn := Tryz.f70) (by rfl) ?_)
 refine cThat hq H (inB n lo hi) 3 _ ⟨Nat.le_refl _, ?_⟩
 repeat (first | apply qN | refine qM rfl rfl ?_)
 refine wp_ret ?_
 exact ⟨_, _, rfl, hk⟩
theorem cFirst (H : AH) (x : AV) (l : List Int) (hx : Sl H x (ivs l)) (hlen : l.length ≤ 1000) (K : AV → AH → Prop) (hk : K (iv (firstNZ l)) H) : Ca (ENV O) 68 [x] H K := by
 refine ca_intro (hq _ _ _ rfl) (fn := Tryz.f68) (by rfl) rfl ?_
 repeat (first | apply qN | refine qM rfl rfl ?_ | refine zq5 rfl rfl rfl rfl rfl ‹_› ?_ | apply qR | apply qS | apply qB)
 refine wp_loop (fun q T M H' => ∃ (i : Nat) (Y : List AV), q = l.length - i ∧ i ≤ l.length ∧ firstNZ l = firstNZ (l.drop i) ∧ H' = H ∧ M = [] ∧ T = (lget Y 0 :: lget Y 1 :: lget Y 2 :: lget Y 3 :: lget Y 4 :: x :: iv l.length :: iv (i : Nat) :: lget Y 5 :: lget Y 6 :: lget Y 7 :: lget Y 8 :: lget Y 9 :: lget Y 10 :: lget Y 11 :: [])) l.length
   ⟨0, [_,_,_,_,_,_,_,_,_,_,_,_], rfl, Nat.zero_le _, rfl, rfl, rfl, rfl⟩ ?_
 rintro q T M H' ⟨i, Y, hq1, hi, hsw, rfl, rfl, rfl⟩
 repeat (first | apply qR | apply qS)
 refine wops_cons (wop_cmp rfl rfl rfl rfl rfl (fun h => ?_) (fun h => ?_))
 rotate_left
 · have h : ¬ ((i : Int) < l.length) := of_decide_eq_false h
   have e : i = l.length := by omega
   rw [hsw, e, List.drop_length] at hk
   repeat (first | apply qN | refine qM rfl rfl ?_ | refine qF rfl ?_ | apply qR | apply qS | apply qE)
   refine wp_ret ?_
   exact ⟨_, _, rfl, hk⟩
 have h : (i : Int) < l.length := of_decide_eq_true h
 obtain ⟨z, hz⟩ := l_some (show i < l.length by omega)
 rw [drop_cons hz, firstNZ_cons] at hsw
 repeat (first | apply qN | refine qT rfl ?_ | apply qR | apply qS | apply qK | apply qB)
 refine wops_cons (o_indexI rfl rfl hx rfl hz fun p hp => ?_)
 repeat (first | apply qN | refine qM rfl rfl ?_ | refine zq6 rfl rfl ‹_› ?_ | apply qR | apply qS)
 refine wops_cons (wop_cmp rfl rfl rfl rfl rfl (fun h => ?_) (fun h => ?_))
 · have h : z ≠ 0 := by simpa using h
   rw [hsw, if_pos h] at hk
   repeat (first | apply qN | refine qM rfl rfl ?_ | refine qT rfl ?_ | apply qR | apply qS)
   refine wp_ret ?_
   exact ⟨_, _, rfl, hk⟩
 have h : ¬ z ≠ 0 := by simpa using h
 rw [if_neg h] at hsw
 repeat (first | apply qN | refine qM rfl rfl ?_ | refine zq4 rfl rfl rfl rfl (inc (by omega)) ?_ | refine qF rfl ?_ | apply qR | apply qK)
 exact ⟨l.length - (i + 1), by omega, i + 1, [_,_,_,_,_,_,_,_,_,_,_,_], rfl, by omega, hsw, rfl, rfl, rfl⟩
theorem cSameI (H : AH) (x y : AV) (l l2 : List Int) (hx : Sl H x (ivs l)) (hy : Sl H y (ivs l2)) (hlen : l.length ≤ 100000) (hlen2 : l2.length ≤ 100000) (K : AV → AH → Prop) (hk : K (.v (.bool (decide (l = l2)))) H) : Ca (ENV O) 50 [x, y] H K := by
 refine ca_intro (hq _ _ _ rfl) (fn := Tryz.f50) (by rfl) rfl ?_
 repeat (first | apply qN | refine qM rfl rfl ?_ | refine zq5 rfl rfl rfl rfl rfl ‹_› ?_ | apply qR | apply qS)
 refine wops_cons (wop_cmp rfl rfl rfl rfl rfl (fun h => ?_) (fun h => ?_))
 · have h1 : ¬ (l.length : Int) = l2.length := by simpa [binI] using h
   have h1 : ¬ l.length = l2.length := fun e => h1 (by rw [e])
   have e : decide (l = l2) = false := decide_eq_false fun e => h1 (by rw [e])
   rw [e] at hk
   repeat (first | apply qN | refine qM rfl rfl ?_ | refine qT rfl ?_ | apply qR | apply qS)
   refine wp_ret ?_
   exact ⟨_, _, rfl, hk⟩
 have hL : (l.length : Int) = l2.length := by simpa [binI] using h
 have hL : l.length = l2.length := by omega
 clear h
 repeat (first | apply qN | refine qM rfl rfl ?_ | refine qF rfl ?_ | apply qR | apply qS | apply qK | apply qB)
 refine wp_loop (fun k T M H' => ∃ (i : Nat) (Y : List AV), k = l.length - i ∧ i ≤ l.length ∧ (∀ j, j < i → l[j]? = l2[j]?) ∧ M = [] ∧ H' = H ∧ T = (x :: y :: lget Y 0 :: lget Y 1 :: lget Y 2 :: iv (i : Nat) :: lget Y 3 :: lget Y 4 :: lget Y 5 :: lget Y 6 :: lget Y 7 :: lget Y 8 :: lget Y 9 :: lget Y 10 :: lget Y 11 :: lget Y 12 :: lget Y 13 :: lget Y 14 :: lget Y 15 :: lget Y 16 :: lget Y 17 :: lget Y 18 :: lget Y 19 :: lget Y 20 :: lget Y 21 :: lget Y 22 :: [])) l.length
   ⟨0, [_,_,_,_,_,_,_,_,_,_,_,_,_,_,_,_,_,_,_,_,_,_,_], rfl, Nat.zero_le _, fun j h => absurd h (Nat.not_lt_zero _), rfl, rfl, rfl⟩ ?_
 rintro k T M H' ⟨i, Y, hk1, hi, hpre, rfl, rfl, rfl⟩
 repeat (first | refine qM rfl rfl ?_ | refine zq5 rfl rfl rfl rfl rfl ‹_› ?_ | apply qR | apply qS)
 refine wops_cons (wop_cmp rfl rfl rfl rfl rfl (fun h => ?_) (fun h => ?_))
 rotate_left
 · have h : ¬ ((i : Int) < l.length) := of_decide_eq_false h
   have e : l = l2 := List.ext_getElem? fun j => by
     by_cases hj : j < i
     · exact hpre j hj
     · rw [List.getElem?_eq_none (by omega), List.getElem?_eq_none (by omega)]
   rw [decide_eq_true e] at hk
   repeat (first | apply qN | refine qM rfl rfl ?_ | refine qF rfl ?_ | apply qR | apply qS | apply qE)
   refine wp_ret ?_
   exact ⟨_, _, rfl, hk⟩
 have h : (i : Int) < l.length := of_decide_eq_true h
 obtain ⟨z, hz⟩ := l_some (show i < l.length by omega)
 obtain ⟨w, hw⟩ := l_some (show i < l2.length by omega)
 repeat (first | apply qN | refine qT rfl ?_ | apply qS | apply qK | apply qB)
 refine wp_drawC AnyB rfl ?_
 repeat (first | refine wc_move (by decide) rfl rfl rfl ?_)
 refine wc_index (by decide) rfl rfl rfl hx rfl (ivs_get hz) fun p hp => ?_
 refine wc_load (by decide) rfl rfl rfl hp ?_
 repeat (first | refine wc_move (by decide) rfl rfl rfl ?_)
 refine wc_index (by decide) rfl rfl rfl hy rfl (ivs_get hw) fun p hp => ?_
 refine wc_load (by decide) rfl rfl rfl hp ?_
 refine wc_bin (op := .neq) (v := .bool (!decide (z = w))) (by decide) rfl rfl rfl rfl rfl (by simp [binI, bne]; by_cases e : z = w <;> simp [e]) ?_
 refine wc_nil ?_
 skip
 refine wp_cond rfl (fun h => ?_) (fun h => ?_)
 · have hne : z ≠ w := by simpa using h
   have e : decide (l = l2) = false := decide_eq_false fun e => hne (by rw [e, hw] at hz; exact (Option.some.inj hz).symm)
   rw [e] at hk
   repeat (first | apply qN | refine qM rfl rfl ?_ | apply qR | apply qS)
   refine wp_ret ?_
   exact ⟨_, _, rfl, hk⟩
 · have he : z = w := by simpa using h
   repeat (first | apply qN | refine qM rfl rfl ?_ | refine zq4 rfl rfl rfl rfl (inc (by omega)) ?_ | apply qR | apply qK)
   refine ⟨l.length - (i + 1), by omega, i + 1, [_,_,_,_,_,_,_,_,_,_,_,_,_,_,_,_,_,_,_,_,_,_,_], rfl, by omega, fun j hj => ?_, rfl, rfl, rfl⟩
   by_cases e : j = i
   · rw [e, hz, hw, he]
   · exact hpre j (by omega)
theorem cClone (H : AH) (y : Value) (l : List Int) (hy : Sl H (.v y) (ivs l)) (hl : l.length ≤ 1000) (hr : H.next + 10 < 2 ^ 59)
   (K : AV → AH → Prop) (hk : ∀ H' r, Keeps H H' → H'.next ≤ H.next + 2 → Ap H' r l → (∀ b, r.own = some b → H.next ≤ b) → K r H') : Ca (ENV O) 139 [.v y] H K := by
 refine ca_intro (hq _ _ _ rfl) (fn := Tryz.f139) (by rfl) rfl ?_
 obtain ⟨a, n, c, rfl⟩ : ∃ a n c, y = .slice a n c := by
   cases y with
   | slice a n c => exact ⟨a, n, c, rfl⟩
   | _ => exact hy.elim
 repeat (first | apply qN | refine qM rfl rfl ?_ | apply qR | apply qS)
 refine wops_cons (o_nilEq rfl rfl rfl rfl ?_)
 repeat (first | apply qN)
 cases a with
 | none =>
   have hl0 : l = [] := by
     rcases hy.2 with h | ⟨b, off, vs, h, _⟩
     · cases l with
       | nil => rfl
       | cons z l => simp [ivs] at h
     · cases h
   repeat (first | apply qN | refine qM rfl rfl ?_ | refine qT rfl ?_ | apply qR | apply qS)
   refine wp_ret ?_
   exact ⟨_, _, rfl, hk H _ (Keeps.refl H) (by omega) (.inl ⟨rfl, hl0⟩) (fun b hb => by cases hb)⟩
 | some a =>
   repeat (first | refine qF rfl ?_ | apply qR | apply qS | apply qK)
   have r0 : H.next < 2 ^ 59 := by omega
   refine wops_cons (o_build0 rfl rfl r0 ?_)
   have k1 := (Keeps.refl H).add (.cells [] 3 0) r0
   have g1 : (H.add (.cells [] 3 0)).get H.next = some (.cells [] 3 0) := get_add_eq r0
   have n1 : (H.add (.cells [] 3 0)).next = H.next + 1 := rfl
   generalize H.add (.cells [] 3 0) = H1 at k1 g1 n1 ⊢
   repeat (first | refine qM rfl rfl ?_)
   refine wops_cons (o_appendA (H0 := H) (l := l) rfl rfl rfl rfl rfl (by omega) (by omega) rfl (by omega) g1 rfl (hy.keep (Old.v _) k1) (Nat.le_refl _) k1 fun r H2 hA hn k2 n2 _ => ?_)
   repeat (first | apply qN | refine qM rfl rfl ?_)
   refine wp_ret ?_
   exact ⟨_, _, rfl, hk H2 r k2 (by omega) hA hn⟩
end Go.Ev
