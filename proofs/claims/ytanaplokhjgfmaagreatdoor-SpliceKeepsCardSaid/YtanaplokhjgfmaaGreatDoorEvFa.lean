/- Part of an evaluator of calls that is proved sound, and of what it gives about this program. No condition of its own. -/
import Derived.Test.YtanaplokhjgfmaaGreatDoorEvRx
import Derived.Test.YtanaplokhjgfmaaGreatDoorEvEn
set_option linter.unusedVariables false
set_option linter.unusedSimpArgs false
set_option linter.unusedSectionVars false
set_option maxRecDepth 100000
set_option maxHeartbeats 4000000
namespace Go.Ev
open Go.Proofs
theorem fl_len {k : Nat} : ∀ {rows : List (List AV)}, (∀ r ∈ rows, r.length = k) → rows.flatten.length = rows.length * k
 | [], _ => by simp
 | r :: rows, h => by
   rw [List.flatten_cons, List.length_append, fl_len (fun q hq => h q (List.mem_cons_of_mem _ hq)), h r (by simp), List.length_cons, Nat.succ_mul]; omega
theorem fl_get {k : Nat} : ∀ {rows : List (List AV)} {j : Nat} {r : List AV}, (∀ r ∈ rows, r.length = k) → rows[j]? = some r → (rows.flatten.drop (j * k)).take k = r
 | [], _, _, _, h => by simp at h
 | q :: rows, 0, r, hk, h => by
   have e : q = r := by simpa using h
   subst e
   rw [Nat.zero_mul, List.drop_zero, List.flatten_cons, List.take_append_of_le_length (by rw [hk q (by simp)]; exact Nat.le_refl _), List.take_of_length_le (by rw [hk q (by simp)]; exact Nat.le_refl _)]
 | q :: rows, j + 1, r, hk, h => by
   have := fl_get (rows := rows) (j := j) (r := r) (fun q hq => hk q (List.mem_cons_of_mem _ hq)) (by simpa using h)
   rw [List.flatten_cons, Nat.succ_mul, Nat.add_comm, ← List.drop_drop]
   rw [show (q ++ rows.flatten).drop k = rows.flatten by rw [List.drop_append_of_le_length (by rw [hk q (by simp)]; exact Nat.le_refl _), List.drop_of_length_le (by rw [hk q (by simp)]; exact Nat.le_refl _), List.nil_append]]
   exact this
theorem row_le {k : Nat} {rows : List (List AV)} {j : Nat} {r : List AV} (hk : ∀ r ∈ rows, r.length = k) (h : rows[j]? = some r) : j * k + k ≤ rows.flatten.length := by
 have hj := (List.getElem?_eq_some_iff.1 h).1
 rw [fl_len hk, ← Nat.succ_mul]
 exact Nat.mul_le_mul_right _ hj
def SlR (k : Nat) (H : AH) (x : AV) (rows : List (List AV)) : Prop :=
 match x with
 | .v (.slice a n _) => n = rows.length ∧ (rows = [] ∨ ∃ b off vs, a = some ⟨b, off, none⟩ ∧ H.gl b = some vs ∧ ∀ (j : Nat) (r : List AV), rows[j]? = some r → ((vs.drop (off + j * k)).take k).map .v = r ∧ off + j * k + k ≤ vs.length)
 | .slc b off n _ => n = rows.length ∧ b < 2 ^ 59 ∧ ∃ cs e g, H.get b = some (.cells cs e g) ∧ ∀ (j : Nat) (r : List AV), rows[j]? = some r → (cs.drop (off + j * k)).take k = r ∧ off + j * k + k ≤ cs.length
 | .slu b off n sz => n = rows.length ∧ sz = k ∧ b < 2 ^ 59 ∧ ∃ cs e g, H.get b = some (.cells cs e g) ∧ ∀ (j : Nat) (r : List AV), rows[j]? = some r → (cs.drop (off + j * k)).take k = r ∧ off + j * k + k ≤ cs.length
 | _ => False
theorem SlR.keep {k : Nat} {H H' : AH} {x : AV} {rows : List (List AV)} (h : SlR k H x rows) (ho : Old H x) (kk : Keeps H H') : SlR k H' x rows := by
 cases x with
 | v val =>
   cases val with
   | slice a n c =>
     obtain ⟨h1, h2⟩ := h
     refine ⟨h1, ?_⟩
     rcases h2 with h2 | ⟨b, off, vs, h3, h4, h5⟩
     · exact .inl h2
     · exact .inr ⟨b, off, vs, h3, by rw [kk.gl]; exact h4, h5⟩
   | _ => exact h.elim
 | slc b off n c => obtain ⟨h1, h2, cs, e, g, h3, h4⟩ := h; exact ⟨h1, h2, cs, e, g, (kk.get b (ho b rfl)).trans h3, h4⟩
 | slu b off n c => obtain ⟨h1, h0, h2, cs, e, g, h3, h4⟩ := h; exact ⟨h1, h0, h2, cs, e, g, (kk.get b (ho b rfl)).trans h3, h4⟩
 | _ => exact h.elim
def PtR (H : AH) (p : AV) (r : List AV) : Prop := (∃ b off cs e g, p = .ptr b off ∧ b < 2 ^ 59 ∧ H.get b = some (.cells cs e g) ∧ (cs.drop off).take r.length = r ∧ off + r.length ≤ cs.length) ∨ ∃ b off vs, p = .v (.pointer (some ⟨b, off, none⟩)) ∧ H.gl b = some vs ∧ ((vs.drop off).take r.length).map .v = r ∧ off + r.length ≤ vs.length
class TyR (t : TypeId) (e : outParam TypeId) (k : outParam Nat) : Prop where
 u : runPure Tryz.prog (underlying t) = some (.slice e)
 s : runPure Tryz.prog (sizeOf e) = some (k + 1)
 a : runPure Tryz.prog (isAgg e) = some true
 z : ∃ z, runPure Tryz.prog (zeroValue e) = some z ∧ Nat.beq z.cells.size (k + 1) = true
 i : runPure Tryz.prog (typeInfo e) = some (ti e)
 b : Nat.ble (ti e).bytes (2 ^ 8) = true
 kb : Nat.ble k 100 = true
theorem plain_indexAtK {P : Program} {t e : TypeId} {b off n cap k : Nat} {kd : IntKind} {j : Int} (hu : runPure P (underlying t) = some (.slice e)) (hs : runPure P (sizeOf e) = some k) (hj : 0 ≤ j ∧ j < n) :
   runPure P (Instr.indexAt t (.slice (some ⟨b, off, none⟩) n cap) (.int kd j)) = some (.pointer (some ⟨b, off + j.toNat * k, none⟩)) := by
 unfold Instr.indexAt
 simp only [asIntOf, runPure_bind, hu, runPure_pure, Option.bind_some, hj, and_self, if_true, hs, addr_plus]
section
variable {O : CallF} {T : List AV} {H H0 : AH} {ops : Array Oper} {o : Oper} {i : Nat} {π : List Stp} {K : AV → AH → Prop} {B : Nat → Nat → Prop} {KD : List AV → AH → Prop}
theorem o_lenR {c : Call} {t e : TypeId} {k : Nat} {x : Operand} {rows : List (List AV)} (ho : o.op = .call c) (hg : wantedA o ops T = true) (hc : c.callee = .builtin .len) (hargs : c.args.toList = [x]) (ht : c.argTypes.toList = [t]) [hu : TyR t e k] (hx : SlR (k + 1) H (av T x) rows) (hk : K (iv rows.length) H) : WOp (ENV O) ops o T H K := by
 refine wop_val (by rw [ho]; simp only [still, hc]) hg (r := iv rows.length) ?_ (Nat.le_refl _) hk
 unfold opEval; rw [ho]
 have h2 := hu.u
 simp only [ENV, oCall, hc, oBuiltin, hargs, oLen, lenOpA, arg0 ht, h2]
 cases hav : av T x with
 | v val =>
   rw [hav] at hx
   cases val with
   | slice a n cap => obtain ⟨rfl, _⟩ := hx; rfl
   | _ => exact hx.elim
 | slc b off n cap => rw [hav] at hx; obtain ⟨rfl, _⟩ := hx; rfl
 | slu b off n sz => rw [hav] at hx; obtain ⟨rfl, _⟩ := hx; rfl
 | _ => rw [hav] at hx; exact hx.elim
theorem idxR {t e : TypeId} {k : Nat} {x y : Operand} {j : Nat} {rows : List (List AV)} {r : List AV} (ho : o.op = .indexAddr t x y) [hu : TyR t e k] (hx : SlR (k + 1) H0 (av T x) rows) (hi : av T y = iv j) (hl : rows[j]? = some r) (hrl : r.length = k + 1) :
   ∃ p, (∀ H, opEval Tryz.prog TF T H o = some (.val p H)) ∧ (∀ H, mobEval Tryz.prog T H o = some p) ∧ PtR H0 p r ∧ p.own = (av T x).own := by
 have hj := (List.getElem?_eq_some_iff.1 hl).1
 have h2 := hu.u
 have h3 := hu.s
 cases hav : av T x with
 | v val =>
   rw [hav] at hx
   cases val with
   | slice a n cap =>
     obtain ⟨rfl, h⟩ := hx
     rcases h with rfl | ⟨b, off, vs, rfl, hgl, hv⟩
     · simp at hl
     have hidx := plain_indexAtK (P := Tryz.prog) (t := t) (b := b) (off := off) (cap := cap) (kd := .i64) (j := (j : Int)) (n := rows.length) h2 h3 ⟨by omega, by omega⟩
     simp only [Int.toNat_natCast] at hidx
     have hp : ∀ H' : AH, plainOp Tryz.prog T H' o = some (.val (.v (.pointer (some ⟨b, off + j * (k + 1), none⟩))) H') := fun H' => by
       unfold plainOp
       rw [ho]
       simp only [Op.operands, execOp, ho, hav, hi, AV.plain, Option.getD_some, runPure_bind, hidx, Option.bind_some, runPure_pure]
       simp [hav, hi, AV.plain]
     have hp2 : plainVal Tryz.prog T o = some (.v (.pointer (some ⟨b, off + j * (k + 1), none⟩))) := by
       unfold plainVal
       rw [ho]
       simp only [Op.operands, execOp, ho, hav, hi, AV.plain, Option.getD_some, runPure_bind, hidx, Option.bind_some, runPure_pure]
       simp [hav, hi, AV.plain]
     obtain ⟨h4, h5⟩ := hv j r hl
     exact ⟨.v (.pointer (some ⟨b, off + j * (k + 1), none⟩)), fun H' => by unfold opEval; rw [ho]; simp only [oIndexAddr, hav, isV, hp H'], fun H' => by unfold mobEval; rw [ho]; simp only [hav, isV, if_true, hp2], .inr ⟨b, _, vs, rfl, hgl, by rw [hrl]; exact h4, by omega⟩, rfl⟩
   | _ => exact hx.elim
 | slc b off n cap =>
   rw [hav] at hx
   obtain ⟨rfl, h39, cs, el, gr, hg', hv⟩ := hx
   have hb : Nat.blt j rows.length = true := Nat.ble_eq_true_of_le hj
   obtain ⟨h4, h5⟩ := hv j r hl
   have hm : indexAddrA Tryz.prog t (.slc b off rows.length cap) (.v (.int .i64 (j : Int))) = some (.ptr b (off + j * (k + 1))) := by
     unfold indexAddrA
     simp only [natA, h2, h3, hb, if_true]
   exact ⟨.ptr b (off + j * (k + 1)), fun H' => by unfold opEval; rw [ho]; simp only [oIndexAddr, hav, hi, isV, hm, rv], fun H' => by unfold mobEval; rw [ho]; simp only [hav, hi, isV, hm]; rfl, .inl ⟨b, _, cs, el, gr, rfl, h39, hg', by rw [hrl]; exact h4, by omega⟩, rfl⟩
 | slu b off n sz =>
   rw [hav] at hx
   obtain ⟨rfl, rfl, h39, cs, el, gr, hg', hv⟩ := hx
   have hb : Nat.blt j rows.length = true := Nat.ble_eq_true_of_le hj
   obtain ⟨h4, h5⟩ := hv j r hl
   have hm : indexAddrA Tryz.prog t (.slu b off rows.length (k + 1)) (.v (.int .i64 (j : Int))) = some (.ptr b (off + j * (k + 1))) := by
     unfold indexAddrA
     simp only [natA, h2, h3, hb, if_true]
   exact ⟨.ptr b (off + j * (k + 1)), fun H' => by unfold opEval; rw [ho]; simp only [oIndexAddr, hav, hi, isV, hm, rv], fun H' => by unfold mobEval; rw [ho]; simp only [hav, hi, isV, hm]; rfl, .inl ⟨b, _, cs, el, gr, rfl, h39, hg', by rw [hrl]; exact h4, by omega⟩, rfl⟩
 | _ => rw [hav] at hx; exact hx.elim
theorem o_indexR {t e : TypeId} {k : Nat} {x y : Operand} {j : Nat} {rows : List (List AV)} {r : List AV} (ho : o.op = .indexAddr t x y) (hg : wantedA o ops T = true) [hu : TyR t e k] (hx : SlR (k + 1) H (av T x) rows) (hi : av T y = iv j) (hl : rows[j]? = some r) (hrl : r.length = k + 1) (hk : ∀ p, PtR H p r → p.own = (av T x).own → K p H) : WOp (ENV O) ops o T H K := by
 obtain ⟨p, h1, h2, h3, h4⟩ := idxR (e := e) ho hx hi hl hrl
 exact wop_val (by rw [ho]; rfl) hg (r := p) (h1 H) (Nat.le_refl _) (hk p h3 h4)
theorem o_loadR {t : TypeId} {n : Nat} {x : Operand} {r : List AV} {p : AV} (ho : o.op = .load t x) (hg : wantedA o ops T = true) [h4 : Stru t n] (hp : PtR H p r) (hx : av T x = p) (hn : r.length = n) (hk : ∀ v : AV, v.cells = r → K v H) : WOp (ENV O) ops o T H K := by
 have h3 := h4.a
 have h5 := h4.s
 rcases hp with ⟨b, off, cs, e, g, rfl, h39, hgb, h1, h2⟩ | ⟨b, off, vs, rfl, hgl, h1, h2⟩
 · refine wop_val (by rw [ho]; rfl) hg (H' := H) (r := .agg r) ?_ (Nat.le_refl _) (hk _ rfl)
   unfold opEval; rw [ho]
   simp only [ENV, oLoad, hx, loadA, hgb, h3, h5]
   rw [if_pos (Nat.ble_eq_true_of_le (by omega)), ← hn, h1]
   rfl
 · refine wop_val (by rw [ho]; rfl) hg (H' := H) (r := .v (.agg ((vs.drop off).take n).toArray)) ?_ (Nat.le_refl _) (hk _ (by rw [← h1, ← hn]; rfl))
   unfold opEval; rw [ho]
   simp only [ENV, oLoad, hx, loadG, hgl, h3, h5]
   rw [if_pos (Nat.ble_eq_true_of_le (by omega))]
   rfl
end
def GR (H : AH) (e : TypeId) (k : Nat) (s : AV) (rows : List (List AV)) : Prop := (s = .v (.slice none 0 0) ∧ rows = []) ∨ ∃ b, b < H.next ∧ b < 2 ^ 59 ∧ s = .slu b 0 rows.length k ∧ H.get b = some (.cells rows.flatten e k)
theorem GR.sl {H : AH} {e : TypeId} {k : Nat} {s : AV} {rows : List (List AV)} (h : GR H e k s rows) (hk : ∀ r ∈ rows, r.length = k) : SlR k H s rows := by
 rcases h with ⟨rfl, rfl⟩ | ⟨b, h1, h2, rfl, h4⟩
 · exact ⟨rfl, .inl rfl⟩
 · exact ⟨rfl, rfl, h2, _, _, _, h4, fun j r hr => ⟨by rw [Nat.zero_add]; exact fl_get hk hr, by rw [Nat.zero_add]; exact row_le hk hr⟩⟩
theorem GR.old {H : AH} {e : TypeId} {k : Nat} {s : AV} {rows : List (List AV)} (h : GR H e k s rows) : Old H s := by
 rcases h with ⟨rfl, rfl⟩ | ⟨b, h1, h2, rfl, h4⟩
 · exact Old.v _
 · intro c hc; cases hc; exact h1
theorem GR.keep {H H' : AH} {e : TypeId} {k : Nat} {s : AV} {rows : List (List AV)} (h : GR H e k s rows) (kk : Keeps H H') : GR H' e k s rows := by
 rcases h with h | ⟨b, h1, h2, h3, h4⟩
 · exact .inl h
 · exact .inr ⟨b, Nat.lt_of_lt_of_le h1 kk.nx, h2, h3, (kk.get b h1).trans h4⟩
section
variable {O : CallF} {T : List AV} {H H0 : AH} {ops : Array Oper} {o : Oper} {i : Nat} {K : AV → AH → Prop}
theorem o_appendRL {c : Call} {t xt e e' : TypeId} {k k' : Nat} {s x : Operand} {rows : List (List AV)} {p : List AV} {bx : Nat} {ex : TypeId} {gx : Nat} (ho : o.op = .call c) (hg : wantedA o ops T = true) (hc : c.callee = .builtin .append) (hargs : c.args.toList = [s, x]) (ht : c.argTypes.toList = [t, xt]) [hu : TyR t e k] [hux : TyR xt e' k'] (hlen : rows.length + 1 ≤ 2 ^ 47) (hlb : (rows.length + 1) * (ti e).bytes ≤ 2 ^ 47) (hr : H.next < 2 ^ 59)
   (hx : av T x = .slc bx 0 1 1) (hbx : H.get bx = some (.cells p ex gx)) (hpl : p.length = k + 1) (hp1 : p.all AV.one = true) (hkk : ∀ r ∈ rows, r.length = k + 1) (hG : GR H e (k + 1) (av T s) rows)
   (hk : ∀ r H1, H1.next = H.next + 1 → H1.gl = H.gl → (∀ b, b ≠ H.next → (av T s).own ≠ some b → H1.get b = H.get b) → r = .slu H.next 0 (rows.length + 1) (k + 1) → GR H1 e (k + 1) r (rows ++ [p]) → K r H1) : WOp (ENV O) ops o T H K := by
 have hlt : Nat.blt H.next (2 ^ 59) = true := Nat.ble_eq_true_of_le hr
 have hfirst : firstA (k + 1) 1 (.slc bx 0 1 1) H = some p := by
   simp only [firstA, hbx]
   rw [if_pos (Nat.ble_eq_true_of_le (by omega)), List.drop_zero, List.take_of_length_le (by omega)]
 have hb := Nat.le_of_ble_eq_true hu.b
 have e1 : ∀ n : Nat, n = 1 ∨ n = rows.length + 1 → Nat.ble (n * (ti e).bytes) (2 ^ 47) = true := fun n hn => Nat.ble_eq_true_of_le (by
   rcases hn with rfl | rfl
   · rw [Nat.one_mul]; exact Nat.le_trans hb (by decide)
   · exact hlb)
 have e2 : ∀ n : Nat, n = 1 ∨ n = rows.length + 1 → Nat.ble n (2 ^ 47) = true := fun n hn => Nat.ble_eq_true_of_le (by rcases hn with rfl | rfl <;> omega)
 have h1 := hu.u; have h2 := hu.s; have h4 := hu.i; have h5 := hux.u
 obtain ⟨z, h3, hz0⟩ := hu.z
 have hpb : (p.all AV.one && Nat.beq p.length (1 * (k + 1))) = true := by rw [hp1, hpl, Nat.one_mul]; simp
 rcases hG with ⟨hs0, rfl⟩ | ⟨b, hbn, _, hs0, hgb⟩
 · refine wop_val (by rw [ho]; simp only [still, hc]) hg (r := .slu H.next 0 1 (k + 1)) (H' := H.add (.cells p e (k + 1))) ?_ (Nat.le_succ _) (hk _ _ rfl rfl (fun b hb _ => by rw [AH.get_add _ _ _ hr, if_neg hb]) rfl (.inr ⟨H.next, Nat.lt_succ_self _, hr, rfl, by rw [AH.get_add _ _ _ hr, if_pos rfl]; simp⟩))
   unfold opEval; rw [ho]
   simp only [ENV, oCall, hc, oBuiltin, hargs, appendA, arg0 ht, arg1 ht, h1, h5, isIntD, h4, h2, h3, lenA, hx, hs0]
   rw [if_pos hz0, hfirst]
   simp only
   rw [if_pos hpb, if_pos (show (Nat.beq 0 0 && Nat.beq 0 0) = true from rfl), if_neg (by decide), if_pos (by rw [e1 1 (.inl rfl), e2 1 (.inl rfl)]; rfl)]
   simp only [newU, hlt, if_true, Option.map_some]
 · have hb39 : b < 2 ^ 59 := Nat.lt_trans hbn hr
   refine wop_val (by rw [ho]; simp only [still, hc]) hg (r := .slu H.next 0 (rows.length + 1) (k + 1)) (H' := (H.set b none).add (.cells (rows.flatten ++ p) e (k + 1))) ?_ (Nat.le_succ _)
     (hk _ _ rfl rfl (fun c hc1 hc2 => ?_) rfl (.inr ⟨H.next, Nat.lt_succ_self _, hr, by simp, ?_⟩))
   · unfold opEval; rw [ho]
     simp only [ENV, oCall, hc, oBuiltin, hargs, appendA, arg0 ht, arg1 ht, h1, h5, isIntD, h4, h2, h3, lenA, hx, hs0]
     rw [if_pos hz0, hfirst]
     simp only
     rw [if_pos hpb]
     simp only [hgb]
     rw [if_pos (by rw [e1 (rows.length + 1) (.inr rfl), e2 (rows.length + 1) (.inr rfl), fl_len hkk]; simp)]
     simp only [newU, show (H.set b none).next = H.next from rfl, hlt, if_true, Option.map_some]
   · rw [AH.get_add (H.set b none) _ _ hr, if_neg (show ¬ c = (H.set b none).next from hc1), AH.get_set _ _ _ _ hb39, if_neg (fun e => hc2 (by rw [hs0, e]; rfl))]
   · rw [List.flatten_append, List.flatten_singleton]
     exact (AH.get_add (H.set b none) _ _ hr).trans (if_pos rfl)
theorem o_appendRR {c : Call} {t xt e e' : TypeId} {k k' : Nat} {s x : Operand} {rows : List (List AV)} {p : List AV} {bx : Nat} {ex : TypeId} {gx : Nat} (ho : o.op = .call c) (hg : wantedA o ops T = true) (hc : c.callee = .builtin .append) (hargs : c.args.toList = [s, x]) (ht : c.argTypes.toList = [t, xt]) [hu : TyR t e k] [hux : TyR xt e' k'] (hlen : rows.length < 2 ^ 30) (hr : H.next < 2 ^ 59)
   (hx : av T x = .slc bx 0 1 1) (hbx : H.get bx = some (.cells p ex gx)) (hpl : p.length = k + 1) (hp1 : p.all AV.one = true) (hkk : ∀ r ∈ rows, r.length = k + 1) (hG : GR H e (k + 1) (av T s) rows)
   (hk : ∀ r H1, H1.next = H.next + 1 → H1.gl = H.gl → (∀ b, b ≠ H.next → (av T s).own ≠ some b → H1.get b = H.get b) → r = .slu H.next 0 (rows.length + 1) (k + 1) → GR H1 e (k + 1) r (rows ++ [p]) → K r H1) : WOp (ENV O) ops o T H K := by
 have hb := Nat.le_of_ble_eq_true hu.b
 exact o_appendRL ho hg hc hargs ht (by omega) (by
   have := Nat.mul_le_mul (show rows.length + 1 ≤ 2 ^ 30 by omega) hb
   exact Nat.le_trans this (by decide)) hr hx hbx hpl hp1 hkk hG hk
theorem o_appendR {c : Call} {t xt e e' : TypeId} {k k' : Nat} {s x : Operand} {rows : List (List AV)} {p : List AV} {bx : Nat} {ex : TypeId} {gx : Nat} (ho : o.op = .call c) (hg : wantedA o ops T = true) (hc : c.callee = .builtin .append) (hargs : c.args.toList = [s, x]) (ht : c.argTypes.toList = [t, xt]) [hu : TyR t e k] [hux : TyR xt e' k'] (hlen : rows.length < 2 ^ 30) (hr : H.next < 2 ^ 59)
   (hx : av T x = .slc bx 0 1 1) (hbx : H.get bx = some (.cells p ex gx)) (hpl : p.length = k + 1) (hp1 : p.all AV.one = true) (hkk : ∀ r ∈ rows, r.length = k + 1) (hG : GR H e (k + 1) (av T s) rows) (hno : ∀ d, (av T s).own = some d → H0.next ≤ d) (hk0 : Keeps H0 H)
   (hk : ∀ r H1, H1.next = H.next + 1 → Keeps H0 H1 → (∀ d, r.own = some d → H0.next ≤ d) → GR H1 e (k + 1) r (rows ++ [p]) → K r H1) : WOp (ENV O) ops o T H K := by
 refine o_appendRR ho hg hc hargs ht hlen hr hx hbx hpl hp1 hkk hG fun r H1 n1 gl1 f1 hr1 hG1 => hk r H1 n1 ⟨by have := hk0.nx; omega, gl1.trans hk0.gl, fun d hd => (f1 d (by have := hk0.nx; omega) (fun e => by have := hno d e; omega)).trans (hk0.get d hd)⟩ (fun d hd => ?_) hG1
 subst hr1
 cases hd
 exact hk0.nx
theorem o_appendRM {c : Call} {t xt e e' : TypeId} {k k' : Nat} {s x : Operand} {rows : List (List AV)} {p : List AV} {bx : Nat} {ex : TypeId} {gx : Nat} (ho : o.op = .call c) (hg : wantedA o ops T = true) (hc : c.callee = .builtin .append) (hargs : c.args.toList = [s, x]) (ht : c.argTypes.toList = [t, xt]) [hu : TyR t e k] [hux : TyR xt e' k'] (hlen : rows.length + 1 ≤ 2 ^ 47) (hlb : (rows.length + 1) * (ti e).bytes ≤ 2 ^ 47) (hr : H.next < 2 ^ 59)
   (hx : av T x = .slc bx 0 1 1) (hbx : H.get bx = some (.cells p ex gx)) (hpl : p.length = k + 1) (hp1 : p.all AV.one = true) (hkk : ∀ r ∈ rows, r.length = k + 1) (hG : GR H e (k + 1) (av T s) rows) (hno : ∀ d, (av T s).own = some d → H0.next ≤ d) (hk0 : Keeps H0 H)
   (hk : ∀ r H1, H1.next = H.next + 1 → Keeps H0 H1 → (∀ d, r.own = some d → H0.next ≤ d) → GR H1 e (k + 1) r (rows ++ [p]) → K r H1) : WOp (ENV O) ops o T H K := by
 refine o_appendRL ho hg hc hargs ht hlen hlb hr hx hbx hpl hp1 hkk hG fun r H1 n1 gl1 f1 hr1 hG1 => hk r H1 n1 ⟨by have := hk0.nx; omega, gl1.trans hk0.gl, fun d hd => (f1 d (by have := hk0.nx; omega) (fun e => by have := hno d e; omega)).trans (hk0.get d hd)⟩ (fun d hd => ?_) hG1
 subst hr1
 cases hd
 exact hk0.nx
theorem o_build1R {t e : TypeId} {k : Nat} {x : Operand} {p : List AV} (ho : o.op = .buildSlice t 1 #[(0, x)]) (hg : wantedA o ops T = true) [hu : TyR t e k] (hx : (av T x).cells = p) (hpl : p.length = k + 1) (hr : H.next < 2 ^ 59)
   (hk : K (.slc H.next 0 1 1) (H.add (.cells p e 0))) : WOp (ENV O) ops o T H K := by
 refine wop_val (by rw [ho]; rfl) hg (r := .slc H.next 0 1 1) (H' := H.add (.cells p e 0)) ?_ (Nat.le_succ _) hk
 have hlt : Nat.blt H.next (2 ^ 59) = true := Nat.ble_eq_true_of_le hr
 unfold opEval; rw [ho]
 have h1 := hu.u
 have h2 := hu.s
 obtain ⟨z, h3, h4⟩ := hu.z
 have hz : z.cells.size = k + 1 := Nat.eq_of_beq_eq_true h4
 simp only [ENV, buildSliceA, h1, h2, h3]
 rw [if_pos (Nat.ble_eq_true_of_le (by have := Nat.le_of_ble_eq_true hu.kb; omega))]
 simp [fillA, hx, wr, newA, hlt, hpl, hz]
 rw [List.drop_eq_nil_of_le (by simp), List.append_nil]
end
end Go.Ev
namespace Go.Ev
open Go.Proofs
theorem first_slX {H : AH} {x : AV} {l : List Int} (h : Sl H x (ivs l)) (hne : l ≠ []) : lenA x = some l.length ∧ firstA 1 l.length x H = some (ivs l) := by
 have hpos : 0 < l.length := List.length_pos_iff.2 hne
 have key : ∀ (cs : List AV) (off : Nat), (∀ (j : Nat) (v : AV), (ivs l)[j]? = some v → cs[off + j]? = some v) → (if Nat.ble (off + l.length * 1) cs.length = true then some ((cs.drop off).take (l.length * 1)) else none) = some (ivs l) := fun cs off hv => by
   have hle : off + l.length ≤ cs.length := by
     obtain ⟨z, hz⟩ := l_some (show l.length - 1 < l.length by omega)
     have := hv _ _ (ivs_get hz)
     have := (List.getElem?_eq_some_iff.1 this).1
     omega
   rw [if_pos (Nat.ble_eq_true_of_le (by omega))]
   congr 1
   apply List.ext_getElem?
   intro j
   rw [Nat.mul_one, List.getElem?_take, List.getElem?_drop]
   rcases Nat.lt_or_ge j l.length with hj | hj
   · rw [if_pos hj]
     obtain ⟨w, hw⟩ := l_some hj
     rw [hv _ _ (ivs_get hw), ivs_get hw]
   · rw [if_neg (by omega), List.getElem?_eq_none (by rw [ivs_length]; exact hj)]
 cases x with
 | v val =>
   have := first_sl h
   rw [ivs_length] at this
   exact this
 | slc b off n cap =>
   obtain ⟨hn, h39, cs, el, gr, hg', hv⟩ := h
   rw [ivs_length] at hn
   subst hn
   refine ⟨rfl, ?_⟩
   simp only [firstA, hg']
   exact key cs off hv
 | slu b off n sz =>
   obtain ⟨hn, h39, rfl, cs, el, gr, hg', hv⟩ := h
   rw [ivs_length] at hn
   subst hn
   refine ⟨rfl, ?_⟩
   simp only [firstA, hg']
   exact key cs off hv
 | _ => exact h.elim
section
variable {O : CallF} {T : List AV} {H H0 : AH} {ops : Array Oper} {o : Oper} {i : Nat} {π : List Stp}
theorem o_appendX {K : AV → AH → Prop} {c : Call} {t xt e' : TypeId} {s x : Operand} {y : AV} {l : List Int} {b : Nat} (ho : o.op = .call c) (hg : wantedA o ops T = true) (hc : c.callee = .builtin .append) (hargs : c.args.toList = [s, x]) (ht : c.argTypes.toList = [t, xt]) [hu : TyS t 3] [hux : TyS xt e']
   (hlen : l.length ≤ 2 ^ 30) (hr : H.next < 2 ^ 59) (hsx : av T s = .slc b 0 0 0) (hbn : b < H.next) (hgb : H.get b = some (.cells [] 3 0)) (hx : av T x = y) (hy : Sl H y (ivs l)) (hne : l ≠ []) (hb0 : H0.next ≤ b) (hk0 : Keeps H0 H)
   (hk : ∀ a H4, Ap H4 a l → (∀ d, a.own = some d → H0.next ≤ d) → Keeps H0 H4 → H4.next ≤ H.next + 1 → H.next ≤ H4.next → K a H4) : WOp (ENV O) ops o T H K := by
 obtain ⟨f1, f2⟩ := first_slX hy hne
 have hz : Zero 3 (.int .i64 0) := inferInstance
 have hs : Cell 3 := inferInstance
 have hb39 : b < 2 ^ 59 := by omega
 refine wop_appendE ho hg hc hargs (arg0 ht) (arg1 ht) hu.u hux.u hz.i hs.s hz.z (by rw [hz.c]; rfl) (Nat.le_of_ble_eq_true hz.b) hlen hr hsx hgb (by rw [hx]; exact f1) (by rw [hx]; exact f2) (ivs_one l) (ivs_length l) (fun h0 => ?_) (fun h0 => ?_)
 · have e : l = [] := List.eq_nil_of_length_eq_zero h0
   exact absurd e hne
 · exact hk _ _ (.inr (.inr ⟨H.next, rfl, Nat.lt_succ_self _, hr, get_add_eq hr⟩)) (fun d hd => by cases hd; have := hk0.nx; omega) (hk0.add _ hr) (Nat.le_refl _) (Nat.le_succ _)
theorem o_nilEqC {K : AV → AH → Prop} {t yt : TypeId} {x : Operand} {b off n sz : Nat} (ho : o.op = .binOp .eql t x (.const (.slice none 0 0)) yt) (hg : wantedA o ops T = true) (ht : t = 24) (hx : av T x = .slc b off n sz) (hk : K (.v (.bool false)) H) : WOp (ENV O) ops o T H K := by
 subst ht
 refine wop_val (by rw [ho]; rfl) hg (r := .v (.bool false)) ?_ (Nat.le_refl _) hk
 unfold opEval; rw [ho]
 have hc : av T (.const (.slice none 0 0)) = .v (.slice none 0 0) := rfl
 have h0 : nilEqA Tryz.prog 24 (.slc b off n sz) (.v (.slice none 0 0)) = true := by rfl
 simp only [ENV, oBin, oBinSlow, hx, hc, h0]
end
variable {O : CallF} (hq : Quiet O)
include hq
theorem cCloneK (H : AH) (y : AV) (l : List Int) (hy : Sl H y (ivs l)) (hoy : Old H y) (hne : l ≠ []) (hl : l.length ≤ 1000) (hr : H.next + 10 < 2 ^ 59)
   (K : AV → AH → Prop) (hk : ∀ H' r, Keeps H H' → H'.next ≤ H.next + 2 → Ap H' r l → (∀ b, r.own = some b → H.next ≤ b) → K r H') : Ca (ENV O) 139 [y] H K := by
 have r0 : H.next < 2 ^ 59 := by omega
 cases y with
 | v val => exact cClone hq H val l hy hl hr K hk
 | slc b off n cap =>
   refine ca_intro (hq _ _ _ rfl) (fn := Tryz.f139) (by rfl) rfl ?_
   repeat (first | apply qN | refine qM rfl rfl ?_ | apply qR | apply qS)
   refine wops_cons (o_nilEqC rfl rfl rfl rfl ?_)
   repeat (first | apply qN | refine qF rfl ?_ | apply qR | apply qS | apply qK)
   refine wops_cons (o_build0 rfl rfl r0 ?_)
   refine WOps.mem (fun H1 => Keeps H H1 ∧ H1.next = H.next + 1 ∧ H1.get H.next = some (.cells [] 3 0)) ⟨(Keeps.refl H).add _ r0, rfl, get_add_eq r0⟩ ?_
   rintro H1 ⟨k1, n1, g1⟩
   show WOps _ _ _ _ _ _
   repeat (first | refine qM rfl rfl ?_)
   refine wops_cons (o_appendX (H0 := H) (l := l) rfl rfl rfl rfl rfl (by omega) (by omega) rfl (by omega) g1 rfl (hy.keep hoy k1) hne (Nat.le_refl _) k1 fun r H2 hA hn k2 n2 _ => ?_)
   repeat (first | apply qN | refine qM rfl rfl ?_)
   refine wp_ret ?_
   exact ⟨_, _, rfl, hk H2 r k2 (by omega) hA hn⟩
 | slu b off n sz =>
   refine ca_intro (hq _ _ _ rfl) (fn := Tryz.f139) (by rfl) rfl ?_
   repeat (first | apply qN | refine qM rfl rfl ?_ | apply qR | apply qS)
   refine wops_cons (o_nilEqU rfl rfl rfl rfl ?_)
   repeat (first | apply qN | refine qF rfl ?_ | apply qR | apply qS | apply qK)
   refine wops_cons (o_build0 rfl rfl r0 ?_)
   refine WOps.mem (fun H1 => Keeps H H1 ∧ H1.next = H.next + 1 ∧ H1.get H.next = some (.cells [] 3 0)) ⟨(Keeps.refl H).add _ r0, rfl, get_add_eq r0⟩ ?_
   rintro H1 ⟨k1, n1, g1⟩
   show WOps _ _ _ _ _ _
   repeat (first | refine qM rfl rfl ?_)
   refine wops_cons (o_appendX (H0 := H) (l := l) rfl rfl rfl rfl rfl (by omega) (by omega) rfl (by omega) g1 rfl (hy.keep hoy k1) hne (Nat.le_refl _) k1 fun r H2 hA hn k2 n2 _ => ?_)
   repeat (first | apply qN | refine qM rfl rfl ?_)
   refine wp_ret ?_
   exact ⟨_, _, rfl, hk H2 r k2 (by omega) hA hn⟩
 | _ => exact hy.elim
theorem c80x (H : AH) (r : Ru) (k : Tk) (rv kv : AV) (x y : AV) (tk gp : List Int) (j : Nat) (z g : Int) (hrv : rv.cells = r.cs) (hkv : kv.cells = k.cs) (hT : Tkd r tk gp k j z g) (hx : Ky H x tk) (hy : Ky H y gp) (hr : H.next + 200 < 2 ^ 59) (K : AV → AH → Prop)
   (hk : ∀ H' b c, Keeps H H' → H'.next ≤ H.next + 60 → Own H' b (tk.set j (z + 1)) → Own H' c (gp.set j (gapA r k g)) → H.next ≤ b → H.next ≤ c → K (.agg [.slu b 0 tk.length 1, .slu c 0 gp.length 1]) H') : Ca (ENV O) 80 [rv, .agg [x, y], kv] H K := by
 refine ca_intro (hq _ _ _ rfl) (fn := Tryz.f80) (by rfl) rfl ?_
 have r0 : H.next < 2 ^ 59 := by omega
 have hl := hT.lens
 have hgne : gp ≠ [] := fun e => by rw [e] at hl; have := hT.ne; cases tk with | nil => exact this rfl | cons => simp at hl
 have hjl : j < tk.length := (List.getElem?_eq_some_iff.1 hT.z).1
 repeat (first | apply qR | apply qS)
 refine wops_cons (o_boxS (cs := r.cs) rfl rfl hrv r0 fun H1 n1 k1 b1 => ?_)
 have r1 : H1.next < 2 ^ 59 := by omega
 refine wops_cons (o_boxS (cs := [x, y]) rfl rfl rfl r1 fun H2 n2 k2 b2 => ?_)
 have r2 : H2.next < 2 ^ 59 := by omega
 refine wops_cons (o_boxS (cs := k.cs) rfl rfl hkv r2 fun H3 n3 k3 b3 => ?_)
 have r3 : H3.next < 2 ^ 59 := by omega
 refine wops_cons (o_allocA (zs := [.v (.slice none 0 0), .v (.slice none 0 0)]) rfl rfl (z := .agg #[.slice none 0 0, .slice none 0 0]) (by kernel_rfl) rfl r3 ?_)
 refine WOps.mem (fun H4 => Keeps H3 H4 ∧ H4.next = H3.next + 1 ∧ H4.get H3.next = some (.cells [.v (.slice none 0 0), .v (.slice none 0 0)] 26 0)) ⟨(Keeps.refl H3).add _ r3, rfl, get_add_eq r3⟩ ?_
 rintro H4 ⟨k4, n4, g4⟩
 have x1 := k1.nx
 have x2 := k2.nx
 have x3 := k3.nx
 have k03 := (k1.trans k2).trans k3
 have k04 := k03.trans k4
 have b1 := b1.keep (by omega) ((k2.trans k3).trans k4)
 have b2 := b2.keep (by omega) (k3.trans k4)
 have b3 := b3.keep (by omega) k4
 show WOps _ _ _ _ _ _
 repeat (first | apply qN | refine zqb rfl rfl rfl ‹_› ?_ | apply qR | apply qS)
 refine wops_cons (wop_callF rfl rfl rfl (fn := Tryz.f138) (by rfl) ?_)
 refine c138 hq H4 r k _ _ _ _ tk gp j z g rfl rfl hT (hx.keep k04) (hy.keep k04) (by omega) _ fun H5 k5 n5 => ⟨k5.nx, ?_⟩
 have x5 := k5.nx
 have r5 : H5.next < 2 ^ 59 := by omega
 have k45 := k5
 skip
 refine wops_cons (o_allocA (zs := [iv 0, iv 0]) rfl rfl (z := .agg #[.int .i64 0, .int .i64 0]) (by kernel_rfl) rfl r5 ?_)
 refine wops_cons (o_storeA (n := 2) (vs := [iv (z + 1), iv (gapA r k g)]) rfl rfl (by kernel_rfl) rfl rfl rfl rfl (get_add_eq r5) (Nat.le_refl _) ?_)
 refine WOps.mem (fun H6 => Keeps H5 H6 ∧ H6.next = H5.next + 1 ∧ Bk H6 H5.next 189 [iv (z + 1), iv (gapA r k g)]) ⟨((Keeps.refl H5).add _ r5).set _ (Nat.le_refl _) r5, rfl, ⟨r5, get_set_eq r5⟩⟩ ?_
 rintro H6 ⟨k6, n6, b6⟩
 have x6 := k6.nx
 have r6 : H6.next < 2 ^ 59 := by omega
 have k46 := k5.trans k6
 have k06 := k04.trans k46
 have b26 := b2.keep (by omega) k46
 have hx6 := hx.keep k06
 have hy6 := hy.keep k06
 have s0 : At H6 (.ptr H1.next 0) x := b26.at rfl
 have s1 : At H6 (.ptr H1.next 1) y := b26.at rfl
 have sb : beqs [x, y] [x, y] = true := by simp [beqs, hx6.sl.beq, hy6.sl.beq]
 have M := fun n => lkP (n := n) b26 (by omega) sb
 show WOps _ _ _ _ _ _
 repeat (first | apply qN | apply qS)
 refine wp_drawK rfl ?_
 refine k_field rfl rfl rfl rfl ?_
 refine k_load rfl rfl rfl s0 (M _) ?_
 refine k_field rfl rfl rfl rfl ?_
 refine k_load rfl rfl rfl s1 (M _) ?_
 refine k_call rfl rfl rfl (fun b h => by cases h) (wop_callF rfl rfl rfl (fn := Tryz.f139) (by rfl) ?_)
 refine cCloneK hq H6 x tk hx6.sl hx6.old hT.ne (by omega) (by omega) _ fun H7 c1 k7 n7 hA1 hn1 => ⟨k7.nx, k7, ?_⟩
 have x7 := k7.nx
 refine k_call rfl rfl rfl (fun b h => by cases h) (wop_callF rfl rfl rfl (fn := Tryz.f139) (by rfl) ?_)
 refine cCloneK hq H7 y gp (hy6.keep k7).sl (hy6.keep k7).old hgne (by omega) (by omega) _ fun H8 c2 k8 n8 hA2 hn2 => ⟨k8.nx, k7.trans k8, ?_⟩
 have x8 := k8.nx
 have r8 : H8.next < 2 ^ 59 := by omega
 obtain ⟨a1, rfl, hO1⟩ := hA1.own1 hT.ne
 obtain ⟨a2, rfl, hO2⟩ := hA2.own1 (fun e => by rw [e] at hl; have := hT.ne; cases tk with | nil => exact this rfl | cons => simp at hl)
 have ha1 := hn1 a1 rfl
 have ha2 := hn2 a2 rfl
 have ha12 : a1 < a2 := by have := hO1.1; omega
 have hO1 := hO1.keep k8
 refine k_buildS rfl rfl rfl rfl rfl rfl rfl ?_
 refine k_allocA (zs := [.v (.slice none 0 0), .v (.slice none 0 0)]) rfl rfl rfl (z := .agg #[.slice none 0 0, .slice none 0 0]) (by kernel_rfl) rfl r8 ?_
 refine k_loud rfl rfl (o_storeA (n := 2) (vs := [.slu a1 0 tk.length 1, .slu a2 0 gp.length 1]) rfl rfl (by kernel_rfl) rfl rfl rfl rfl (get_add_eq r8) (Nat.le_refl _) ⟨((k7.trans k8).add _ r8).set _ (by omega) r8, ?_⟩)
 refine WK.mem (fun H9 => Keeps H8 H9 ∧ H9.next = H8.next + 1 ∧ Bk H9 H8.next 26 [.slu a1 0 tk.length 1, .slu a2 0 gp.length 1]) ⟨((Keeps.refl H8).add _ r8).set _ (Nat.le_refl _) r8, rfl, ⟨r8, get_set_eq r8⟩⟩ ?_
 rintro H9 ⟨k9, n9, b9⟩
 have x9 := k9.nx
 have k69 := (k7.trans k8).trans k9
 have k49 := k46.trans k69
 have k09 := k04.trans k49
 have hO19 := hO1.keep k9
 have hO29 := hO2.keep k9
 have b39 := b3.keep (by omega) k49
 have b69 := b6.keep (by omega) k69
 have g49 := (k49.get _ (by omega)).trans g4
 have q0 : At H9 (.ptr H2.next 0) (iv (j : Nat)) := by rw [← hT.a]; exact b39.at rfl
 have t80 : At H9 (.ptr H8.next 0) (.slu a1 0 tk.length 1) := b9.at rfl
 have t81 : At H9 (.ptr H8.next 1) (.slu a2 0 gp.length 1) := b9.at rfl
 have t70 : At H9 (.ptr H5.next 0) (iv (z + 1)) := b69.at rfl
 have t71 : At H9 (.ptr H5.next 1) (iv (gapA r k g)) := b69.at rfl
 have a18 := hO1.1
 have a28 := hO2.1
 have a19 := hO19.2.1
 have a29 := hO29.2.1
 have sm : ∀ b, b = H8.next ∨ b = H2.next ∨ b = H5.next → sameBlk (H9.get b) (H9.get b) = true := fun b hb => by
   rcases hb with rfl | rfl | rfl
   · rw [b9.g]; simp [sameBlk, beqs, AV.beq]
   · rw [b39.g]; simp [sameBlk, tk_beq]
   · rw [b69.g]; simp [sameBlk, beqs, AV.beq, iv, vbeq]
 have nb : ∀ b, b = H8.next ∨ b = H2.next ∨ b = H5.next → b ≠ a1 ∧ b ≠ a2 := fun b hb => by
   rcases hb with rfl | rfl | rfl <;> omega
 show WK _ _ _ _ _ _ _
 repeat (first | refine k_nil ?_ | apply qS)
 refine wp_drawY (fun _ b => b = H8.next ∨ b = H2.next ∨ b = H5.next) rfl ?_
 refine y_field rfl rfl rfl rfl ?_
 refine y_load rfl rfl rfl t80 (fun b hb => by cases hb; exact .inl rfl) ?_
 refine y_field rfl rfl rfl rfl ?_
 refine y_load rfl rfl rfl q0 (fun b hb => by cases hb; exact .inr (.inl rfl)) ?_
 refine y_field rfl rfl rfl rfl ?_
 refine y_load rfl rfl rfl t81 (fun b hb => by cases hb; exact .inl rfl) ?_
 refine y_field rfl rfl rfl rfl ?_
 refine y_load rfl rfl rfl q0 (fun b hb => by cases hb; exact .inr (.inl rfl)) ?_
 refine y_field rfl rfl rfl rfl ?_
 refine y_load rfl rfl rfl t70 (fun b hb => by cases hb; exact .inr (.inr rfl)) ?_
 refine y_field rfl rfl rfl rfl ?_
 refine y_load rfl rfl rfl t71 (fun b hb => by cases hb; exact .inr (.inr rfl)) ?_
 refine y_indexU rfl rfl rfl rfl rfl hjl ?_
 refine y_loud rfl rfl (o_store rfl rfl rfl hO19.2.2 (by rw [ivs_length]; exact hjl) rfl ⟨fun _ b hb => .inr (by rw [get_set_ne a19 (nb b hb).1]; exact sm b hb), ?_⟩)
 refine y_indexU rfl rfl rfl rfl rfl (by omega) ?_
 refine y_loud rfl rfl (o_store rfl rfl rfl ((get_set_ne a19 (by omega)).trans hO29.2.2) (by rw [ivs_length]; omega) rfl ⟨fun _ b hb => .inr (by rw [get_set_ne a29 (nb b hb).2, get_set_ne a19 (nb b hb).1]; exact sm b hb), ?_⟩)
 refine y_nil ?_
 refine Wp.mem (fun H10 => Keeps H H10 ∧ H10.next = H9.next ∧ Bk H10 H8.next 26 [.slu a1 0 tk.length 1, .slu a2 0 gp.length 1] ∧ Own H10 a1 (tk.set j (z + 1)) ∧ Own H10 a2 (gp.set j (gapA r k g)) ∧ H10.get H3.next = some (.cells [.v (.slice none 0 0), .v (.slice none 0 0)] 26 0)) ⟨?_, rfl, ⟨r8, ?_⟩, ⟨by show a1 < H9.next; omega, a19, ?_⟩, ⟨by show a2 < H9.next; omega, a29, ?_⟩, ?_⟩ ?_
 · exact (k09.set _ (by omega) a19).set _ (by omega) a29
 · rw [get_set_ne a29 (by omega), get_set_ne a19 (by omega)]; exact b9.g
 · rw [get_set_ne a29 (by omega), get_set_eq a19, ← ivs_set]; rfl
 · rw [get_set_eq a29, ← ivs_set]; rfl
 · rw [get_set_ne a29 (by omega), get_set_ne a19 (by omega)]; exact g49
 rintro H10 ⟨k10, n10, b10, hP1, hP2, g10⟩
 repeat (first | refine zqb rfl rfl rfl ‹_› ?_ | apply qR | apply qS)
 refine wops_cons (o_storeA (n := 2) (vs := [.slu a1 0 tk.length 1, .slu a2 0 gp.length 1]) rfl rfl (by kernel_rfl) rfl rfl rfl rfl g10 (Nat.le_refl _) ?_)
 refine WOps.mem (fun H11 => Keeps H H11 ∧ H11.next = H10.next ∧ H11.get H3.next = some (.cells [.slu a1 0 tk.length 1, .slu a2 0 gp.length 1] 26 0) ∧ Own H11 a1 (tk.set j (z + 1)) ∧ Own H11 a2 (gp.set j (gapA r k g))) ⟨k10.set _ (by omega) r3, rfl, get_set_eq r3, ⟨hP1.1, a19, by rw [get_set_ne r3 (by omega)]; exact hP1.2.2⟩, ⟨hP2.1, a29, by rw [get_set_ne r3 (by omega)]; exact hP2.2.2⟩⟩ ?_
 rintro H11 ⟨k11, n11, g11, hQ1, hQ2⟩
 repeat (first | apply qN)
 refine Wp.cut (fun T => ∃ Y : List AV, T = (lget Y 0 :: lget Y 1 :: lget Y 2 :: lget Y 3 :: lget Y 4 :: lget Y 5 :: .ptr H3.next 0 :: lget Y 6 :: lget Y 7 :: lget Y 8 :: lget Y 9 :: lget Y 10 :: lget Y 11 :: lget Y 12 :: lget Y 13 :: lget Y 14 :: lget Y 15 :: lget Y 16 :: lget Y 17 :: lget Y 18 :: lget Y 19 :: lget Y 20 :: lget Y 21 :: lget Y 22 :: lget Y 23 :: lget Y 24 :: lget Y 25 :: lget Y 26 :: lget Y 27 :: lget Y 28 :: lget Y 29 :: lget Y 30 :: lget Y 31 :: lget Y 32 :: lget Y 33 :: [])) ⟨[_,_,_,_,_,_,_,_,_,_,_,_,_,_,_,_,_,_,_,_,_,_,_,_,_,_,_,_,_,_,_,_,_,_], rfl⟩ ?_
 rintro T ⟨Y, rfl⟩
 refine wp_ret ?_
 refine ⟨.agg [.slu a1 0 tk.length 1, .slu a2 0 gp.length 1], H11, ?_, hk H11 a1 a2 k11 (by omega) hQ1 hQ2 (by omega) (by omega)⟩
 have hres : resA Tryz.prog (lget Y 0 :: lget Y 1 :: lget Y 2 :: lget Y 3 :: lget Y 4 :: lget Y 5 :: .ptr H3.next 0 :: lget Y 6 :: lget Y 7 :: lget Y 8 :: lget Y 9 :: lget Y 10 :: lget Y 11 :: lget Y 12 :: lget Y 13 :: lget Y 14 :: lget Y 15 :: lget Y 16 :: lget Y 17 :: lget Y 18 :: lget Y 19 :: lget Y 20 :: lget Y 21 :: lget Y 22 :: lget Y 23 :: lget Y 24 :: lget Y 25 :: lget Y 26 :: lget Y 27 :: lget Y 28 :: lget Y 29 :: lget Y 30 :: lget Y 31 :: lget Y 32 :: lget Y 33 :: []) H11 Tryz.f80.results.toList = some [.agg [.slu a1 0 tk.length 1, .slu a2 0 gp.length 1]] := by
   show (match loadA Tryz.prog 26 H3.next 0 H11, (some [] : Option (List AV)) with | some x, some m => some (x :: m) | _, _ => none) = _
   rw [load2 g11]
 unfold leaveM resultsA
 simp only [takeMarks]
 rw [show (ENV O).P = Tryz.prog from rfl, hres]
end Go.Ev
