/- Part of an evaluator of calls that is proved sound, and of what it gives about this program. No condition of its own. -/
import Derived.Test.YtdpbhlkcliijnaaGreatDoorEvDa
set_option linter.unusedVariables false
set_option linter.unusedSimpArgs false
set_option linter.unusedSectionVars false
set_option maxRecDepth 100000
set_option maxHeartbeats 4000000
namespace Go.Ev
open Go.Proofs
section
variable {O : CallF} {T : List AV} {H H0 : AH} {ops : Array Oper} {o : Oper} {i : Nat} {π : List Stp}
theorem slP {H : AH} {b n cp g : Nat} {e : TypeId} {ms : List (Int × Int)} (h39 : b < 2 ^ 39) (hgb : H.get b = some (.cells (fl2 ms) e g)) (hn : ms.length = n) : Sl H (.slc b 0 n cp) ((fl2 ms).take n) :=
 ⟨by rw [List.length_take, fl2_len]; omega, h39, _, _, _, hgb, fun j v hj => by
   rw [Nat.zero_add]
   rw [List.getElem?_take] at hj
   split at hj
   · exact hj
   · cases hj⟩
theorem k_lenP {K : List AV → AH → Prop} {c : Call} {t e e' : TypeId} {x : Operand} {b n cp g : Nat} {ms : List (Int × Int)} (h1 : ops.toList[i]? = some o) (ho : o.op = .call c) (hg : wantedA o ops T = true) (hc : c.callee = .builtin .len) (hargs : c.args.toList = [x]) (ht : c.argTypes.toList = [t]) [hu : TyP t e] (hx : av T x = .slc b 0 n cp) (h39 : b < 2 ^ 39) (hgb : H0.get b = some (.cells (fl2 ms) e' g)) (hn : ms.length = n)
   (hk : WK (ENV O) ops H0 π (putA T o.dst (iv n)) H K) : WK (ENV O) ops H0 (.mob i :: π) T H K := by
 have hS : Sl H0 (av T x) ((fl2 ms).take n) := by rw [hx]; exact slP h39 hgb hn
 have hl : ((fl2 ms).take n).length = n := by rw [List.length_take, fl2_len]; omega
 exact k_0 h1 (by unfold looksB; rw [ho]) hg (wd_lenA h1 ho hg hc hargs ht hu.u hS (by rw [hl]; rfl)) hk
theorem k_allocA {K : List AV → AH → Prop} {t : TypeId} {z : Value} {zs : List AV} (h1 : ops.toList[i]? = some o) (ho : o.op = .alloc t) (hg : wantedA o ops T = true) (hz : runPure Tryz.prog (zeroValue t) = some z) (hc : z.cells.toList.map .v = zs) (hr : H.next < 2 ^ 39)
   (hk : WK (ENV O) ops H0 π (putA T o.dst (.ptr H.next 0)) (H.add (.cells zs t 0)) K) : WK (ENV O) ops H0 (.alc i :: π) T H K := by
 have hlt : Nat.blt H.next (2 ^ 39) = true := Nat.ble_eq_true_of_le hr
 refine ⟨o, h1, .inr ⟨hg, none, zs, t, H.add (.cells zs t 0), ?_, ?_, hk⟩⟩
 · unfold laysA; rw [ho]
   simp only [ENV, hz, hc]
 · simp only [newA, hlt, if_true]
theorem k_makeFunc {K : List AV → AH → Prop} {f : Fn} {a b : Array Operand} (h1 : ops.toList[i]? = some o) (ho : o.op = .makeFunc f a b) (hg : wantedA o ops T = true) (hk : WK (ENV O) ops H0 π (putA T o.dst (.fn f (a.toList.map (av T)) (b.toList.map (av T)))) H K) : WK (ENV O) ops H0 (.mob i :: π) T H K :=
 k_mob h1 hg (by unfold mobEval; rw [ho]) (fun b hb => by rw [rdA_none (by unfold looksB; rw [ho])] at hb; cases hb) hk
class NetS (t : TypeId) : Prop where
 z : runPure Tryz.prog (zeroValue t) = some (.agg #[.int .i64 0, .slice none 0 0])
 u : runPure Tryz.prog (underlying t) = some (.struct (flds t))
 p : runPure Tryz.prog ((flds t).mapM fun f => do pure (f.offset, ← sizeOf f.type)) = some #[(0, 1), (1, 1)]
instance : NetS 67 := ⟨by kernel_rfl, by kernel_rfl, by kernel_rfl⟩
instance : NetS 74 := ⟨by kernel_rfl, by kernel_rfl, by kernel_rfl⟩
theorem k_buildN {K : List AV → AH → Prop} {t : TypeId} {x y : Operand} {a : Int} {b n c : Nat} (h1 : ops.toList[i]? = some o) (ho : o.op = .build t #[(0, x), (1, y)]) (hg : wantedA o ops T = true) [hp : NetS t] (hx : av T x = iv a) (hy : av T y = .slc b 0 n c) (hk : WK (ENV O) ops H0 π (putA T o.dst (.agg [iv a, .slc b 0 n c])) H K) : WK (ENV O) ops H0 (.mob i :: π) T H K := by
 refine k_mob h1 hg ?_ (fun b hb => by rw [rdA_none (by unfold looksB; rw [ho])] at hb; cases hb) hk
 unfold mobEval; rw [ho]
 have h1 := hp.z
 have h2 := hp.u
 have h3 := hp.p
 simp only [ENV, buildA, h1, h2, h3]
 have e : (#[(0, x), (1, y)] : Array (Nat × Operand)).toList.map (fun p => (p.1, av T p.2)) = [(0, iv a), (1, .slc b 0 n c)] := by simp [hx, hy]
 rw [e]
 rfl
theorem o_buildN1 {K : AV → AH → Prop} {t : TypeId} {x : Operand} {a : Int} (ho : o.op = .build t #[(0, x)]) (hg : wantedA o ops T = true) [hp : NetS t] (hx : av T x = iv a) (hk : K (.agg [iv a, .v (.slice none 0 0)]) H) : WOp (ENV O) ops o T H K := by
 refine wop_val (by rw [ho]; rfl) hg (r := .agg [iv a, .v (.slice none 0 0)]) (H' := H) ?_ (Nat.le_refl _) hk
 unfold opEval; rw [ho]
 have h1 := hp.z
 have h2 := hp.u
 have h3 := hp.p
 simp only [ENV, buildA, h1, h2, h3]
 have e : (#[(0, x)] : Array (Nat × Operand)).toList.map (fun p => (p.1, av T p.2)) = [(0, iv a)] := by simp [hx]
 rw [e]
 rfl
theorem o_buildN0 {K : AV → AH → Prop} {t : TypeId} (ho : o.op = .build t #[]) (hg : wantedA o ops T = true) [hp : NetS t] (hk : K (.agg [iv 0, .v (.slice none 0 0)]) H) : WOp (ENV O) ops o T H K := by
 refine wop_val (by rw [ho]; rfl) hg (r := .agg [iv 0, .v (.slice none 0 0)]) (H' := H) ?_ (Nat.le_refl _) hk
 unfold opEval; rw [ho]
 have h1 := hp.z
 have h2 := hp.u
 have h3 := hp.p
 simp only [ENV, buildA, h1, h2, h3]
 rfl
def Mr (H : AH) (r : AV) (l : List Int) : Prop := (∃ b, r = .slc b 0 l.length l.length ∧ b < H.next ∧ b < 2 ^ 39 ∧ H.get b = some (.cells (ivs l) 3 0)) ∨ ∃ b, r = .slu b 0 l.length 1 ∧ b < H.next ∧ b < 2 ^ 39 ∧ H.get b = some (.cells (ivs l) 3 1)
theorem Mr.sl {r : AV} {l : List Int} (h : Mr H r l) : Sl H r (ivs l) := by
 rcases h with ⟨b, rfl, h1, h2, h3⟩ | ⟨b, rfl, h1, h2, h3⟩
 · exact ⟨(ivs_length l).symm, h2, _, _, _, h3, fun j v hv => by rw [Nat.zero_add]; exact hv⟩
 · exact ⟨(ivs_length l).symm, h2, rfl, _, _, _, h3, fun j v hv => by rw [Nat.zero_add]; exact hv⟩
theorem Mr.old {r : AV} {l : List Int} (h : Mr H r l) : Old H r := by
 rcases h with ⟨b, rfl, h1, h2, h3⟩ | ⟨b, rfl, h1, h2, h3⟩ <;> (intro c hc; cases hc; exact h1)
theorem Mr.lk {r : AV} {l : List Int} (h : Mr H r l) : ∀ b, r.own = some b → Lk H b := by
 rcases h with ⟨b, rfl, h1, h2, h3⟩ | ⟨b, rfl, h1, h2, h3⟩ <;> (intro c hc; cases hc; exact ⟨h1, by rw [h3]; simp [sameBlk, beqs_ivs]⟩)
theorem Mr.keep {H' : AH} {r : AV} {l : List Int} (h : Mr H r l) (k : Keeps H H') : Mr H' r l := by
 rcases h with ⟨b, h0, h1, h2, h3⟩ | ⟨b, h0, h1, h2, h3⟩
 · exact .inl ⟨b, h0, Nat.lt_of_lt_of_le h1 k.nx, h2, (k.get b h1).trans h3⟩
 · exact .inr ⟨b, h0, Nat.lt_of_lt_of_le h1 k.nx, h2, (k.get b h1).trans h3⟩
theorem o_append1M {K : AV → AH → Prop} {c : Call} {t xt e' : TypeId} {s x : Operand} {l : List Int} {z : Int} {bx : Nat} {ex : TypeId} {gx : Nat} (ho : o.op = .call c) (hg : wantedA o ops T = true) (hc : c.callee = .builtin .append) (hargs : c.args.toList = [s, x]) (ht : c.argTypes.toList = [t, xt]) [hu : TyS t 3] [hux : TyS xt e']
   (hlen : l.length < 2 ^ 20) (hr : H.next < 2 ^ 39) (hx : av T x = .slc bx 0 1 1) (hbx : H.get bx = some (.cells [iv z] ex gx)) (hM : Mr H (av T s) l)
   (hk : ∀ H1, H1.next = H.next + 1 → H1.gl = H.gl → (∀ b, b ≠ H.next → (av T s).own ≠ some b → H1.get b = H.get b) → H1.get H.next = some (.cells (ivs (l ++ [z])) 3 1) → K (.slu H.next 0 (l.length + 1) 1) H1) : WOp (ENV O) ops o T H K := by
 rcases hM with ⟨b, hs0, h1, h2, h3⟩ | ⟨b, hs0, h1, h2, h3⟩
 · have hlt : Nat.blt H.next (2 ^ 39) = true := Nat.ble_eq_true_of_le hr
   have hz : Zero 3 (.int .i64 0) := inferInstance
   have hs : Cell 3 := inferInstance
   have ht0 := arg0 ht
   have ht1 := arg1 ht
   have hux' := hux.u
   have hu' := hu.u
   have hi := hz.i
   have hss := hs.s
   have hzz := hz.z
   have hz0 : (Value.int .i64 0).cells.size = 1 := by rw [hz.c]; rfl
   have e1 : Nat.ble ((l.length + 1) * (ti 3).bytes) (2 ^ 40) = true := Nat.ble_eq_true_of_le (by
     have := Nat.mul_le_mul (show l.length + 1 ≤ 2 ^ 20 from hlen) (Nat.le_of_ble_eq_true hz.b)
     exact Nat.le_trans this (by decide))
   have e2 : Nat.ble (l.length + 1) (2 ^ 40) = true := Nat.ble_eq_true_of_le (Nat.le_trans hlen (by decide))
   have e3 : Nat.ble (l.length + 1) l.length = false := by
     rw [Bool.eq_false_iff]; intro h; have := Nat.le_of_ble_eq_true h; omega
   have hf' : firstA (0 + 1) 1 (av T x) H = some [iv z] := by rw [hx]; simp [firstA, hbx]
   have hall : (([iv z] : List AV).all AV.one && Nat.beq ([iv z] : List AV).length (1 * (0 + 1))) = true := rfl
   refine wop_val (by rw [ho]; simp only [still, hc]) hg (r := .slu H.next 0 (l.length + 1) 1) (H' := H.add (.cells (ivs (l ++ [z])) 3 1)) ?_ (Nat.le_succ _) (hk _ rfl rfl (fun d hd _ => get_add_ne hr hd) (get_add_eq hr))
   unfold opEval; rw [ho]
   simp only [ENV, oCall, hc, oBuiltin, hargs, appendA, ht0, ht1, hu', hux', isIntD, hi, hss, hzz, hz0, hx, lenA]
   rw [← hx, if_pos (by decide), hf']
   simp only
   rw [if_pos hall]
   simp only [hs0, e3, h3, Bool.false_eq_true, if_false]
   rw [if_pos (by rw [e1, e2, ivs_length]; simp)]
   have hcs : ((ivs l).drop 0).take (l.length * (0 + 1)) ++ [iv z] = ivs (l ++ [z]) := by
     rw [List.drop_zero, List.take_of_length_le (by rw [ivs_length]; omega), ivs_snoc]
   rw [hcs]
   simp only [newU, hlt, if_true, Option.map_some]
 · refine o_append (cs := ivs l) (v := iv z) ho hg hc hargs ht (by rw [ivs_length]; omega) hr hx hbx rfl (.inr ⟨b, h1, h2, by rw [ivs_length]; exact hs0, h3⟩) fun r H1 e1 n1 gl1 g1 g2 _ => ?_
   rw [ivs_length] at e1
   subst e1
   exact hk H1 n1 gl1 g1 (by rw [g2, ivs_snoc])
end
def netE : Int → List (Int × Int) → Int
 | _, [] => 0
 | m, p :: ps => if rowE m p = 0 then netE (m + p.1 - p.2) ps else rowE m p
def netM : Int → List (Int × Int) → List Int
 | m, [] => [m]
 | m, p :: ps => m :: netM (m + p.1 - p.2) ps
def chkN (f : Int) (ms : List (Int × Int)) : Int := firstNZ [if inB f 1 500 = true then 0 else 3, if decide ((ms.length : Int) ≤ 64) = true then 0 else 5]
def mshE (f : Int) (ms : List (Int × Int)) : Int := if chkN f ms = 0 then netE f ms else chkN f ms
theorem first2n {a b : Int} (h : firstNZ [a, b] = 0) : a = 0 ∧ b = 0 := by
 unfold firstNZ at h
 by_cases ha : a = 0
 · refine ⟨ha, ?_⟩
   rw [if_neg (by simpa using ha)] at h
   unfold firstNZ at h
   by_cases hb : b = 0
   · exact hb
   · rw [if_pos hb] at h; exact h
 · rw [if_pos ha] at h; exact absurd h ha
theorem chkN_ok {f : Int} {ms : List (Int × Int)} (h : chkN f ms = 0) : (1 ≤ f ∧ f ≤ 500) ∧ ms.length ≤ 64 := by
 obtain ⟨h1, h2⟩ := first2n h
 constructor
 · cases hb : inB f 1 500 with
   | true => exact inB_iff.1 hb
   | false => rw [hb] at h1; simp at h1
 · by_cases hb : (ms.length : Int) ≤ 64
   · omega
   · rw [decide_eq_false hb] at h2; simp at h2
theorem drop_consP {l : List (Int × Int)} {i : Nat} {z : Int × Int} (h : l[i]? = some z) : l.drop i = z :: l.drop (i + 1) := by
 have hl := (List.getElem?_eq_some_iff.1 h).1
 rw [List.drop_eq_getElem_cons hl]
 congr 1
 exact (List.getElem?_eq_some_iff.1 h).2
variable {O : CallF} (hq : Quiet O)
include hq
theorem c46 (H : AH) (f : Int) (xb : Nat) (ms : List (Int × Int)) (hxb : xb < H.next) (hgx : H.get xb = some (.cells (fl2 ms) 120 0)) (hr : H.next + 20000 < 2 ^ 39) (K : AV → AH → Prop)
   (hke : mshE f ms ≠ 0 → ∀ H', Keeps H H' → H'.next ≤ H.next + 1000 → K (.tup [.v (.slice none 0 0), iv (mshE f ms)]) H')
   (hk : mshE f ms = 0 → ∀ H' r, Keeps H H' → H'.next ≤ H.next + 1000 → Mr H' r (netM f ms) → (∀ d, r.own = some d → H.next ≤ d) → K (.tup [r, iv 0]) H') : Ca (ENV O) 46 [.agg [iv f, .slc xb 0 ms.length ms.length]] H K := by
 refine ca_intro (hq _ _ _ rfl) (fn := Tryz.f46) (by rfl) rfl ?_
 have r0 : H.next < 2 ^ 39 := by omega
 repeat (first | apply qR | apply qS)
 refine wops_cons (o_boxS (cs := [iv f, .slc xb 0 ms.length ms.length]) rfl rfl rfl r0 fun H1 n1 k1 b1 => ?_)
 have hp0 : At H1 (.ptr H.next 0) (iv f) := b1.at rfl
 have hp1 : At H1 (.ptr H.next 1) (.slc xb 0 ms.length ms.length) := b1.at rfl
 have hL : ∀ c, (AV.ptr H.next 0).own = some c → Lk H1 c := fun c hc => by
   cases hc
   refine ⟨by omega, ?_⟩
   rw [b1.g]
   simp [sameBlk, beqs, AV.beq, vbeq, iv]
 have hL1 : ∀ c, (AV.ptr H.next 1).own = some c → Lk H1 c := hL
 have gx1 := (k1.get xb hxb).trans hgx
 have r1 : H1.next < 2 ^ 39 := by omega
 repeat (first | apply qN | refine qM rfl rfl ?_ | apply qS)
 refine wp_drawK rfl ?_
 refine k_field rfl rfl rfl rfl ?_
 refine k_load rfl rfl rfl hp0 hL ?_
 refine k_field rfl rfl rfl rfl ?_
 refine k_load rfl rfl rfl hp1 hL1 ?_
 refine k_lenP rfl rfl rfl rfl rfl rfl rfl (by omega) gx1 rfl ?_
 refine k_bin (op := .leq) (v := .bool (decide ((ms.length : Int) ≤ 64))) rfl rfl rfl rfl rfl rfl ?_
 refine k_call rfl rfl rfl (fun b h => by cases h) (wop_callF rfl rfl rfl (fn := Tryz.f84) (by rfl) ?_)
 refine cMesh hq H1 f _ ⟨Nat.le_refl _, Keeps.refl _, ?_⟩
 refine k_call rfl rfl rfl (fun b h => by cases h) (wop_callF rfl rfl rfl (fn := Tryz.f70) (by rfl) ?_)
 refine cThat hq H1 _ 5 _ ⟨Nat.le_refl _, Keeps.refl _, ?_⟩
 refine k_loud rfl rfl (o_build2 rfl rfl rfl rfl r1 ⟨(Keeps.refl H1).add _ r1, ?_⟩)
 refine WK.mem (fun H2 => Keeps H1 H2 ∧ H2.next = H1.next + 1 ∧ Sl H2 (.slc H1.next 0 2 2) (ivs [if inB f 1 500 = true then 0 else 3, if decide ((ms.length : Int) ≤ 64) = true then 0 else 5])) ⟨(Keeps.refl H1).add _ r1, rfl, sl_new (cs := ivs [if inB f 1 500 = true then 0 else 3, if decide ((ms.length : Int) ≤ 64) = true then 0 else 5]) r1 2⟩ ?_
 rintro H2 ⟨k2, n2, hs2⟩
 refine k_call rfl rfl rfl (fun b h => by cases h) (wop_callF rfl rfl rfl (fn := Tryz.f68) (by rfl) ?_)
 refine cFirst hq H2 _ _ hs2 (by show 2 ≤ 1000; decide) _ ⟨Nat.le_refl _, k2, ?_⟩
 clear hs2
 show WK _ _ _ _ _ _ _
 rw [show firstNZ [if inB f 1 500 = true then 0 else 3, if decide ((ms.length : Int) ≤ 64) = true then 0 else 5] = chkN f ms from rfl]
 have k02 := k1.trans k2
 have b2 := b1.keep (by omega) k2
 have hp02 : At H2 (.ptr H.next 0) (iv f) := b2.at rfl
 have hp12 : At H2 (.ptr H.next 1) (.slc xb 0 ms.length ms.length) := b2.at rfl
 repeat (first | refine qM rfl rfl ?_ | refine k_nil ?_ | refine k_assign rfl rfl rfl ?_ | apply qR | apply qS)
 refine WOps.cut (fun T => ∃ Y : List AV, T = (lget Y 0 :: .ptr H.next 0 :: lget Y 1 :: lget Y 2 :: iv (chkN f ms) :: lget Y 3 :: lget Y 4 :: lget Y 5 :: lget Y 6 :: lget Y 7 :: lget Y 8 :: lget Y 9 :: lget Y 10 :: lget Y 11 :: lget Y 12 :: lget Y 13 :: lget Y 14 :: lget Y 15 :: lget Y 16 :: lget Y 17 :: iv (chkN f ms) :: lget Y 18 :: lget Y 19 :: lget Y 20 :: lget Y 21 :: lget Y 22 :: lget Y 23 :: lget Y 24 :: lget Y 25 :: lget Y 26 :: lget Y 27 :: lget Y 28 :: lget Y 29 :: lget Y 30 :: lget Y 31 :: lget Y 32 :: lget Y 33 :: lget Y 34 :: lget Y 35 :: lget Y 36 :: lget Y 37 :: lget Y 38 :: lget Y 39 :: lget Y 40 :: lget Y 41 :: lget Y 42 :: lget Y 43 :: lget Y 44 :: lget Y 45 :: lget Y 46 :: lget Y 47 :: lget Y 48 :: [])) ⟨[_,_,_,_,_,_,_,_,_,_,_,_,_,_,_,_,_,_,_,_,_,_,_,_,_,_,_,_,_,_,_,_,_,_,_,_,_,_,_,_,_,_,_,_,_,_,_,_,_], rfl⟩ ?_
 rintro T ⟨Y, rfl⟩
 by_cases h0 : chkN f ms = 0
 rotate_left
 · have e : mshE f ms = chkN f ms := by unfold mshE; rw [if_neg h0]
   rw [e] at hke
   have hke := hke h0 H2 k02 (by omega)
   generalize chkN f ms = w at h0 hke ⊢
   refine wops_cons (wop_bin (op := .neq) (v := .bool true) rfl rfl rfl rfl (by simp [binI, h0]) ?_)
   repeat (first | apply qN | refine qM rfl rfl ?_ | refine qT rfl ?_ | apply qR | apply qS)
   refine wp_ret ?_
   exact ⟨_, _, rfl, hke⟩
 have e : mshE f ms = netE f ms := by unfold mshE; rw [if_pos h0]
 rw [e] at hk hke
 obtain ⟨hf, hml⟩ := chkN_ok h0
 rw [h0]
 refine wops_cons (wop_bin (op := .neq) (v := .bool false) rfl rfl rfl rfl rfl ?_)
 repeat (first | apply qN | refine zqa rfl rfl rfl ?_ | refine zq6 rfl rfl ‹_› ?_ | refine qF rfl ?_ | apply qR | apply qS | apply qK)
 have r2 : H2.next < 2 ^ 39 := by omega
 refine wops_cons (o_build1 rfl rfl rfl r2 ?_)
 refine WOps.mem (fun H3 => Keeps H H3 ∧ H3.next = H2.next + 1 ∧ H3.get H2.next = some (.cells (ivs [f]) 3 0) ∧ Bk H3 H.next 67 [iv f, .slc xb 0 ms.length ms.length]) ⟨k02.add _ r2, rfl, get_add_eq r2, b2.keep (by omega) ((Keeps.refl H2).add _ r2)⟩ ?_
 rintro H3 ⟨k3, n3, g3, b3⟩
 have hp13 : At H3 (.ptr H.next 1) (.slc xb 0 ms.length ms.length) := b3.at rfl
 have hx3 : S2 H3 120 (.slc xb 0 ms.length ms.length) ms := .inr ⟨xb, by have := k3.nx; omega, by omega, .inl ⟨_, rfl, (k3.get xb hxb).trans hgx⟩⟩
 repeat (first | apply qN | refine qM rfl rfl ?_ | refine zqa rfl rfl rfl ?_ | refine zq6 rfl rfl ‹_› ?_ | apply qR | apply qS)
 refine wops_cons (o_len2 rfl rfl rfl rfl rfl hx3 ?_)
 repeat (first | apply qN | refine qM rfl rfl ?_ | apply qB)
 refine wp_loop (fun q T M H' => ∃ (i : Nat) (r : AV) (l : List Int) (m : Int) (Y : List AV), q = ms.length - i ∧ i ≤ ms.length ∧ Keeps H H' ∧ H3.next ≤ H'.next ∧ H'.next ≤ H3.next + 5 * i ∧ Mr H' r (l ++ [m]) ∧ (∀ d, r.own = some d → H.next < d) ∧ l.length = i ∧ (1 ≤ m ∧ m ≤ 500) ∧ netE f ms = netE m (ms.drop i) ∧ netM f ms = l ++ netM m (ms.drop i) ∧ M = [] ∧ T = (lget Y 0 :: lget Y 1 :: lget Y 2 :: lget Y 3 :: lget Y 4 :: r :: lget Y 5 :: lget Y 6 :: lget Y 7 :: lget Y 8 :: lget Y 9 :: lget Y 10 :: lget Y 11 :: lget Y 12 :: lget Y 13 :: lget Y 14 :: lget Y 15 :: lget Y 16 :: lget Y 17 :: lget Y 18 :: lget Y 19 :: lget Y 20 :: lget Y 21 :: lget Y 22 :: lget Y 23 :: lget Y 24 :: lget Y 25 :: .slc xb 0 ms.length ms.length :: iv (ms.length : Nat) :: iv (i : Nat) :: lget Y 26 :: lget Y 27 :: lget Y 28 :: lget Y 29 :: lget Y 30 :: lget Y 31 :: lget Y 32 :: lget Y 33 :: lget Y 34 :: lget Y 35 :: lget Y 36 :: lget Y 37 :: lget Y 38 :: lget Y 39 :: lget Y 40 :: lget Y 41 :: lget Y 42 :: lget Y 43 :: lget Y 44 :: lget Y 45 :: lget Y 46 :: lget Y 47 :: [])) ms.length
   ⟨0, .slc H2.next 0 1 1, [], f, [_,_,_,_,_,_,_,_,_,_,_,_,_,_,_,_,_,_,_,_,_,_,_,_,_,_,_,_,_,_,_,_,_,_,_,_,_,_,_,_,_,_,_,_,_,_,_,_], rfl, Nat.zero_le _, k3, Nat.le_refl _, Nat.le_refl _, .inl ⟨H2.next, rfl, by omega, r2, g3⟩, (fun d hd => by cases hd; omega), rfl, hf, rfl, rfl, rfl, rfl⟩ ?_
 rintro q T M H4 ⟨i, r, l, m, Y, hq4, hi, k4, n4, n4', hM, hown, hll, hm, hE, hN, rfl, rfl⟩
 repeat (first | apply qR | apply qS)
 refine wops_cons (wop_cmp rfl rfl rfl rfl rfl (fun h => ?_) (fun h => ?_))
 rotate_left
 · have h : ¬ ((i : Int) < (ms.length : Nat)) := of_decide_eq_false h
   have e : i = ms.length := by omega
   subst e
   rw [List.drop_length] at hE hN
   have hN : netM f ms = l ++ [m] := hN
   rw [← hN] at hM
   repeat (first | apply qN | refine qM rfl rfl ?_ | refine qF rfl ?_ | apply qR | apply qS | apply qE)
   refine wp_ret ?_
   exact ⟨_, _, rfl, hk hE H4 r k4 (by omega) hM (fun d hd => Nat.le_of_lt (hown d hd))⟩
 have hi' : i < ms.length := by have h : (i : Int) < (ms.length : Nat) := of_decide_eq_true h; omega
 clear h
 obtain ⟨p, hp⟩ : ∃ p, ms[i]? = some p := ⟨ms[i], List.getElem?_eq_getElem hi'⟩
 rw [drop_consP hp] at hE hN
 have hx4 : S2 H4 120 (.slc xb 0 ms.length ms.length) ms := .inr ⟨xb, by have := k4.nx; omega, by omega, .inl ⟨_, rfl, (k4.get xb hxb).trans hgx⟩⟩
 repeat (first | apply qN | refine qM rfl rfl ?_ | refine qT rfl ?_ | apply qR | apply qS | apply qK | apply qB)
 refine wops_cons (o_index2 rfl rfl hx4 rfl hp fun xb' gr hxb' hxg => ?_)
 refine wops_cons (o_loadA (r := [iv p.1, iv p.2]) (n := 2) rfl rfl (by kernel_rfl) (by kernel_rfl) rfl hxg (by rw [Nat.zero_add]; exact fl2_get hp) (by rw [fl2_len]; omega) ?_)
 have r4 : H4.next < 2 ^ 39 := by omega
 refine wops_cons (o_allocA (zs := [iv 0, iv 0]) rfl rfl (z := .agg #[.int .i64 0, .int .i64 0]) (by kernel_rfl) rfl r4 ?_)
 repeat (first | refine qM rfl rfl ?_)
 refine wops_cons (o_storeA (n := 2) (vs := [iv p.1, iv p.2]) rfl rfl (by kernel_rfl) rfl rfl rfl rfl (get_add_eq r4) (Nat.le_refl _) ?_)
 refine WOps.mem (fun H5 => Keeps H4 H5 ∧ H5.next = H4.next + 1 ∧ Bk H5 H4.next 120 [iv p.1, iv p.2]) ⟨((Keeps.refl H4).add _ r4).set _ (Nat.le_refl _) r4, rfl, ⟨r4, get_set_eq r4⟩⟩ ?_
 rintro H5 ⟨k5, n5, b5⟩
 have hM5 := hM.keep k5
 have hget : (l ++ [m])[i]? = some m := by rw [List.getElem?_append_right (by omega), hll, Nat.sub_self]; rfl
 have hLb : ∀ c, (AV.ptr H4.next 0).own = some c → Lk H5 c := fun c hc => by
   cases hc
   refine ⟨by omega, ?_⟩
   rw [b5.g]
   simp [sameBlk, beqs, AV.beq, vbeq, iv]
 show WOps _ _ _ _ _ _
 repeat (first | apply qN | apply qS)
 refine wp_drawK rfl ?_
 refine k_move rfl rfl rfl ?_
 refine k_move rfl rfl rfl ?_
 refine k_indexI rfl rfl rfl hM5.sl rfl hget hM5.lk fun pp hpp hpo => ?_
 refine k_load rfl rfl rfl hpp hpo ?_
 refine k_load4 rfl rfl rfl rfl b5 hLb ?_
 refine k_call rfl rfl rfl (fun b h => by cases h) (wop_callF rfl rfl rfl (fn := Tryz.f106) (by rfl) ?_)
 refine c106 hq H5 m p _ rfl hm (by omega) _ fun H6 nx k6 n6 hnx => ⟨k6.nx, k6, ?_⟩
 refine k_move rfl rfl rfl ?_
 refine k_extract rfl rfl rfl rfl rfl ?_
 refine k_extract rfl rfl rfl rfl rfl ?_
 repeat (first | refine qM rfl rfl ?_ | refine k_nil ?_ | refine k_assign rfl rfl rfl ?_ | apply qR | apply qS)
 have hM6 := hM5.keep k6
 have k46 := k5.trans k6
 have k06 := k4.trans k46
 by_cases hz : rowE m p = 0
 · rw [netE, if_pos hz] at hE
   have hnx := hnx hz
   subst hnx
   obtain ⟨_, hm1, hm2⟩ := rowE_ok hm hz
   rw [hz]
   refine wops_cons (wop_bin (op := .neq) (v := .bool false) rfl rfl rfl rfl rfl ?_)
   repeat (first | apply qN | refine qM rfl rfl ?_ | refine qF rfl ?_ | apply qR | apply qK)
   have r6 : H6.next < 2 ^ 39 := by omega
   refine wops_cons (o_build1 rfl rfl rfl r6 ?_)
   refine WOps.mem (fun H7 => Keeps H6 H7 ∧ H7.next = H6.next + 1 ∧ H7.get H6.next = some (.cells [iv (m + p.1 - p.2)] 3 0)) ⟨(Keeps.refl H6).add _ r6, rfl, get_add_eq r6⟩ ?_
   rintro H7 ⟨k7, n7, g7⟩
   have r7 : H7.next < 2 ^ 39 := by omega
   refine wops_cons (o_append1M (l := l ++ [m]) (z := m + p.1 - p.2) rfl rfl rfl rfl rfl (by rw [List.length_append]; show l.length + 1 < 2 ^ 20; omega) r7 rfl g7 (hM6.keep k7) fun H8 n8 gl8 f8 g8 => ?_)
   have k07 := k06.trans k7
   have k08 : Keeps H H8 := ⟨by have := k07.nx; omega, gl8.trans k07.gl, fun d hd => (f8 d (by have := k07.nx; omega) (fun e => by have := hown d e; omega)).trans (k07.get d hd)⟩
   repeat (first | apply qN | refine qM rfl rfl ?_ | refine zq4 rfl rfl rfl rfl (inc (by omega)) ?_ | apply qR)
   refine ⟨ms.length - (i + 1), by omega, i + 1, .slu H7.next 0 ((l ++ [m]).length + 1) 1, l ++ [m], m + p.1 - p.2, [_,_,_,_,_,_,_,_,_,_,_,_,_,_,_,_,_,_,_,_,_,_,_,_,_,_,_,_,_,_,_,_,_,_,_,_,_,_,_,_,_,_,_,_,_,_,_,_], rfl, by omega, k08, by have := k46.nx; have := k7.nx; omega, by omega, .inr ⟨H7.next, by simp, by omega, r7, g8⟩, (fun d hd => by cases hd; have h1 := k4.nx; have h2 := k46.nx; have h3 := k7.nx; have h4 := k3.nx; omega), by rw [List.length_append]; show l.length + 1 = i + 1; omega, ⟨hm1, hm2⟩, hE, by rw [hN, netM]; simp, rfl, rfl⟩
 · rw [netE, if_neg hz] at hE
   have hke := hke (by rw [hE]; exact hz) H6 k06 (by omega)
   rw [hE] at hke
   generalize rowE m p = w at hz hke ⊢
   refine wops_cons (wop_bin (op := .neq) (v := .bool true) rfl rfl rfl rfl (by simp [binI, hz]) ?_)
   repeat (first | apply qN | refine qM rfl rfl ?_ | refine qT rfl ?_ | apply qR | apply qS)
   refine wp_ret ?_
   exact ⟨_, _, rfl, hke⟩
theorem c45 (H : AH) (f : Int) (xb : Nat) (ms : List (Int × Int)) (mv : AV) (hmv : mv = .agg [iv f, .slc xb 0 ms.length ms.length]) (hxb : xb < H.next) (hgx : H.get xb = some (.cells (fl2 ms) 120 0)) (hr : H.next + 30000 < 2 ^ 39) (K : AV → AH → Prop)
   (hk : ∀ H', Keeps H H' → H'.next ≤ H.next + 1100 → K (iv (mshE f ms)) H') : Ca (ENV O) 45 [mv] H K := by
 subst hmv
 refine ca_intro (hq _ _ _ rfl) (fn := Tryz.f45) (by rfl) rfl ?_
 have r0 : H.next < 2 ^ 39 := by omega
 repeat (first | apply qR | apply qS)
 refine wops_cons (o_boxS (cs := [iv f, .slc xb 0 ms.length ms.length]) rfl rfl rfl r0 fun H1 n1 k1 b1 => ?_)
 repeat (first | apply qN | refine qM rfl rfl ?_ | refine zqb rfl rfl rfl ‹_› ?_ | apply qR | apply qS)
 refine wops_cons (wop_callF rfl rfl rfl (fn := Tryz.f46) (by rfl) ?_)
 refine c46 hq H1 f xb ms (by omega) ((k1.get xb hxb).trans hgx) (by omega) _ (fun h0 H2 k2 n2 => ⟨k2.nx, ?_⟩) (fun h0 H2 r k2 n2 hM hown => ⟨k2.nx, ?_⟩)
 · repeat (first | apply qN | refine qM rfl rfl ?_ | refine zq9 rfl rfl rfl rfl ?_ | apply qR | apply qS)
   refine wp_ret ?_
   exact ⟨_, _, rfl, hk H2 (k1.trans k2) (by omega)⟩
 · rw [h0] at hk
   repeat (first | apply qN | refine qM rfl rfl ?_ | refine zq9 rfl rfl rfl rfl ?_ | apply qR | apply qS)
   refine wp_ret ?_
   exact ⟨_, _, rfl, hk H2 (k1.trans k2) (by omega)⟩
end Go.Ev
