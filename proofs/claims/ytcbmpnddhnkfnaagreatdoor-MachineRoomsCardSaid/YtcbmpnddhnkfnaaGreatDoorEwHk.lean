/- Part of an evaluator of calls that is proved sound, and of what it gives about this program. No condition of its own. -/
import Derived.Test.YtcbmpnddhnkfnaaGreatDoorEwHf
set_option linter.unusedVariables false
set_option linter.unusedSimpArgs false
set_option linter.unusedSectionVars false
set_option maxRecDepth 100000
set_option maxHeartbeats 4000000
namespace Go.Ev
open Go.Proofs
def CapOk (x : AV) : Prop := match x with | .v (.slice _ n c) => n ≤ c | .slc _ _ n c => n ≤ c | _ => True
theorem pure_sliceTo {P : Program} {t e : TypeId} {b off n cap m : Nat} {kd : IntKind} (hu : runPure P (underlying t) = some (.slice e)) (hs : runPure P (sizeOf e) = some 1) (hm : m ≤ cap) (hc : 0 < cap) :
   runPure P (Instr.sliceAt t (.slice (some ⟨b, off, none⟩) n cap) none (some (.int kd (m : Int))) none) = some (.slice (some ⟨b, off, none⟩) m cap) := by
 unfold Instr.sliceAt Instr.slice
 simp only [runPure_bind, hu, Option.bind_some, Instr.sliceBounds, Instr.sliceBound, asIntOf, runPure_pure, hs, Nat.sub_zero, Nat.zero_mul]
 rw [if_pos (show 0 ≤ (m : Int) ∧ (m : Int) ≤ (cap : Int) by omega)]
 simp only [runPure_pure, Option.bind_some, Int.toNat_natCast]
 rw [if_neg (by omega)]
 simp [Nat.mul_one, addr_plus]
section
variable {O : CallF} {T : List AV} {H : AH} {ops : Array Oper} {o : Oper} {K : AV → AH → Prop}
theorem o_slTo {t e : TypeId} {x h : Operand} {l : List Int} {m : Nat} (ho : o.op = .slice t x none (some h) none) (hg : wantedA o ops T = true) [hu : TyS t e] [hs : Cell e] (hx : Sl H (av T x) (ivs l)) (hc : CapOk (av T x)) (hh : av T h = iv m) (hm : m < l.length)
   (hk : ∀ r, Sl H r (ivs (l.take m)) → K r H) : WOp (ENV O) ops o T H K := by
 have hlen : ((l.take m).map iv).length = m := by rw [List.length_map, List.length_take]; omega
 have hsub : ∀ (j : Nat) (v : AV), (ivs (l.take m))[j]? = some v → (ivs l)[j]? = some v := fun j v hj => by
   simp only [ivs, List.getElem?_map, List.getElem?_take] at hj ⊢
   split at hj
   · exact hj
   · cases hj
 cases hav : av T x with
 | v val =>
   rw [hav] at hx hc
   cases val with
   | slice a n cap =>
     obtain ⟨hn, hx⟩ := hx
     rw [ivs_length] at hn
     subst hn
     rcases hx with hx | ⟨b, off, vs, rfl, hgl, hv⟩
     · have : l.length = 0 := by rw [← ivs_length, hx]; rfl
       omega
     · have hc : l.length ≤ cap := hc
       refine wop_val (by rw [ho]; rfl) hg (r := .v (.slice (some ⟨b, off, none⟩) m cap)) (H' := H) ?_ (Nat.le_refl _) (hk _ ?_)
       · unfold opEval; rw [ho]
         simp only [oSlice, hav, isV]
         unfold plainOp
         rw [ho]
         have h2 := pure_sliceTo (P := Tryz.prog) (b := b) (off := off) (n := l.length) (kd := .i64) hu.u hs.s (show m ≤ cap by omega) (by omega)
         simp only [ENV, execOp, ho, Op.operands, hav, hh, AV.plain, Option.getD_some, Option.map_none, Option.map_some, runPure_bind, h2, Option.bind_some, runPure_pure]
         simp [hav, hh, AV.plain]
       · refine ⟨by rw [ivs_length, List.length_take]; omega, .inr ⟨b, off, vs, rfl, hgl, fun j v hj => hv j v (hsub j v hj)⟩⟩
   | _ => exact hx.elim
 | slc b off n cap =>
   rw [hav] at hx hc
   obtain ⟨hn, h39, cs, el, gr, hg', hv⟩ := hx
   rw [ivs_length] at hn
   subst hn
   have hc : l.length ≤ cap := hc
   refine wop_val (by rw [ho]; rfl) hg (r := .slc b off m cap) (H' := H) ?_ (Nat.le_refl _) (hk _ ⟨by rw [ivs_length, List.length_take]; omega, h39, cs, el, gr, hg', fun j v hj => hv j v (hsub j v hj)⟩)
   unfold opEval; rw [ho]
   have h2 := hu.u
   have h3 := hs.s
   simp only [ENV, oSlice, hav, isV, sliceA, boundA, hh, natA, Option.map_some, h2, h3, Option.getD_none, Option.getD_some]
   rw [if_pos (by simp [Nat.ble_eq_true_of_le (show m ≤ cap by omega)])]
   simp [rv]
 | slu b off n sz =>
   rw [hav] at hx
   obtain ⟨hn, h39, rfl, cs, el, gr, hg', hv⟩ := hx
   rw [ivs_length] at hn
   subst hn
   have hle : off + m ≤ cs.length := by
     obtain ⟨z, hz⟩ := l_some hm
     have := hv m _ (ivs_get hz)
     have := (List.getElem?_eq_some_iff.1 this).1
     omega
   refine wop_val (by rw [ho]; rfl) hg (r := .slu b off m 1) (H' := H) ?_ (Nat.le_refl _) (hk _ ⟨by rw [ivs_length, List.length_take]; omega, h39, rfl, cs, el, gr, hg', fun j v hj => hv j v (hsub j v hj)⟩)
   unfold opEval; rw [ho]
   have h2 := hu.u
   have h3 := hs.s
   simp only [ENV, oSlice, hav, isV, sliceA, boundA, hh, natA, Option.map_some, h2, h3, hg', Option.getD_none, Option.getD_some]
   rw [if_pos (by simp [Nat.ble_eq_true_of_le (show off + m * (0 + 1) ≤ cs.length by omega)]; simpa using hle)]
   simp [rv]
 | _ => rw [hav] at hx; exact hx.elim
end
end Go.Ev
namespace Go.Ev
open Go.Proofs
def plE (m : Mc) (s : Int) : Int := if s.tmod 4 = 0 then s.tdiv 4 else if s.tmod 4 = 2 then (if m.ring = true then (s.tdiv 4 + 1).tmod m.g else s.tdiv 4 + 1) else -1
variable {O : CallF} (hq : Quiet O)
include hq
theorem c27 (H : AH) (a x y : AV) (m : Mc) (l : List Int) (ha : a.cells = mc m x) (hx : Sl H x (ivs m.sw)) (ho : Old H x) (hy : Sl H y (ivs l)) (hoy : Old H y) (hcap : CapOk y) (hl : m.sw.length ≤ 100000) (hll : l.length ≤ 100000) (hr : H.next + m.sw.length + 100 < 2 ^ 39) (K : AV → AH → Prop) (hk : ∀ H', Keeps H H' → H'.next ≤ H.next + m.sw.length + 6 → K (iv (cE m l)) H') : Ca (ENV O) 27 [a, y] H K := by
 refine ca_intro (hq _ _ _ rfl) (fn := Tryz.f27) (by rfl) rfl ?_
 repeat (first | apply qR | apply qS)
 refine wops_cons (o_boxM rfl rfl ha (by omega) fun H1 n1 k1 b1 => ?_)
 have hx1 := hx.keep ho k1
 have ho1 := ho.keep k1
 repeat (first | apply qN | refine qM rfl rfl ?_ | refine zqb rfl rfl rfl ‹_› ?_ | apply qR | apply qS)
 refine wops_cons (wop_callF rfl rfl rfl (fn := Tryz.f17) (by rfl) ?_)
 refine c17 hq H1 _ x m rfl hx1 ho1 hl (by omega) _ fun H2 k2 n2 => ⟨k2.nx, ?_⟩
 repeat (first | apply qN | refine qM rfl rfl ?_ | apply qR | apply qS)
 refine wops_cons (wop_cmp rfl rfl rfl rfl rfl (fun h => ?_) (fun h => ?_))
 · have h : mE m ≠ 0 := by simpa using h
   have hk := hk H2 (k1.trans k2) (by omega)
   rw [cE, if_pos h] at hk
   repeat (first | apply qN | refine qM rfl rfl ?_ | refine qT rfl ?_ | apply qR | apply qS)
   refine wp_ret ?_
   exact ⟨_, _, rfl, hk⟩
 have h0 : ¬ mE m ≠ 0 := by simpa using h
 rw [cE, if_neg h0] at hk
 have hg := mE_g (m := m) (by omega)
 clear h
 have b2 := b1.keep (by omega) k2
 have hp1 := b2.p1
 have hy2 := hy.keep hoy (k1.trans k2)
 have hoy2 := hoy.keep (k1.trans k2)
 have hk := hk H2 (k1.trans k2) (by omega)
 repeat (first | apply qN | refine qM rfl rfl ?_ | refine zqa rfl rfl rfl ?_ | refine zq5 rfl rfl rfl rfl rfl ‹_› ?_ | refine zq6 rfl rfl ‹_› ?_ | refine qF rfl ?_ | apply qR | apply qS | apply qK)
 refine wops_cons (wop_bin (op := .mul) rfl rfl rfl rfl (mul4 (by omega)) ?_)
 refine wops_cons (wop_cmp rfl rfl rfl rfl rfl (fun h => ?_) (fun h => ?_))
 · rw [lE, if_pos (show 4 * m.g < l.length from of_decide_eq_true h)] at hk
   repeat (first | apply qN | refine qM rfl rfl ?_ | refine qT rfl ?_ | apply qR | apply qS)
   refine wp_ret ?_
   exact ⟨_, _, rfl, hk⟩
 have hlen : ¬ 4 * m.g < l.length := of_decide_eq_false h
 rw [lE, if_neg hlen] at hk
 clear h
 repeat (first | apply qN | refine qM rfl rfl ?_ | refine zq5 rfl rfl rfl rfl rfl ‹_› ?_ | refine qF rfl ?_ | apply qR | apply qS | apply qK | apply qB)
 refine wp_loop (fun q T M H' => ∃ (i : Nat) (Y : List AV), q = l.length - i ∧ i ≤ l.length ∧ ldE m [] l = ldE m (l.take i) (l.drop i) ∧ H' = H2 ∧ M = [] ∧ T = (lget Y 0 :: y :: .ptr H.next 0 :: lget Y 1 :: lget Y 2 :: lget Y 3 :: lget Y 4 :: lget Y 5 :: lget Y 6 :: lget Y 7 :: lget Y 8 :: lget Y 9 :: lget Y 10 :: lget Y 11 :: lget Y 12 :: lget Y 13 :: lget Y 14 :: lget Y 15 :: lget Y 16 :: y :: iv l.length :: iv (i : Nat) :: lget Y 17 :: lget Y 18 :: lget Y 19 :: lget Y 20 :: lget Y 21 :: lget Y 22 :: lget Y 23 :: lget Y 24 :: lget Y 25 :: lget Y 26 :: lget Y 27 :: lget Y 28 :: lget Y 29 :: lget Y 30 :: lget Y 31 :: lget Y 32 :: lget Y 33 :: lget Y 34 :: lget Y 35 :: [])) l.length
   ⟨0, [_,_,_,_,_,_,_,_,_,_,_,_,_,_,_,_,_,_,_,_,_,_,_,_,_,_,_,_,_,_,_,_,_,_,_,_], rfl, Nat.zero_le _, by simp, rfl, rfl, rfl⟩ ?_
 rintro q T M H' ⟨i, Y, hq1, hi, hsw, rfl, rfl, rfl⟩
 repeat (first | apply qR | apply qS)
 refine wops_cons (wop_cmp rfl rfl rfl rfl rfl (fun h => ?_) (fun h => ?_))
 rotate_left
 · have h : ¬ ((i : Int) < l.length) := of_decide_eq_false h
   have e : i = l.length := by omega
   rw [hsw, e, List.drop_length] at hk
   repeat (first | apply qN | refine qM rfl rfl ?_ | refine qF rfl ?_ | apply qR | apply qS | apply qE)
   refine wp_ret ?_
   exact ⟨_, _, rfl, hk⟩
 have h : (i : Int) < l.length := of_decide_eq_true h
 obtain ⟨z, hz⟩ := l_some (show i < l.length by omega)
 rw [drop_cons hz, ldE_cons] at hsw
 repeat (first | apply qN | refine qM rfl rfl ?_ | refine qT rfl ?_ | apply qR | apply qS | apply qK | apply qB)
 refine wops_cons (o_indexI rfl rfl hy2 rfl hz fun p hp => ?_)
 repeat (first | apply qN | refine qM rfl rfl ?_ | refine zq6 rfl rfl ‹_› ?_ | apply qR | apply qS)
 refine wops_split 8 ?_
 refine WOps.mono (K := fun T' H'' => H' = H'' ∧ ∃ (Y : List AV), T' = (lget Y 0 :: y :: .ptr H.next 0 :: lget Y 1 :: lget Y 2 :: lget Y 3 :: iv (i : Nat) :: iv z :: lget Y 4 :: lget Y 5 :: lget Y 6 :: lget Y 7 :: lget Y 8 :: lget Y 9 :: lget Y 10 :: lget Y 11 :: lget Y 12 :: lget Y 13 :: lget Y 14 :: y :: iv l.length :: iv (i : Nat) :: lget Y 15 :: lget Y 16 :: lget Y 17 :: lget Y 18 :: lget Y 19 :: lget Y 20 :: lget Y 21 :: lget Y 22 :: lget Y 23 :: lget Y 24 :: lget Y 25 :: lget Y 26 :: .v (.bool (!inB z 0 (4 * m.g - 1))) :: lget Y 27 :: lget Y 28 :: lget Y 29 :: lget Y 30 :: lget Y 31 :: lget Y 32 :: [])) ?_ ?_
 · refine wops_cons (wop_cmp rfl rfl rfl rfl rfl (fun h => ?_) (fun h => ?_))
   · have h1 : z < 0 := of_decide_eq_true h
     rw [show (!inB z 0 (4 * m.g - 1)) = true by simp only [inB, Bool.not_eq_true', decide_eq_false_iff_not]; omega]
     repeat (first | apply qN | refine zq1 rfl rfl ?_ | refine qM rfl rfl ?_ | refine zq7 rfl rfl rfl ?_)
     exact ⟨rfl, [_,_,_,_,_,_,_,_,_,_,_,_,_,_,_,_,_,_,_,_,_,_,_,_,_,_,_,_,_,_,_,_,_], rfl⟩
   have h1 : ¬ z < 0 := of_decide_eq_false h
   clear h
   repeat (first | refine qM rfl rfl ?_ | refine zqa rfl rfl rfl ?_ | refine zq6 rfl rfl ‹_› ?_)
   refine wops_cons (wop_bin (op := .mul) rfl rfl rfl rfl (mul4 (by omega)) ?_)
   refine wops_cons (wop_cmp rfl rfl rfl rfl rfl (fun h => ?_) (fun h => ?_))
   · have h2 : z ≥ 4 * m.g := of_decide_eq_true h
     rw [show (!inB z 0 (4 * m.g - 1)) = true by simp only [inB, Bool.not_eq_true', decide_eq_false_iff_not]; omega]
     repeat (first | apply qN | refine zq7 rfl rfl rfl ?_)
     exact ⟨rfl, [_,_,_,_,_,_,_,_,_,_,_,_,_,_,_,_,_,_,_,_,_,_,_,_,_,_,_,_,_,_,_,_,_], rfl⟩
   · have h2 : ¬ z ≥ 4 * m.g := of_decide_eq_false h
     rw [show (!inB z 0 (4 * m.g - 1)) = false by simp only [inB, Bool.not_eq_false', decide_eq_true_eq]; omega]
     repeat (first | apply qN | refine zq7 rfl rfl rfl ?_)
     exact ⟨rfl, [_,_,_,_,_,_,_,_,_,_,_,_,_,_,_,_,_,_,_,_,_,_,_,_,_,_,_,_,_,_,_,_,_], rfl⟩
 rintro T' H'' ⟨rfl, Y3, rfl⟩
 repeat (first | apply qN)
 refine wp_cond rfl (fun h => ?_) (fun h => ?_)
 · have h : inB z 0 (4 * m.g - 1) = false := by simpa using h
   rw [hsw, if_pos h] at hk
   repeat (first | apply qN | refine qM rfl rfl ?_ | apply qR | apply qS)
   refine wp_ret ?_
   exact ⟨_, _, rfl, hk⟩
 have hin : inB z 0 (4 * m.g - 1) = true := by simpa using h
 rw [if_neg (by simp [hin])] at hsw
 clear h
 repeat (first | refine qM rfl rfl ?_ | apply qR | apply qS | apply qK)
 refine wops_cons (o_slTo rfl rfl hy2 hcap rfl (show i < l.length by omega) fun r hr' => ?_)
 repeat (first | refine qM rfl rfl ?_)
 refine wops_cons (wop_callF rfl rfl rfl (fn := Tryz.f85) (by rfl) ?_)
 refine c85 hq H' r (l.take i) z hr' (by rw [List.length_take]; omega) _ ⟨Nat.le_refl _, ?_⟩
 repeat (first | apply qN)
 refine wp_cond rfl (fun h => ?_) (fun h => ?_)
 · have h : z ∈ l.take i := of_decide_eq_true h
   rw [hsw, if_pos (by rw [List.contains_iff_mem]; exact h)] at hk
   repeat (first | apply qN | refine qM rfl rfl ?_ | apply qR | apply qS)
   refine wp_ret ?_
   exact ⟨_, _, rfl, hk⟩
 have h : ¬ z ∈ l.take i := of_decide_eq_false h
 rw [if_neg (show ¬ (l.take i).contains z = true from fun e => h (List.contains_iff_mem.1 e)), take_snoc hz] at hsw
 repeat (first | apply qN | refine qM rfl rfl ?_ | refine zq4 rfl rfl rfl rfl (inc (by omega)) ?_ | apply qR | apply qK)
 exact ⟨l.length - (i + 1), by omega, i + 1, [_,_,_,_,_,_,_,_,_,_,_,_,_,_,_,_,_,_,_,_,_,_,_,_,_,_,_,_,_,_,_,_,_,_,_,_], rfl, by omega, hsw, rfl, rfl, rfl⟩
end Go.Ev
namespace Go.Ev
open Go.Proofs
class Zero4 (t : TypeId) : Prop where
 z : runPure Tryz.prog (zeroValue t) = some (.agg #[.bool false, .int .i64 0, .int .i64 0, .slice none 0 0])
instance : Zero4 24 := ⟨by kernel_rfl⟩
instance : Zero4 25 := ⟨by kernel_rfl⟩
section
variable {O : CallF} {T : List AV} {H H0 : AH} {ops : Array Oper} {o : Oper} {K : AV → AH → Prop}
theorem o_alloc4 {t : TypeId} (ho : o.op = .alloc t) (hg : wantedA o ops T = true) [hz : Zero4 t] (hr : H.next < 2 ^ 39) (hk : ∀ H1, H1.next = H.next + 1 → Keeps H H1 → Bx H1 H.next t ⟨false, 0, 0, []⟩ (.v (.slice none 0 0)) → K (.ptr H.next 0) H1) : WOp (ENV O) ops o T H K := by
 refine wop_val (by rw [ho]; rfl) hg (H' := H.add (.cells (mc ⟨false, 0, 0, []⟩ (.v (.slice none 0 0))) t 0)) (r := .ptr H.next 0) ?_ (Nat.le_succ _) (hk _ rfl ((Keeps.refl H).add _ hr) ⟨hr, get_add_eq hr⟩)
 unfold opEval; rw [ho]
 have hlt : Nat.blt H.next (2 ^ 39) = true := Nat.ble_eq_true_of_le hr
 simp only [ENV, allocA, hz.z, newA, hlt, if_true, Option.map_some]
 rfl
theorem o_store4 {t : TypeId} {p x : Operand} {b : Nat} {m0 m : Mc} {y0 y : AV} (ho : o.op = .store t p x) (hg : wantedA o ops T = true) [h4 : Four t] (hp : av T p = .ptr b 0) (hx : av T x = .agg (mc m y)) (hy : y.one = true) (hb : Bx H b t m0 y0) (hb0 : H0.next ≤ b) (k : Keeps H0 H)
   (hk : ∀ H1, H1.next = H.next → Keeps H0 H1 → Bx H1 b t m y → (∀ c, c ≠ b → H1.get c = H.get c) → K (.v undef) H1) : WOp (ENV O) ops o T H K := by
 refine wop_val (by rw [ho]; rfl) hg (r := .v undef) (H' := H.set b (some (.cells (mc m y) t 0))) ?_ (Nat.le_refl _) (hk _ rfl (k.set _ hb0 hb.lt) ⟨hb.lt, get_set_eq hb.lt⟩ (fun c hc => get_set_ne hb.lt hc))
 unfold opEval; rw [ho]
 have h2 := h4.s
 have e1 : Nat.beq (AV.agg (mc m y)).cells.length 4 = true := rfl
 simp only [ENV, storeOpA, hp, hx, h2, e1, if_true, storeA, hb.g]
 have e2 : ((0 + (AV.agg (mc m y)).cells.length).ble (mc m0 y0).length && (AV.agg (mc m y)).cells.all AV.one) = true := by
   show (true && ((AV.v (.bool m.ring)).one && ((iv m.g).one && ((iv m.t).one && (y.one && true))))) = true
   rw [hy]; rfl
 rw [if_pos e2]
 rfl
end
theorem Sl.one {H : AH} {x : AV} {l : List AV} (h : Sl H x l) : x.one = true := by
 unfold Sl at h
 split at h
 · rfl
 · rfl
 · rfl
 · exact h.elim
def fitsB (m : Mc) (l : List Int) (gears carriers : Int) : Bool := decide (m.sw.length ≤ 19 ∧ l.length ≤ 67) && decide (m.g ≤ gears) && decide ((l.length : Int) ≤ carriers) && decide (cE m l = 0)
variable {O : CallF} (hq : Quiet O)
include hq
theorem c67 (H : AH) (a x y : AV) (m : Mc) (l : List Int) (gears carriers : Int) (ha : a.cells = mc m x) (hx : Sl H x (ivs m.sw)) (ho : Old H x) (hLx : ∀ b, x.own = some b → Lk H b) (hy : Sl H y (ivs l)) (hoy : Old H y) (hLy : ∀ b, y.own = some b → Lk H b) (hr : H.next + 1000 < 2 ^ 39) (K : AV → AH → Prop) (hk : ∀ H', Keeps H H' → H'.next ≤ H.next + 200 → K (.v (.bool (fitsB m l gears carriers))) H') : Ca (ENV O) 67 [a, y, iv gears, iv carriers] H K := by
 refine ca_intro (hq _ _ _ rfl) (fn := Tryz.f67) (by rfl) rfl ?_
 repeat (first | apply qR | apply qS)
 refine wops_cons (o_boxM rfl rfl ha (by omega) fun H1 n1 k1 b1 => ?_)
 repeat (first | apply qN | refine qM rfl rfl ?_ | refine zqb rfl rfl rfl ‹_› ?_ | apply qR | apply qS)
 refine wops_cons (o_alloc4 rfl rfl (by omega) fun H2 n2 k2 b2 => ?_)
 skip
 refine wops_cons (o_store4 rfl rfl rfl rfl hx.one b2 (Nat.le_refl _) k2 fun H3 n3 k3 b3 g3 => ?_)
 have b1' := b1.keep (by omega) k3
 have hp1 := b1'.p1
 have hx3 := hx.keep ho (k1.trans k3)
 have ho3 := ho.keep (k1.trans k3)
 have hy3 := hy.keep hoy (k1.trans k3)
 have hoy3 := hoy.keep (k1.trans k3)
 repeat (first | apply qN | refine qM rfl rfl ?_ | refine zqb rfl rfl rfl ‹_› ?_ | apply qR | apply qS)
 refine wops_cons (wop_callF rfl rfl rfl (fn := Tryz.f15) (by rfl) ?_)
 refine c15 hq H3 _ x y m l rfl hx3 ho3 hy3 hoy3 (by omega) _ fun H4 k4 n4 => ⟨k4.nx, ?_⟩
 by_cases hs : m.sw.length ≤ 19 ∧ l.length ≤ 67
 rotate_left
 · have hk := hk H4 ((k1.trans k3).trans k4) (by omega)
   rw [decide_eq_false hs]
   rw [show fitsB m l gears carriers = false by simp [fitsB, hs]] at hk
   repeat (first | apply qN | refine zq1 rfl rfl ?_ | refine qM rfl rfl ?_ | refine zq7 rfl rfl rfl ?_)
   refine wp_ret ?_
   exact ⟨_, _, rfl, hk⟩
 rw [decide_eq_true hs]
 have b14 := b1'.keep (by omega) k4
 have b34 := b3.keep (by omega) k4
 have hy4 := hy3.keep hoy3 k4
 clear hp1
 have hp1 := b14.p1
 repeat (first | refine qM rfl rfl ?_ | refine zqa rfl rfl rfl ?_ | refine zq6 rfl rfl ‹_› ?_)
 refine wops_cons (wop_cmp rfl rfl rfl rfl rfl (fun h => ?_) (fun h => ?_))
 rotate_left
 · have h1 : ¬ m.g ≤ gears := of_decide_eq_false h
   have hk := hk H4 ((k1.trans k3).trans k4) (by omega)
   rw [show fitsB m l gears carriers = false by simp [fitsB, h1]] at hk
   repeat (first | apply qN | refine zq1 rfl rfl ?_ | refine qM rfl rfl ?_ | refine zq7 rfl rfl rfl ?_)
   refine wp_ret ?_
   exact ⟨_, _, rfl, hk⟩
 have h1 : m.g ≤ gears := of_decide_eq_true h
 clear h
 repeat (first | refine qM rfl rfl ?_ | refine zq5 rfl rfl rfl rfl rfl ‹_› ?_ | refine zq7 rfl rfl rfl ?_)
 refine wops_cons (wop_cmp rfl rfl rfl rfl rfl (fun h => ?_) (fun h => ?_))
 rotate_left
 · have h2 : ¬ (l.length : Int) ≤ carriers := of_decide_eq_false h
   have hk := hk H4 ((k1.trans k3).trans k4) (by omega)
   rw [show fitsB m l gears carriers = false by simp [fitsB, h2]] at hk
   repeat (first | apply qN | refine zq1 rfl rfl ?_ | refine qM rfl rfl ?_ | refine zq7 rfl rfl rfl ?_)
   refine wp_ret ?_
   exact ⟨_, _, rfl, hk⟩
 have h2 : (l.length : Int) ≤ carriers := of_decide_eq_true h
 clear h
 repeat (first | refine qM rfl rfl ?_ | refine zqb rfl rfl rfl ‹_› ?_ | refine zq7 rfl rfl rfl ?_)
 refine wops_cons (wop_callF rfl rfl rfl (fn := Tryz.f26) (by rfl) ?_)
 refine c26 hq H4 _ x y m l rfl (hx3.keep ho3 k4) (ho3.keep k4) (fun b hb => (hLx b hb).keep ((k1.trans k3).trans k4)) hy4 (hoy3.keep k4) (fun b hb => (hLy b hb).keep ((k1.trans k3).trans k4)) (by omega) (by omega) (by omega) _ fun H5 k5 n5 => ⟨k5.nx, ?_⟩
 have hk := hk H5 (((k1.trans k3).trans k4).trans k5) (by omega)
 skip
 refine wops_cons (wop_cmp rfl rfl rfl rfl rfl (fun h => ?_) (fun h => ?_))
 · have h3 : cE m l = 0 := by simpa using h
   rw [show fitsB m l gears carriers = true by simp [fitsB, hs, h1, h2, h3]] at hk
   repeat (first | apply qN | refine qM rfl rfl ?_ | refine zq7 rfl rfl rfl ?_)
   refine wp_ret ?_
   exact ⟨_, _, rfl, hk⟩
 · have h3 : ¬ cE m l = 0 := by simpa using h
   rw [show fitsB m l gears carriers = false by simp [fitsB, h3]] at hk
   repeat (first | apply qN | refine qM rfl rfl ?_ | refine zq7 rfl rfl rfl ?_)
   refine wp_ret ?_
   exact ⟨_, _, rfl, hk⟩
end Go.Ev
namespace Go.Ev
open Go.Proofs
def Nw (H : AH) (r : AV) (l : List Int) : Prop := ∃ b, r = .slc b 0 l.length l.length ∧ b < H.next ∧ b < 2 ^ 39 ∧ H.get b = some (.cells (ivs l) 3 0)
theorem beqs_ivs : ∀ l : List Int, beqs (ivs l) (ivs l) = true
 | [] => rfl
 | x :: l => by
   show (AV.beq (iv x) (iv x) && beqs (ivs l) (ivs l)) = true
   rw [beqs_ivs l]
   simp [AV.beq, iv, vbeq]
theorem Nw.sl {H : AH} {r : AV} {l : List Int} (h : Nw H r l) : Sl H r (ivs l) := by
 obtain ⟨b, rfl, h1, h2, h3⟩ := h
 exact ⟨(ivs_length l).symm, h2, _, _, _, h3, fun j v hv => by rw [Nat.zero_add]; exact hv⟩
theorem Nw.old {H : AH} {r : AV} {l : List Int} (h : Nw H r l) : Old H r := by
 obtain ⟨b, rfl, h1, h2, h3⟩ := h
 intro c hc; cases hc; exact h1
theorem Nw.lk {H : AH} {r : AV} {l : List Int} (h : Nw H r l) : ∀ c, r.own = some c → Lk H c := by
 obtain ⟨b, rfl, h1, h2, h3⟩ := h
 intro c hc; cases hc
 refine ⟨h1, ?_⟩
 rw [h3]
 simp [sameBlk, beqs_ivs]
theorem Nw.cap {H : AH} {r : AV} {l : List Int} (h : Nw H r l) : CapOk r := by
 obtain ⟨b, rfl, h1, h2, h3⟩ := h
 exact Nat.le_refl _
theorem Nw.keep {H H' : AH} {r : AV} {l : List Int} (h : Nw H r l) (k : Keeps H H') : Nw H' r l := by
 obtain ⟨b, rfl, h1, h2, h3⟩ := h
 exact ⟨b, rfl, Nat.lt_of_lt_of_le h1 k.nx, h2, (k.get b h1).trans h3⟩
theorem ivs_rep (n : Nat) : List.replicate n (AV.v (.int .i64 0)) = ivs (List.replicate n 0) := by simp [ivs, iv]
theorem ivs_set (l : List Int) (i : Nat) (z : Int) : (ivs l).set i (iv z) = ivs (l.set i z) := by simp [ivs, List.map_set]
theorem fill_set {l : List Int} {n i : Nat} (hl : l.length = n) (hi : i < n) {z : Int} (hz : l[i]? = some z) : (l.take i ++ List.replicate (n - i) (0 : Int)).set i z = l.take (i + 1) ++ List.replicate (n - (i + 1)) 0 := by
 have h1 : (l.take i).length = i := by rw [List.length_take]; omega
 rw [List.set_append_right _ _ (by omega), h1, Nat.sub_self, List.take_add_one, hz]
 obtain ⟨k, hk⟩ : ∃ k, n - i = k + 1 := ⟨n - i - 1, by omega⟩
 rw [hk, List.replicate_succ, List.set_cons_zero, show n - (i + 1) = k by omega]
 simp
theorem WOps.H {E : Env} {ops : Array Oper} {l : List Oper} {T : List AV} {H H' : AH} {K : List AV → AH → Prop} (h : H = H') (hw : WOps E ops l T H' K) : WOps E ops l T H K := h ▸ hw
variable {O : CallF} (hq : Quiet O)
include hq
theorem c158 (H : AH) (g s : Int) (hg : 0 ≤ g ∧ g ≤ 1000) (hs : 0 ≤ s ∧ s ≤ 3) (K : AV → AH → Prop) (hk : K (iv (4 * g + s)) H) : Ca (ENV O) 159 [iv g, iv s] H K := by
 refine ca_intro (hq _ _ _ rfl) (fn := Tryz.f159) (by rfl) rfl ?_
 repeat (first | apply qN | refine qM rfl rfl ?_ | apply qR | apply qS)
 refine wops_cons (wop_bin (op := .mul) rfl rfl rfl rfl (mul4 (by omega)) ?_)
 repeat (first | refine qM rfl rfl ?_)
 refine wops_cons (wop_bin (op := .add) (v := .int .i64 (4 * g + s)) rfl rfl rfl rfl ?_ ?_)
 · show some (Value.int .i64 (IntKind.i64.wrap (4 * g + s))) = _
   rw [wrap_id (by omega) (by omega)]
 repeat (first | apply qN | refine qM rfl rfl ?_)
 refine wp_ret ?_
 exact ⟨_, _, rfl, hk⟩
theorem c99 (H : AH) (y : AV) (l : List Int) (f : FuncId) (cap : List AV) (fn : Func) (hF : TF.get f = some fn) (F : Int → Int) (hy : Sl H y (ivs l)) (hoy : Old H y) (hll : l.length ≤ 100000) (hr : H.next + 10 < 2 ^ 39)
   (hf : ∀ H', Keeps H H' → ∀ z ∈ l, ∀ K : AV → AH → Prop, K (iv (F z)) H' → Ca (ENV O) f (iv z :: cap) H' K)
   (K : AV → AH → Prop) (hk : ∀ H' r, Keeps H H' → H'.next = H.next + 1 → Nw H' r (l.map F) → K r H') : Ca (ENV O) 99 [y, .fn (.func f) [] cap] H K := by
 refine ca_intro (hq _ _ _ rfl) (fn := Tryz.f99) (by rfl) rfl ?_
 have r0 : H.next < 2 ^ 39 := by omega
 repeat (first | apply qN | refine qM rfl rfl ?_ | refine zq5 rfl rfl rfl rfl rfl ‹_› ?_ | apply qR | apply qS)
 refine wops_cons (o_make rfl rfl rfl rfl (by omega) r0 ?_)
 have k1 := (Keeps.refl H).add (.cells (List.replicate l.length (.v (.int .i64 0))) 3 0) r0
 have g1 : (H.add (.cells (List.replicate l.length (.v (.int .i64 0))) 3 0)).get H.next = some (.cells (List.replicate l.length (.v (.int .i64 0))) 3 0) := get_add_eq r0
 have n1 : (H.add (.cells (List.replicate l.length (.v (.int .i64 0))) 3 0)).next = H.next + 1 := rfl
 have hy1 := hy.keep hoy k1
 generalize H.add (.cells (List.replicate l.length (.v (.int .i64 0))) 3 0) = H1 at k1 g1 n1 hy1 ⊢
 rw [ivs_rep] at g1
 repeat (first | apply qN | refine qM rfl rfl ?_ | refine zq5 rfl rfl rfl rfl rfl ‹_› ?_ | apply qR | apply qS | apply qB)
 refine wp_loop (fun q T M H' => ∃ (i : Nat) (Y : List AV), q = l.length - i ∧ i ≤ l.length ∧ Keeps H H' ∧ H'.next = H.next + 1 ∧ H'.get H.next = some (.cells (ivs ((l.map F).take i ++ List.replicate (l.length - i) 0)) 3 0) ∧ M = [] ∧ T = (lget Y 0 :: .fn (.func f) [] cap :: lget Y 1 :: lget Y 2 :: lget Y 3 :: .slc H.next 0 l.length l.length :: lget Y 4 :: lget Y 5 :: lget Y 6 :: lget Y 7 :: lget Y 8 :: y :: iv l.length :: iv (i : Nat) :: lget Y 9 :: lget Y 10 :: lget Y 11 :: lget Y 12 :: lget Y 13 :: lget Y 14 :: lget Y 15 :: lget Y 16 :: lget Y 17 :: lget Y 18 :: lget Y 19 :: lget Y 20 :: [])) l.length
   ⟨0, [_,_,_,_,_,_,_,_,_,_,_,_,_,_,_,_,_,_,_,_,_], rfl, Nat.zero_le _, k1, n1, by rw [List.take_zero, List.nil_append, Nat.sub_zero]; exact g1, rfl, rfl⟩ ?_
 rintro q T M H2 ⟨i, Y, hq1, hi, k2, n2, g2, rfl, rfl⟩
 have hy2 := hy.keep hoy k2
 repeat (first | apply qR | apply qS)
 refine wops_cons (wop_cmp rfl rfl rfl rfl rfl (fun h => ?_) (fun h => ?_))
 rotate_left
 · have h : ¬ ((i : Int) < l.length) := of_decide_eq_false h
   have e : i = l.length := by omega
   subst e
   rw [Nat.sub_self, List.replicate_zero, List.append_nil, List.take_of_length_le (by rw [List.length_map]; exact Nat.le_refl _)] at g2
   repeat (first | apply qN | refine qM rfl rfl ?_ | refine qF rfl ?_ | apply qR | apply qS | apply qE)
   refine wp_ret ?_
   exact ⟨_, _, rfl, hk H2 _ k2 n2 ⟨H.next, by rw [List.length_map]; rfl, by omega, r0, g2⟩⟩
 have h : (i : Int) < l.length := of_decide_eq_true h
 obtain ⟨z, hz⟩ := l_some (show i < l.length by omega)
 repeat (first | apply qN | refine qM rfl rfl ?_ | refine qT rfl ?_ | apply qR | apply qS | apply qK | apply qB)
 refine wops_cons (o_indexI rfl rfl hy2 rfl hz fun p hp => ?_)
 repeat (first | apply qN | refine qM rfl rfl ?_ | refine zq6 rfl rfl ‹_› ?_ | apply qR)
 refine wops_cons (wop_callFn rfl rfl rfl rfl (fn := fn) hF ?_)
 refine hf H2 k2 z (List.mem_of_getElem? hz) _ ⟨Nat.le_refl _, ?_⟩
 have hlen : ((l.map F).take i ++ List.replicate (l.length - i) (0 : Int)).length = l.length := by rw [List.length_append, List.length_take, List.length_map, List.length_replicate]; omega
 refine wops_cons (o_indexOwn rfl rfl rfl rfl (show i < l.length by omega) ?_)
 refine wops_cons (o_store rfl rfl rfl g2 (by rw [ivs_length, hlen]; omega) rfl ?_)
 have hzF : (l.map F)[i]? = some (F z) := by rw [List.getElem?_map, hz]; rfl
 have g3 : (H2.set H.next (some (.cells ((ivs ((l.map F).take i ++ List.replicate (l.length - i) 0)).set i (iv (F z))) 3 0))).get H.next = some (.cells (ivs ((l.map F).take (i + 1) ++ List.replicate (l.length - (i + 1)) 0)) 3 0) := by
   rw [get_set_eq r0, ivs_set, fill_set (by rw [List.length_map]) (by omega) hzF]
 have k3 := k2.set (some (.cells ((ivs ((l.map F).take i ++ List.replicate (l.length - i) 0)).set i (iv (F z))) 3 0)) (Nat.le_refl _) r0
 repeat (first | apply qN | refine qM rfl rfl ?_ | refine zq4 rfl rfl rfl rfl (inc (by omega)) ?_ | apply qR)
 exact ⟨l.length - (i + 1), by omega, i + 1, [_,_,_,_,_,_,_,_,_,_,_,_,_,_,_,_,_,_,_,_,_], rfl, by omega, k3, n2, g3, rfl, rfl⟩
theorem c127 (H : AH) (pb : Nat) (x : AV) (p : List Int) (z : Int) (hb : pb < 2 ^ 39) (hg : H.get pb = some (.cells [x] 22 0)) (hx : Sl H x (ivs p)) (hz : 0 ≤ z ∧ z < p.length) (K : AV → AH → Prop) (hk : K (iv (p.getD z.toNat 0)) H) : Ca (ENV O) 127 [iv z, .ptr pb 0] H K := by
 refine ca_intro (hq _ _ _ rfl) (fn := Tryz.f127) (by rfl) rfl ?_
 have hp0 : At H (.ptr pb 0) x := at_ptr hb hg rfl
 obtain ⟨k, rfl⟩ := Int.eq_ofNat_of_zero_le hz.1
 obtain ⟨w, hw⟩ := l_some (show k < p.length by omega)
 rw [Int.toNat_natCast, List.getD_eq_getElem?_getD, hw] at hk
 repeat (first | apply qN | refine qM rfl rfl ?_ | refine zq6 rfl rfl ‹_› ?_ | apply qR | apply qS)
 refine wops_cons (o_indexI rfl rfl hx rfl hw fun p hp => ?_)
 repeat (first | apply qN | refine qM rfl rfl ?_ | refine zq6 rfl rfl ‹_› ?_)
 refine wp_ret ?_
 exact ⟨_, _, rfl, hk⟩
theorem c78 (H : AH) (x y : AV) (p l : List Int) (hx : Sl H x (ivs p)) (hox : Old H x) (hy : Sl H y (ivs l)) (hoy : Old H y) (hl : ∀ z ∈ l, 0 ≤ z ∧ z < p.length) (hll : l.length ≤ 100000) (hr : H.next + 20 < 2 ^ 39)
   (K : AV → AH → Prop) (hk : ∀ H' r, Keeps H H' → H'.next = H.next + 2 → Nw H' r (l.map fun z => p.getD z.toNat 0) → K r H') : Ca (ENV O) 78 [x, y] H K := by
 refine ca_intro (hq _ _ _ rfl) (fn := Tryz.f78) (by rfl) rfl ?_
 have r0 : H.next < 2 ^ 39 := by omega
 repeat (first | apply qR | apply qS)
 refine wops_cons (o_box rfl rfl hx.one r0 ?_)
 have k1 := (Keeps.refl H).add (.cells [x] 22 0) r0
 have g1 : (H.add (.cells [x] 22 0)).get H.next = some (.cells [x] 22 0) := get_add_eq r0
 have n1 : (H.add (.cells [x] 22 0)).next = H.next + 1 := rfl
 have hx1 := hx.keep hox k1
 have hy1 := hy.keep hoy k1
 refine WOps.H (H' := H.add (.cells [x] 22 0)) rfl ?_
 generalize H.add (.cells [x] 22 0) = H1 at k1 g1 n1 hx1 hy1 ⊢
 repeat (first | apply qN | refine qM rfl rfl ?_ | apply qR | apply qS)
 refine wops_cons (wop_makeFunc rfl rfl ?_)
 refine wops_cons (wop_callF rfl rfl rfl (fn := Tryz.f99) (by rfl) ?_)
 refine c99 hq H1 y l 127 [.ptr H.next 0] Tryz.f127 (by rfl) (fun z => p.getD z.toNat 0) hy1 (hoy.keep k1) hll (by omega) (fun H' k' z hz K hk => ?_) _ fun H2 r k2 n2 hn => ⟨k2.nx, ?_⟩
 · exact c127 hq H' H.next x p z r0 ((k'.get _ (by omega)).trans g1) (hx1.keep (hox.keep k1) k') (hl z hz) K hk
 repeat (first | apply qN | refine qM rfl rfl ?_)
 refine wp_ret ?_
 exact ⟨_, _, rfl, hk H2 r (k1.trans k2) (by omega) hn⟩
end Go.Ev
namespace Go.Ev
open Go.Proofs
variable {O : CallF} (hq : Quiet O)
include hq
theorem c140 (H : AH) (x y : AV) (l m : List Int) (hx : Sl H x (ivs l)) (hLx : ∀ b, x.own = some b → Lk H b) (hy : Sl H y (ivs m)) (hLy : ∀ b, y.own = some b → Lk H b) (hlen : l.length ≤ 100000) (K : AV → AH → Prop) (hk : K (.v (.bool (decide (l = m)))) H) : Ca (ENV O) 141 [x, y] H K := by
 refine ca_intro (hq _ _ _ rfl) (fn := Tryz.f141) (by rfl) rfl ?_
 repeat (first | apply qN | refine qM rfl rfl ?_ | refine zq5 rfl rfl rfl rfl rfl ‹_› ?_ | apply qR | apply qS)
 refine wops_cons (wop_cmp rfl rfl rfl rfl rfl (fun h => ?_) (fun h => ?_))
 · have h : l.length ≠ m.length := by
     have : ¬ (l.length : Int) = m.length := by simpa using h
     omega
   rw [decide_eq_false (fun e => h (by rw [e]))] at hk
   repeat (first | apply qN | refine qM rfl rfl ?_ | refine qT rfl ?_ | apply qR | apply qS)
   refine wp_ret ?_
   exact ⟨_, _, rfl, hk⟩
 have hlm : l.length = m.length := by
   have : (l.length : Int) = m.length := by simpa using h
   omega
 clear h
 repeat (first | apply qN | refine qM rfl rfl ?_ | refine zq5 rfl rfl rfl rfl rfl ‹_› ?_ | refine qF rfl ?_ | apply qR | apply qS | apply qK | apply qB)
 refine wp_loop (fun q T M H' => ∃ (i : Nat) (Y : List AV), q = l.length - i ∧ i ≤ l.length ∧ (∀ j, j < i → l[j]? = m[j]?) ∧ H' = H ∧ M = [] ∧ T = (x :: y :: lget Y 0 :: lget Y 1 :: lget Y 2 :: lget Y 3 :: lget Y 4 :: lget Y 5 :: lget Y 6 :: lget Y 7 :: lget Y 8 :: lget Y 9 :: iv l.length :: iv (i : Nat) :: lget Y 10 :: lget Y 11 :: lget Y 12 :: lget Y 13 :: lget Y 14 :: lget Y 15 :: lget Y 16 :: lget Y 17 :: lget Y 18 :: lget Y 19 :: lget Y 20 :: lget Y 21 :: [])) l.length
   ⟨0, [_,_,_,_,_,_,_,_,_,_,_,_,_,_,_,_,_,_,_,_,_,_], rfl, Nat.zero_le _, fun j hj => absurd hj (Nat.not_lt_zero _), rfl, rfl, rfl⟩ ?_
 rintro q T M H' ⟨i, Y, hq1, hi, hr, rfl, rfl, rfl⟩
 repeat (first | apply qR | apply qS)
 refine wops_cons (wop_cmp rfl rfl rfl rfl rfl (fun h => ?_) (fun h => ?_))
 rotate_left
 · have h : ¬ ((i : Int) < l.length) := of_decide_eq_false h
   have e : l = m := List.ext_getElem? fun j => by
     rcases Nat.lt_or_ge j l.length with hj | hj
     · exact hr j (by omega)
     · rw [List.getElem?_eq_none hj, List.getElem?_eq_none (by omega)]
   rw [decide_eq_true e] at hk
   repeat (first | apply qN | refine qM rfl rfl ?_ | refine qF rfl ?_ | apply qR | apply qS | apply qE)
   refine wp_ret ?_
   exact ⟨_, _, rfl, hk⟩
 have h : (i : Int) < l.length := of_decide_eq_true h
 obtain ⟨z, hz⟩ := l_some (show i < l.length by omega)
 obtain ⟨w, hw⟩ := l_some (l := m) (show i < m.length by omega)
 repeat (first | apply qN | refine qM rfl rfl ?_ | refine qT rfl ?_ | apply qR | apply qS | apply qK | apply qB)
 refine wp_drawK rfl ?_
 repeat (first | refine k_move rfl rfl rfl ?_)
 refine k_indexI rfl rfl rfl hx rfl hz hLx fun p hp hpl => ?_
 repeat (first | refine k_move rfl rfl rfl ?_ | refine k_load rfl rfl rfl ‹_› ‹_› ?_)
 refine k_indexI rfl rfl rfl hy rfl hw hLy fun p2 hp2 hpl2 => ?_
 repeat (first | refine k_load rfl rfl rfl ‹_› ‹_› ?_)
 refine k_cmp rfl rfl rfl rfl rfl rfl (fun h => ?_) (fun h => ?_)
 · have h : z ≠ w := by simpa using h
   rw [decide_eq_false (show ¬ l = m from fun e => h (by rw [e, hw] at hz; cases hz; rfl))] at hk
   repeat (first | apply qN | refine qM rfl rfl ?_ | refine k_nil ?_ | refine qT rfl ?_ | apply qR | apply qS)
   refine wp_ret ?_
   exact ⟨_, _, rfl, hk⟩
 have hzw : z = w := by simpa using h
 clear h
 repeat (first | apply qN | refine qM rfl rfl ?_ | refine zq4 rfl rfl rfl rfl (inc (by omega)) ?_ | refine k_nil ?_ | refine qF rfl ?_ | apply qR | apply qK)
 refine ⟨l.length - (i + 1), by omega, i + 1, [_,_,_,_,_,_,_,_,_,_,_,_,_,_,_,_,_,_,_,_,_,_], rfl, by omega, fun j hj => ?_, rfl, rfl, rfl⟩
 by_cases e : j = i
 · subst e; rw [hz, hw, hzw]
 · exact hr j (by omega)
end Go.Ev
