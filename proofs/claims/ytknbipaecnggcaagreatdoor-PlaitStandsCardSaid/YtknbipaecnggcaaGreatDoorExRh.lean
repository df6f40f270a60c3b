/- Part of an evaluator of calls that is proved sound, and of what it gives about this program. No condition of its own. -/
import Derived.Test.YtknbipaecnggcaaGreatDoorExRe
set_option linter.unusedVariables false
set_option linter.unusedSimpArgs false
set_option linter.unusedSectionVars false
set_option maxRecDepth 100000
set_option maxHeartbeats 4000000
namespace Go.Ev
open Go.Proofs
noncomputable def flds (t : TypeId) := match runPure Tryz.prog (underlying t) with | some (.struct f) => f | _ => #[]
class PrS (t : TypeId) : Prop where
 z : runPure Tryz.prog (zeroValue t) = some (.agg #[.int .i64 0, .int .i64 0])
 u : runPure Tryz.prog (underlying t) = some (.struct (flds t))
 p : runPure Tryz.prog ((flds t).mapM fun f => do pure (f.offset, ← sizeOf f.type)) = some #[(0, 1), (1, 1)]
instance : PrS 105 := ⟨by kernel_rfl, by kernel_rfl, by kernel_rfl⟩
theorem o_buildP {O : CallF} {T : List AV} {H : AH} {ops : Array Oper} {o : Oper} {K : AV → AH → Prop} {t : TypeId} {x y : Operand} {a b : Int} (ho : o.op = .build t #[(0, x), (1, y)]) (hg : wantedA o ops T = true) [hp : PrS t] (hx : av T x = iv a) (hy : av T y = iv b) (hk : K (.agg [iv a, iv b]) H) : WOp (ENV O) ops o T H K := by
 refine wop_val (by rw [ho]; rfl) hg (r := .agg [iv a, iv b]) (H' := H) ?_ (Nat.le_refl _) hk
 unfold opEval; rw [ho]
 have h1 := hp.z
 have h2 := hp.u
 have h3 := hp.p
 simp only [ENV, buildA, h1, h2, h3]
 have e : (#[(0, x), (1, y)] : Array (Nat × Operand)).toList.map (fun p => (p.1, av T p.2)) = [(0, iv a), (1, iv b)] := by simp [hx, hy]
 rw [e]
 rfl
def rpL : List Int → Nat → List (Int × Int) → List Int × List (Int × Int)
 | l, _, [] => (l, [])
 | l, i, p :: ms => if refE l p.1 p.2 = 0 then rpL (nxL l p.1 p.2) (i + 1) ms else ((rpL l (i + 1) ms).1, ((i : Int) + 1, refE l p.1 p.2) :: (rpL l (i + 1) ms).2)
def mvE (ms : List (Int × Int)) : Int := if decide ((ms.length : Int) ≤ 1000) = true then 0 else 5
def rpE (l : List Int) (ms : List (Int × Int)) : Int := firstNZ [chkE l, mvE ms]
theorem drop_cons2 {l : List (Int × Int)} {i : Nat} {z : Int × Int} (h : l[i]? = some z) : l.drop i = z :: l.drop (i + 1) := by
 have hl := (List.getElem?_eq_some_iff.1 h).1
 rw [List.drop_eq_getElem_cons hl]
 congr 1
 exact (List.getElem?_eq_some_iff.1 h).2
theorem first2 {a b : Int} (h : firstNZ [a, b] = 0) : a = 0 ∧ b = 0 := by
 unfold firstNZ at h
 by_cases ha : a = 0
 · refine ⟨ha, ?_⟩
   rw [if_neg (by simpa using ha)] at h
   unfold firstNZ at h
   by_cases hb : b = 0
   · exact hb
   · rw [if_pos hb] at h; exact h
 · rw [if_pos ha] at h; exact absurd h ha
theorem chkE_len {l : List Int} (h : chkE l = 0) : 4 ≤ l.length ∧ l.length ≤ 64 := by
 unfold chkE firstNZ at h
 by_cases h4 : (4 : Int) ≤ (l.length : Int)
 · rw [decide_eq_true h4] at h
   simp only [if_true, firstNZ, ne_eq, not_true, if_false] at h
   by_cases h64 : (l.length : Int) ≤ 64
   · omega
   · rw [decide_eq_false h64] at h
     simp at h
 · rw [decide_eq_false h4] at h
   simp at h
variable {O : CallF} (hq : Quiet O)
include hq
theorem cCkM (H : AH) (t : TypeId) (x : AV) (ms : List (Int × Int)) (hx : S2 H t x ms) (K : AV → AH → Prop) (hk : K (iv (mvE ms)) H) : Ca (ENV O) 86 [x] H K := by
 refine ca_intro (hq _ _ _ rfl) (fn := Tryz.f86) (by rfl) rfl ?_
 repeat (first | apply qN | refine qM rfl rfl ?_ | apply qR | apply qS)
 refine wops_cons (o_len2 rfl rfl rfl rfl rfl hx ?_)
 refine wops_cons (wop_bin (op := .leq) (v := .bool (decide ((ms.length : Int) ≤ 1000))) rfl rfl rfl rfl rfl ?_)
 refine wops_cons (wop_callF rfl rfl rfl (fn := Tryz.f82) (by rfl) ?_)
 refine cThat hq H _ 5 _ ⟨Nat.le_refl _, ?_⟩
 repeat (first | apply qN | refine qM rfl rfl ?_)
 refine wp_ret ?_
 exact ⟨_, _, rfl, hk⟩
theorem cReplay (H : AH) (y : AV) (l : List Int) (x : AV) (ms : List (Int × Int)) (hy : Sl H y (ivs l)) (hoy : Old H y) (hgy : l ≠ [] → Gr H 3 y (ivs l)) (hx : S2 H 31 x ms) (hl : l.length ≤ 1000) (hr : H.next + 20000 < 2 ^ 39) (K : AV → AH → Prop)
   (hke : rpE l ms ≠ 0 → ∀ H', Keeps H H' → H'.next ≤ H.next + 1100 → K (.tup [.v (.slice none 0 0), .v (.slice none 0 0), iv (rpE l ms)]) H')
   (hk : rpE l ms = 0 → ∀ H' r rr, Keeps H H' → H'.next ≤ H.next + 1100 + 8 * ms.length → Gr H' 3 r (ivs (rpL l 0 ms).1) → (∀ b, r.own = some b → H.next ≤ b) → G2 H' 105 rr (rpL l 0 ms).2 → K (.tup [r, rr, iv 0]) H') : Ca (ENV O) 22 [y, x] H K := by
 refine ca_intro (hq _ _ _ rfl) (fn := Tryz.f22) (by rfl) rfl ?_
 repeat (first | apply qN | refine qM rfl rfl ?_ | apply qR | apply qS)
 refine wops_cons (wop_callF rfl rfl rfl (fn := Tryz.f17) (by rfl) ?_)
 refine cChk hq H y l hy hoy hl (by omega) _ fun H1 k1 n1 => ⟨k1.nx, ?_⟩
 repeat (first | refine qM rfl rfl ?_)
 refine wops_cons (wop_callF rfl rfl rfl (fn := Tryz.f86) (by rfl) ?_)
 refine cCkM hq H1 31 x ms (hx.keep k1) _ ⟨Nat.le_refl _, ?_⟩
 have r1 : H1.next < 2 ^ 39 := by omega
 refine wops_cons (o_build2 rfl rfl rfl rfl r1 ?_)
 refine WOps.mem (fun H2 => Keeps H1 H2 ∧ H2.next = H1.next + 1 ∧ Sl H2 (.slc H1.next 0 2 2) (ivs [chkE l, mvE ms])) ⟨(Keeps.refl H1).add _ r1, rfl, sl_new (cs := ivs [chkE l, mvE ms]) r1 2⟩ ?_
 rintro H2 ⟨k2, n2, hs2⟩
 have k02 := k1.trans k2
 refine wops_cons (wop_callF rfl rfl rfl (fn := Tryz.f81) (by rfl) ?_)
 refine cFirst hq H2 _ _ hs2 (by show 2 ≤ 1000; decide) _ ⟨Nat.le_refl _, ?_⟩
 clear hs2
 show WOps _ _ _ _ _ _
 have he : firstNZ [chkE l, mvE ms] = rpE l ms := rfl
 rw [he]
 by_cases h0 : rpE l ms = 0
 rotate_left
 · have hke := hke h0 H2 k02 (by omega)
   generalize rpE l ms = w at h0 hke ⊢
   repeat (first | apply qN | refine qM rfl rfl ?_ | apply qR | apply qS)
   refine wops_cons (wop_bin (op := .neq) (v := .bool true) rfl rfl rfl rfl (by simp [binI, h0]) ?_)
   repeat (first | apply qN | refine qM rfl rfl ?_ | refine qT rfl ?_ | apply qR | apply qS)
   refine wp_ret ?_
   exact ⟨_, _, rfl, hke⟩
 have hk := hk h0
 obtain ⟨hc0, hm0⟩ := first2 h0
 obtain ⟨h4, h64⟩ := chkE_len hc0
 have hne : l ≠ [] := fun e => by rw [e] at h4; simp at h4
 have hml : ms.length ≤ 1000 := by
   unfold mvE at hm0
   by_cases h : (ms.length : Int) ≤ 1000
   · omega
   · rw [decide_eq_false h] at hm0; simp at hm0
 rw [h0]
 repeat (first | apply qN | refine qM rfl rfl ?_ | apply qR | apply qS)
 refine wops_cons (wop_bin (op := .neq) (v := .bool false) rfl rfl rfl rfl rfl ?_)
 repeat (first | apply qN | refine qM rfl rfl ?_ | refine qF rfl ?_ | apply qR | apply qS | apply qK)
 have hg2 : Gr H2 3 y (ivs l) := (hgy hne).frame k02.nx fun b hb => k02.get b (hoy b hb)
 refine wops_cons (wop_callF rfl rfl rfl (fn := Tryz.f87) (by rfl) ?_)
 refine cCloneG hq H2 y l hg2 hl (by omega) _ fun H3 r k3 n3 hA3 hn3 => ⟨k3.nx, ?_⟩
 have hG3 := hA3.gr hne
 rcases hG3 with ⟨_, e⟩ | ⟨rb, hrb, hrb9, rfl, hgr⟩
 · exact absurd (by cases l with | nil => rfl | cons => simp [ivs] at e) hne
 have hrn := hn3 rb rfl
 rw [ivs_length]
 have k03 := k02.trans k3
 have hx3 := hx.keep k03
 repeat (first | apply qN | refine qM rfl rfl ?_ | apply qR | apply qS)
 refine wops_cons (o_len2 rfl rfl rfl rfl rfl hx3 ?_)
 repeat (first | apply qN | refine qM rfl rfl ?_ | apply qB)
 refine wp_loop (fun q T M H' => ∃ (i : Nat) (l' : List Int) (rf : List (Int × Int)) (rr : AV) (Y : List AV), q = ms.length - i ∧ i ≤ ms.length ∧ Keeps H2 H' ∧ H3.next ≤ H'.next ∧ H'.next ≤ H3.next + 8 * i ∧ H'.get rb = some (.cells (ivs l') 3 1) ∧ l'.length = l.length ∧ rf.length ≤ i ∧ G2 H' 105 rr rf ∧ (∀ d, rr.own = some d → H3.next ≤ d) ∧ rpL l 0 ms = ((rpL l' i (ms.drop i)).1, rf ++ (rpL l' i (ms.drop i)).2) ∧ M = [] ∧ T = (lget Y 0 :: lget Y 1 :: lget Y 2 :: lget Y 3 :: lget Y 4 :: lget Y 5 :: lget Y 6 :: lget Y 7 :: .slu rb 0 l.length 1 :: rr :: lget Y 8 :: lget Y 9 :: lget Y 10 :: lget Y 11 :: lget Y 12 :: lget Y 13 :: lget Y 14 :: lget Y 15 :: lget Y 16 :: lget Y 17 :: lget Y 18 :: lget Y 19 :: lget Y 20 :: lget Y 21 :: x :: iv (ms.length : Nat) :: iv (i : Nat) :: lget Y 22 :: lget Y 23 :: lget Y 24 :: lget Y 25 :: lget Y 26 :: lget Y 27 :: lget Y 28 :: lget Y 29 :: lget Y 30 :: lget Y 31 :: lget Y 32 :: lget Y 33 :: lget Y 34 :: lget Y 35 :: lget Y 36 :: lget Y 37 :: lget Y 38 :: lget Y 39 :: lget Y 40 :: lget Y 41 :: lget Y 42 :: lget Y 43 :: lget Y 44 :: lget Y 45 :: lget Y 46 :: lget Y 47 :: lget Y 48 :: lget Y 49 :: lget Y 50 :: lget Y 51 :: lget Y 52 :: lget Y 53 :: [])) ms.length
   ⟨0, l, [], .v (.slice none 0 0), [_,_,_,_,_,_,_,_,_,_,_,_,_,_,_,_,_,_,_,_,_,_,_,_,_,_,_,_,_,_,_,_,_,_,_,_,_,_,_,_,_,_,_,_,_,_,_,_,_,_,_,_,_,_], rfl, Nat.zero_le _, k3, Nat.le_refl _, Nat.le_refl _, hgr, rfl, Nat.le_refl _, .inl ⟨rfl, rfl⟩, (fun d hd => by cases hd), rfl, rfl, rfl⟩ ?_
 rintro q T M H4 ⟨i, l', rf, rr, Y, hq1, hi, k4, n4, n4', g4, hl', hrf, hG4, hno, hrp, rfl, rfl⟩
 have k04 := k02.trans k4
 repeat (first | apply qR | apply qS)
 refine wops_cons (wop_cmp rfl rfl rfl rfl rfl (fun h => ?_) (fun h => ?_))
 rotate_left
 · have h : ¬ ((i : Int) < (ms.length : Nat)) := of_decide_eq_false h
   have e : i = ms.length := by omega
   subst e
   rw [List.drop_length] at hrp
   have hrp : rpL l 0 ms = (l', rf) := by rw [hrp]; simp [rpL]
   rw [hrp] at hk
   have hGf : Gr H4 3 (.slu rb 0 l.length 1) (ivs l') := .inr ⟨rb, by omega, hrb9, by rw [ivs_length, hl'], g4⟩
   repeat (first | apply qN | refine qM rfl rfl ?_ | refine qF rfl ?_ | apply qR | apply qS | apply qE)
   refine wp_ret ?_
   exact ⟨_, _, rfl, hk H4 (.slu rb 0 l.length 1) rr k04 (by omega) hGf (fun b hb => by cases hb; have := k02.nx; omega) hG4⟩
 have hi' : i < ms.length := by have h : (i : Int) < (ms.length : Nat) := of_decide_eq_true h; omega
 clear h
 obtain ⟨⟨a, b⟩, hp⟩ : ∃ p, ms[i]? = some p := ⟨ms[i], List.getElem?_eq_getElem hi'⟩
 rw [drop_cons2 hp, rpL] at hrp
 have hx4 := hx.keep k04
 repeat (first | apply qN | refine qM rfl rfl ?_ | refine qT rfl ?_ | apply qR | apply qS | apply qK | apply qB)
 refine wops_cons (o_index2 rfl rfl hx4 rfl hp fun xb gr hxb hxg => ?_)
 refine wops_cons (o_loadA (r := [iv a, iv b]) (n := 2) rfl rfl (by kernel_rfl) (by kernel_rfl) rfl hxg (by rw [Nat.zero_add]; exact fl2_get hp) (by rw [fl2_len]; omega) ?_)
 have r4 : H4.next < 2 ^ 39 := by omega
 refine wops_cons (o_allocA (zs := [iv 0, iv 0]) rfl rfl (z := .agg #[.int .i64 0, .int .i64 0]) (by kernel_rfl) rfl r4 ?_)
 repeat (first | refine qM rfl rfl ?_)
 refine wops_cons (o_storeA (n := 2) (vs := [iv a, iv b]) rfl rfl (by kernel_rfl) rfl rfl rfl rfl (get_add_eq r4) (Nat.le_refl _) ?_)
 refine WOps.mem (fun H5 => Keeps H4 H5 ∧ H5.next = H4.next + 1 ∧ Bk H5 H4.next 31 [iv a, iv b]) ⟨((Keeps.refl H4).add _ r4).set _ (Nat.le_refl _) r4, rfl, ⟨r4, get_set_eq r4⟩⟩ ?_
 rintro H5 ⟨k5, n5, b5⟩
 have hS5 : Gr H5 3 (.slu rb 0 l.length 1) (ivs l') := .inr ⟨rb, by omega, hrb9, by rw [ivs_length, hl'], (k5.get rb (by omega)).trans g4⟩
 show WOps _ _ _ _ _ _
 repeat (first | apply qN | refine qM rfl rfl ?_ | refine zqb rfl rfl rfl ‹_› ?_ | apply qR | apply qS)
 refine wops_cons (wop_callF rfl rfl rfl (fn := Tryz.f78) (by rfl) ?_)
 refine cRef hq H5 _ l' a b _ rfl hS5.sl hS5.old (by omega) _ fun H6 k6 n6 => ⟨k6.nx, ?_⟩
 have k46 := k5.trans k6
 have b6 := b5.keep (by omega) k6
 have g6 : H6.get rb = some (.cells (ivs l') 3 1) := (k46.get rb (by omega)).trans g4
 by_cases hz : refE l' a b = 0
 · rw [if_pos hz] at hrp
   rw [hz]
   repeat (first | apply qN | refine qM rfl rfl ?_ | apply qR | apply qS)
   refine wops_cons (wop_bin (op := .neq) (v := .bool false) rfl rfl rfl rfl rfl ?_)
   obtain ⟨ha, hb, -, -⟩ := refE_ok hz
   obtain ⟨ai, rfl, hai, hza⟩ := inSlot ha
   obtain ⟨bi, rfl, hbi, hzb⟩ := inSlot hb
   have hS6 : Sl H6 (.slu rb 0 l.length 1) (ivs l') := (show Gr H6 3 (.slu rb 0 l.length 1) (ivs l') from .inr ⟨rb, by omega, hrb9, by rw [ivs_length, hl'], g6⟩).sl
   have hp0 : At H6 (.ptr H4.next 0) (iv (ai : Int)) := b6.at rfl
   have hp1 : At H6 (.ptr H4.next 1) (iv (bi : Int)) := b6.at rfl
   have s6 : ∀ v : Option AB, sameBlk ((H6.set rb v).get H4.next) (H6.get H4.next) = true := fun v => by
     rw [get_set_ne hrb9 (by omega), b6.g]
     simp [sameBlk, beqs, AV.beq, iv, vbeq]
   repeat (first | apply qN | refine qF rfl ?_ | apply qK)
   refine wp_drawY (fun j b => b = H4.next ∨ (b = rb ∧ j = 10)) rfl ?_
   refine y_move rfl rfl rfl ?_
   refine y_field rfl rfl rfl rfl ?_
   refine y_load rfl rfl rfl hp0 (fun b hb => by cases hb; exact .inl rfl) ?_
   refine y_move rfl rfl rfl ?_
   refine y_field rfl rfl rfl rfl ?_
   refine y_load rfl rfl rfl hp1 (fun b hb => by cases hb; exact .inl rfl) ?_
   refine y_move rfl rfl rfl ?_
   refine y_field rfl rfl rfl rfl ?_
   refine y_load rfl rfl rfl hp0 (fun b hb => by cases hb; exact .inl rfl) ?_
   refine y_indexI rfl rfl rfl hS6 rfl hza fun p hpp hpo => ?_
   refine y_load rfl rfl rfl hpp (fun b hb => .inr ⟨by have := hpo b hb; cases this; rfl, rfl⟩) ?_
   refine y_indexU rfl rfl rfl rfl rfl (by omega) ?_
   refine y_loud rfl rfl (o_store rfl rfl rfl g6 (by rw [ivs_length]; omega) rfl ⟨fun j b hb => ?_, ?_⟩)
   · rcases hb with rfl | ⟨rfl, rfl⟩
     · exact .inr (s6 _)
     · exact .inl (by kernel_rfl)
   refine y_indexU rfl rfl rfl rfl rfl (by omega) ?_
   refine y_loud rfl rfl (o_store rfl rfl rfl (get_set_eq hrb9) (by rw [List.length_set, ivs_length]; omega) rfl ⟨fun j b hb => ?_, ?_⟩)
   · rcases hb with rfl | ⟨rfl, rfl⟩
     · exact .inr (by rw [get_set_ne hrb9 (by omega)]; exact s6 _)
     · exact .inl (by kernel_rfl)
   refine y_nil ?_
   refine Wp.mem (fun H7 => Keeps H2 H7 ∧ H7.next = H6.next ∧ H7.get rb = some (.cells (ivs (nxL l' (ai : Int) (bi : Int))) 3 1) ∧ (∀ d, rb < d → H7.get d = H6.get d)) ⟨?_, rfl, ?_, ?_⟩ ?_
   · exact ((k4.trans k46).set _ (by omega) hrb9).set _ (by omega) hrb9
   · refine (get_set_eq hrb9).trans ?_
     unfold nxL
     rw [← ivs_set, ← ivs_set]
     rfl
   · intro d hd
     rw [get_set_ne hrb9 (by omega), get_set_ne hrb9 (by omega)]
   rintro H7 ⟨k7, n7, g7, f7⟩
   have hG7 : G2 H7 105 rr rf := by
     rcases hG4 with h | ⟨d, h1, h2, h3, h5⟩
     · exact .inl h
     · have hd := hno d (by rw [h3]; rfl)
       exact .inr ⟨d, by omega, h2, h3, (f7 d (by omega)).trans ((k46.get d h1).trans h5)⟩
   repeat (first | apply qN | refine qM rfl rfl ?_ | refine zq4 rfl rfl rfl rfl (inc (by omega)) ?_ | apply qR)
   exact ⟨ms.length - (i + 1), by omega, i + 1, _, rf, rr, [_,_,_,_,_,_,_,_,_,_,_,_,_,_,_,_,_,_,_,_,_,_,_,_,_,_,_,_,_,_,_,_,_,_,_,_,_,_,_,_,_,_,_,_,_,_,_,_,_,_,_,_,_,_], rfl, by omega, k7, by omega, by omega, g7, by rw [nxL_len]; exact hl', by omega, hG7, hno, hrp, rfl, rfl⟩
 · rw [if_neg hz] at hrp
   generalize refE l' a b = w at hz hrp ⊢
   repeat (first | apply qN | refine qM rfl rfl ?_ | apply qR | apply qS)
   refine wops_cons (wop_bin (op := .neq) (v := .bool true) rfl rfl rfl rfl (by simp [binI, hz]) ?_)
   repeat (first | apply qN | refine qM rfl rfl ?_ | refine zq4 rfl rfl rfl rfl (inc (by omega)) ?_ | refine qT rfl ?_ | apply qR | apply qS)
   refine wops_cons (o_buildP rfl rfl rfl rfl ?_)
   have r6 : H6.next < 2 ^ 39 := by omega
   refine wops_cons (o_build1S rfl rfl rfl r6 ?_)
   refine WOps.mem (fun H7 => Keeps H6 H7 ∧ H7.next = H6.next + 1 ∧ H7.get H6.next = some (.cells [iv ((i : Int) + 1), iv w] 105 0)) ⟨(Keeps.refl H6).add _ r6, rfl, get_add_eq r6⟩ ?_
   rintro H7 ⟨k7, n7, g7⟩
   have k47 := k46.trans k7
   have k27 := k4.trans k47
   have hG7 : G2 H7 105 rr rf := hG4.keep k47
   refine wops_cons (o_append2 (p := ((i : Int) + 1, w)) (ms := rf) rfl rfl rfl rfl rfl (by omega) (by omega) rfl g7 hG7 fun r8 H8 n8 gl8 f8 hr8 hG8 => ?_)
   have k28 : Keeps H2 H8 := ⟨by omega, gl8.trans k27.gl, fun d hd => (f8 d (by omega) (fun e => by have := hno d e; omega)).trans (k27.get d hd)⟩
   have g8 : H8.get rb = some (.cells (ivs l') 3 1) := (f8 rb (by omega) (fun e => by have := hno rb e; omega)).trans ((k47.get rb (by omega)).trans g4)
   subst hr8
   repeat (first | apply qN | refine qM rfl rfl ?_ | refine zq4 rfl rfl rfl rfl (inc (by omega)) ?_ | apply qR | apply qE)
   exact ⟨ms.length - (i + 1), by omega, i + 1, l', rf ++ [((i : Int) + 1, w)], _, [_,_,_,_,_,_,_,_,_,_,_,_,_,_,_,_,_,_,_,_,_,_,_,_,_,_,_,_,_,_,_,_,_,_,_,_,_,_,_,_,_,_,_,_,_,_,_,_,_,_,_,_,_,_], rfl, by omega, k28, by omega, by omega, g8, hl', by rw [List.length_append]; exact Nat.add_le_add hrf (Nat.le_refl _), hG8, (fun d hd => by cases hd; omega), by rw [hrp]; simp, rfl, rfl⟩
end Go.Ev
namespace Go.Ev
open Go.Proofs
def flE (l : List Int) (ms : List (Int × Int)) : Int := firstNZ [rpE l ms, if rpE l ms = 0 ∧ (rpL l 0 ms).2 ≠ [] then 18 else 0]
theorem flE_bad {l : List Int} {ms : List (Int × Int)} (h : rpE l ms ≠ 0) : flE l ms = rpE l ms := by
 unfold flE firstNZ
 rw [if_pos h]
theorem flE_ok {l : List Int} {ms : List (Int × Int)} (h : rpE l ms = 0) : flE l ms = if (rpL l 0 ms).2.length = 0 then 0 else 18 := by
 unfold flE
 rw [h]
 by_cases h2 : (rpL l 0 ms).2 = []
 · simp [firstNZ, h2]
 · rw [if_pos ⟨rfl, h2⟩, if_neg (fun h => h2 (List.eq_nil_of_length_eq_zero h))]
   simp [firstNZ]
theorem mvE_len {ms : List (Int × Int)} (h : mvE ms = 0) : ms.length ≤ 1000 := by
 unfold mvE at h
 by_cases h1 : (ms.length : Int) ≤ 1000
 · omega
 · rw [decide_eq_false h1] at h; simp at h
theorem nz01 {n : Nat} : binI .eql .i64 .i64 (n : Int) 0 = some (.bool (decide (n = 0))) := by
 simp only [binI]
 by_cases h : n = 0
 · subst h; rfl
 · have : ¬ (n : Int) = 0 := by omega
   simp [h, this]
variable {O : CallF} (hq : Quiet O)
include hq
theorem cFollow (H : AH) (y : AV) (l : List Int) (x : AV) (ms : List (Int × Int)) (hy : Sl H y (ivs l)) (hoy : Old H y) (hgy : l ≠ [] → Gr H 3 y (ivs l)) (hx : S2 H 31 x ms) (hl : l.length ≤ 1000) (hr : H.next + 20000 < 2 ^ 39) (K : AV → AH → Prop)
   (hke : flE l ms ≠ 0 → ∀ H', Keeps H H' → H'.next ≤ H.next + 1110 + 8 * ms.length → K (.tup [.v (.slice none 0 0), iv (flE l ms)]) H')
   (hk : flE l ms = 0 → ∀ H' r, Keeps H H' → H'.next ≤ H.next + 1110 + 8 * ms.length → Gr H' 3 r (ivs (rpL l 0 ms).1) → (∀ b, r.own = some b → H.next ≤ b) → K (.tup [r, iv 0]) H') : Ca (ENV O) 79 [y, x] H K := by
 refine ca_intro (hq _ _ _ rfl) (fn := Tryz.f79) (by rfl) rfl ?_
 repeat (first | apply qN | refine qM rfl rfl ?_ | apply qR | apply qS)
 refine wops_cons (wop_callF rfl rfl rfl (fn := Tryz.f22) (by rfl) ?_)
 refine cReplay hq H y l x ms hy hoy hgy hx hl hr _ (fun h0 H1 k1 n1 => ⟨k1.nx, ?_⟩) (fun h0 H1 r rr k1 n1 hG1 hn1 hR1 => ⟨k1.nx, ?_⟩)
 · rw [flE_bad h0] at hke
   have hke := hke h0
   clear hk
   generalize rpE l ms = w at h0 hke ⊢
   have hR1 : S2 H1 105 (.v (.slice none 0 0)) [] := .inl ⟨rfl, rfl⟩
   repeat (first | apply qN | refine qM rfl rfl ?_ | refine zq9 rfl rfl rfl rfl ?_ | apply qR | apply qS)
   refine wops_cons (o_len2 rfl rfl rfl rfl rfl hR1 ?_)
   refine wops_cons (wop_bin (op := .eql) (v := .bool true) rfl rfl rfl rfl rfl ?_)
   refine wops_cons (wop_callF rfl rfl rfl (fn := Tryz.f82) (by rfl) ?_)
   refine cThat hq H1 _ 18 _ ⟨Nat.le_refl _, ?_⟩
   have r1 : H1.next < 2 ^ 39 := by omega
   refine wops_cons (o_build2 rfl rfl rfl rfl r1 ?_)
   refine WOps.mem (fun H2 => Keeps H1 H2 ∧ H2.next = H1.next + 1 ∧ Sl H2 (.slc H1.next 0 2 2) (ivs [w, 0])) ⟨(Keeps.refl H1).add _ r1, rfl, sl_new (cs := ivs [w, 0]) r1 2⟩ ?_
   rintro H2 ⟨k2, n2, hs2⟩
   refine wops_cons (wop_callF rfl rfl rfl (fn := Tryz.f81) (by rfl) ?_)
   refine cFirst hq H2 _ _ hs2 (by show 2 ≤ 1000; decide) _ ⟨Nat.le_refl _, ?_⟩
   clear hs2
   rw [show firstNZ [w, 0] = w by unfold firstNZ; rw [if_pos h0]]
   repeat (first | apply qN | refine qM rfl rfl ?_ | apply qR | apply qS)
   refine wops_cons (wop_bin (op := .neq) (v := .bool true) rfl rfl rfl rfl (by simp [binI, h0]) ?_)
   repeat (first | apply qN | refine qM rfl rfl ?_ | refine qT rfl ?_ | apply qR | apply qS)
   refine wp_ret ?_
   exact ⟨_, _, rfl, hke H2 (k1.trans k2) (by omega)⟩
 · rw [flE_ok h0] at hke hk
   have hml := mvE_len (first2 h0).2
   generalize hrf : (rpL l 0 ms).2 = rf at hR1 hke hk
   have hS1 := hR1.s2
   repeat (first | apply qN | refine qM rfl rfl ?_ | refine zq9 rfl rfl rfl rfl ?_ | apply qR | apply qS)
   refine wops_cons (o_len2 rfl rfl rfl rfl rfl hS1 ?_)
   refine wops_cons (wop_bin (op := .eql) (v := .bool (decide (rf.length = 0))) rfl rfl rfl rfl nz01 ?_)
   refine wops_cons (wop_callF rfl rfl rfl (fn := Tryz.f82) (by rfl) ?_)
   refine cThat hq H1 _ 18 _ ⟨Nat.le_refl _, ?_⟩
   have r1 : H1.next < 2 ^ 39 := by omega
   generalize he : (if decide (rf.length = 0) = true then (0 : Int) else 18) = e
   have he2 : (if rf.length = 0 then (0 : Int) else 18) = e := by rw [← he]; by_cases h : rf.length = 0 <;> simp [h]
   rw [he2] at hke hk
   refine wops_cons (o_build2 rfl rfl rfl rfl r1 ?_)
   refine WOps.mem (fun H2 => Keeps H1 H2 ∧ H2.next = H1.next + 1 ∧ Sl H2 (.slc H1.next 0 2 2) (ivs [0, e])) ⟨(Keeps.refl H1).add _ r1, rfl, sl_new (cs := ivs [0, e]) r1 2⟩ ?_
   rintro H2 ⟨k2, n2, hs2⟩
   refine wops_cons (wop_callF rfl rfl rfl (fn := Tryz.f81) (by rfl) ?_)
   refine cFirst hq H2 _ _ hs2 (by show 2 ≤ 1000; decide) _ ⟨Nat.le_refl _, ?_⟩
   clear hs2
   rw [show firstNZ [0, e] = e by by_cases h : e = 0 <;> simp [firstNZ, h]]
   by_cases h1 : e = 0
   · have hk := hk h1 H2 r (k1.trans k2) (by omega) (hG1.frame k2.nx fun b hb => k2.get b (hG1.old b hb)) hn1
     rw [h1]
     repeat (first | apply qN | refine qM rfl rfl ?_ | apply qR | apply qS)
     refine wops_cons (wop_bin (op := .neq) (v := .bool false) rfl rfl rfl rfl rfl ?_)
     repeat (first | apply qN | refine qM rfl rfl ?_ | refine qF rfl ?_ | apply qR | apply qS | apply qK)
     refine wp_ret ?_
     exact ⟨_, _, rfl, hk⟩
   · have hke := hke h1 H2 (k1.trans k2) (by omega)
     repeat (first | apply qN | refine qM rfl rfl ?_ | apply qR | apply qS)
     refine wops_cons (wop_bin (op := .neq) (v := .bool true) rfl rfl rfl rfl (by simp [binI, h1]) ?_)
     repeat (first | apply qN | refine qM rfl rfl ?_ | refine qT rfl ?_ | apply qR | apply qS)
     refine wp_ret ?_
     exact ⟨_, _, rfl, hke⟩
theorem cNext (H : AH) (y : AV) (l : List Int) (a b : Int) (mv : AV) (hmv : mv.cells = [iv a, iv b]) (hy : Sl H y (ivs l)) (hoy : Old H y) (hgy : l ≠ [] → Gr H 3 y (ivs l)) (hl : l.length ≤ 1000) (hr : H.next + 30000 < 2 ^ 39) (K : AV → AH → Prop)
   (hke : flE l [(a, b)] ≠ 0 → ∀ H', Keeps H H' → H'.next ≤ H.next + 1200 → K (.tup [.v (.slice none 0 0), iv (flE l [(a, b)])]) H')
   (hk : flE l [(a, b)] = 0 → ∀ H' r, Keeps H H' → H'.next ≤ H.next + 1200 → Gr H' 3 r (ivs (rpL l 0 [(a, b)]).1) → (∀ b, r.own = some b → H.next ≤ b) → K (.tup [r, iv 0]) H') : Ca (ENV O) 15 [y, mv] H K := by
 refine ca_intro (hq _ _ _ rfl) (fn := Tryz.f15) (by rfl) rfl ?_
 repeat (first | apply qR | apply qS)
 refine wops_cons (o_boxS rfl rfl hmv (by omega) fun H1 n1 k1 b1 => ?_)
 have r1 : H1.next < 2 ^ 39 := by omega
 repeat (first | apply qN | refine qM rfl rfl ?_ | refine zqb rfl rfl rfl ‹_› ?_ | apply qR | apply qS)
 refine wops_cons (o_build1S (a := a) (b := b) rfl rfl rfl r1 ?_)
 refine WOps.mem (fun H2 => Keeps H1 H2 ∧ H2.next = H1.next + 1 ∧ S2 H2 31 (.slc H1.next 0 1 1) [(a, b)]) ⟨(Keeps.refl H1).add _ r1, rfl, .inr ⟨H1.next, Nat.lt_succ_self _, r1, .inl ⟨1, rfl, get_add_eq r1⟩⟩⟩ ?_
 rintro H2 ⟨k2, n2, hs2⟩
 have k02 := k1.trans k2
 refine wops_cons (wop_callF rfl rfl rfl (fn := Tryz.f79) (by rfl) ?_)
 refine cFollow hq H2 y l _ [(a, b)] (hy.keep hoy k02) (hoy.keep k02) (fun h => (hgy h).frame k02.nx fun b hb => k02.get b (hoy b hb)) hs2 hl (by omega) _ (fun h0 H3 k3 n3 => ⟨k3.nx, ?_⟩) (fun h0 H3 r k3 n3 hG3 hn3 => ⟨k3.nx, ?_⟩)
 · have hke := hke h0 H3 (k02.trans k3) (by have : [(a, b)].length = 1 := rfl; omega)
   clear hk
   generalize flE l [(a, b)] = w at h0 hke ⊢
   repeat (first | apply qN | refine qM rfl rfl ?_ | refine zq9 rfl rfl rfl rfl ?_)
   refine wp_ret ?_
   exact ⟨_, _, rfl, hke⟩
 · have hk := hk h0 H3 r (k02.trans k3) (by have : [(a, b)].length = 1 := rfl; omega) hG3 (fun b hb => by have := hn3 b hb; have := k02.nx; omega)
   clear hke
   repeat (first | apply qN | refine qM rfl rfl ?_ | refine zq9 rfl rfl rfl rfl ?_)
   refine wp_ret ?_
   exact ⟨_, _, rfl, hk⟩
end Go.Ev
