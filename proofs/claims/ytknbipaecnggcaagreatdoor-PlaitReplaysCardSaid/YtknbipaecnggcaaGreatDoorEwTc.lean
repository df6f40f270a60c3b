/- Part of an evaluator of calls that is proved sound, and of what it gives about this program. No condition of its own. -/
import Derived.Test.YtknbipaecnggcaaGreatDoorEwHa
import Derived.Test.YtknbipaecnggcaaGreatDoorEwTa
set_option linter.unusedVariables false
set_option linter.unusedSimpArgs false
set_option linter.unusedSectionVars false
set_option maxRecDepth 100000
set_option maxHeartbeats 4000000
namespace Go.Ev
def WX (E : Env) (ops : Array Oper) (H0 : AH) (B : Nat → Prop) : List Stp → List AV → AH → (List AV → AH → Prop) → Prop
 | [], T, H, K => K T H
 | .mob i :: π, T, H, K => ∃ o r, ops.toList[i]? = some o ∧ ((wantedA o ops T = false ∧ r = .v undef) ∨ (wantedA o ops T = true ∧ mobEval E.P T (sing H0 (rdA T o)) o = some r ∧ ∀ b, rdA T o = some b → B b)) ∧ WX E ops H0 B π (putA T o.dst r) H K
 | .loud i :: π, T, H, K => ∃ o, ops.toList[i]? = some o ∧ ∃ n r H1, evOp E.P E.F (E.evCall n) ops o T H = some (r, H1) ∧ (∀ b, B b → H1.get b = H0.get b) ∧ WX E ops H0 B π (putA T o.dst r) H1 K
 | .alc i :: π, T, H, K => ∃ o, ops.toList[i]? = some o ∧ ((wantedA o ops T = false ∧ WX E ops H0 B π (putA T o.dst (.v undef)) H K) ∨ (wantedA o ops T = true ∧ ∃ k cs t H1, laysA E.P T o = some (k, cs, t) ∧ newA t cs H = some H1 ∧ WX E ops H0 B π (putA T o.dst (nvA k H.next)) H1 K))
section
variable {E : Env} {g : FuncId} {rd : Bool} {T : List AV} {M : List Nat} {H H0 : AH} {Q : QX} {ops : Array Oper} {B : Nat → Prop}
theorem wx_ev {K : List AV → AH → Prop} : ∀ {π : List Stp} {T : List AV} {H : AH}, WX E ops H0 B π T H K → ∃ n T' H' L Hs, evDraw E.P E.F (E.evCall n) ops H0 π T H = some (T', H', L, Hs) ∧ K T' H' ∧ (∀ q ∈ Hs, ∀ b, B b → q.2.get b = H0.get b) ∧ (∀ p ∈ L, ∀ b, p.2 = some b → B b)
 | [], T, H, h => ⟨0, T, H, [], [], rfl, h, fun _ h => by simp at h, fun _ h => by simp at h⟩
 | .mob i :: π, T, H, ⟨o, r, h1, h2, h3⟩ => by
   obtain ⟨n, T', H', L, Hs, k1, k2, k3, k4⟩ := wx_ev h3
   rcases h2 with ⟨h2, rfl⟩ | ⟨h2, h4, h5⟩
   · refine ⟨n, T', H', L, Hs, ?_, k2, k3, k4⟩
     simp only [evDraw, opT h1, h2]
     exact k1
   · refine ⟨n, T', H', (i, rdA T o) :: L, Hs, ?_, k2, k3, fun p hp b hb => ?_⟩
     · simp only [evDraw, opT h1, h2, h4, k1]
     · rcases List.mem_cons.1 hp with rfl | hp
       · exact h5 b hb
       · exact k4 p hp b hb
 | .loud i :: π, T, H, ⟨o, h1, n, r, H1, h2, h5, h3⟩ => by
   obtain ⟨m, T', H', L, Hs, k1, k2, k3, k4⟩ := wx_ev h3
   refine ⟨n + m, T', H', L, (i, H1) :: Hs, ?_, k2, fun q hq => ?_, k4⟩
   · simp only [evDraw, opT h1]
     rw [evOp_le (evCall_le (Nat.le_add_right n m)) h2]
     simp only
     rw [evDraw_le (evCall_le (Nat.le_add_left m n)) k1]
   · rcases List.mem_cons.1 hq with rfl | hq
     · exact h5
     · exact k3 q hq
 | .alc i :: π, T, H, ⟨o, h1, .inl ⟨hw, h4⟩⟩ => by
   obtain ⟨n, T', H', L, Hs, k1, k2, k3, k4⟩ := wx_ev h4
   refine ⟨n, T', H', L, Hs, ?_, k2, k3, k4⟩
   simp only [evDraw, opT h1, hw]
   exact k1
 | .alc i :: π, T, H, ⟨o, h1, .inr ⟨hw, k, cs, t, H1, h2, h3, h4⟩⟩ => by
   obtain ⟨n, T', H', L, Hs, k1, k2, k3, k4⟩ := wx_ev h4
   refine ⟨n, T', H', L, Hs, ?_, k2, k3, k4⟩
   simp only [evDraw, opT h1, hw, h2, h3]
   exact k1
theorem wp_drawX (B : Nat → Prop) (hB : ∀ b, B b → sameBlk (H.get b) (H.get b) = true) {id : Nat} {π : List Stp} (hp : E.pl.get (planKey g id) = some π) (h : WX E ops H B π T H fun T' H' => Q .normal T' M H') : Wp E g rd (.region id ops true) T M H Q := by
 obtain ⟨n, T', H', L, Hs, k1, k2, k3, k4⟩ := wx_ev h
 refine ⟨n + 1, _, T', M, H', ?_, k2⟩
 show Ev.ev E.P E.F E.O E.pl (n + 1) g rd (.region id ops true) T M H = _
 rw [ev_draw, hp]
 simp only
 unfold evRegion
 rw [show evDraw E.P E.F (Ev.evCall E.P E.F E.O E.pl n) ops H π T H = _ from k1]
 have : (Hs.all fun q => keptB ops H L q.1 q.2) = true := by
   rw [List.all_eq_true]
   intro q hq
   unfold keptB
   rw [List.all_eq_true]
   intro p hp
   cases hb : p.2 with
   | none => rfl
   | some b =>
     have h1 := k4 p hp b hb
     simp only [Bool.or_eq_true]
     right
     rw [k3 q hq b h1]
     exact hB b h1
 simp only [this, if_true]
variable {π : List Stp} {i : Nat} {o : Oper} {K : List AV → AH → Prop}
theorem x_nil (h : K T H) : WX E ops H0 B [] T H K := h
theorem x_mob {r : AV} (h1 : ops.toList[i]? = some o) (hg : wantedA o ops T = true) (h : mobEval E.P T (sing H0 (rdA T o)) o = some r) (hb : ∀ b, rdA T o = some b → B b) (hk : WX E ops H0 B π (putA T o.dst r) H K) : WX E ops H0 B (.mob i :: π) T H K := ⟨o, r, h1, .inr ⟨hg, h, hb⟩, hk⟩
theorem x_loud (h1 : ops.toList[i]? = some o) (hs : still o.op = true) (h : WOp E ops o T H fun r H1 => (∀ b, B b → H1.get b = H0.get b) ∧ WX E ops H0 B π (putA T o.dst r) H1 K) : WX E ops H0 B (.loud i :: π) T H K := by
 obtain ⟨n, r, H1, k1, k2, k3⟩ := h
 rw [evOpY_still hs] at k1
 exact ⟨o, h1, n, r, H1, k1, k2, k3⟩
theorem x_move {x : Operand} (h1 : ops.toList[i]? = some o) (ho : o.op = .move x) (hg : wantedA o ops T = true) (hk : WX E ops H0 B π (putA T o.dst (av T x)) H K) : WX E ops H0 B (.mob i :: π) T H K :=
 x_mob h1 hg (by unfold mobEval; rw [ho]) (fun b hb => by rw [rdA_none (by unfold looksB; rw [ho])] at hb; cases hb) hk
theorem x_assign {x : Operand} (h1 : ops.toList[i]? = some o) (ho : o.op = .assign x) (hg : wantedA o ops T = true) (hk : WX E ops H0 B π (putA T o.dst (av T x)) H K) : WX E ops H0 B (.mob i :: π) T H K :=
 x_mob h1 hg (by unfold mobEval; rw [ho]) (fun b hb => by rw [rdA_none (by unfold looksB; rw [ho])] at hb; cases hb) hk
end
end Go.Ev
namespace Go.Ev
open Go.Proofs
instance : PrS 137 := ⟨by kernel_rfl, by kernel_rfl, by kernel_rfl⟩
instance : PrS 24 := ⟨by kernel_rfl, by kernel_rfl, by kernel_rfl⟩
instance : PrS 31 := ⟨by kernel_rfl, by kernel_rfl, by kernel_rfl⟩
variable {O : CallF} (hq : Quiet O)
include hq
theorem cRNextU (H : AH) (yb : Nat) (l : List Int) (a b : Int) (mv : AV) (hmv : mv.cells = [iv a, iv b]) (hyb : yb < H.next) (hgy : H.get yb = some (.cells (ivs l) 3 1)) (hl : l.length ≤ 1000) (hl0 : 0 < l.length) (h0 : refE l a b = 0) (hr : H.next + 10 < 2 ^ 39) (K : AV → AH → Prop) (hk : ∀ H' rb, Keeps H H' → H'.next ≤ H.next + 3 → H.next ≤ rb → rb < H'.next → H'.get rb = some (.cells (ivs (nxL l a b)) 3 1) → K (.slu rb 0 l.length 1) H') : Ca (ENV O) 20 [.slu yb 0 l.length 1, mv] H K := by
 refine ca_intro (hq _ _ _ rfl) (fn := Tryz.f20) (by rfl) rfl ?_
 rw [nxL_comm h0] at hk
 obtain ⟨ha, hb, -, -⟩ := refE_ok h0
 obtain ⟨i, rfl, hi, hz⟩ := inSlot ha
 obtain ⟨j, rfl, hj, hw⟩ := inSlot hb
 generalize l.getD (i : Int).toNat 0 = z at hz hk
 simp only [Int.toNat_natCast] at hk
 repeat (first | apply qR | apply qS)
 refine wops_cons (o_boxS rfl rfl hmv (by omega) fun H1 n1 k1 b1 => ?_)
 have r1 : H1.next < 2 ^ 39 := by omega
 repeat (first | apply qN | refine qM rfl rfl ?_ | apply qR | apply qS)
 refine wops_cons (o_build0 rfl rfl r1 ?_)
 refine WOps.mem (fun H2 => Keeps H1 H2 ∧ H2.next = H1.next + 1 ∧ H2.get H1.next = some (.cells [] 3 0)) ⟨(Keeps.refl H1).add _ r1, rfl, get_add_eq r1⟩ ?_
 rintro H2 ⟨k2, n2, g2⟩
 have k02 := k1.trans k2
 repeat (first | refine qM rfl rfl ?_)
 refine wops_cons (o_appendU (H0 := H1) (l := l) rfl rfl rfl rfl rfl (by omega) (by omega) rfl (by omega) g2 rfl ((k02.get yb hyb).trans hgy) (Nat.le_refl _) k2 fun r H3 hA hn k3 n3 _ => ?_)
 have k03 := k1.trans k3
 have hG := hA.gr (by rintro rfl; simp at hl0)
 rcases hG with ⟨_, e⟩ | ⟨rb, hrb, hrb9, rfl, hgr⟩
 · have : l = [] := by cases l with | nil => rfl | cons => simp [ivs] at e
   subst this; simp at hl0
 have hrn := hn rb rfl
 rw [ivs_length]
 have b3 := b1.keep (by omega) k3
 have hp0 : At H3 (.ptr H.next 0) (iv (i : Int)) := b3.at rfl
 have hp1 : At H3 (.ptr H.next 1) (iv (j : Int)) := b3.at rfl
 have hg3y := (k03.get yb hyb).trans hgy
 have hy3 : Sl H3 (.slu yb 0 l.length 1) (ivs l) := (show Gr H3 3 (.slu yb 0 l.length 1) (ivs l) from .inr ⟨yb, by have := k03.nx; omega, by omega, by rw [ivs_length], hg3y⟩).sl
 have s3 : ∀ v : Option AB, sameBlk ((H3.set rb v).get H.next) (H3.get H.next) = true := fun v => by
   rw [get_set_ne hrb9 (by omega), b3.g]
   simp [sameBlk, beqs, AV.beq, iv, vbeq]
 have s3y : ∀ v : Option AB, sameBlk ((H3.set rb v).get yb) (H3.get yb) = true := fun v => by
   rw [get_set_ne hrb9 (by omega), hg3y]
   simp [sameBlk, beqs_ivs]
 repeat (first | apply qN | refine qM rfl rfl ?_ | apply qS)
 refine wp_drawY (fun _ b => b = H.next ∨ b = yb) rfl ?_
 refine y_move rfl rfl rfl ?_
 refine y_field rfl rfl rfl rfl ?_
 refine y_load rfl rfl rfl hp1 (fun b hb => by cases hb; exact .inl rfl) ?_
 refine y_move rfl rfl rfl ?_
 refine y_field rfl rfl rfl rfl ?_
 refine y_load rfl rfl rfl hp0 (fun b hb => by cases hb; exact .inl rfl) ?_
 refine y_move rfl rfl rfl ?_
 refine y_field rfl rfl rfl rfl ?_
 refine y_load rfl rfl rfl hp0 (fun b hb => by cases hb; exact .inl rfl) ?_
 refine y_indexI rfl rfl rfl hy3 rfl hz fun p hp hpo => ?_
 refine y_load rfl rfl rfl hp (fun b hb => by have := hpo b hb; cases this; exact .inr rfl) ?_
 refine y_indexU rfl rfl rfl rfl rfl hj ?_
 refine y_loud rfl rfl (o_store rfl rfl rfl hgr (by rw [ivs_length]; exact hj) rfl ⟨fun _ b hb => .inr (by rcases hb with rfl | rfl; exact s3 _; exact s3y _), ?_⟩)
 refine y_indexU rfl rfl rfl rfl rfl hi ?_
 refine y_loud rfl rfl (o_store rfl rfl rfl (get_set_eq hrb9) (by rw [List.length_set, ivs_length]; exact hi) rfl ⟨fun _ b hb => .inr (by rcases hb with rfl | rfl; rw [get_set_ne hrb9 (by omega)]; exact s3 _; rw [get_set_ne hrb9 (by omega)]; exact s3y _), ?_⟩)
 refine y_nil ?_
 refine Wp.mem (fun H4 => Keeps H H4 ∧ H4.next = H3.next ∧ H4.get rb = some (.cells (ivs ((l.set j z).set i 0)) 3 1)) ⟨?_, rfl, ?_⟩ ?_
 · exact (k03.set _ (by omega) hrb9).set _ (by omega) hrb9
 · refine (get_set_eq hrb9).trans ?_
   rw [← ivs_set, ← ivs_set]
   rfl
 rintro H4 ⟨k4, n4, g4⟩
 repeat (first | apply qN | refine qM rfl rfl ?_ | apply qR | apply qS)
 refine wp_ret ?_
 exact ⟨_, _, rfl, hk H4 rb k4 (by omega) (by omega) (by omega) g4⟩
theorem cRReplay (H : AH) (y : Value) (l : List Int) (x : Value) (ms : List (Int × Int)) (hy : Sl H (.v y) (ivs l)) (hx : W2 H x ms) (hl : l.length ≤ 1000) (hl0 : 0 < l.length) (hml : ms.length ≤ 1000) (hr : H.next + 20000 < 2 ^ 39) (K : AV → AH → Prop)
   (hk : ∀ H' r rr, Keeps H H' → H'.next ≤ H.next + 2 + 8 * ms.length → Gr H' 3 r (ivs (rpL l 0 ms).1) → G2 H' 137 rr (rpL l 0 ms).2 → K (.tup [r, rr]) H') : Ca (ENV O) 30 [.v y, .v x] H K := by
 refine ca_intro (hq _ _ _ rfl) (fn := Tryz.f30) (by rfl) rfl ?_
 have r0 : H.next < 2 ^ 39 := by omega
 have hne : l ≠ [] := fun e => by rw [e] at hl0; simp at hl0
 repeat (first | apply qN | refine qM rfl rfl ?_ | apply qR | apply qS)
 refine wops_cons (o_build0 rfl rfl r0 ?_)
 refine WOps.mem (fun H1 => Keeps H H1 ∧ H1.next = H.next + 1 ∧ H1.get H.next = some (.cells [] 3 0)) ⟨(Keeps.refl H).add _ r0, rfl, get_add_eq r0⟩ ?_
 rintro H1 ⟨k1, n1, g1⟩
 repeat (first | refine qM rfl rfl ?_)
 refine wops_cons (o_appendA (H0 := H) (l := l) rfl rfl rfl rfl rfl (by omega) (by omega) rfl (by omega) g1 rfl (hy.keep (Old.v _) k1) (Nat.le_refl _) k1 fun r H2 hA hn k2 n2 _ => ?_)
 have hG := hA.gr hne
 rcases hG with ⟨_, e⟩ | ⟨cb, hcb, hcb9, rfl, hgc⟩
 · exact absurd (by cases l with | nil => rfl | cons => simp [ivs] at e) hne
 have hcn := hn cb rfl
 rw [ivs_length]
 repeat (first | apply qN | refine qM rfl rfl ?_ | apply qR | apply qS | apply qB)
 refine wp_loop (fun q T M H' => ∃ (i : Nat) (l' : List Int) (rf : List (Int × Int)) (rb : Nat) (rr : AV) (Y : List AV), q = ms.length - i ∧ i ≤ ms.length ∧ Keeps H H' ∧ H'.next ≤ H2.next + 8 * i ∧ rb < H'.next ∧ H'.get rb = some (.cells (ivs l') 3 1) ∧ l'.length = l.length ∧ rf.length ≤ i ∧ G2 H' 137 rr rf ∧ (∀ d, rr.own = some d → H.next ≤ d ∧ d ≠ rb) ∧ rpL l 0 ms = ((rpL l' i (ms.drop i)).1, rf ++ (rpL l' i (ms.drop i)).2) ∧ M = [] ∧ T = (.slu rb 0 l.length 1 :: .v x :: lget Y 0 :: lget Y 1 :: lget Y 2 :: lget Y 3 :: rr :: iv (i : Nat) :: lget Y 4 :: lget Y 5 :: lget Y 6 :: lget Y 7 :: lget Y 8 :: lget Y 9 :: lget Y 10 :: lget Y 11 :: lget Y 12 :: lget Y 13 :: lget Y 14 :: lget Y 15 :: lget Y 16 :: lget Y 17 :: lget Y 18 :: lget Y 19 :: lget Y 20 :: lget Y 21 :: lget Y 22 :: lget Y 23 :: lget Y 24 :: lget Y 25 :: lget Y 26 :: lget Y 27 :: lget Y 28 :: lget Y 29 :: lget Y 30 :: lget Y 31 :: lget Y 32 :: lget Y 33 :: lget Y 34 :: lget Y 35 :: lget Y 36 :: [])) ms.length
   ⟨0, l, [], cb, .v (.slice none 0 0), [_,_,_,_,_,_,_,_,_,_,_,_,_,_,_,_,_,_,_,_,_,_,_,_,_,_,_,_,_,_,_,_,_,_,_,_,_], rfl, Nat.zero_le _, k2, Nat.le_refl _, hcb, hgc, rfl, Nat.le_refl _, .inl ⟨rfl, rfl⟩, (fun d hd => by cases hd), rfl, rfl, rfl⟩ ?_
 rintro q T M H4 ⟨i, l', rf, rb, rr, Y, hq1, hi, k4, n4, hrb, g4, hl', hrf, hG4, hno, hrp, rfl, rfl⟩
 have hx4 := hx.keep k4
 have hrb9 : rb < 2 ^ 39 := by omega
 repeat (first | refine qM rfl rfl ?_ | apply qR | apply qS)
 refine wops_cons (o_lenW rfl rfl rfl rfl rfl rfl hx4 ?_)
 refine wops_cons (wop_cmp rfl rfl rfl rfl rfl (fun h => ?_) (fun h => ?_))
 rotate_left
 · have h : ¬ ((i : Int) < (ms.length : Nat)) := of_decide_eq_false h
   have e : i = ms.length := by omega
   subst e
   rw [List.drop_length] at hrp
   have hrp : rpL l 0 ms = (l', rf) := by rw [hrp]; simp [rpL]
   rw [hrp] at hk
   have hGf : Gr H4 3 (.slu rb 0 l.length 1) (ivs l') := .inr ⟨rb, hrb, hrb9, by rw [ivs_length, hl'], g4⟩
   repeat (first | apply qN | refine qM rfl rfl ?_ | refine qF rfl ?_ | apply qR | apply qS | apply qE)
   refine wp_ret ?_
   exact ⟨_, _, rfl, hk H4 (.slu rb 0 l.length 1) rr k4 (by omega) hGf hG4⟩
 have hi' : i < ms.length := by have h : (i : Int) < (ms.length : Nat) := of_decide_eq_true h; omega
 clear h
 obtain ⟨⟨a, b⟩, hp⟩ : ∃ p, ms[i]? = some p := ⟨ms[i], List.getElem?_eq_getElem hi'⟩
 rw [drop_cons2 hp, rpL] at hrp
 have hS4 : Gr H4 3 (.slu rb 0 l.length 1) (ivs l') := .inr ⟨rb, hrb, hrb9, by rw [ivs_length, hl'], g4⟩
 repeat (first | apply qN | refine qM rfl rfl ?_ | refine qT rfl ?_ | apply qR | apply qS | apply qK | apply qB)
 refine wops_cons (o_indexW rfl rfl rfl hx4 rfl hp fun pp hpp => ?_)
 refine wops_cons (o_loadW rfl rfl hpp rfl ?_)
 refine wops_cons (wop_callF rfl rfl rfl (fn := Tryz.f18) (by rfl) ?_)
 refine cRLegal hq H4 _ l' a b _ rfl hS4.sl hS4.old (by omega) (by omega) _ fun H5 k5 n5 => ⟨k5.nx, ?_⟩
 have k05 := k4.trans k5
 have hx5 := hx.keep k05
 have g5 := (k5.get rb hrb).trans g4
 have hle := refE_le l' a b
 by_cases hz : refE l' a b = 0
 · rw [if_pos hz] at hrp
   rw [hz]
   repeat (first | apply qN | refine qM rfl rfl ?_ | apply qR | apply qS)
   refine wops_cons (wop_bin (op := .gtr) (v := .bool false) rfl rfl rfl rfl rfl ?_)
   repeat (first | apply qN | refine qM rfl rfl ?_ | refine qF rfl ?_ | apply qR | apply qK)
   refine wops_cons (o_indexW rfl rfl rfl hx5 rfl hp fun pp hpp => ?_)
   refine wops_cons (o_loadW rfl rfl hpp rfl ?_)
   refine wops_cons (wop_callF rfl rfl rfl (fn := Tryz.f20) (by rfl) ?_)
   rw [← hl']
   refine cRNextU hq H5 rb l' a b _ rfl (by have := k5.nx; omega) g5 (by omega) (by omega) hz (by omega) _ fun H6 nb k6 n6 hnb hnb2 g6 => ⟨k6.nx, ?_⟩
   rw [hl']
   repeat (first | apply qN | refine qM rfl rfl ?_ | refine zq4 rfl rfl rfl rfl (inc (by omega)) ?_ | apply qR)
   exact ⟨ms.length - (i + 1), by omega, i + 1, _, rf, nb, rr, [_,_,_,_,_,_,_,_,_,_,_,_,_,_,_,_,_,_,_,_,_,_,_,_,_,_,_,_,_,_,_,_,_,_,_,_,_], rfl, by omega, k05.trans k6, by omega, hnb2, g6, by rw [nxL_len]; exact hl', by omega, hG4.keep (k5.trans k6), (fun d hd => ⟨(hno d hd).1, fun e => by
     rcases hG4 with ⟨e2, _⟩ | ⟨d2, h1, h2, h3, h4⟩
     · rw [e2] at hd; cases hd
     · rw [h3] at hd; cases hd; have := k5.nx; omega⟩), hrp, rfl, rfl⟩
 · rw [if_neg hz] at hrp
   have hz2 : refE l' a b > 0 := by omega
   generalize refE l' a b = w at hz hz2 hrp ⊢
   repeat (first | apply qN | refine qM rfl rfl ?_ | apply qR | apply qS)
   refine wops_cons (wop_bin (op := .gtr) (v := .bool true) rfl rfl rfl rfl (by simp [binI]; omega) ?_)
   repeat (first | apply qN | refine qM rfl rfl ?_ | refine zq4 rfl rfl rfl rfl (inc (by omega)) ?_ | refine qT rfl ?_ | apply qR | apply qS)
   refine wops_cons (o_buildP rfl rfl rfl rfl ?_)
   have r6 : H5.next < 2 ^ 39 := by omega
   refine wops_cons (o_build1S rfl rfl rfl r6 ?_)
   refine WOps.mem (fun H7 => Keeps H5 H7 ∧ H7.next = H5.next + 1 ∧ H7.get H5.next = some (.cells [iv ((i : Int) + 1), iv w] 137 0)) ⟨(Keeps.refl H5).add _ r6, rfl, get_add_eq r6⟩ ?_
   rintro H7 ⟨k7, n7, g7⟩
   have k47 := k5.trans k7
   have k07 := k4.trans k47
   have hG7 : G2 H7 137 rr rf := hG4.keep k47
   refine wops_cons (o_append2 (p := ((i : Int) + 1, w)) (ms := rf) rfl rfl rfl rfl rfl (by omega) (by omega) rfl g7 hG7 fun r8 H8 n8 gl8 f8 hr8 hG8 => ?_)
   have k08 : Keeps H H8 := ⟨by have := k07.nx; omega, gl8.trans k07.gl, fun d hd => (f8 d (by have := k07.nx; omega) (fun e => by have := (hno d e).1; omega)).trans (k07.get d hd)⟩
   have g8 : H8.get rb = some (.cells (ivs l') 3 1) := (f8 rb (by have := k47.nx; omega) (fun e => (hno rb e).2 rfl)).trans ((k47.get rb hrb).trans g4)
   subst hr8
   repeat (first | apply qN | refine qM rfl rfl ?_ | refine zq4 rfl rfl rfl rfl (inc (by omega)) ?_ | apply qR | apply qE)
   exact ⟨ms.length - (i + 1), by omega, i + 1, l', rf ++ [((i : Int) + 1, w)], rb, _, [_,_,_,_,_,_,_,_,_,_,_,_,_,_,_,_,_,_,_,_,_,_,_,_,_,_,_,_,_,_,_,_,_,_,_,_,_], rfl, by omega, k08, by omega, by have := k47.nx; omega, g8, hl', by rw [List.length_append]; exact Nat.add_le_add hrf (Nat.le_refl _), hG8, (fun d hd => by cases hd; have := k07.nx; have := k47.nx; omega), by rw [hrp]; simp, rfl, rfl⟩
end Go.Ev
namespace Go.Ev
open Go.Proofs
def unL (ms : List (Int × Int)) : List (Int × Int) := ms.reverse.map fun p => (p.2, p.1)
theorem unL_cons (p : Int × Int) (ms : List (Int × Int)) : unL (p :: ms) = unL ms ++ [(p.2, p.1)] := by simp [unL]
class FAW (t : TypeId) (f : Nat) (k : outParam Nat) : Prop where
 h : ∀ b off, runPure Tryz.prog (Instr.fieldAt t (.pointer (some ⟨b, off, none⟩)) f) = some (.pointer (some ⟨b, off + k, none⟩))
instance : FAW 24 0 0 := ⟨fun b o => by kernel_rfl⟩
instance : FAW 24 1 1 := ⟨fun b o => by kernel_rfl⟩
section
variable {O : CallF} {T : List AV} {H H0 : AH} {ops : Array Oper} {o : Oper} {i : Nat} {π : List Stp} {K : List AV → AH → Prop} {B : Nat → Prop}
theorem x_load1 {t : TypeId} {x : Operand} {v : AV} (h1 : ops.toList[i]? = some o) (ho : o.op = .load t x) (hg : wantedA o ops T = true) [ha : Cell t] (hx : At H0 (av T x) v) (hL : ∀ b, (av T x).own = some b → B b)
   (hk : WX (ENV O) ops H0 B π (putA T o.dst v) H K) : WX (ENV O) ops H0 B (.mob i :: π) T H K := by
 obtain ⟨o', r', h1', h2, h3⟩ := d_load (H := H) h1 ho hg hx (π := []) (K := fun T' _ => T' = putA T o.dst v) rfl
 rw [h1] at h1'; cases h1'
 have h3 : putA T o.dst r' = putA T o.dst v := h3
 rcases h2 with ⟨h2, _⟩ | ⟨h2, h4⟩
 · rw [hg] at h2; cases h2
 · refine ⟨o, r', h1, .inr ⟨hg, h4, fun b hb => hL b (rdA_load ho hb)⟩, ?_⟩
   rw [h3]; exact hk
theorem x_indexW {t e : TypeId} {x k : Operand} {j : Nat} {y : Value} {ms : List (Int × Int)} {q : Int × Int} (h1 : ops.toList[i]? = some o) (ho : o.op = .indexAddr t x k) (hg : wantedA o ops T = true) [hu : TyP t e] (hx : av T x = .v y) (hy : W2 H0 y ms) (hi : av T k = iv j) (hl : ms[j]? = some q) (hk : ∀ p, P2 H0 p q → WX (ENV O) ops H0 B π (putA T o.dst p) H K) : WX (ENV O) ops H0 B (.mob i :: π) T H K := by
 obtain ⟨p, h2, h3, h4⟩ := idxW (e := e) ho hx hy hi hl
 exact x_mob h1 hg (h3 _) (fun b hb => by rw [rdA_none (by unfold looksB; rw [ho])] at hb; cases hb) (hk p h4)
theorem x_fieldW {t : TypeId} {x : Operand} {f k : Nat} {q : Int × Int} {p : AV} (h1 : ops.toList[i]? = some o) (ho : o.op = .fieldAddr t x f) (hg : wantedA o ops T = true) [hf : FAW t f k] (hp : P2 H0 p q) (hx : av T x = p) (hk2 : k < 2) (hk : ∀ p', At H0 p' (iv (if k = 0 then q.1 else q.2)) → (∀ b, p'.own = some b → False) → WX (ENV O) ops H0 B π (putA T o.dst p') H K) : WX (ENV O) ops H0 B (.mob i :: π) T H K := by
 obtain ⟨b, off, vs, rfl, hgl, h3, h4⟩ := hp
 refine x_mob (r := .v (.pointer (some ⟨b, off + k, none⟩))) h1 hg ?_ (fun b hb => by rw [rdA_none (by unfold looksB; rw [ho])] at hb; cases hb) (hk _ ?_ (fun b hb => by cases hb))
 · unfold mobEval
   rw [ho]
   simp only [hx]
   unfold plainVal
   have h2 : runPure (ENV O).P (execOp (fun x => ((av T x).plain).getD undef) o) = some (.value (.pointer (some ⟨b, off + k, none⟩))) := by
     obtain ⟨dst, op', type, pos, after, guard⟩ := o
     simp only at ho
     subst ho
     simp only [execOp, hx, AV.plain, Option.getD_some, runPure_bind]
     have := hf.h b off
     simp only [ENV]
     rw [this]
     rfl
   rw [h2, ho]
   simp [Op.operands, hx, AV.plain]
 · have e0 : vs[off]? = some (.int .i64 q.1) := by
     have : ((vs.drop off).take 2)[0]? = some (.int .i64 q.1) := by rw [h3]; rfl
     simpa [List.getElem?_take, List.getElem?_drop] using this
   have e1 : vs[off + 1]? = some (.int .i64 q.2) := by
     have : ((vs.drop off).take 2)[1]? = some (.int .i64 q.2) := by rw [h3]; rfl
     simpa [List.getElem?_take, List.getElem?_drop] using this
   refine ⟨vs, .int .i64 (if k = 0 then q.1 else q.2), hgl, ?_, rfl⟩
   rcases (show k = 0 ∨ k = 1 by omega) with rfl | rfl
   · exact e0
   · exact e1
theorem x_buildP {t : TypeId} {x y : Operand} {a b : Int} (h1 : ops.toList[i]? = some o) (ho : o.op = .build t #[(0, x), (1, y)]) (hg : wantedA o ops T = true) [hp : PrS t] (hx : av T x = iv a) (hy : av T y = iv b) (hk : WX (ENV O) ops H0 B π (putA T o.dst (.agg [iv a, iv b])) H K) : WX (ENV O) ops H0 B (.mob i :: π) T H K := by
 refine x_mob (r := .agg [iv a, iv b]) h1 hg ?_ (fun b hb => by rw [rdA_none (by unfold looksB; rw [ho])] at hb; cases hb) hk
 unfold mobEval
 rw [ho]
 have h1 := hp.z
 have h2 := hp.u
 have h3 := hp.p
 simp only [ENV, buildA, h1, h2, h3]
 have e : (#[(0, x), (1, y)] : Array (Nat × Operand)).toList.map (fun p => (p.1, av T p.2)) = [(0, iv a), (1, iv b)] := by simp [hx, hy]
 rw [e]
 rfl
theorem x_build1S {t e : TypeId} {x : Operand} {a b : Int} (h1 : ops.toList[i]? = some o) (ho : o.op = .buildSlice t 1 #[(0, x)]) (hg : wantedA o ops T = true) [hu : TyP t e] (hx : av T x = .agg [iv a, iv b]) (hr : H.next < 2 ^ 39)
   (hk : WX (ENV O) ops H0 B π (putA T o.dst (.slc H.next 0 1 1)) (H.add (.cells [iv a, iv b] e 0)) K) : WX (ENV O) ops H0 B (.alc i :: π) T H K := by
 have hlt : Nat.blt H.next (2 ^ 39) = true := Nat.ble_eq_true_of_le hr
 refine ⟨o, h1, .inr ⟨hg, some (1, 1), [iv a, iv b], e, H.add (.cells [iv a, iv b] e 0), ?_, ?_, hk⟩⟩
 · unfold laysA; rw [ho]
   have h1 := hu.u
   have h2 := hu.s
   have h3 := hu.z
   simp only [ENV, h1, h2, h3]
   rw [if_pos (by decide)]
   simp [fillA, hx, AV.cells, wr]
 · simp only [newA, hlt, if_true]
end
theorem WX.mem {E : Env} {ops : Array Oper} {B : Nat → Prop} {H0 H : AH} {π : List Stp} {T : List AV} {K : List AV → AH → Prop} (P : AH → Prop) (h : P H) (hw : ∀ H, P H → WX E ops H0 B π T H K) : WX E ops H0 B π T H K := hw H h
variable {O : CallF} (hq : Quiet O)
include hq
theorem cRUndo (H : AH) (y : Value) (ms : List (Int × Int)) (hy : W2 H y ms) (hml : ms.length ≤ 1000) (hr : H.next + 20000 < 2 ^ 39) (K : AV → AH → Prop)
   (hk : ∀ H' r, Keeps H H' → H'.next ≤ H.next + 2 * ms.length → G2 H' 24 r (unL ms) → K r H') : Ca (ENV O) 26 [.v y] H K := by
 refine ca_intro (hq _ _ _ rfl) (fn := Tryz.f26) (by rfl) rfl ?_
 repeat (first | apply qN | refine qM rfl rfl ?_ | apply qR | apply qS)
 refine wops_cons (o_lenW rfl rfl rfl rfl rfl rfl hy ?_)
 refine wops_cons (wop_bin (op := .sub) (v := .int .i64 ((ms.length : Int) - 1)) rfl rfl rfl rfl (sub1 (by omega)) ?_)
 repeat (first | apply qN | refine qM rfl rfl ?_ | apply qB)
 refine wp_loop (fun q T M H' => ∃ (k : Nat) (rr : AV) (Y : List AV), q = k ∧ k ≤ ms.length ∧ Keeps H H' ∧ H'.next + 2 * k ≤ H.next + 2 * ms.length ∧ G2 H' 24 rr (unL (ms.drop k)) ∧ (∀ d, rr.own = some d → H.next ≤ d) ∧ M = [] ∧ T = (.v y :: lget Y 0 :: lget Y 1 :: rr :: iv ((k : Int) - 1) :: lget Y 2 :: lget Y 3 :: lget Y 4 :: lget Y 5 :: lget Y 6 :: lget Y 7 :: lget Y 8 :: lget Y 9 :: lget Y 10 :: lget Y 11 :: lget Y 12 :: lget Y 13 :: lget Y 14 :: lget Y 15 :: lget Y 16 :: lget Y 17 :: lget Y 18 :: lget Y 19 :: lget Y 20 :: lget Y 21 :: lget Y 22 :: lget Y 23 :: [])) ms.length
   ⟨ms.length, .v (.slice none 0 0), [_,_,_,_,_,_,_,_,_,_,_,_,_,_,_,_,_,_,_,_,_,_,_,_], rfl, Nat.le_refl _, Keeps.refl _, Nat.le_refl _, .inl ⟨rfl, by rw [List.drop_length]; rfl⟩, (fun d hd => by cases hd), rfl, rfl⟩ ?_
 rintro q T M H1 ⟨k, rr, Y, hq1, hkl, k1, n1, hG1, hno, rfl, rfl⟩
 have hy1 := hy.keep k1
 repeat (first | refine qM rfl rfl ?_ | apply qR | apply qS)
 cases k with
 | zero =>
   refine wops_cons (wop_bin (op := .geq) (v := .bool false) rfl rfl rfl rfl rfl ?_)
   rw [List.drop_zero] at hG1
   repeat (first | apply qN | refine qM rfl rfl ?_ | refine qF rfl ?_ | apply qR | apply qS | apply qE)
   refine wp_ret ?_
   exact ⟨_, _, rfl, hk H1 rr k1 (by omega) hG1⟩
 | succ j =>
   rw [show (((j + 1 : Nat) : Int) - 1) = (j : Int) by omega]
   refine wops_cons (wop_bin (op := .geq) (v := .bool true) rfl rfl rfl rfl (by simp [binI]) ?_)
   have hj : j < ms.length := by omega
   obtain ⟨⟨a, b⟩, hp⟩ : ∃ p, ms[j]? = some p := ⟨ms[j], List.getElem?_eq_getElem hj⟩
   have hun : unL (ms.drop j) = unL (ms.drop (j + 1)) ++ [(b, a)] := by rw [drop_cons2 hp, unL_cons]
   have r1 : H1.next < 2 ^ 39 := by omega
   have hlen : (unL (ms.drop (j + 1))).length ≤ 1000 := by simp [unL]; omega
   repeat (first | apply qN | refine qT rfl ?_ | apply qS | apply qK | apply qB)
   refine wp_drawX (fun _ => False) (fun _ h => h.elim) rfl ?_
   refine x_move rfl rfl rfl ?_
   refine x_move rfl rfl rfl ?_
   refine x_move rfl rfl rfl ?_
   refine x_indexW rfl rfl rfl rfl hy1 rfl hp fun p1 hp1 => ?_
   refine x_fieldW rfl rfl rfl hp1 rfl (by decide) fun p2 hp2 ho2 => ?_
   refine x_load1 rfl rfl rfl hp2 ho2 ?_
   refine x_move rfl rfl rfl ?_
   refine x_move rfl rfl rfl ?_
   refine x_indexW rfl rfl rfl rfl hy1 rfl hp fun p3 hp3 => ?_
   refine x_fieldW rfl rfl rfl hp3 rfl (by decide) fun p4 hp4 ho4 => ?_
   refine x_load1 rfl rfl rfl hp4 ho4 ?_
   refine x_buildP (a := b) (b := a) rfl rfl rfl rfl rfl ?_
   refine x_build1S (a := b) (b := a) rfl rfl rfl rfl r1 ?_
   refine WX.mem (fun H3 => Keeps H1 H3 ∧ H3.next = H1.next + 1 ∧ H3.get H1.next = some (.cells [iv b, iv a] 24 0)) ⟨(Keeps.refl H1).add _ r1, rfl, get_add_eq r1⟩ ?_
   rintro H3 ⟨k3, n3, g3⟩
   refine x_loud rfl rfl (o_appendP (H0 := H) (p := (b, a)) (ms := unL (ms.drop (j + 1))) rfl rfl rfl rfl rfl (by omega) (by omega) rfl g3 (hG1.keep k3) hno (k1.trans k3) fun r4 H4 n4 k4 hn4 hG4 => ⟨fun _ h => h.elim, ?_⟩)
   refine x_assign rfl rfl rfl ?_
   refine x_nil ?_
   repeat (first | refine qM rfl rfl ?_ | apply qR)
   refine wops_cons (wop_bin (op := .sub) (v := .int .i64 ((j : Int) - 1)) rfl rfl rfl rfl (sub1 (by omega)) ?_)
   repeat (first | apply qN | refine qM rfl rfl ?_)
   exact ⟨j, by omega, j, r4, [_,_,_,_,_,_,_,_,_,_,_,_,_,_,_,_,_,_,_,_,_,_,_,_], rfl, by omega, k4, by omega, by rw [hun]; exact hG4, hn4, rfl, rfl⟩
end Go.Ev
