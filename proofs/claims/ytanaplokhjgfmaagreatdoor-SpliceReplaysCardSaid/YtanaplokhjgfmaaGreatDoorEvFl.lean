/- Part of an evaluator of calls that is proved sound, and of what it gives about this program. No condition of its own. -/
import Derived.Test.YtanaplokhjgfmaaGreatDoorEvFi
set_option linter.unusedVariables false
set_option linter.unusedSimpArgs false
set_option linter.unusedSectionVars false
set_option maxRecDepth 100000
set_option maxHeartbeats 4000000
namespace Go.Ev
open Go.Proofs
theorem rfs_flat (l : List (Int × Int)) : (rfs l).flatten = fl2 l := by
 induction l with
 | nil => rfl
 | cons p l ih =>
   show [iv p.1, iv p.2] ++ (rfs l).flatten = [iv p.1, iv p.2] ++ fl2 l
   rw [ih]
theorem GR.s2 {H : AH} {e : TypeId} {s : AV} {l : List (Int × Int)} (h : GR H e 2 s (rfs l)) : S2 H e s l := by
 rcases h with ⟨h1, h2⟩ | ⟨b, h1, h2, h3, h4⟩
 · refine .inl ⟨h1, ?_⟩
   cases l with
   | nil => rfl
   | cons => simp [rfs] at h2
 · rw [rfs_length] at h3
   rw [rfs_flat] at h4
   exact .inr ⟨b, h1, h2, .inr ⟨h3, h4⟩⟩
section
variable {O : CallF} {T : List AV} {H H0 : AH} {ops : Array Oper} {o : Oper} {i : Nat} {π : List Stp} {K : List AV → AH → Prop} {B : Nat → Nat → Prop}
theorem y_indexR {t e : TypeId} {k : Nat} {x y : Operand} {j : Nat} {rows : List (List AV)} {r : List AV} (h1 : ops.toList[i]? = some o) (ho : o.op = .indexAddr t x y) (hg : wantedA o ops T = true) [hu : TyR t e k] (hx : SlR (k + 1) H0 (av T x) rows) (hi : av T y = iv j) (hl : rows[j]? = some r) (hrl : r.length = k + 1)
   (hk : ∀ p, PtR H0 p r → p.own = (av T x).own → WY (ENV O) ops H0 B π (putA T o.dst p) H K) : WY (ENV O) ops H0 B (.mob i :: π) T H K := by
 obtain ⟨p, g1, g2, g3, g4⟩ := idxR (e := e) ho hx hi hl hrl
 exact y_mob h1 hg (g2 _) (fun b hb => by rw [rdA_none (by unfold looksB; rw [ho])] at hb; cases hb) (hk p g3 g4)
theorem y_loadR {t : TypeId} {n : Nat} {x : Operand} {r : List AV} {p : AV} (h1 : ops.toList[i]? = some o) (ho : o.op = .load t x) (hg : wantedA o ops T = true) [h4 : Stru t n] (hp : PtR H0 p r) (hx : av T x = p) (hn : r.length = n) (hB : ∀ b, p.own = some b → B i b) (hk : ∀ v : AV, v.cells = r → WY (ENV O) ops H0 B π (putA T o.dst v) H K) : WY (ENV O) ops H0 B (.mob i :: π) T H K := by
 have h3 := h4.a
 have h5 := h4.s
 rcases hp with ⟨b, off, cs, e, g, rfl, h39, hgb, e1, e2⟩ | ⟨b, off, vs, rfl, hgl, e1, e2⟩
 · have hrd : rdA T o = some b := by unfold rdA; rw [ho]; simp only [hx]
   refine y_mob (r := .agg r) h1 hg ?_ (fun c hc => by rw [hrd] at hc; cases hc; exact hB _ rfl) (hk _ rfl)
   rw [hrd]
   unfold mobEval
   rw [ho]
   simp only [hx]
   have : (sing H0 (some b)).get b = some (.cells cs e g) := by
     unfold sing
     simp only [hgb]
     rw [AH.get_set _ _ _ _ h39, if_pos rfl]
   simp only [ENV, loadA, this, h3, h5]
   rw [if_pos (Nat.ble_eq_true_of_le (by omega)), ← hn, e1]
 · have hrd : rdA T o = none := by unfold rdA; rw [ho]; simp only [hx]
   refine y_mob (r := .v (.agg ((vs.drop off).take n).toArray)) h1 hg ?_ (fun c hc => by rw [hrd] at hc; cases hc) (hk _ (by rw [← e1, ← hn]; rfl))
   rw [hrd]
   unfold mobEval
   rw [ho]
   simp only [hx]
   have : (sing H0 none).gl = H0.gl := rfl
   simp only [ENV, loadG, this, hgl, h3, h5]
   rw [if_pos (Nat.ble_eq_true_of_le (by omega))]
end
variable {O : CallF} (hq : Quiet O)
include hq
theorem c29 (H : AH) (t1 t2 : TypeId) (x y : AV) (l l2 : List (Int × Int)) (hx : S2 H t1 x l) (hy : S2 H t2 y l2) (hlen : l.length ≤ 100000) (hlen2 : l2.length ≤ 100000) (K : AV → AH → Prop) (hk : K (.v (.bool (decide (l = l2)))) H) : Ca (ENV O) 29 [x, y] H K := by
 refine ca_intro (hq _ _ _ rfl) (fn := Tryz.f29) (by rfl) rfl ?_
 repeat (first | apply qN | refine qM rfl rfl ?_ | apply qR | apply qS)
 refine wops_cons (o_len2 rfl rfl rfl rfl rfl hx ?_)
 repeat (first | refine qM rfl rfl ?_)
 refine wops_cons (o_len2 rfl rfl rfl rfl rfl hy ?_)
 refine wops_cons (wop_cmp rfl rfl rfl rfl rfl (fun h => ?_) (fun h => ?_))
 · have h1 : ¬ (l.length : Int) = l2.length := by simpa [binI] using h
   have h1 : ¬ l.length = l2.length := fun e => h1 (by rw [e])
   have e : decide (l = l2) = false := decide_eq_false fun e => h1 (by rw [e])
   rw [e] at hk
   repeat (first | apply qN | refine qM rfl rfl ?_ | refine qT rfl ?_ | apply qR | apply qS)
   refine wp_ret ?_
   exact ⟨_, _, rfl, hk⟩
 have hL : (l.length : Int) = l2.length := by simpa [binI] using h
 have hL : l.length = l2.length := by omega
 clear h
 repeat (first | apply qN | refine qM rfl rfl ?_ | refine qF rfl ?_ | apply qR | apply qS | apply qK | apply qB)
 refine wp_loop (fun k T M H' => ∃ (i : Nat) (Y : List AV), k = l.length - i ∧ i ≤ l.length ∧ (∀ j, j < i → l[j]? = l2[j]?) ∧ M = [] ∧ H' = H ∧ T = (x :: y :: lget Y 0 :: lget Y 1 :: lget Y 2 :: iv (i : Nat) :: lget Y 3 :: lget Y 4 :: lget Y 5 :: lget Y 6 :: lget Y 7 :: lget Y 8 :: lget Y 9 :: lget Y 10 :: lget Y 11 :: lget Y 12 :: lget Y 13 :: lget Y 14 :: lget Y 15 :: lget Y 16 :: lget Y 17 :: lget Y 18 :: lget Y 19 :: lget Y 20 :: lget Y 21 :: lget Y 22 :: [])) l.length
   ⟨0, [_,_,_,_,_,_,_,_,_,_,_,_,_,_,_,_,_,_,_,_,_,_,_], rfl, Nat.zero_le _, fun j h => absurd h (Nat.not_lt_zero _), rfl, rfl, rfl⟩ ?_
 rintro k T M H' ⟨i, Y, hk1, hi, hpre, rfl, rfl, rfl⟩
 repeat (first | refine qM rfl rfl ?_ | apply qR | apply qS)
 refine wops_cons (o_len2 rfl rfl rfl rfl rfl hx ?_)
 refine wops_cons (wop_cmp rfl rfl rfl rfl rfl (fun h => ?_) (fun h => ?_))
 rotate_left
 · have h : ¬ ((i : Int) < l.length) := of_decide_eq_false h
   have e : l = l2 := List.ext_getElem? fun j => by
     by_cases hj : j < i
     · exact hpre j hj
     · rw [List.getElem?_eq_none (by omega), List.getElem?_eq_none (by omega)]
   rw [decide_eq_true e] at hk
   repeat (first | apply qN | refine qM rfl rfl ?_ | refine qF rfl ?_ | apply qR | apply qS | apply qE)
   refine wp_ret ?_
   exact ⟨_, _, rfl, hk⟩
 have h : (i : Int) < l.length := of_decide_eq_true h
 obtain ⟨⟨a, b⟩, hz⟩ : ∃ p, l[i]? = some p := ⟨l[i], List.getElem?_eq_getElem (by omega)⟩
 obtain ⟨⟨c, d⟩, hw⟩ : ∃ p, l2[i]? = some p := ⟨l2[i], List.getElem?_eq_getElem (by omega)⟩
 repeat (first | apply qN | refine qT rfl ?_ | apply qS | apply qK | apply qB)
 refine Wp.mono (Q := fun x' T' M' H1 => x' = .normal ∧ M' = [] ∧ H1 = H' ∧ ∃ (Y : List AV), T' = (x :: y :: lget Y 0 :: lget Y 1 :: lget Y 2 :: iv (i : Nat) :: lget Y 3 :: lget Y 4 :: lget Y 5 :: lget Y 6 :: lget Y 7 :: lget Y 8 :: lget Y 9 :: lget Y 10 :: lget Y 11 :: lget Y 12 :: lget Y 13 :: lget Y 14 :: lget Y 15 :: lget Y 16 :: lget Y 17 :: lget Y 18 :: lget Y 19 :: lget Y 20 :: lget Y 21 :: .v (.bool (!(a == c && b == d))) :: [])) ?_ ?_
 · refine wp_drawY (fun _ _ => True) rfl ?_
   refine y_move rfl rfl rfl ?_
   refine y_move rfl rfl rfl ?_
   refine y_index2 rfl rfl rfl hx rfl hz fun b1 g1 h91 hg1 _ => ?_
   refine y_loadA (r := [iv a, iv b]) rfl rfl rfl rfl h91 hg1 (by rw [Nat.zero_add]; exact fl2_get hz) (by rw [fl2_len]; omega) trivial ?_
   refine y_move rfl rfl rfl ?_
   refine y_move rfl rfl rfl ?_
   refine y_index2 rfl rfl rfl hy rfl hw fun b2 g2 h92 hg2 _ => ?_
   refine y_loadA (r := [iv c, iv d]) rfl rfl rfl rfl h92 hg2 (by rw [Nat.zero_add]; exact fl2_get hw) (by rw [fl2_len]; omega) trivial ?_
   refine y_neqS rfl rfl rfl rfl rfl ?_
   refine y_nil ?_
   exact ⟨rfl, rfl, rfl, [_,_,_,_,_,_,_,_,_,_,_,_,_,_,_,_,_,_,_,_,_,_], rfl⟩
 rintro x' T' M' H1 ⟨rfl, rfl, rfl, Y, rfl⟩
 by_cases e : a = c ∧ b = d
 · obtain ⟨rfl, rfl⟩ := e
   rw [show (!(a == a && b == b)) = false by simp]
   repeat (first | apply qN | refine qM rfl rfl ?_ | refine zq4 rfl rfl rfl rfl (inc (by omega)) ?_ | refine qF rfl ?_ | apply qR | apply qK)
   refine ⟨l.length - (i + 1), by omega, i + 1, [_,_,_,_,_,_,_,_,_,_,_,_,_,_,_,_,_,_,_,_,_,_,_], rfl, by omega, fun j hj => ?_, rfl, rfl, rfl⟩
   by_cases ej : j = i
   · rw [ej, hz, hw]
   · exact hpre j (by omega)
 · rw [show (!(a == c && b == d)) = true by
     by_cases h1 : a = c
     · have h2 : ¬ b = d := fun h2 => e ⟨h1, h2⟩
       simp [h2]
     · simp [h1]]
   have e2 : decide (l = l2) = false := decide_eq_false fun e3 => e (by
     rw [e3, hw] at hz
     have := Option.some.inj hz
     simp only [Prod.mk.injEq] at this
     exact ⟨this.1.symm, this.2.symm⟩)
   rw [e2] at hk
   repeat (first | apply qN | refine qM rfl rfl ?_ | refine qT rfl ?_ | apply qR | apply qS)
   refine wp_ret ?_
   exact ⟨_, _, rfl, hk⟩
theorem c28 (H : AH) (r : Ru) (rv y : AV) (ks : List Tk) (n : Nat) (hrv : rv.cells = r.cs) (hy : Ks H y ks) (hru : ruE r = 0) (hn : r.s = (n : Int)) (htk : ∀ k ∈ ks, tukE r k = 0) (hml : ks.length ≤ 1000) (hr : H.next + 1000000 < 2 ^ 59) (K : AV → AH → Prop)
   (hk : ∀ H' p q rr, Keeps H H' → H'.next ≤ H.next + 100 + 200 * ks.length → Ky H' p (rpS r (List.replicate n 0) (nums n) 0 ks).1.1 → Ky H' q (rpS r (List.replicate n 0) (nums n) 0 ks).1.2 → GR H' 138 2 rr (rfs (rpS r (List.replicate n 0) (nums n) 0 ks).2) → K (.tup [.agg [p, q], rr]) H') : Ca (ENV O) 28 [rv, y] H K := by
 refine ca_intro (hq _ _ _ rfl) (fn := Tryz.f28) (by rfl) rfl ?_
 have r0 : H.next < 2 ^ 59 := by omega
 have hR := ruE_ok hru
 repeat (first | apply qR | apply qS)
 refine wops_cons (o_boxS (cs := r.cs) rfl rfl hrv r0 fun H1 n1 k1 b1 => ?_)
 have r1 : H1.next < 2 ^ 59 := by omega
 have x1 := k1.nx
 refine wops_cons (o_allocA (zs := [.v (.slice none 0 0), .v (.slice none 0 0)]) rfl rfl (z := .agg #[.slice none 0 0, .slice none 0 0]) (by kernel_rfl) rfl r1 ?_)
 refine WOps.mem (fun H2 => Keeps H1 H2 ∧ H2.next = H1.next + 1 ∧ H2.get H1.next = some (.cells [.v (.slice none 0 0), .v (.slice none 0 0)] 30 0)) ⟨(Keeps.refl H1).add _ r1, rfl, get_add_eq r1⟩ ?_
 rintro H2 ⟨k2, n2, g2⟩
 have b12 := b1.keep (by omega) k2
 have k02 := k1.trans k2
 have x2 := k2.nx
 clear b1
 show WOps _ _ _ _ _ _
 repeat (first | apply qN | refine qM rfl rfl ?_ | refine zqb rfl rfl rfl ‹_› ?_ | apply qR | apply qS)
 refine wops_cons (wop_callF rfl rfl rfl (fn := Tryz.f16) (by rfl) ?_)
 refine c16 hq H2 r n _ rfl hn (by omega) (by omega) _ fun H3 p0 q0 k3 n3 hp0 hq0 => ⟨k3.nx, ?_⟩
 have x3 := k3.nx
 have r3 : H3.next < 2 ^ 59 := by omega
 skip
 refine wops_cons (o_allocA (zs := [.v (.slice none 0 0), .v (.slice none 0 0)]) rfl rfl (z := .agg #[.slice none 0 0, .slice none 0 0]) (by kernel_rfl) rfl r3 ?_)
 refine wops_cons (o_storeA (n := 2) (vs := [p0, q0]) rfl rfl (by kernel_rfl) rfl rfl rfl (by simp [hp0.sl.one, hq0.sl.one]) (get_add_eq r3) (Nat.le_refl _) ?_)
 refine WOps.mem (fun H4 => Keeps H3 H4 ∧ H4.next = H3.next + 1 ∧ Bk H4 H3.next 30 [p0, q0]) ⟨((Keeps.refl H3).add _ r3).set _ (Nat.le_refl _) r3, rfl, ⟨r3, get_set_eq r3⟩⟩ ?_
 rintro H4 ⟨k4, n4, b4⟩
 have x4 := k4.nx
 have k03 := k02.trans k3
 have hy3 := hy.keep k03
 have b13 := b12.keep (by omega) k3
 have g23 := (k3.get _ (by omega)).trans g2
 have hsta := sta_start hru hn
 clear b12 g2 k1 k2 k3
 have hfr0 : ∀ b, p0.own = some b ∨ q0.own = some b → b ≠ H3.next := fun b hb => by
   rcases hb with hb | hb
   · have := hp0.old b hb; omega
   · have := hq0.old b hb; omega
 generalize hSB : H3.next = SB at b4 n4 hfr0 ⊢
 have hS59 : SB < 2 ^ 59 := by omega
 show WOps _ _ _ _ _ _
 repeat (first | apply qN | refine qM rfl rfl ?_ | apply qR | apply qS | apply qB)
 refine Wp.cut (fun T => ∃ Y : List AV, T = (lget Y 0 :: y :: .ptr H.next 0 :: lget Y 1 :: .ptr H1.next 0 :: lget Y 2 :: .ptr SB 0 :: .v (.slice none 0 0) :: iv 0 :: lget Y 3 :: lget Y 4 :: lget Y 5 :: lget Y 6 :: lget Y 7 :: lget Y 8 :: lget Y 9 :: lget Y 10 :: lget Y 11 :: lget Y 12 :: lget Y 13 :: lget Y 14 :: lget Y 15 :: lget Y 16 :: lget Y 17 :: lget Y 18 :: lget Y 19 :: lget Y 20 :: lget Y 21 :: lget Y 22 :: lget Y 23 :: lget Y 24 :: lget Y 25 :: lget Y 26 :: lget Y 27 :: lget Y 28 :: lget Y 29 :: lget Y 30 :: lget Y 31 :: lget Y 32 :: lget Y 33 :: lget Y 34 :: lget Y 35 :: lget Y 36 :: [])) ⟨[_,_,_,_,_,_,_,_,_,_,_,_,_,_,_,_,_,_,_,_,_,_,_,_,_,_,_,_,_,_,_,_,_,_,_,_,_], rfl⟩ ?_
 rintro T ⟨Y, rfl⟩
 refine wp_loop (fun m T M H' => ∃ (i : Nat) (p q rr : AV) (tk gp : List Int) (rf : List (Int × Int)) (Y : List AV), m = ks.length - i ∧ i ≤ ks.length ∧ Keeps H3 H' ∧ SB < H'.next ∧ H'.next ≤ H4.next + 200 * i ∧ Bk H' SB 30 [p, q] ∧ Ky H' p tk ∧ Ky H' q gp ∧ GR H' 138 2 rr (rfs rf) ∧ (∀ b, p.own = some b ∨ q.own = some b → b ≠ SB) ∧ (∀ b, rr.own = some b → SB < b) ∧ (∀ b, rr.own = some b → p.own ≠ some b ∧ q.own ≠ some b) ∧ staE r tk gp = 0 ∧ rf.length ≤ i ∧ rpS r (List.replicate n 0) (nums n) 0 ks = ((rpS r tk gp i (ks.drop i)).1, rf ++ (rpS r tk gp i (ks.drop i)).2) ∧ M = [] ∧ T = (lget Y 0 :: y :: .ptr H.next 0 :: lget Y 1 :: .ptr H1.next 0 :: lget Y 2 :: .ptr SB 0 :: rr :: iv (i : Nat) :: lget Y 3 :: lget Y 4 :: lget Y 5 :: lget Y 6 :: lget Y 7 :: lget Y 8 :: lget Y 9 :: lget Y 10 :: lget Y 11 :: lget Y 12 :: lget Y 13 :: lget Y 14 :: lget Y 15 :: lget Y 16 :: lget Y 17 :: lget Y 18 :: lget Y 19 :: lget Y 20 :: lget Y 21 :: lget Y 22 :: lget Y 23 :: lget Y 24 :: lget Y 25 :: lget Y 26 :: lget Y 27 :: lget Y 28 :: lget Y 29 :: lget Y 30 :: lget Y 31 :: lget Y 32 :: lget Y 33 :: lget Y 34 :: lget Y 35 :: lget Y 36 :: [])) ks.length
   ⟨0, p0, q0, .v (.slice none 0 0), _, _, [], [_,_,_,_,_,_,_,_,_,_,_,_,_,_,_,_,_,_,_,_,_,_,_,_,_,_,_,_,_,_,_,_,_,_,_,_,_], rfl, Nat.zero_le _, k4, by omega, Nat.le_refl _, b4, hp0.keep k4, hq0.keep k4, .inl ⟨rfl, rfl⟩, hfr0, (fun b hb => by cases hb), (fun b hb => by cases hb), hsta, Nat.le_refl _, by simp, rfl, rfl⟩ ?_
 rintro m T M H5 ⟨i, p, q, rr, tk, gp, rf, Y, hm, hi, k5, hsl, n5, b5, hp, hqq, hG, hfr, hfg, hdj, hst, hrfl, hrp, rfl, rfl⟩
 have hy5 := hy3.keep k5
 have b15 := b13.keep (by omega) k5
 have g25 := (k5.get _ (by omega)).trans g23
 have x5 := k5.nx
 have sb5 : beqs [p, q] [p, q] = true := by simp [beqs, hp.sl.beq, hqq.sl.beq]
 have hn5 : H5.next ≤ H.next + 300000 := by omega
 repeat (first | refine qM rfl rfl ?_ | apply qR | apply qS)
 refine wops_cons (o_lenR rfl rfl rfl rfl rfl hy5.sl ?_)
 rw [tks_length]
 refine wops_cons (wop_cmp rfl rfl rfl rfl rfl (fun h => ?_) (fun h => ?_))
 rotate_left
 · have h : ¬ ((i : Int) < (ks.length : Nat)) := of_decide_eq_false h
   have e : i = ks.length := by omega
   subst e
   rw [List.drop_length] at hrp
   have hrp : rpS r (List.replicate n 0) (nums n) 0 ks = ((tk, gp), rf) := by rw [hrp]; simp [rpS]
   rw [hrp] at hk
   repeat (first | apply qN | refine qM rfl rfl ?_ | refine zqb rfl rfl rfl ‹_› ?_ | refine qF rfl ?_ | apply qR | apply qS | apply qE)
   refine wops_cons (o_storeA (n := 2) (vs := [p, q]) rfl rfl (by kernel_rfl) rfl rfl rfl (by simp [hp.sl.one, hqq.sl.one]) g25 (Nat.le_refl _) ?_)
   refine WOps.mem (fun H6 => H6.next = H5.next ∧ H6.gl = H5.gl ∧ H6.get H1.next = some (.cells [p, q] 30 0) ∧ ∀ b, b ≠ H1.next → H6.get b = H5.get b) ⟨rfl, rfl, get_set_eq r1, fun b hb => get_set_ne r1 hb⟩ ?_
   rintro H6 ⟨n6, gl6, g6, f6⟩
   repeat (first | apply qN | refine qM rfl rfl ?_)
   refine Wp.cut (fun T => ∃ Y : List AV, T = (lget Y 0 :: lget Y 1 :: lget Y 2 :: lget Y 3 :: .ptr H1.next 0 :: rr :: lget Y 4 :: lget Y 5 :: lget Y 6 :: lget Y 7 :: lget Y 8 :: lget Y 9 :: lget Y 10 :: lget Y 11 :: lget Y 12 :: lget Y 13 :: lget Y 14 :: lget Y 15 :: lget Y 16 :: lget Y 17 :: lget Y 18 :: lget Y 19 :: lget Y 20 :: lget Y 21 :: lget Y 22 :: lget Y 23 :: lget Y 24 :: lget Y 25 :: lget Y 26 :: lget Y 27 :: lget Y 28 :: lget Y 29 :: lget Y 30 :: lget Y 31 :: lget Y 32 :: lget Y 33 :: lget Y 34 :: lget Y 35 :: lget Y 36 :: lget Y 37 :: lget Y 38 :: lget Y 39 :: lget Y 40 :: [])) ⟨[_,_,_,_,_,_,_,_,_,_,_,_,_,_,_,_,_,_,_,_,_,_,_,_,_,_,_,_,_,_,_,_,_,_,_,_,_,_,_,_,_], rfl⟩ ?_
   rintro T ⟨Y, rfl⟩
   refine wp_ret ?_
   have hne : ∀ b cs e g, H5.get b = some (.cells cs e g) → e ≠ 30 → b ≠ H1.next := fun b cs e g hb he e2 => by rw [e2, g25] at hb; cases hb; exact he rfl
   have hb1 : ∀ (v : AV) (l : List Int), l ≠ [] → Ky H5 v l → ∀ b, v.own = some b → b ≠ H1.next := fun v l hl hv b hb e => by
     subst e
     obtain ⟨z, hz⟩ := l_some (List.length_pos_iff.2 hl)
     have hs := hv.sl
     cases v with
     | slc b' off m' c' => cases hb; obtain ⟨_, _, cs, el, g, h1, h2⟩ := hs; have := h2 0 _ (ivs_get hz); rw [g25] at h1; cases h1; rcases off with _ | _ | off <;> simp [iv] at this
     | slu b' off m' c' => cases hb; obtain ⟨_, _, _, cs, el, g, h1, h2⟩ := hs; have := h2 0 _ (ivs_get hz); rw [g25] at h1; cases h1; rcases off with _ | _ | off <;> simp [iv] at this
     | v val => cases hb
     | _ => exact hs.elim
   obtain ⟨hne1, hne2, _⟩ := tk_ne hst
   have hres : resA Tryz.prog (lget Y 0 :: lget Y 1 :: lget Y 2 :: lget Y 3 :: .ptr H1.next 0 :: rr :: lget Y 4 :: lget Y 5 :: lget Y 6 :: lget Y 7 :: lget Y 8 :: lget Y 9 :: lget Y 10 :: lget Y 11 :: lget Y 12 :: lget Y 13 :: lget Y 14 :: lget Y 15 :: lget Y 16 :: lget Y 17 :: lget Y 18 :: lget Y 19 :: lget Y 20 :: lget Y 21 :: lget Y 22 :: lget Y 23 :: lget Y 24 :: lget Y 25 :: lget Y 26 :: lget Y 27 :: lget Y 28 :: lget Y 29 :: lget Y 30 :: lget Y 31 :: lget Y 32 :: lget Y 33 :: lget Y 34 :: lget Y 35 :: lget Y 36 :: lget Y 37 :: lget Y 38 :: lget Y 39 :: lget Y 40 :: []) H6 Tryz.f28.results.toList = some [.agg [p, q], rr] := by
     show (match loadA Tryz.prog 30 H1.next 0 H6, (some [rr] : Option (List AV)) with | some x, some m => some (x :: m) | _, _ => none) = _
     rw [load2 g6]
   refine ⟨.tup [.agg [p, q], rr], H6, ?_, hk H6 p q rr ⟨by omega, gl6.trans (k5.gl.trans k03.gl), fun b hb => (f6 b (by omega)).trans ((k5.get b (by omega)).trans (k03.get b hb))⟩ (by omega) ?_ ?_ ?_⟩
   · unfold leaveM resultsA
     simp only [takeMarks]
     rw [show (ENV O).P = Tryz.prog from rfl, hres]
   · exact hp.frame gl6 (by omega) fun b hb => f6 b (hb1 p tk hne1 hp b hb)
   · exact hqq.frame gl6 (by omega) fun b hb => f6 b (hb1 q gp hne2 hqq b hb)
   · exact hG.frame (by omega) fun b hb => f6 b (by have := hfg b hb; omega)
 have hi' : i < ks.length := by have h : (i : Int) < (ks.length : Nat) := of_decide_eq_true h; omega
 clear h
 obtain ⟨k, hkk⟩ := t_some hi'
 have hmk : tukE r k = 0 := htk k (List.mem_of_getElem? hkk)
 rw [dropT hkk, rpS] at hrp
 obtain ⟨j, z, g, hT, hlg⟩ := tkd_of hst hmk
 obtain ⟨e1, e2⟩ := hT.nx
 repeat (first | apply qN | refine qT rfl ?_ | apply qS | apply qK | apply qB)
 refine wp_drawK rfl ?_
 refine k_load4 rfl rfl rfl rfl b15 (lkP (n := 0) b15 (by omega) (ru_beq r)) ?_
 refine k_load4 rfl rfl rfl rfl b5 (lkP (n := 0) b5 hsl sb5) ?_
 refine k_move rfl rfl rfl ?_
 refine k_move rfl rfl rfl ?_
 refine k_indexR rfl rfl rfl hy5.sl rfl (tks_get hkk) rfl hy5.lk fun pp hpp hpl => ?_
 refine k_loadR rfl rfl rfl hpp rfl rfl hpl fun v hv => ?_
 refine k_call rfl rfl rfl (fun b h => by cases h) (wop_callF rfl rfl rfl (fn := Tryz.f23) (by rfl) ?_)
 refine c23 hq H5 r k _ _ p q tk gp j z g rfl hv hT hp hqq (by omega) _ fun H6 k6 n6 => ⟨k6.nx, k6, ?_⟩
 have x6 := k6.nx
 rw [← hlg]
 have hy6 := hy5.keep k6
 have b16 := b15.keep (by omega) k6
 have b56 := b5.keep hsl k6
 have hp6 := hp.keep k6
 have hq6 := hqq.keep k6
 have hG6 := hG.keep k6
 have k36 := k5.trans k6
 repeat (first | refine qM rfl rfl ?_ | refine k_nil ?_ | refine k_assign rfl rfl rfl ?_ | apply qR | apply qS)
 refine WOps.cut (fun T => ∃ Y : List AV, T = (lget Y 0 :: y :: .ptr H.next 0 :: lget Y 1 :: .ptr H1.next 0 :: lget Y 2 :: .ptr SB 0 :: rr :: iv (i : Nat) :: iv (lgE r tk gp k) :: lget Y 3 :: lget Y 4 :: lget Y 5 :: lget Y 6 :: lget Y 7 :: lget Y 8 :: lget Y 9 :: lget Y 10 :: lget Y 11 :: lget Y 12 :: lget Y 13 :: lget Y 14 :: lget Y 15 :: lget Y 16 :: lget Y 17 :: iv (lgE r tk gp k) :: lget Y 18 :: lget Y 19 :: lget Y 20 :: lget Y 21 :: lget Y 22 :: lget Y 23 :: lget Y 24 :: lget Y 25 :: lget Y 26 :: lget Y 27 :: lget Y 28 :: lget Y 29 :: lget Y 30 :: lget Y 31 :: lget Y 32 :: lget Y 33 :: lget Y 34 :: [])) ⟨[_,_,_,_,_,_,_,_,_,_,_,_,_,_,_,_,_,_,_,_,_,_,_,_,_,_,_,_,_,_,_,_,_,_,_], rfl⟩ ?_
 rintro T ⟨Y, rfl⟩
 clear hv hpp hpl pp
 by_cases hz0 : lgE r tk gp k = 0
 · rw [if_pos hz0] at hrp
   rw [hz0]
   refine wops_cons (wop_bin (op := .neq) (v := .bool false) rfl rfl rfl rfl rfl ?_)
   repeat (first | apply qN | refine qF rfl ?_)
   refine wp_drawY (fun u b => u = 0 ∨ u = 1 ∨ u = 5) rfl ?_
   refine y_loadA (n := 5) (r := r.cs) rfl rfl rfl rfl b16.lt b16.g rfl (Nat.le_refl _) (.inl rfl) ?_
   refine y_loadA (n := 2) rfl rfl rfl rfl hS59 b56.g rfl (Nat.le_refl _) (.inr (.inl rfl)) ?_
   refine y_move rfl rfl rfl ?_
   refine y_move rfl rfl rfl ?_
   refine y_indexR rfl rfl rfl hy6.sl rfl (tks_get hkk) rfl fun pp hpp _ => ?_
   refine y_loadR rfl rfl rfl hpp rfl rfl (fun _ _ => .inr (.inr rfl)) fun v hv => ?_
   refine y_call rfl rfl rfl (fun b h => by cases h) (wop_callF rfl rfl rfl (fn := Tryz.f24) (by rfl) ?_)
   refine c24x hq H6 r k _ _ p q tk gp j z g rfl hv hT hp6 hq6 (by omega) _ fun H7 a1 a2 k7 n7 hO1 hO2 => ⟨k7.nx, fun u b hu => .inl (by rcases hu with rfl | rfl | rfl <;> kernel_rfl), ?_⟩
   have x7 := k7.nx
   have ha1 : a1 ≠ SB := fun e => by have h1 := hO1.2.2; rw [e, k7.get _ (by omega), b56.g] at h1; simp at h1
   have ha2 : a2 ≠ SB := fun e => by have h1 := hO2.2.2; rw [e, k7.get _ (by omega), b56.g] at h1; simp at h1
   refine y_loud rfl rfl (o_storeA (n := 2) (vs := [.slu a1 0 tk.length 1, .slu a2 0 gp.length 1]) rfl rfl (by kernel_rfl) rfl rfl rfl rfl ((k7.get _ (by omega)).trans b56.g) (Nat.le_refl _) ⟨fun u b hu => .inl (by rcases hu with rfl | rfl | rfl <;> kernel_rfl), ?_⟩)
   refine y_nil ?_
   refine Wp.mem (fun H8 => H8.next = H7.next ∧ H8.gl = H7.gl ∧ Bk H8 SB 30 [.slu a1 0 tk.length 1, .slu a2 0 gp.length 1] ∧ ∀ b, b ≠ SB → H8.get b = H7.get b) ⟨rfl, rfl, ⟨hS59, get_set_eq hS59⟩, fun b hb => get_set_ne hS59 hb⟩ ?_
   rintro H8 ⟨n8, gl8, b8, f8⟩
   have k37 := k36.trans k7
   have h1 : Own H8 a1 (tk.set j (z + 1)) := ⟨by have := hO1.1; omega, hO1.2.1, (f8 a1 ha1).trans hO1.2.2⟩
   have h2 : Own H8 a2 (gp.set j (gapA r k g)) := ⟨by have := hO2.1; omega, hO2.2.1, (f8 a2 ha2).trans hO2.2.2⟩
   have g1 := h1.ky
   have g2' := h2.ky
   rw [List.length_set] at g1 g2'
   have hrn : ∀ b cs, H7.get b = some (.cells cs 3 1) → rr.own ≠ some b := fun b cs hb hb2 => by
     rcases hG6.keep k7 with ⟨rfl, _⟩ | ⟨c', _, _, rfl, hc⟩
     · cases hb2
     · cases hb2; rw [hc] at hb; cases hb
   repeat (first | apply qN | refine qM rfl rfl ?_ | refine zq4 rfl rfl rfl rfl (inc (by omega)) ?_ | apply qR)
   refine ⟨ks.length - (i + 1), by omega, i + 1, .slu a1 0 tk.length 1, .slu a2 0 gp.length 1, rr, nxT tk k, nxG r gp k, rf, [_,_,_,_,_,_,_,_,_,_,_,_,_,_,_,_,_,_,_,_,_,_,_,_,_,_,_,_,_,_,_,_,_,_,_,_,_], rfl, by omega, ⟨by omega, gl8.trans k37.gl, fun b hb => (f8 b (by omega)).trans (k37.get b hb)⟩, by omega, by omega, b8, by rw [e1]; exact g1, by rw [e2]; exact g2', (hG6.keep k7).frame (by omega) (fun b hb => f8 b (by have := hfg b hb; omega)), ?_, hfg, ?_, sta_next hst hmk hz0, by omega, hrp, rfl, rfl⟩
   · rintro b (hb | hb) <;> cases hb
     · exact ha1
     · exact ha2
   · intro b hb
     exact ⟨fun e => by cases e; exact hrn _ _ hO1.2.2 hb, fun e => by cases e; exact hrn _ _ hO2.2.2 hb⟩
 · rw [if_neg hz0] at hrp
   have r6 : H6.next < 2 ^ 59 := by omega
   generalize lgE r tk gp k = w at hz0 hrp ⊢
   refine wops_cons (wop_bin (op := .neq) (v := .bool true) rfl rfl rfl rfl (by simp [binI, hz0]) ?_)
   repeat (first | apply qN | refine qM rfl rfl ?_ | refine zq4 rfl rfl rfl rfl (inc (by omega)) ?_ | refine qT rfl ?_ | apply qR)
   refine wops_cons (o_buildP rfl rfl rfl rfl ?_)
   refine wops_cons (o_build1R (p := [iv ((i : Int) + 1), iv w]) rfl rfl rfl rfl r6 ?_)
   refine WOps.mem (fun H7 => Keeps H6 H7 ∧ H7.next = H6.next + 1 ∧ H7.get H6.next = some (.cells [iv ((i : Int) + 1), iv w] 138 0)) ⟨(Keeps.refl H6).add _ r6, rfl, get_add_eq r6⟩ ?_
   rintro H7 ⟨k7, n7, g7⟩
   have x7 := k7.nx
   refine wops_cons (o_appendRR (rows := rfs rf) rfl rfl rfl rfl rfl (by rw [rfs_length]; omega) (by omega) rfl g7 rfl rfl (rfs_len rf) (hG6.keep k7) fun r8 H8 n8 gl8 f8 hr8 hG8 => ?_)
   have k37 := k36.trans k7
   rw [rfs_snoc] at hG8
   have f68 : ∀ b, b < H6.next → rr.own ≠ some b → H8.get b = H6.get b := fun b hb hb2 => (f8 b (by omega) hb2).trans (k7.get b hb)
   have rro : r8.own = some H7.next := by rw [hr8]; rfl
   repeat (first | apply qN | refine qM rfl rfl ?_ | refine zq4 rfl rfl rfl rfl (inc (by omega)) ?_ | apply qR)
   refine ⟨ks.length - (i + 1), by omega, i + 1, p, q, r8, tk, gp, rf ++ [((i : Int) + 1, w)], [_,_,_,_,_,_,_,_,_,_,_,_,_,_,_,_,_,_,_,_,_,_,_,_,_,_,_,_,_,_,_,_,_,_,_,_,_], rfl, by omega, ⟨by omega, gl8.trans k37.gl, fun b hb => (f68 b (by omega) (fun e => by have := hfg b e; omega)).trans (k36.get b hb)⟩, by omega, by omega, ⟨hS59, (f68 SB (by omega) (fun e => by have := hfg _ e; omega)).trans b56.g⟩, hp6.frame (by rw [gl8, k7.gl]) (by omega) (fun b hb => f68 b (hp6.old b hb) (fun e => (hdj b e).1 hb)), hq6.frame (by rw [gl8, k7.gl]) (by omega) (fun b hb => f68 b (hq6.old b hb) (fun e => (hdj b e).2 hb)), hG8, hfr, ?_, ?_, hst, by rw [List.length_append]; exact Nat.succ_le_succ hrfl, by rw [hrp]; simp, rfl, rfl⟩
   · intro b hb
     rw [rro] at hb; cases hb; omega
   · intro b hb
     rw [rro] at hb; cases hb
     exact ⟨fun e => by have := hp6.old _ e; omega, fun e => by have := hq6.old _ e; omega⟩
end Go.Ev
