/- Part of an evaluator of calls that is proved sound, and of what it gives about this program. No condition of its own. -/
import Derived.Test.YtanaplokhjgfmaaGreatDoorEvFd
set_option linter.unusedVariables false
set_option linter.unusedSimpArgs false
set_option linter.unusedSectionVars false
set_option maxRecDepth 100000
set_option maxHeartbeats 4000000
namespace Go.Ev
open Go.Proofs
instance : TyR 52 28 2 := ⟨by kernel_rfl, by kernel_rfl, by kernel_rfl, ⟨.agg #[.int .i64 0, .int .i64 0, .int .i64 0], by kernel_rfl, by kernel_rfl⟩, by kernel_rfl, by kernel_rfl, by kernel_rfl⟩
instance : TyR 53 32 2 := ⟨by kernel_rfl, by kernel_rfl, by kernel_rfl, ⟨.agg #[.int .i64 0, .int .i64 0, .int .i64 0], by kernel_rfl, by kernel_rfl⟩, by kernel_rfl, by kernel_rfl, by kernel_rfl⟩
instance : TyR 55 108 1 := ⟨by kernel_rfl, by kernel_rfl, by kernel_rfl, ⟨.agg #[.int .i64 0, .int .i64 0], by kernel_rfl, by kernel_rfl⟩, by kernel_rfl, by kernel_rfl, by kernel_rfl⟩
instance : TyR 59 138 1 := ⟨by kernel_rfl, by kernel_rfl, by kernel_rfl, ⟨.agg #[.int .i64 0, .int .i64 0], by kernel_rfl, by kernel_rfl⟩, by kernel_rfl, by kernel_rfl, by kernel_rfl⟩
def tks (ks : List Tk) : List (List AV) := ks.map Tk.cs
theorem tks_len (ks : List Tk) : ∀ r ∈ tks ks, r.length = 3 := fun r hr => by
 obtain ⟨k, _, rfl⟩ := List.mem_map.1 hr
 rfl
theorem tks_get {ks : List Tk} {i : Nat} {k : Tk} (h : ks[i]? = some k) : (tks ks)[i]? = some k.cs := by simp [tks, h]
theorem tks_length (ks : List Tk) : (tks ks).length = ks.length := by simp [tks]
theorem dropT {α : Type} {l : List α} {i : Nat} {z : α} (h : l[i]? = some z) : l.drop i = z :: l.drop (i + 1) := by
 have hl := (List.getElem?_eq_some_iff.1 h).1
 rw [List.drop_eq_getElem_cons hl]
 congr 1
 exact (List.getElem?_eq_some_iff.1 h).2
theorem t_some {α : Type} {l : List α} {i : Nat} (h : i < l.length) : ∃ z, l[i]? = some z := ⟨l[i], List.getElem?_eq_getElem h⟩
def ecE (r : Ru) : List Tk → Int
 | [] => 0
 | k :: ks => if tukE r k = 0 then ecE r ks else tukE r k
def tksE (r : Ru) (ks : List Tk) : Int := firstNZ [if decide ((ks.length : Int) ≤ 256) = true then 0 else 5, ecE r ks]
theorem ecE_0 {r : Ru} : ∀ {ks : List Tk}, ecE r ks = 0 ↔ ∀ k ∈ ks, tukE r k = 0
 | [] => by simp [ecE]
 | k :: ks => by
   rw [ecE]
   by_cases h : tukE r k = 0
   · rw [if_pos h, ecE_0]; simp [h]
   · rw [if_neg h]; simp [h]
theorem tksE_0 {r : Ru} {ks : List Tk} (h : tksE r ks = 0) : ks.length ≤ 256 ∧ ∀ k ∈ ks, tukE r k = 0 := by
 obtain ⟨h1, h2⟩ := first2n h
 refine ⟨?_, ecE_0.1 h2⟩
 by_cases h : (ks.length : Int) ≤ 256
 · omega
 · rw [decide_eq_false h] at h1; simp at h1
theorem b32 : (ti 32).bytes = 24 := by kernel_rfl
variable {O : CallF} (hq : Quiet O)
include hq
theorem c25 (H : AH) (y : AV) (ks : List Tk) (hy : SlR 3 H y (tks ks)) (hoy : Old H y) (hml : ks.length * 24 ≤ 2 ^ 47) (hr : H.next + 3 * ks.length + 1000 < 2 ^ 59) (K : AV → AH → Prop)
   (hk : ∀ H' r, Keeps H H' → H'.next ≤ H.next + 3 * ks.length → GR H' 32 3 r (tks ks) → (∀ d, r.own = some d → H.next ≤ d) → K r H') : Ca (ENV O) 25 [y] H K := by
 refine ca_intro (hq _ _ _ rfl) (fn := Tryz.f25) (by rfl) rfl ?_
 repeat (first | apply qN | refine qM rfl rfl ?_ | apply qR | apply qS | apply qB)
 refine wp_loop (fun q T M H' => ∃ (i : Nat) (rr : AV) (Y : List AV), q = ks.length - i ∧ i ≤ ks.length ∧ Keeps H H' ∧ H'.next ≤ H.next + 3 * i ∧ GR H' 32 3 rr (tks (ks.take i)) ∧ (∀ d, rr.own = some d → H.next ≤ d) ∧ M = [] ∧ T = (y :: lget Y 0 :: lget Y 1 :: rr :: iv (i : Nat) :: lget Y 2 :: lget Y 3 :: lget Y 4 :: lget Y 5 :: lget Y 6 :: lget Y 7 :: lget Y 8 :: lget Y 9 :: lget Y 10 :: lget Y 11 :: lget Y 12 :: lget Y 13 :: lget Y 14 :: lget Y 15 :: [])) ks.length
   ⟨0, .v (.slice none 0 0), [_,_,_,_,_,_,_,_,_,_,_,_,_,_,_,_], rfl, Nat.zero_le _, Keeps.refl _, Nat.le_refl _, .inl ⟨rfl, rfl⟩, (fun d hd => by cases hd), rfl, rfl⟩ ?_
 rintro q T M H1 ⟨i, rr, Y, hq1, hi, k1, n1, hG1, hno, rfl, rfl⟩
 have hy1 := hy.keep hoy k1
 repeat (first | refine qM rfl rfl ?_ | apply qR | apply qS)
 refine wops_cons (o_lenR rfl rfl rfl rfl rfl hy1 ?_)
 rw [tks_length]
 refine wops_cons (wop_cmp rfl rfl rfl rfl rfl (fun h => ?_) (fun h => ?_))
 rotate_left
 · have h : ¬ ((i : Int) < (ks.length : Nat)) := of_decide_eq_false h
   have e : i = ks.length := by omega
   subst e
   rw [List.take_length] at hG1
   repeat (first | apply qN | refine qM rfl rfl ?_ | refine qF rfl ?_ | apply qR | apply qS | apply qE)
   refine wp_ret ?_
   exact ⟨_, _, rfl, hk H1 rr k1 n1 hG1 hno⟩
 have hi' : i < ks.length := by have h : (i : Int) < (ks.length : Nat) := of_decide_eq_true h; omega
 clear h
 obtain ⟨k, hp⟩ := t_some hi'
 have htk : tks (ks.take (i + 1)) = tks (ks.take i) ++ [k.cs] := by rw [List.take_add_one, hp]; simp [tks]
 have r1 : H1.next < 2 ^ 59 := by omega
 repeat (first | apply qN | refine qM rfl rfl ?_ | refine qT rfl ?_ | apply qR | apply qS | apply qK | apply qB)
 refine wops_cons (o_indexR rfl rfl hy1 rfl (tks_get hp) rfl fun pp hpp _ => ?_)
 refine wops_cons (o_loadR rfl rfl hpp rfl rfl fun v hv => ?_)
 refine wops_cons (o_build1R (p := k.cs) rfl rfl hv rfl r1 ?_)
 refine WOps.mem (fun H3 => Keeps H1 H3 ∧ H3.next = H1.next + 1 ∧ H3.get H1.next = some (.cells k.cs 32 0)) ⟨(Keeps.refl H1).add _ r1, rfl, get_add_eq r1⟩ ?_
 rintro H3 ⟨k3, n3, g3⟩
 refine wops_cons (o_appendRM (H0 := H) (p := k.cs) (rows := tks (ks.take i)) rfl rfl rfl rfl rfl (by rw [tks_length, List.length_take]; omega) (by rw [tks_length, List.length_take, b32]; omega) (by omega) rfl g3 rfl rfl (tks_len _) (hG1.keep k3) hno (k1.trans k3) fun r4 H4 n4 k4 hn4 hG4 => ?_)
 repeat (first | apply qN | refine qM rfl rfl ?_ | refine zq4 rfl rfl rfl rfl (inc (by omega)) ?_ | apply qR)
 exact ⟨ks.length - (i + 1), by omega, i + 1, r4, [_,_,_,_,_,_,_,_,_,_,_,_,_,_,_,_], rfl, by omega, k4, by omega, by rw [htk]; exact hG4, hn4, rfl, rfl⟩
theorem c30 (H : AH) (y : AV) (rows : List (List AV)) (hrl : ∀ r ∈ rows, r.length = 2 ∧ r.all AV.one = true) (hy : SlR 2 H y rows) (hoy : Old H y) (hml : rows.length ≤ 100000) (hr : H.next + 500000 < 2 ^ 59) (K : AV → AH → Prop)
   (hk : ∀ H' r, Keeps H H' → H'.next ≤ H.next + 3 * rows.length → GR H' 138 2 r rows → (∀ d, r.own = some d → H.next ≤ d) → K r H') : Ca (ENV O) 30 [y] H K := by
 refine ca_intro (hq _ _ _ rfl) (fn := Tryz.f30) (by rfl) rfl ?_
 repeat (first | apply qN | refine qM rfl rfl ?_ | apply qR | apply qS | apply qB)
 refine wp_loop (fun q T M H' => ∃ (i : Nat) (rr : AV) (Y : List AV), q = rows.length - i ∧ i ≤ rows.length ∧ Keeps H H' ∧ H'.next ≤ H.next + 3 * i ∧ GR H' 138 2 rr (rows.take i) ∧ (∀ d, rr.own = some d → H.next ≤ d) ∧ M = [] ∧ T = (y :: lget Y 0 :: lget Y 1 :: rr :: iv (i : Nat) :: lget Y 2 :: lget Y 3 :: lget Y 4 :: lget Y 5 :: lget Y 6 :: lget Y 7 :: lget Y 8 :: lget Y 9 :: lget Y 10 :: lget Y 11 :: lget Y 12 :: lget Y 13 :: lget Y 14 :: lget Y 15 :: [])) rows.length
   ⟨0, .v (.slice none 0 0), [_,_,_,_,_,_,_,_,_,_,_,_,_,_,_,_], rfl, Nat.zero_le _, Keeps.refl _, Nat.le_refl _, .inl ⟨rfl, rfl⟩, (fun d hd => by cases hd), rfl, rfl⟩ ?_
 rintro q T M H1 ⟨i, rr, Y, hq1, hi, k1, n1, hG1, hno, rfl, rfl⟩
 have hy1 := hy.keep hoy k1
 repeat (first | refine qM rfl rfl ?_ | apply qR | apply qS)
 refine wops_cons (o_lenR rfl rfl rfl rfl rfl hy1 ?_)
 refine wops_cons (wop_cmp rfl rfl rfl rfl rfl (fun h => ?_) (fun h => ?_))
 rotate_left
 · have h : ¬ ((i : Int) < (rows.length : Nat)) := of_decide_eq_false h
   have e : i = rows.length := by omega
   subst e
   rw [List.take_length] at hG1
   repeat (first | apply qN | refine qM rfl rfl ?_ | refine qF rfl ?_ | apply qR | apply qS | apply qE)
   refine wp_ret ?_
   exact ⟨_, _, rfl, hk H1 rr k1 n1 hG1 hno⟩
 have hi' : i < rows.length := by have h : (i : Int) < (rows.length : Nat) := of_decide_eq_true h; omega
 clear h
 obtain ⟨k, hp⟩ := t_some hi'
 obtain ⟨hk2, hk1⟩ := hrl k (List.mem_of_getElem? hp)
 have htk : rows.take (i + 1) = rows.take i ++ [k] := by rw [List.take_add_one, hp]; rfl
 have r1 : H1.next < 2 ^ 59 := by omega
 repeat (first | apply qN | refine qM rfl rfl ?_ | refine qT rfl ?_ | apply qR | apply qS | apply qK | apply qB)
 refine wops_cons (o_indexR rfl rfl hy1 rfl hp hk2 fun pp hpp _ => ?_)
 refine wops_cons (o_loadR rfl rfl hpp rfl hk2 fun v hv => ?_)
 refine wops_cons (o_build1R (p := k) rfl rfl hv hk2 r1 ?_)
 refine WOps.mem (fun H3 => Keeps H1 H3 ∧ H3.next = H1.next + 1 ∧ H3.get H1.next = some (.cells k 138 0)) ⟨(Keeps.refl H1).add _ r1, rfl, get_add_eq r1⟩ ?_
 rintro H3 ⟨k3, n3, g3⟩
 refine wops_cons (o_appendR (H0 := H) (p := k) (rows := rows.take i) rfl rfl rfl rfl rfl (by rw [List.length_take]; omega) (by omega) rfl g3 hk2 hk1 (fun r hr => (hrl r (List.mem_of_mem_take hr)).1) (hG1.keep k3) hno (k1.trans k3) fun r4 H4 n4 k4 hn4 hG4 => ?_)
 repeat (first | apply qN | refine qM rfl rfl ?_ | refine zq4 rfl rfl rfl rfl (inc (by omega)) ?_ | apply qR)
 exact ⟨rows.length - (i + 1), by omega, i + 1, r4, [_,_,_,_,_,_,_,_,_,_,_,_,_,_,_,_], rfl, by omega, k4, by omega, by rw [htk]; exact hG4, hn4, rfl, rfl⟩
end Go.Ev
namespace Go.Ev
open Go.Proofs
theorem Lk.frame {H H' : AH} {b : Nat} (h : Lk H b) (hn : H.next ≤ H'.next) (hg : H'.get b = H.get b) : Lk H' b := ⟨Nat.lt_of_lt_of_le h.1 hn, by rw [hg]; exact h.2⟩
theorem Ky.frame {H H' : AH} {v : AV} {l : List Int} (h : Ky H v l) (hgl : H'.gl = H.gl) (hn : H.next ≤ H'.next) (hg : ∀ b, v.own = some b → H'.get b = H.get b) : Ky H' v l :=
 ⟨h.sl.frame hgl hg, fun b hb => Nat.lt_of_lt_of_le (h.old b hb) hn, h.cap, fun b hb => (h.lk b hb).frame hn (hg b hb)⟩
theorem GR.frame {H H' : AH} {e : TypeId} {k : Nat} {s : AV} {rows : List (List AV)} (h : GR H e k s rows) (hn : H.next ≤ H'.next) (hg : ∀ b, s.own = some b → H'.get b = H.get b) : GR H' e k s rows := by
 rcases h with h | ⟨b, h1, h2, rfl, h4⟩
 · exact .inl h
 · exact .inr ⟨b, by omega, h2, rfl, (hg b rfl).trans h4⟩
theorem SlR.frame {k : Nat} {H H' : AH} {x : AV} {rows : List (List AV)} (h : SlR k H x rows) (hgl : H'.gl = H.gl) (hg : ∀ b, x.own = some b → H'.get b = H.get b) : SlR k H' x rows := by
 cases x with
 | v val =>
   cases val with
   | slice a n c =>
     obtain ⟨h1, h2⟩ := h
     refine ⟨h1, ?_⟩
     rcases h2 with h2 | ⟨b, off, vs, h3, h4, h5⟩
     · exact .inl h2
     · exact .inr ⟨b, off, vs, h3, by rw [hgl]; exact h4, h5⟩
   | _ => exact h.elim
 | slc b off n c => obtain ⟨h1, h2, cs, e, g, h3, h4⟩ := h; exact ⟨h1, h2, cs, e, g, (hg b rfl).trans h3, h4⟩
 | slu b off n c => obtain ⟨h1, h0, h2, cs, e, g, h3, h4⟩ := h; exact ⟨h1, h0, h2, cs, e, g, (hg b rfl).trans h3, h4⟩
 | _ => exact h.elim
theorem beqs_app {a b : List AV} (ha : beqs a a = true) (hb : beqs b b = true) : beqs (a ++ b) (a ++ b) = true := by
 induction a with
 | nil => exact hb
 | cons x a ih =>
   simp only [beqs, Bool.and_eq_true] at ha
   simp only [List.cons_append, beqs, ha.1, ih ha.2, Bool.and_self]
theorem beqs_tks : ∀ ks : List Tk, beqs (tks ks).flatten (tks ks).flatten = true
 | [] => rfl
 | k :: ks => by
   show beqs (k.cs ++ (tks ks).flatten) (k.cs ++ (tks ks).flatten) = true
   exact beqs_app (tk_beq k) (beqs_tks ks)
structure Ks (H : AH) (v : AV) (ks : List Tk) : Prop where
 sl : SlR 3 H v (tks ks)
 old : Old H v
 lk : ∀ b, v.own = some b → Lk H b
theorem Ks.frame {H H' : AH} {v : AV} {l : List Tk} (h : Ks H v l) (hgl : H'.gl = H.gl) (hn : H.next ≤ H'.next) (hg : ∀ b, v.own = some b → H'.get b = H.get b) : Ks H' v l :=
 ⟨h.sl.frame hgl hg, fun b hb => Nat.lt_of_lt_of_le (h.old b hb) hn, fun b hb => (h.lk b hb).frame hn (hg b hb)⟩
theorem Ks.keep {H H' : AH} {v : AV} {l : List Tk} (h : Ks H v l) (k : Keeps H H') : Ks H' v l := h.frame k.gl k.nx fun b hb => k.get b (h.old b hb)
theorem GR.ks {H : AH} {e : TypeId} {s : AV} {l : List Tk} (h : GR H e 3 s (tks l)) : Ks H s l := by
 refine ⟨h.sl (tks_len l), h.old, fun b hb => ?_⟩
 rcases h with ⟨rfl, h2⟩ | ⟨c, h1, h2, rfl, h4⟩
 · cases hb
 · cases hb
   exact ⟨h1, by rw [h4]; simp [sameBlk, beqs_tks]⟩
section
variable {O : CallF} {T : List AV} {H H0 : AH} {ops : Array Oper} {o : Oper} {i : Nat} {π : List Stp} {K : List AV → AH → Prop}
theorem k_indexR {t e : TypeId} {k : Nat} {x y : Operand} {j : Nat} {rows : List (List AV)} {r : List AV} (h1 : ops.toList[i]? = some o) (ho : o.op = .indexAddr t x y) (hg : wantedA o ops T = true) [hu : TyR t e k] (hx : SlR (k + 1) H0 (av T x) rows) (hi : av T y = iv j) (hl : rows[j]? = some r) (hrl : r.length = k + 1) (hL : ∀ b, (av T x).own = some b → Lk H0 b)
   (hk : ∀ p, PtR H0 p r → (∀ b, p.own = some b → Lk H0 b) → WK (ENV O) ops H0 π (putA T o.dst p) H K) : WK (ENV O) ops H0 (.mob i :: π) T H K := by
 obtain ⟨p, g1, g2, g3, g4⟩ := idxR (e := e) ho hx hi hl hrl
 exact k_mob h1 hg (g2 _) (fun b hb => by rw [rdA_none (by unfold looksB; rw [ho])] at hb; cases hb) (hk p g3 fun b hb => hL b (by rw [← g4]; exact hb))
theorem k_loadR {t : TypeId} {n : Nat} {x : Operand} {r : List AV} {p : AV} (h1 : ops.toList[i]? = some o) (ho : o.op = .load t x) (hg : wantedA o ops T = true) [h4 : Stru t n] (hp : PtR H0 p r) (hx : av T x = p) (hn : r.length = n) (hL : ∀ b, p.own = some b → Lk H0 b) (hk : ∀ v : AV, v.cells = r → WK (ENV O) ops H0 π (putA T o.dst v) H K) : WK (ENV O) ops H0 (.mob i :: π) T H K := by
 have h3 := h4.a
 have h5 := h4.s
 rcases hp with ⟨b, off, cs, e, g, rfl, h39, hgb, e1, e2⟩ | ⟨b, off, vs, rfl, hgl, e1, e2⟩
 · have hrd : rdA T o = some b := by unfold rdA; rw [ho]; simp only [hx]
   refine k_mob (r := .agg r) h1 hg ?_ (fun c hc => by rw [hrd] at hc; cases hc; exact hL _ rfl) (hk _ rfl)
   rw [hrd]
   unfold mobEval
   rw [ho]
   simp only [hx]
   have : (sing H0 (some b)).get b = some (.cells cs e g) := by
     unfold sing
     simp only [hgb]
     rw [AH.get_set _ _ _ _ h39, if_pos rfl]
   simp only [ENV, loadA, this, h3, h5]
   rw [if_pos (Nat.ble_eq_true_of_le (by omega)), ← hn, e1]
 · have hrd : rdA T o = none := by unfold rdA; rw [ho]; simp only [hx]
   refine k_mob (r := .v (.agg ((vs.drop off).take n).toArray)) h1 hg ?_ (fun c hc => by rw [hrd] at hc; cases hc) (hk _ (by rw [← e1, ← hn]; rfl))
   rw [hrd]
   unfold mobEval
   rw [ho]
   simp only [hx]
   have : (sing H0 none).gl = H0.gl := rfl
   simp only [ENV, loadG, this, hgl, h3, h5]
   rw [if_pos (Nat.ble_eq_true_of_le (by omega))]
theorem k_lenR {c : Call} {t e : TypeId} {k : Nat} {x : Operand} {rows : List (List AV)} (h1 : ops.toList[i]? = some o) (ho : o.op = .call c) (hg : wantedA o ops T = true) (hc : c.callee = .builtin .len) (hargs : c.args.toList = [x]) (ht : c.argTypes.toList = [t]) [hu : TyR t e k] (hx : SlR (k + 1) H0 (av T x) rows)
   (hk : WK (ENV O) ops H0 π (putA T o.dst (iv rows.length)) H K) : WK (ENV O) ops H0 (.mob i :: π) T H K := by
 have ht0 : c.argTypes[0]? = some t := by rw [← Array.getElem?_toList, ht]; rfl
 have h2 := hu.u
 refine k_0 h1 (by unfold looksB; rw [ho]) hg ?_ hk
 cases hav : av T x with
 | v val =>
   rw [hav] at hx
   cases val with
   | slice a n cap =>
     obtain ⟨rfl, _⟩ := hx
     refine wd_mob h1 hg (r := .v (goInt rows.length)) ?_ rfl
     unfold mobEval; rw [ho]
     simp only [hc, hargs, hav, isV, if_true]
     have h2 : runPure Tryz.prog (execOp (fun x => ((av T x).plain).getD undef) o) = some (.value (goInt rows.length)) := by
       obtain ⟨dst, op', type, pos, after, guard⟩ := o
       simp only at ho
       subst ho
       obtain ⟨callee, args, ats⟩ := c
       simp only at hc hargs ht ht0
       subst hc
       obtain ⟨cb, hex⟩ := exec_builtin (fun x => ((av T x).plain).getD undef) dst type pos after guard .len args ats
       rw [hex]
       have ha : args.map (fun x => ((av T x).plain).getD undef) = #[.slice a rows.length cap] := by
         apply Array.ext'; simp [hargs, hav, AV.plain]
       have hat : ats = #[t] := by apply Array.ext'; simp [ht]
       rw [ha, hat]
       show runPure Tryz.prog (Builtin.len_ #[t] type #[.slice a rows.length cap] >>= fun r => pure (Next.value r)) = _
       rw [runPure_bind]
       have : runPure Tryz.prog (Builtin.len_ #[t] type #[.slice a rows.length cap]) = some (goInt rows.length) := by
         unfold Builtin.len_
         simp [runPure_bind, h2, runPure_pure]
       rw [this]
       rfl
     unfold plainVal
     rw [show (ENV O).P = Tryz.prog from rfl, h2, ho]
     simp [Op.operands, Call.operands, hc, hargs, hav, AV.plain]
   | _ => exact hx.elim
 | slc b off n cap =>
   rw [hav] at hx
   obtain ⟨rfl, _⟩ := hx
   refine wd_mob h1 hg (r := iv rows.length) ?_ rfl
   unfold mobEval; rw [ho]
   simp only [hc, hargs, hav, isV, ENV, lenOpA, ht0, h2]
   rfl
 | slu b off n sz =>
   rw [hav] at hx
   obtain ⟨rfl, _⟩ := hx
   refine wd_mob h1 hg (r := iv rows.length) ?_ rfl
   unfold mobEval; rw [ho]
   simp only [hc, hargs, hav, isV, ENV, lenOpA, ht0, h2]
   rfl
 | _ => rw [hav] at hx; exact hx.elim
end
variable {O : CallF} (hq : Quiet O)
include hq
theorem c27 (H : AH) (r : Ru) (rv y : AV) (ks : List Tk) (hrv : rv.cells = r.cs) (hy : Ks H y ks) (hru : ruE r = 0) (hml : ks.length ≤ 100000) (hr : H.next + 500000 < 2 ^ 59) (K : AV → AH → Prop)
   (hk : ∀ H', Keeps H H' → H'.next ≤ H.next + 1 + 4 * ks.length → K (iv (tksE r ks)) H') : Ca (ENV O) 27 [rv, y] H K := by
 refine ca_intro (hq _ _ _ rfl) (fn := Tryz.f27) (by rfl) rfl ?_
 have r0 : H.next < 2 ^ 59 := by omega
 repeat (first | apply qR | apply qS)
 refine wops_cons (o_boxS (cs := r.cs) rfl rfl hrv r0 fun H1 n1 k1 b1 => ?_)
 have hy1 := hy.keep k1
 repeat (first | apply qN | refine qM rfl rfl ?_ | apply qR | apply qS)
 refine wops_cons (o_lenR rfl rfl rfl rfl rfl hy1.sl ?_)
 rw [tks_length]
 unfold tksE at hk
 by_cases hl : (ks.length : Int) ≤ 256
 rotate_left
 · have hk := hk H1 k1 (by omega)
   rw [decide_eq_false hl] at hk
   refine wops_cons (wop_bin (op := .gtr) (v := .bool true) rfl rfl rfl rfl (by simp [binI]; omega) ?_)
   repeat (first | apply qN | refine qM rfl rfl ?_ | refine qT rfl ?_ | apply qR | apply qS)
   refine wp_ret ?_
   exact ⟨_, _, rfl, hk⟩
 rw [decide_eq_true hl, if_pos rfl, fnz_0 rfl] at hk
 refine wops_cons (wop_bin (op := .gtr) (v := .bool false) rfl rfl rfl rfl (by simp [binI]; omega) ?_)
 repeat (first | apply qN | refine qM rfl rfl ?_ | refine qF rfl ?_ | apply qR | apply qS | apply qK | apply qB)
 refine wp_loop (fun q T M H' => ∃ (i : Nat) (Y : List AV), q = ks.length - i ∧ i ≤ ks.length ∧ Keeps H1 H' ∧ H'.next ≤ H1.next + 4 * i ∧ ecE r ks = ecE r (ks.drop i) ∧ M = [] ∧ T = (lget Y 0 :: y :: .ptr H.next 0 :: lget Y 1 :: lget Y 2 :: iv (i : Nat) :: lget Y 3 :: lget Y 4 :: lget Y 5 :: lget Y 6 :: lget Y 7 :: lget Y 8 :: lget Y 9 :: lget Y 10 :: lget Y 11 :: lget Y 12 :: lget Y 13 :: lget Y 14 :: lget Y 15 :: lget Y 16 :: lget Y 17 :: lget Y 18 :: lget Y 19 :: lget Y 20 :: lget Y 21 :: [])) ks.length
   ⟨0, [_,_,_,_,_,_,_,_,_,_,_,_,_,_,_,_,_,_,_,_,_,_], rfl, Nat.zero_le _, Keeps.refl _, Nat.le_refl _, rfl, rfl, rfl⟩ ?_
 rintro q T M H2 ⟨i, Y, hq1, hi, k2, n2, hst, rfl, rfl⟩
 have hy2 := hy1.keep k2
 have b2 := b1.keep (by omega) k2
 have x2 := k2.nx
 repeat (first | refine qM rfl rfl ?_ | apply qR | apply qS)
 refine wops_cons (o_lenR rfl rfl rfl rfl rfl hy2.sl ?_)
 rw [tks_length]
 refine wops_cons (wop_cmp rfl rfl rfl rfl rfl (fun h => ?_) (fun h => ?_))
 rotate_left
 · have h : ¬ ((i : Int) < (ks.length : Nat)) := of_decide_eq_false h
   have e : i = ks.length := by omega
   subst e
   rw [List.drop_length] at hst
   have hk := hk H2 (k1.trans k2) (by omega)
   rw [hst] at hk
   repeat (first | apply qN | refine qM rfl rfl ?_ | refine qF rfl ?_ | apply qR | apply qS | apply qE)
   refine wp_ret ?_
   exact ⟨_, _, rfl, hk⟩
 have hi' : i < ks.length := by have h : (i : Int) < (ks.length : Nat) := of_decide_eq_true h; omega
 clear h
 obtain ⟨k, hp⟩ := t_some hi'
 rw [dropT hp, ecE] at hst
 repeat (first | apply qN | refine qT rfl ?_ | apply qS | apply qK | apply qB)
 refine wp_drawK rfl ?_
 refine k_load4 rfl rfl rfl rfl b2 (lkP (n := 0) b2 (by omega) (ru_beq r)) ?_
 refine k_move rfl rfl rfl ?_
 refine k_move rfl rfl rfl ?_
 refine k_indexR rfl rfl rfl hy2.sl rfl (tks_get hp) rfl hy2.lk fun pp hpp hpl => ?_
 refine k_loadR rfl rfl rfl hpp rfl rfl hpl fun v hv => ?_
 refine k_call rfl rfl rfl (fun b h => by cases h) (wop_callF rfl rfl rfl (fn := Tryz.f21) (by rfl) ?_)
 refine c21 hq H2 r k _ _ rfl hv hru (by omega) _ fun H3 k3 n3 => ⟨k3.nx, k3, ?_⟩
 repeat (first | refine qM rfl rfl ?_ | refine k_nil ?_ | refine k_assign rfl rfl rfl ?_ | apply qR | apply qS)
 by_cases hw0 : tukE r k = 0
 · rw [if_pos hw0] at hst
   rw [hw0]
   refine wops_cons (wop_bin (op := .neq) (v := .bool false) rfl rfl rfl rfl rfl ?_)
   repeat (first | apply qN | refine qM rfl rfl ?_ | refine zq4 rfl rfl rfl rfl (inc (by omega)) ?_ | refine qF rfl ?_ | apply qR | apply qK)
   exact ⟨ks.length - (i + 1), by omega, i + 1, [_,_,_,_,_,_,_,_,_,_,_,_,_,_,_,_,_,_,_,_,_,_], rfl, by omega, k2.trans k3, by omega, hst, rfl, rfl⟩
 · rw [if_neg hw0] at hst
   have hk := hk H3 ((k1.trans k2).trans k3) (by omega)
   rw [hst, fnz_ne hw0] at hk
   generalize tukE r k = w at hw0 hk ⊢
   refine wops_cons (wop_bin (op := .neq) (v := .bool true) rfl rfl rfl rfl (by simp [binI, hw0]) ?_)
   repeat (first | apply qN | refine qM rfl rfl ?_ | refine qT rfl ?_ | apply qR | apply qS)
   refine wp_ret ?_
   exact ⟨_, _, rfl, hk⟩
theorem c141 (H : AH) (r : Ru) (k : Tk) (kv : AV) (rb : Nat) (hkv : kv.cells = k.cs) (hb : Bk H rb 23 r.cs) (hlt : rb < H.next) (hr : H.next + 60 < 2 ^ 59) (K : AV → AH → Prop) (hk : ∀ H', Keeps H H' → H'.next ≤ H.next + 5 → K (iv (tukE r k)) H') : Ca (ENV O) 141 [kv, .ptr rb 0] H K := by
 refine ca_intro (hq _ _ _ rfl) (fn := Tryz.f141) (by rfl) rfl ?_
 have r0 : H.next < 2 ^ 59 := by omega
 repeat (first | apply qR | apply qS)
 refine wops_cons (o_boxS (cs := k.cs) rfl rfl hkv r0 fun H1 n1 k1 b1 => ?_)
 have hb1 := hb.keep hlt k1
 repeat (first | apply qN | refine qM rfl rfl ?_ | refine zqb rfl rfl rfl ‹_› ?_ | apply qR | apply qS)
 refine wops_cons (wop_callF rfl rfl rfl (fn := Tryz.f78) (by rfl) ?_)
 refine c78 hq H1 r k _ _ rfl rfl (by omega) _ fun H2 k2 n2 => ⟨k2.nx, ?_⟩
 repeat (first | apply qN | refine qM rfl rfl ?_)
 refine wp_ret ?_
 exact ⟨_, _, rfl, hk H2 (k1.trans k2) (by omega)⟩
end Go.Ev
