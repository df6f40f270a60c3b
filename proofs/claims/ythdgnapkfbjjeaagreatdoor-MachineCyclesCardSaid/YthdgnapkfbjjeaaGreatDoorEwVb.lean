/- Part of an evaluator of calls that is proved sound, and of what it gives about this program. No condition of its own. -/
import Derived.Test.YthdgnapkfbjjeaaGreatDoorEwPf
import Derived.Test.YthdgnapkfbjjeaaGreatDoorExUh
set_option linter.unusedVariables false
set_option linter.unusedSimpArgs false
set_option linter.unusedSectionVars false
set_option maxRecDepth 100000
set_option maxHeartbeats 4000000
namespace Go.Ev
open Go.Proofs
def Mb (es : List MapEntry) (S : Int → Bool) : Prop := (∀ e ∈ es, ∃ k, e.key = .int .i64 k ∧ e.val = .bool true) ∧ ∀ k : Int, S k = es.any (isK k)
theorem Mb.nil : Mb [] fun _ => false := ⟨fun e h => by simp at h, fun _ => rfl⟩
theorem findNow_k {es : List MapEntry} (h : ∀ e ∈ es, ∃ k, e.key = .int .i64 k) (k : Int) (n : Nat) :
   Instr.findNow (.int .i64) (.int .i64 k) es n = some (match es.findIdx? (isK k) with | some i => some (n + i, (es[i]?.map (·.val)).getD undef) | none => none) := by
 induction es generalizing n with
 | nil => rfl
 | cons e es ih =>
   obtain ⟨k', h1⟩ := h e (by simp)
   have ih := ih (fun e he => h e (List.mem_cons_of_mem _ he)) (n + 1)
   unfold Instr.findNow
   rw [h1]
   simp only [Instr.sameNow, if_true]
   by_cases hk : k = k'
   · subst hk
     simp [List.findIdx?_cons, isK_of h1]
   · have hb : (k == k') = false := by simpa using hk
     have hd : isK k e = false := isK_not h1 (Ne.symm hk)
     simp only [hb]
     rw [ih]
     simp only [List.findIdx?_cons, hd, Bool.false_eq_true, if_false]
     cases es.findIdx? (isK k) with
     | none => rfl
     | some i => simp [Nat.add_comm, Nat.add_left_comm]
theorem findKey_k {P : Program} {t : TypeId} {es : List MapEntry} (h : ∀ e ∈ es, ∃ k, e.key = .int .i64 k) (k : Int) (hu : runPure P (underlying t) = some (.int .i64)) :
   runPure P (Instr.findKey t (.int .i64 k) es) = some (match es.findIdx? (isK k) with | some i => some (i, (es[i]?.map (·.val)).getD undef) | none => none) := by
 unfold Instr.findKey
 rw [runPure_bind, hu]
 simp only [Option.bind_some, findNow_k h k 0, Nat.zero_add]
 rw [runPure_pure]
theorem Mb.keys {es : List MapEntry} {S : Int → Bool} (h : Mb es S) : ∀ e ∈ es, ∃ k, e.key = .int .i64 k := fun e he => by
 obtain ⟨k, h1, _⟩ := h.1 e he
 exact ⟨k, h1⟩
theorem idx_any {es : List MapEntry} {p : MapEntry → Bool} : (es.any p = false → es.findIdx? p = none) ∧ (es.any p = true → ∃ i e, es.findIdx? p = some i ∧ es[i]? = some e) := by
 cases h : es.findIdx? p with
 | none => exact ⟨fun _ => rfl, fun h2 => by
     have := idx_find.1 h
     obtain ⟨e, he, hp⟩ := List.any_eq_true.1 h2
     exact absurd hp (by simpa using List.find?_eq_none.1 this e he)⟩
 | some i =>
   obtain ⟨e, h1, h2, h3⟩ := idx_find.2 i h
   refine ⟨fun h2' => ?_, fun _ => ⟨i, e, rfl, h1⟩⟩
   have := List.any_eq_true.2 ⟨e, List.mem_of_getElem? h1, h3⟩
   rw [h2'] at this; cases this
section
variable {E : Env} {T : List AV} {H : AH} {ops : Array Oper} {o : Oper} {K : AV → AH → Prop}
theorem wop_lookupB {t kt et : TypeId} {x k : Operand} {b : Nat} {es : List MapEntry} {cl : Nat} {S : Int → Bool} {z : Int} {c : Bool} (ho : o.op = .lookup t x k false) (hg : wantedA o ops T = true) (hu : runPure E.P (underlying t) = some (.map kt et)) (hkt : runPure E.P (underlying kt) = some (.int .i64)) (hz : runPure E.P (zeroValue et) = some (.bool false))
   (hx : av T x = .mp b) (hi : av T k = .v (.int .i64 z)) (hm : H.get b = some (.map es cl)) (hf : Mb es S) (hS : S z = c) (hk : K (.v (.bool c)) H) : WOp E ops o T H K := by
 refine wop_val (by rw [ho]; rfl) hg (r := .v (.bool c)) ?_ (Nat.le_refl _) hk
 unfold opEval; rw [ho]
 simp only [oLookup, hx, hi, AV.plain, lookupA, hu, hm, check_int _ _ hkt, findKey_k hf.keys z hkt]
 rw [hf.2 z] at hS
 cases c with
 | false =>
   rw [idx_any.1 hS]
   simp only [hz]
   rfl
 | true =>
   obtain ⟨i, e, h1, h2⟩ := idx_any.2 hS
   obtain ⟨k', h3, h4⟩ := hf.1 e (List.mem_of_getElem? h2)
   rw [h1]
   simp only [h2, Option.map_some, Option.getD_some, h4, Bool.false_eq_true, if_false]
theorem wop_markB {t kt et : TypeId} {x k v : Operand} {b : Nat} {es : List MapEntry} {cl : Nat} {S : Int → Bool} {z : Int} (ho : o.op = .mapUpdate t x k v) (hg : wantedA o ops T = true) (hu : runPure E.P (underlying t) = some (.map kt et)) (hkt : runPure E.P (underlying kt) = some (.int .i64))
   (hx : av T x = .mp b) (hi : av T k = .v (.int .i64 z)) (hv : av T v = .v (.bool true)) (hm : H.get b = some (.map es cl)) (hf : Mb es S) (hS : S z = false) (hk : ∀ es' cl', Mb es' (fun y => S y || decide (y = z)) → K (.v undef) (H.set b (some (.map es' cl')))) : WOp E ops o T H K := by
 have hidx := idx_any.1 ((hf.2 z).symm.trans hS)
 refine wop_val (by rw [ho]; rfl) hg (r := .v undef) (H' := H.set b (some (.map (es ++ [{ key := .int .i64 z, val := .bool true, born := cl }]) (cl + 1)))) ?_ (Nat.le_refl _) (hk _ _ ⟨fun e he => ?_, fun y => ?_⟩)
 · unfold opEval; rw [ho]
   simp only [oMapUpdate, hx, hi, hv, AV.plain, mapUpdateA, hu, hm, check_int _ _ hkt, findKey_k hf.keys z hkt, hidx]
 · rcases List.mem_append.1 he with he | he
   · exact hf.1 e he
   · rw [List.mem_singleton] at he; subst he; exact ⟨z, rfl, rfl⟩
 · show (S y || decide (y = z)) = _
   rw [List.any_append, hf.2 y]
   congr 1
   by_cases hy : y = z
   · subst hy
     simp [isK]
   · have : isK y { key := .int .i64 z, val := .bool true, born := cl } = false := isK_not rfl (Ne.symm hy)
     simp [this, hy]
end
theorem u111 : runPure Tryz.prog (underlying 111) = some (.map 3 4) := by kernel_rfl
theorem z4 : runPure Tryz.prog (zeroValue 4) = some (.bool false) := by kernel_rfl
variable {O : CallF} (hq : Quiet O)
include hq
theorem cPaths (H : AH) (a x : AV) (m : Mc) (n : Nat) (ha : a.cells = mc m x) (hx : Sl H x (ivs m.sw)) (ho : Old H x) (hsl : m.sw.length ≤ 1000) (hg : m.g = n) (hn1 : 1 ≤ n) (hn : n ≤ 16) (hm0 : mE m = 0) (hr : H.next + 300000 < 2 ^ 39) (K : AV → AH → Prop)
   (hk : ∀ H' s cyc, Keeps H H' → H'.next ≤ H.next + 20000 → Gr H' 22 s cyc → CycR H' H.next s cyc (cycs (fOf (permL m n)) (4 * n) (4 * n)) → K (.tup [s, iv 0]) H') : Ca (ENV O) 19 [a] H K := by
 refine ca_intro (hq _ _ _ rfl) (fn := Tryz.f19) (by rfl) rfl ?_
 repeat (first | apply qN | refine qM rfl rfl ?_ | refine zq4 rfl rfl rfl rfl (inc (by omega)) ?_ | refine zq5 rfl rfl rfl rfl rfl ‹_› ?_ | refine zq6 rfl rfl ‹_› ?_ | refine zqb rfl rfl rfl ‹_› ?_ | refine zq8 rfl rfl rfl ?_ | refine zq9 rfl rfl rfl rfl ?_ | refine qT rfl ?_ | refine qF rfl ?_ | apply qR | apply qS | apply qK | apply qE | apply qB)
 refine wops_cons (o_boxM rfl rfl ha (by omega) fun H1 n1 k1 b1 => ?_)
 repeat (first | apply qN | refine qM rfl rfl ?_ | refine zq4 rfl rfl rfl rfl (inc (by omega)) ?_ | refine zq5 rfl rfl rfl rfl rfl ‹_› ?_ | refine zq6 rfl rfl ‹_› ?_ | refine zqb rfl rfl rfl ‹_› ?_ | refine zq8 rfl rfl rfl ?_ | refine zq9 rfl rfl rfl rfl ?_ | refine qT rfl ?_ | refine qF rfl ?_ | apply qR | apply qS | apply qK | apply qE | apply qB)
 refine wops_cons (wop_callF rfl rfl rfl (fn := Tryz.f18) (by rfl) ?_)
 refine c18 hq H1 _ x m n rfl (hx.keep ho k1) (ho.keep k1) hsl hg hn1 hn hm0 (by omega) _ fun H2 p k2 n2 hp => ⟨k2.nx, ?_⟩
 have hok := permL_okP hg
 have hlen := permL_len hg
 generalize permL m n = l at hp hok hlen hk
 rw [← hlen] at hk
 have hl64 : l.length ≤ 64 := by omega
 have hpk := hp.ky
 have hps := hpk.sl
 have hpo := hpk.old
 have hpm := hok.pm
 have hlf : ∀ y, y < l.length → l[y]? = some ((fOf l y : Nat) : Int) := fun y hy => hok.f_get hy
 generalize fOf l = f at hpm hlf hk
 have k02 := k1.trans k2
 have h02 := k02.nx
 clear b1
 repeat (first | apply qN | refine qM rfl rfl ?_ | refine zq4 rfl rfl rfl rfl (inc (by omega)) ?_ | refine zq5 rfl rfl rfl rfl rfl ‹_› ?_ | refine zq6 rfl rfl ‹_› ?_ | refine zqb rfl rfl rfl ‹_› ?_ | refine zq8 rfl rfl rfl ?_ | refine zq9 rfl rfl rfl rfl ?_ | refine qT rfl ?_ | refine qF rfl ?_ | apply qR | apply qS | apply qK | apply qE | apply qB)
 refine wops_cons (wop_bin (op := .neq) (v := .bool false) rfl rfl rfl rfl rfl ?_)
 repeat (first | apply qN | refine qM rfl rfl ?_ | refine zq4 rfl rfl rfl rfl (inc (by omega)) ?_ | refine zq5 rfl rfl rfl rfl rfl ‹_› ?_ | refine zq6 rfl rfl ‹_› ?_ | refine zqb rfl rfl rfl ‹_› ?_ | refine zq8 rfl rfl rfl ?_ | refine zq9 rfl rfl rfl rfl ?_ | refine qT rfl ?_ | refine qF rfl ?_ | apply qR | apply qS | apply qK | apply qE | apply qB)
 have r2 : H2.next < 2 ^ 39 := by omega
 refine wops_cons (wop_makeMap rfl rfl r2 ?_)
 refine WOps.mem (fun H3 => Keeps H2 H3 ∧ H3.next = H2.next + 1 ∧ H3.get H2.next = some (.map [] 0)) ⟨(Keeps.refl H2).add _ r2, rfl, get_add_eq r2⟩ ?_
 rintro H3 ⟨k3, n3, g3⟩
 have hp3 := hps.keep hpo k3
 repeat (first | apply qN | refine qM rfl rfl ?_ | refine zq4 rfl rfl rfl rfl (inc (by omega)) ?_ | refine zq5 rfl rfl rfl rfl rfl ‹_› ?_ | refine zq6 rfl rfl ‹_› ?_ | refine zqb rfl rfl rfl ‹_› ?_ | refine zq8 rfl rfl rfl ?_ | refine zq9 rfl rfl rfl rfl ?_ | refine qT rfl ?_ | refine qF rfl ?_ | apply qR | apply qS | apply qK | apply qE | apply qB)
 refine wp_loop (fun q T M H' => ∃ (i : Nat) (s : AV) (cyc : List AV) (es : List MapEntry) (cl : Nat) (S : Int → Bool) (Y : List AV), q = l.length - i ∧ i ≤ l.length ∧ Keeps H2 H' ∧ H2.next + 1 ≤ H'.next ∧ H'.next ≤ H2.next + 1 + i * 132 ∧ H'.get H2.next = some (.map es cl) ∧ Mb es S ∧ (∀ y : Nat, y < l.length → S (y : Int) = vis f l.length i y) ∧ Gr H' 22 s cyc ∧ (∀ b, s.own = some b → H2.next + 1 ≤ b) ∧ CycR H' (H2.next + 1) s cyc (cycs f l.length i) ∧
     M = [] ∧ T = (lget Y 0 :: lget Y 1 :: lget Y 2 :: lget Y 3 :: p :: lget Y 4 :: s :: .mp H2.next :: lget Y 5 :: lget Y 6 :: lget Y 7 :: lget Y 8 :: lget Y 9 :: lget Y 10 :: lget Y 11 :: lget Y 12 :: lget Y 13 :: lget Y 14 :: lget Y 15 :: p :: iv (l.length : Nat) :: iv (i : Nat) :: lget Y 16 :: lget Y 17 :: lget Y 18 :: lget Y 19 :: lget Y 20 :: lget Y 21 :: lget Y 22 :: lget Y 23 :: lget Y 24 :: lget Y 25 :: lget Y 26 :: lget Y 27 :: lget Y 28 :: lget Y 29 :: lget Y 30 :: lget Y 31 :: lget Y 32 :: lget Y 33 :: lget Y 34 :: lget Y 35 :: lget Y 36 :: lget Y 37 :: lget Y 38 :: lget Y 39 :: lget Y 40 :: [])) l.length
   ⟨0, .v (.slice none 0 0), [], [], 0, fun _ => false, [_,_,_,_,_,_,_,_,_,_,_,_,_,_,_,_,_,_,_,_,_,_,_,_,_,_,_,_,_,_,_,_,_,_,_,_,_,_,_,_,_], rfl, Nat.zero_le _, k3, by omega, by omega, g3, Mb.nil, fun y hy => by simp [vis], .inl ⟨rfl, rfl⟩, (fun b hb => by cases hb), ⟨rfl, (fun j c o hj => by simp at hj)⟩, rfl, rfl⟩ ?_
 rintro q T M H4 ⟨i, s, cyc, es, cl, S, Y, hq2, hi, k4, nlo, nhi, gm, hMb, hS, hG, hso, hcy, rfl, rfl⟩
 have hmul : i * 132 ≤ 64 * 132 := Nat.mul_le_mul_right _ (by omega)
 have r4 : H4.next + 1000 < 2 ^ 39 := by omega
 repeat (first | apply qN | refine qM rfl rfl ?_ | refine zq4 rfl rfl rfl rfl (inc (by omega)) ?_ | refine zq5 rfl rfl rfl rfl rfl ‹_› ?_ | refine zq6 rfl rfl ‹_› ?_ | refine zqb rfl rfl rfl ‹_› ?_ | refine zq8 rfl rfl rfl ?_ | refine zq9 rfl rfl rfl rfl ?_ | refine qT rfl ?_ | refine qF rfl ?_ | apply qR | apply qS | apply qK | apply qE | apply qB)
 refine wops_cons (wop_cmp rfl rfl rfl rfl rfl (fun h => ?_) (fun h => ?_))
 rotate_left
 · have h : ¬ ((i : Int) < (l.length : Nat)) := of_decide_eq_false h
   have e : i = l.length := by omega
   subst e
   repeat (first | apply qN | refine qM rfl rfl ?_ | refine zq4 rfl rfl rfl rfl (inc (by omega)) ?_ | refine zq5 rfl rfl rfl rfl rfl ‹_› ?_ | refine zq6 rfl rfl ‹_› ?_ | refine zqb rfl rfl rfl ‹_› ?_ | refine zq8 rfl rfl rfl ?_ | refine zq9 rfl rfl rfl rfl ?_ | refine qT rfl ?_ | refine qF rfl ?_ | apply qR | apply qS | apply qK | apply qE | apply qB)
   refine wp_ret ?_
   exact ⟨_, _, rfl, hk H4 s cyc (k02.trans k4) (by omega) hG (hcy.low (by omega))⟩
 have h' : (i : Int) < (l.length : Nat) := of_decide_eq_true h
 have hi' : i < l.length := by omega
 clear h
 repeat (first | apply qN | refine qM rfl rfl ?_ | refine zq4 rfl rfl rfl rfl (inc (by omega)) ?_ | refine zq5 rfl rfl rfl rfl rfl ‹_› ?_ | refine zq6 rfl rfl ‹_› ?_ | refine zqb rfl rfl rfl ‹_› ?_ | refine zq8 rfl rfl rfl ?_ | refine zq9 rfl rfl rfl rfl ?_ | refine qT rfl ?_ | refine qF rfl ?_ | apply qR | apply qS | apply qK | apply qE | apply qB)
 refine wops_cons (wop_lookupB rfl rfl u111 u3 z4 rfl rfl gm hMb (hS i hi') ?_)
 cases hv : vis f l.length i i with
 | true =>
   repeat (first | apply qN | refine qM rfl rfl ?_ | refine zq4 rfl rfl rfl rfl (inc (by omega)) ?_ | refine zq5 rfl rfl rfl rfl rfl ‹_› ?_ | refine zq6 rfl rfl ‹_› ?_ | refine zqb rfl rfl rfl ‹_› ?_ | refine zq8 rfl rfl rfl ?_ | refine zq9 rfl rfl rfl rfl ?_ | refine qT rfl ?_ | refine qF rfl ?_ | apply qR | apply qS | apply qK | apply qE | apply qB)
   refine ⟨l.length - (i + 1), by omega, i + 1, s, cyc, es, cl, S, [_,_,_,_,_,_,_,_,_,_,_,_,_,_,_,_,_,_,_,_,_,_,_,_,_,_,_,_,_,_,_,_,_,_,_,_,_,_,_,_,_], rfl, by omega, k4, nlo, by omega, gm, hMb, fun y hy => ?_, hG, hso, ?_, rfl, rfl⟩
   · rw [hpm.vis_skip hi' hv]; exact hS y hy
   · rw [cycs_succ, if_pos hv, List.append_nil]; exact hcy
 | false =>
 have hpn := (hpm.per_spec hi').2.1
 repeat (first | apply qN | refine qM rfl rfl ?_ | refine zq4 rfl rfl rfl rfl (inc (by omega)) ?_ | refine zq5 rfl rfl rfl rfl rfl ‹_› ?_ | refine zq6 rfl rfl ‹_› ?_ | refine zqb rfl rfl rfl ‹_› ?_ | refine zq8 rfl rfl rfl ?_ | refine zq9 rfl rfl rfl rfl ?_ | refine qT rfl ?_ | refine qF rfl ?_ | apply qR | apply qS | apply qK | apply qE | apply qB)
 refine wp_loop (fun q T M H' => ∃ (k : Nat) (c : AV) (es : List MapEntry) (cl : Nat) (S : Int → Bool) (Y : List AV), q = per f l.length i - k ∧ k ≤ per f l.length i ∧ H4.next ≤ H'.next ∧ H'.next ≤ H4.next + 2 * k ∧ H'.gl = H4.gl ∧ (∀ b, b < H4.next → b ≠ H2.next → H'.get b = H4.get b) ∧ H'.get H2.next = some (.map es cl) ∧ Mb es S ∧ (∀ y : Nat, y < l.length → S (y : Int) = (vis f l.length i y || ((orb f l.length i).take k).contains y)) ∧ Gr H' 3 c (nvs ((orb f l.length i).take k)) ∧ (∀ b, c.own = some b → H4.next ≤ b) ∧
     M = [] ∧ T = (lget Y 0 :: lget Y 1 :: lget Y 2 :: lget Y 3 :: p :: lget Y 4 :: s :: .mp H2.next :: iv (it f k i : Nat) :: c :: lget Y 5 :: lget Y 6 :: lget Y 7 :: lget Y 8 :: lget Y 9 :: lget Y 10 :: lget Y 11 :: lget Y 12 :: lget Y 13 :: p :: iv (l.length : Nat) :: iv (i : Nat) :: lget Y 14 :: lget Y 15 :: lget Y 16 :: lget Y 17 :: lget Y 18 :: lget Y 19 :: lget Y 20 :: lget Y 21 :: lget Y 22 :: lget Y 23 :: lget Y 24 :: lget Y 25 :: lget Y 26 :: lget Y 27 :: lget Y 28 :: lget Y 29 :: lget Y 30 :: lget Y 31 :: lget Y 32 :: lget Y 33 :: lget Y 34 :: lget Y 35 :: lget Y 36 :: lget Y 37 :: lget Y 38 :: [])) (per f l.length i)
   ⟨0, .v (.slice none 0 0), es, cl, S, [_,_,_,_,_,_,_,_,_,_,_,_,_,_,_,_,_,_,_,_,_,_,_,_,_,_,_,_,_,_,_,_,_,_,_,_,_,_,_], rfl, Nat.zero_le _, Nat.le_refl _, Nat.le_refl _, rfl, fun _ _ _ => rfl, gm, hMb, fun y hy => by rw [hS y hy]; simp, .inl ⟨rfl, rfl⟩, (fun b hb => by cases hb), rfl, rfl⟩ ?_
 clear hMb hS gm es cl S
 rintro q T M H5 ⟨k, c, es, cl, S, Y, hq3, hkp, m1, m2, gl5, g5, gm, hMb, hS, hGc, hco, rfl, rfl⟩
 have hitl := hpm.it_lt hi' k
 have kk5 : Keeps H2 H5 := ⟨by omega, gl5.trans k4.gl, fun b hb => (g5 b (by omega) (by omega)).trans (k4.get b hb)⟩
 by_cases hend : k = per f l.length i
 · subst hend
   have e1 := (hpm.per_spec hi').1
   rw [orb_take_all] at hS hGc
   rw [e1]
   repeat (first | apply qN | refine qM rfl rfl ?_ | refine zq4 rfl rfl rfl rfl (inc (by omega)) ?_ | refine zq5 rfl rfl rfl rfl rfl ‹_› ?_ | refine zq6 rfl rfl ‹_› ?_ | refine zqb rfl rfl rfl ‹_› ?_ | refine zq8 rfl rfl rfl ?_ | refine zq9 rfl rfl rfl rfl ?_ | refine qT rfl ?_ | refine qF rfl ?_ | apply qR | apply qS | apply qK | apply qE | apply qB)
   refine wops_cons (wop_lookupB rfl rfl u111 u3 z4 rfl rfl gm hMb (c := true) (by rw [hS i hi']; simp [hpm.self_orb hi']) ?_)
   have G5 : Gr H5 22 s cyc := hG.frame m1 fun b hb => g5 b (hG.old b hb) (by have := hso b hb; omega)
   have r5 : H5.next < 2 ^ 39 := by omega
   repeat (first | apply qN | refine qM rfl rfl ?_ | refine zq4 rfl rfl rfl rfl (inc (by omega)) ?_ | refine zq5 rfl rfl rfl rfl rfl ‹_› ?_ | refine zq6 rfl rfl ‹_› ?_ | refine zqb rfl rfl rfl ‹_› ?_ | refine zq8 rfl rfl rfl ?_ | refine zq9 rfl rfl rfl rfl ?_ | refine qT rfl ?_ | refine qF rfl ?_ | apply qR | apply qS | apply qK | apply qE | apply qB)
   refine wops_cons (o_build1 rfl rfl hGc.sl.one r5 ?_)
   have G6 := G5.frame (H' := H5.add (.cells [c] 22 0)) (Nat.le_succ _) fun b hb => get_add_ne r5 (by have := G5.old b hb; omega)
   have hcyl : cyc.length ≤ i := by
     rw [hcy.1]; unfold cycs; rw [List.length_map]; exact Nat.le_trans (List.length_filter_le _ _) (by simp)
   refine wops_cons (o_append rfl rfl rfl rfl rfl (by omega) (by show H5.next + 1 < _; omega) rfl (get_add_eq r5) hGc.sl.one G6 fun r7 H7 er n7 gl7 b7 _ G7 => ?_)
   have n7 : H7.next = H5.next + 1 + 1 := n7
   have hg7' : ∀ b, b < H5.next → s.own ≠ some b → H7.get b = H5.get b := fun b hb1 hb2 => (b7 b (by show b ≠ H5.next + 1; omega) hb2).trans (get_add_ne r5 (by omega))
   have hg7 : ∀ b, b < H4.next → b ≠ H2.next → s.own ≠ some b → H7.get b = H4.get b := fun b hb1 hb2 hb3 => (hg7' b (by omega) hb3).trans (g5 b hb1 hb2)
   have hsold : ∀ b, s.own = some b → b < H4.next := fun b hb => hG.old b hb
   have hgl7 : H7.gl = H2.gl := gl7.trans kk5.gl
   have hro : ∀ b, r7.own = some b → b = H5.next + 1 := fun b hb => by subst er; cases hb; rfl
   repeat (first | apply qN | refine qM rfl rfl ?_ | refine zq4 rfl rfl rfl rfl (inc (by omega)) ?_ | refine zq5 rfl rfl rfl rfl rfl ‹_› ?_ | refine zq6 rfl rfl ‹_› ?_ | refine zqb rfl rfl rfl ‹_› ?_ | refine zq8 rfl rfl rfl ?_ | refine zq9 rfl rfl rfl rfl ?_ | refine qT rfl ?_ | refine qF rfl ?_ | apply qR | apply qS | apply qK | apply qE | apply qB)
   refine ⟨l.length - (i + 1), by omega, i + 1, r7, cyc ++ [c], es, cl, S, [_,_,_,_,_,_,_,_,_,_,_,_,_,_,_,_,_,_,_,_,_,_,_,_,_,_,_,_,_,_,_,_,_,_,_,_,_,_,_,_,_], rfl, by omega, ⟨by omega, hgl7, fun b hb => ?_⟩, by omega, by omega, ?_, hMb, fun y hy => ?_, G7, fun b hb => ?_, ⟨?_, fun j c' o hj hoj => ?_⟩, rfl, rfl⟩
   · rw [hg7 b (by omega) (by omega) (fun e => by have := hso b e; omega)]
     exact k4.get b hb
   · rw [hg7' _ (by omega) (fun e => by have := hso _ e; omega)]; exact gm
   · rw [vis_succ]; exact hS y hy
   · have := hro b hb; omega
   · rw [cycs_succ, if_neg (by simp [hv]), List.length_append, List.length_append, hcy.1]; rfl
   · rw [cycs_succ, if_neg (by simp [hv])] at hoj
     rcases Nat.lt_trichotomy j cyc.length with hlt | heq | hgt'
     · rw [List.getElem?_append_left hlt] at hj
       rw [List.getElem?_append_left (by rw [← hcy.1]; exact hlt)] at hoj
       obtain ⟨h1, h2⟩ := hcy.2 j c' o hj hoj
       refine ⟨h1.frame (hgl7.trans k4.gl.symm) fun b hb => ?_, fun b hb => ?_⟩
       · have := h2 b hb; exact hg7 b (by omega) (by omega) this.2.2
       · have := h2 b hb; exact ⟨this.1, by omega, fun e => by have := hro b e; omega⟩
     · subst heq
       rw [List.getElem?_append_right (Nat.le_refl _), Nat.sub_self] at hj
       rw [hcy.1, List.getElem?_append_right (Nat.le_refl _), Nat.sub_self] at hoj
       simp at hj hoj
       subst hj hoj
       refine ⟨hGc.sl.frame gl7 fun b hb => ?_, fun b hb => ?_⟩
       · exact hg7' b (hGc.old b hb) (fun e => by have := hso b e; have := hsold b e; have := hco b hb; omega)
       · have h1 := hco b hb
         have h2 := hGc.old b hb
         exact ⟨by omega, by omega, fun e => by have := hro b e; omega⟩
     · rw [List.getElem?_eq_none (by rw [List.length_append, List.length_singleton]; omega)] at hj
       cases hj
 have hklt : k < per f l.length i := by omega
 have hSf : S (it f k i : Nat) = false := by rw [hS _ hitl, hpm.vis_it hi' hv k, hpm.orb_take hi' hklt]; rfl
 repeat (first | apply qN | refine qM rfl rfl ?_ | refine zq4 rfl rfl rfl rfl (inc (by omega)) ?_ | refine zq5 rfl rfl rfl rfl rfl ‹_› ?_ | refine zq6 rfl rfl ‹_› ?_ | refine zqb rfl rfl rfl ‹_› ?_ | refine zq8 rfl rfl rfl ?_ | refine zq9 rfl rfl rfl rfl ?_ | refine qT rfl ?_ | refine qF rfl ?_ | apply qR | apply qS | apply qK | apply qE | apply qB)
 refine wops_cons (wop_lookupB rfl rfl u111 u3 z4 rfl rfl gm hMb hSf ?_)
 repeat (first | apply qN | refine qM rfl rfl ?_ | refine zq4 rfl rfl rfl rfl (inc (by omega)) ?_ | refine zq5 rfl rfl rfl rfl rfl ‹_› ?_ | refine zq6 rfl rfl ‹_› ?_ | refine zqb rfl rfl rfl ‹_› ?_ | refine zq8 rfl rfl rfl ?_ | refine zq9 rfl rfl rfl rfl ?_ | refine qT rfl ?_ | refine qF rfl ?_ | apply qR | apply qS | apply qK | apply qE | apply qB)
 refine wops_cons (wop_markB rfl rfl u111 u3 rfl rfl rfl gm hMb hSf fun es' cl' hMb' => ?_)
 have mb39 : H2.next < 2 ^ 39 := r2
 refine WOps.mem (fun H6 => H6.next = H5.next ∧ H6.gl = H5.gl ∧ (∀ b, b ≠ H2.next → H6.get b = H5.get b) ∧ H6.get H2.next = some (.map es' cl')) ⟨rfl, rfl, fun b hb => get_set_ne mb39 hb, get_set_eq mb39⟩ ?_
 rintro H6 ⟨n6, gl6, g6, gm6⟩
 have r6 : H6.next < 2 ^ 39 := by omega
 repeat (first | apply qN | refine qM rfl rfl ?_ | refine zq4 rfl rfl rfl rfl (inc (by omega)) ?_ | refine zq5 rfl rfl rfl rfl rfl ‹_› ?_ | refine zq6 rfl rfl ‹_› ?_ | refine zqb rfl rfl rfl ‹_› ?_ | refine zq8 rfl rfl rfl ?_ | refine zq9 rfl rfl rfl rfl ?_ | refine qT rfl ?_ | refine qF rfl ?_ | apply qR | apply qS | apply qK | apply qE | apply qB)
 refine wops_cons (o_build1 rfl rfl rfl r6 ?_)
 have G6 : Gr (H6.add (.cells [iv (it f k i : Nat)] 3 0)) 3 c (nvs ((orb f l.length i).take k)) := hGc.frame (by show H5.next ≤ H6.next + 1; omega) fun b hb => by
   have := hGc.old b hb
   have := hco b hb
   rw [get_add_ne r6 (by omega)]
   exact g6 b (by omega)
 refine wops_cons (o_append rfl rfl rfl rfl rfl (by rw [nvs_length, orb_take_len hkp]; omega) (by show H6.next + 1 < _; omega) rfl (get_add_eq r6) rfl G6 fun r7 H7 er n7 gl7 b7 _ G7 => ?_)
 have n7 : H7.next = H6.next + 1 + 1 := n7
 have hro : ∀ b, r7.own = some b → b = H6.next + 1 := fun b hb => by subst er; cases hb; rfl
 have hg7' : ∀ b, b < H6.next → c.own ≠ some b → H7.get b = H6.get b := fun b hb1 hb2 => (b7 b (by show b ≠ H6.next + 1; omega) hb2).trans (get_add_ne r6 (by omega))
 have hg7 : ∀ b, b < H4.next → b ≠ H2.next → H7.get b = H4.get b := fun b hb1 hb2 => (hg7' b (by omega) (fun e => by have := hco b e; omega)).trans ((g6 b hb2).trans (g5 b hb1 hb2))
 have gl27 : H7.gl = H4.gl := gl7.trans (gl6.trans gl5)
 have kk7 : Keeps H2 H7 := ⟨by omega, gl27.trans k4.gl, fun b hb => (hg7 b (by omega) (by omega)).trans (k4.get b hb)⟩
 have hp7 := hps.keep hpo kk7
 repeat (first | apply qN | refine qM rfl rfl ?_ | refine zq4 rfl rfl rfl rfl (inc (by omega)) ?_ | refine zq5 rfl rfl rfl rfl rfl ‹_› ?_ | refine zq6 rfl rfl ‹_› ?_ | refine zqb rfl rfl rfl ‹_› ?_ | refine zq8 rfl rfl rfl ?_ | refine zq9 rfl rfl rfl rfl ?_ | refine qT rfl ?_ | refine qF rfl ?_ | apply qR | apply qS | apply qK | apply qE | apply qB)
 refine wops_cons (o_indexI rfl rfl hp7 rfl (hlf _ hitl) fun pp hpp => ?_)
 repeat (first | apply qN | refine qM rfl rfl ?_ | refine zq4 rfl rfl rfl rfl (inc (by omega)) ?_ | refine zq5 rfl rfl rfl rfl rfl ‹_› ?_ | refine zq6 rfl rfl ‹_› ?_ | refine zqb rfl rfl rfl ‹_› ?_ | refine zq8 rfl rfl rfl ?_ | refine zq9 rfl rfl rfl rfl ?_ | refine qT rfl ?_ | refine qF rfl ?_ | apply qR | apply qS | apply qK | apply qE | apply qB)
 refine ⟨per f l.length i - (k + 1), by omega, k + 1, r7, es', cl', fun y => S y || decide (y = ((it f k i : Nat) : Int)), [_,_,_,_,_,_,_,_,_,_,_,_,_,_,_,_,_,_,_,_,_,_,_,_,_,_,_,_,_,_,_,_,_,_,_,_,_,_,_], rfl, by omega, by omega, by omega, gl27, hg7, ?_, hMb', fun y hy => ?_, ?_, fun b hb => ?_, rfl, rfl⟩
 · rw [hg7' _ (by omega) (fun e => by have := hco _ e; omega)]; exact gm6
 · show (S (y : Int) || decide ((y : Int) = ((it f k i : Nat) : Int))) = _
   rw [hS y hy, orb_take_succ hklt, Bool.or_assoc]
   congr 1
   by_cases e : y = it f k i
   · subst e; simp
   · have e2 : ¬ (y : Int) = ((it f k i : Nat) : Int) := fun h => e (Int.ofNat.inj h)
     simp [e, e2]
 · rw [orb_take_succ hklt, nvs_snoc]; exact G7
 · have := hro b hb; omega
theorem cMPer (hP : Pers O) (H : AH) (a x : AV) (m : Mc) (n : Nat) (ha : a.cells = mc m x) (hx : Sl H x (ivs m.sw)) (ho : Old H x) (hsl : m.sw.length ≤ 1000) (hg : m.g = n) (hn1 : 1 ≤ n) (hn : n ≤ 16) (hgt : gtest H.gl = true) (hm0 : mE m = 0) (hr : H.next + 400000 < 2 ^ 39) (K : AV → AH → Prop)
   (hk : ∀ H', Keeps H H' → H'.next ≤ H.next + 210000 → K (.tup [txt (perd (fOf (permL m n)) (4 * n)), iv 0]) H') : Ca (ENV O) 20 [a] H K := by
 refine ca_intro (hq _ _ _ rfl) (fn := Tryz.f20) (by rfl) rfl ?_
 repeat (first | apply qN | refine qM rfl rfl ?_ | refine zq6 rfl rfl ‹_› ?_ | refine zqb rfl rfl rfl ‹_› ?_ | refine zq9 rfl rfl rfl rfl ?_ | refine qT rfl ?_ | refine qF rfl ?_ | apply qR | apply qS | apply qK)
 refine wops_cons (o_boxM rfl rfl ha (by omega) fun H1 n1 k1 b1 => ?_)
 repeat (first | apply qN | refine qM rfl rfl ?_ | refine zq6 rfl rfl ‹_› ?_ | refine zqb rfl rfl rfl ‹_› ?_ | refine zq9 rfl rfl rfl rfl ?_ | refine qT rfl ?_ | refine qF rfl ?_ | apply qR | apply qS | apply qK)
 refine wops_cons (wop_callF rfl rfl rfl (fn := Tryz.f18) (by rfl) ?_)
 refine c18 hq H1 _ x m n rfl (hx.keep ho k1) (ho.keep k1) hsl hg hn1 (by omega) hm0 (by omega) _ fun H2 p k2 n2 hp => ⟨k2.nx, ?_⟩
 have k02 := k1.trans k2
 clear b1
 repeat (first | apply qN | refine qM rfl rfl ?_ | refine zq6 rfl rfl ‹_› ?_ | refine zqb rfl rfl rfl ‹_› ?_ | refine zq9 rfl rfl rfl rfl ?_ | refine qT rfl ?_ | refine qF rfl ?_ | apply qR | apply qS | apply qK)
 refine wops_cons (wop_bin (op := .neq) (v := .bool false) rfl rfl rfl rfl rfl ?_)
 repeat (first | apply qN | refine qM rfl rfl ?_ | refine zq6 rfl rfl ‹_› ?_ | refine zqb rfl rfl rfl ‹_› ?_ | refine zq9 rfl rfl rfl rfl ?_ | refine qT rfl ?_ | refine qF rfl ?_ | apply qR | apply qS | apply qK)
 refine wops_cons (wop_callF rfl rfl rfl (fn := Tryz.f80) (by rfl) ?_)
 refine cPer hq hP H2 p _ hp.sl hp.old n (permL_len hg) (permL_fr hg hn1 hn hm0) (permL_okP hg) (by rw [k02.gl]; exact hgt) (by omega) _ fun H3 k3 n3 => ⟨k3.nx, ?_⟩
 rw [permL_len hg]
 repeat (first | apply qN | refine qM rfl rfl ?_ | refine zq6 rfl rfl ‹_› ?_ | refine zqb rfl rfl rfl ‹_› ?_ | refine zq9 rfl rfl rfl rfl ?_ | refine qT rfl ?_ | refine qF rfl ?_ | apply qR | apply qS | apply qK)
 refine wp_ret ?_
 exact ⟨_, _, rfl, hk H3 (k02.trans k3) (by omega)⟩
end Go.Ev
