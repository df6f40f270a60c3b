/- Part of an evaluator of calls that is proved sound, and of what it gives about this program. No condition of its own. -/
import Derived.Test.YthmbdpdojjcgkaaGreatDoorEvPe
set_option linter.unusedVariables false
set_option linter.unusedSimpArgs false
set_option linter.unusedSectionVars false
set_option maxRecDepth 100000
set_option maxHeartbeats 4000000
namespace Go.Ev
open Go.Proofs
def Mb (es : List MapEntry) (S : Int → Bool) : Prop := (∀ e ∈ es, ∃ k, e.key = .int .i64 k ∧ e.val = .bool true) ∧ ∀ k : Int, S k = es.any (isK k)
theorem Mb.nil : Mb [] fun _ => false := ⟨fun e h => by simp at h, fun _ => rfl⟩
theorem findNow_k {es : List MapEntry} (h : ∀ e ∈ es, ∃ k, e.key = .int .i64 k) (k : Int) (n : Nat) :
    Instr.findNow (.int .i64) (.int .i64 k) es n = some (match es.findIdx? (isK k) with | some i => some (n + i, (es[i]?.map (·.val)).getD undef) | none => none) := by
  induction es generalizing n with
  | nil => rfl
  | cons e es ih =>
    obtain ⟨k', h1⟩ := h e (by simp)
    have ih := ih (fun e he => h e (List.mem_cons_of_mem _ he)) (n + 1)
    unfold Instr.findNow
    rw [h1]
    simp only [Instr.sameNow, if_true]
    by_cases hk : k = k'
    · subst hk
      simp [List.findIdx?_cons, isK_of h1]
    · have hb : (k == k') = false := by simpa using hk
      have hd : isK k e = false := isK_not h1 (Ne.symm hk)
      simp only [hb]
      rw [ih]
      simp only [List.findIdx?_cons, hd, Bool.false_eq_true, if_false]
      cases es.findIdx? (isK k) with
      | none => rfl
      | some i => simp [Nat.add_comm, Nat.add_left_comm]
theorem findKey_k {P : Program} {t : TypeId} {es : List MapEntry} (h : ∀ e ∈ es, ∃ k, e.key = .int .i64 k) (k : Int) (hu : runPure P (underlying t) = some (.int .i64)) :
    runPure P (Instr.findKey t (.int .i64 k) es) = some (match es.findIdx? (isK k) with | some i => some (i, (es[i]?.map (·.val)).getD undef) | none => none) := by
  unfold Instr.findKey
  rw [runPure_bind, hu]
  simp only [Option.bind_some, findNow_k h k 0, Nat.zero_add]
  rw [runPure_pure]
theorem Mb.keys {es : List MapEntry} {S : Int → Bool} (h : Mb es S) : ∀ e ∈ es, ∃ k, e.key = .int .i64 k := fun e he => by
  obtain ⟨k, h1, _⟩ := h.1 e he
  exact ⟨k, h1⟩
theorem idx_any {es : List MapEntry} {p : MapEntry → Bool} : (es.any p = false → es.findIdx? p = none) ∧ (es.any p = true → ∃ i e, es.findIdx? p = some i ∧ es[i]? = some e) := by
  cases h : es.findIdx? p with
  | none => exact ⟨fun _ => rfl, fun h2 => by
      have := idx_find.1 h
      obtain ⟨e, he, hp⟩ := List.any_eq_true.1 h2
      exact absurd hp (by simpa using List.find?_eq_none.1 this e he)⟩
  | some i =>
    obtain ⟨e, h1, h2, h3⟩ := idx_find.2 i h
    refine ⟨fun h2' => ?_, fun _ => ⟨i, e, rfl, h1⟩⟩
    have := List.any_eq_true.2 ⟨e, List.mem_of_getElem? h1, h3⟩
    rw [h2'] at this; cases this
section
variable {E : Env} {T : List AV} {H : AH} {ops : Array Oper} {o : Oper} {K : AV → AH → Prop}
theorem wop_lookupB {t kt et : TypeId} {x k : Operand} {b : Nat} {es : List MapEntry} {cl : Nat} {S : Int → Bool} {z : Int} {c : Bool} (ho : o.op = .lookup t x k false) (hg : wantedA o ops T = true) (hu : runPure E.P (underlying t) = some (.map kt et)) (hkt : runPure E.P (underlying kt) = some (.int .i64)) (hz : runPure E.P (zeroValue et) = some (.bool false))
    (hx : av T x = .mp b) (hi : av T k = .v (.int .i64 z)) (hm : H.get b = some (.map es cl)) (hf : Mb es S) (hS : S z = c) (hk : K (.v (.bool c)) H) : WOp E ops o T H K := by
  refine wop_val (by rw [ho]; rfl) hg (r := .v (.bool c)) ?_ (Nat.le_refl _) hk
  unfold opEval; rw [ho]
  simp only [oLookup, hx, hi, AV.plain, lookupA, hu, hm, check_int _ _ hkt, findKey_k hf.keys z hkt]
  rw [hf.2 z] at hS
  cases c with
  | false =>
    rw [idx_any.1 hS]
    simp only [hz]
    rfl
  | true =>
    obtain ⟨i, e, h1, h2⟩ := idx_any.2 hS
    obtain ⟨k', h3, h4⟩ := hf.1 e (List.mem_of_getElem? h2)
    rw [h1]
    simp only [h2, Option.map_some, Option.getD_some, h4, Bool.false_eq_true, if_false]
theorem wop_markB {t kt et : TypeId} {x k v : Operand} {b : Nat} {es : List MapEntry} {cl : Nat} {S : Int → Bool} {z : Int} (ho : o.op = .mapUpdate t x k v) (hg : wantedA o ops T = true) (hu : runPure E.P (underlying t) = some (.map kt et)) (hkt : runPure E.P (underlying kt) = some (.int .i64))
    (hx : av T x = .mp b) (hi : av T k = .v (.int .i64 z)) (hv : av T v = .v (.bool true)) (hm : H.get b = some (.map es cl)) (hf : Mb es S) (hS : S z = false) (hk : ∀ es' cl', Mb es' (fun y => S y || decide (y = z)) → K (.v undef) (H.set b (some (.map es' cl')))) : WOp E ops o T H K := by
  have hidx := idx_any.1 ((hf.2 z).symm.trans hS)
  refine wop_val (by rw [ho]; rfl) hg (r := .v undef) (H' := H.set b (some (.map (es ++ [{ key := .int .i64 z, val := .bool true, born := cl }]) (cl + 1)))) ?_ (Nat.le_refl _) (hk _ _ ⟨fun e he => ?_, fun y => ?_⟩)
  · unfold opEval; rw [ho]
    simp only [oMapUpdate, hx, hi, hv, AV.plain, mapUpdateA, hu, hm, check_int _ _ hkt, findKey_k hf.keys z hkt, hidx]
  · rcases List.mem_append.1 he with he | he
    · exact hf.1 e he
    · rw [List.mem_singleton] at he; subst he; exact ⟨z, rfl, rfl⟩
  · show (S y || decide (y = z)) = _
    rw [List.any_append, hf.2 y]
    congr 1
    by_cases hy : y = z
    · subst hy
      simp [isK]
    · have : isK y { key := .int .i64 z, val := .bool true, born := cl } = false := isK_not rfl (Ne.symm hy)
      simp [this, hy]
end
theorem u67 : runPure Tryz.prog (underlying 67) = some (.map 3 4) := by kernel_rfl
theorem z4 : runPure Tryz.prog (zeroValue 4) = some (.bool false) := by kernel_rfl
section
variable {f : Nat → Nat} {n : Nat}
theorem Pm.vis_it (h : Pm f n) {i : Nat} (hi : i < n) (hv : vis f n i i = false) (k : Nat) : vis f n i (it f k i) = false := by
  cases hc : vis f n i (it f k i) with
  | false => rfl
  | true =>
    obtain ⟨t, ht, hm⟩ := vis_iff.1 hc
    have h1 : it f k i ∈ orb f n i := (h.mem_orb hi).2 ⟨k, rfl⟩
    have h2 := h.orb_symm hi h1
    have h3 := h.orb_trans (by omega) hm h2
    rw [vis_iff.2 ⟨t, ht, h3⟩] at hv
    cases hv
theorem orb_take_succ {i k : Nat} (hk : k < per f n i) : (orb f n i).take (k + 1) = (orb f n i).take k ++ [it f k i] := by
  rw [List.take_add_one, orb_get hk]; rfl
theorem orb_take_all (i : Nat) : (orb f n i).take (per f n i) = orb f n i := List.take_of_length_le (by rw [orb_length]; exact Nat.le_refl _)
theorem orb_take_len {i k : Nat} (hk : k ≤ per f n i) : ((orb f n i).take k).length = k := by rw [List.length_take, orb_length]; omega
end
variable {O : CallF} (hq : Quiet O)
include hq
theorem cPaths (H : AH) (a x : AV) (m : Mc) (n : Nat) (ha : a.cells = mc m x) (hx : Sl H x (ivs m.sw)) (ho : Old H x) (hsl : m.sw.length ≤ 1000) (hg : m.g = n) (hn1 : 1 ≤ n) (hn : n ≤ 16) (hm0 : mE m = 0) (hr : H.next + 300000 < 2 ^ 39) (K : AV → AH → Prop)
    (hk : ∀ H' s cyc, Keeps H H' → H'.next ≤ H.next + 20000 → Gr H' 22 s cyc → CycR H' H.next s cyc (cycs (fOf (permL m n)) (4 * n) (4 * n)) → K (.tup [s, iv 0]) H') : Ca (ENV O) 8 [a] H K := by
  refine ca_intro (hq _ _ _ rfl) (fn := Tryz.f8) (by rfl) rfl ?_
  repeat (first | refine wops_nil ?_ | refine zq2 rfl rfl ?_ | refine zq3 rfl rfl ?_ | refine zq4 rfl rfl rfl rfl (inc (by omega)) ?_ | refine zq5 rfl rfl rfl rfl rfl (by assumption) ?_ | refine zq6 rfl rfl (by assumption) ?_ | refine zqb rfl rfl rfl (by assumption) ?_ | refine zq8 rfl rfl rfl ?_ | refine zq9 rfl rfl rfl rfl ?_ | refine wp_condT rfl ?_ | refine wp_condF rfl ?_ | refine wp_region ?_ | refine wp_seq ?_ | refine wp_skip ?_ | refine wp_exit ?_ | refine wp_block ?_)
  refine wops_cons (o_boxM rfl rfl ha (by omega) fun H1 n1 k1 b1 => ?_)
  repeat (first | refine wops_nil ?_ | refine zq2 rfl rfl ?_ | refine zq3 rfl rfl ?_ | refine zq4 rfl rfl rfl rfl (inc (by omega)) ?_ | refine zq5 rfl rfl rfl rfl rfl (by assumption) ?_ | refine zq6 rfl rfl (by assumption) ?_ | refine zqb rfl rfl rfl (by assumption) ?_ | refine zq8 rfl rfl rfl ?_ | refine zq9 rfl rfl rfl rfl ?_ | refine wp_condT rfl ?_ | refine wp_condF rfl ?_ | refine wp_region ?_ | refine wp_seq ?_ | refine wp_skip ?_ | refine wp_exit ?_ | refine wp_block ?_)
  refine wops_cons (wop_callF rfl rfl rfl (fn := Tryz.f7) (by rfl) ?_)
  refine c18 hq H1 _ x m n rfl (hx.keep ho k1) (ho.keep k1) hsl hg hn1 hn hm0 (by omega) _ fun H2 p k2 n2 hp => ⟨k2.nx, ?_⟩
  have hok := permL_okP hg
  have hlen := permL_len hg
  generalize permL m n = l at hp hok hlen hk
  rw [← hlen] at hk
  have hl64 : l.length ≤ 64 := by omega
  have hpk := hp.ky
  have hps := hpk.sl
  have hpo := hpk.old
  have hpm := hok.pm
  have hlf : ∀ y, y < l.length → l[y]? = some ((fOf l y : Nat) : Int) := fun y hy => hok.f_get hy
  generalize fOf l = f at hpm hlf hk
  have k02 := k1.trans k2
  have h02 := k02.nx
  clear b1
  repeat (first | refine wops_nil ?_ | refine zq2 rfl rfl ?_ | refine zq3 rfl rfl ?_ | refine zq4 rfl rfl rfl rfl (inc (by omega)) ?_ | refine zq5 rfl rfl rfl rfl rfl (by assumption) ?_ | refine zq6 rfl rfl (by assumption) ?_ | refine zqb rfl rfl rfl (by assumption) ?_ | refine zq8 rfl rfl rfl ?_ | refine zq9 rfl rfl rfl rfl ?_ | refine wp_condT rfl ?_ | refine wp_condF rfl ?_ | refine wp_region ?_ | refine wp_seq ?_ | refine wp_skip ?_ | refine wp_exit ?_ | refine wp_block ?_)
  refine wops_cons (wop_bin (op := .neq) (v := .bool false) rfl rfl rfl rfl rfl ?_)
  repeat (first | refine wops_nil ?_ | refine zq2 rfl rfl ?_ | refine zq3 rfl rfl ?_ | refine zq4 rfl rfl rfl rfl (inc (by omega)) ?_ | refine zq5 rfl rfl rfl rfl rfl (by assumption) ?_ | refine zq6 rfl rfl (by assumption) ?_ | refine zqb rfl rfl rfl (by assumption) ?_ | refine zq8 rfl rfl rfl ?_ | refine zq9 rfl rfl rfl rfl ?_ | refine wp_condT rfl ?_ | refine wp_condF rfl ?_ | refine wp_region ?_ | refine wp_seq ?_ | refine wp_skip ?_ | refine wp_exit ?_ | refine wp_block ?_)
  have r2 : H2.next < 2 ^ 39 := by omega
  refine wops_cons (wop_makeMap rfl rfl r2 ?_)
  refine WOps.mem (fun H3 => Keeps H2 H3 ∧ H3.next = H2.next + 1 ∧ H3.get H2.next = some (.map [] 0)) ⟨(Keeps.refl H2).add _ r2, rfl, get_add_eq r2⟩ ?_
  rintro H3 ⟨k3, n3, g3⟩
  have hp3 := hps.keep hpo k3
  repeat (first | refine wops_nil ?_ | refine zq2 rfl rfl ?_ | refine zq3 rfl rfl ?_ | refine zq4 rfl rfl rfl rfl (inc (by omega)) ?_ | refine zq5 rfl rfl rfl rfl rfl (by assumption) ?_ | refine zq6 rfl rfl (by assumption) ?_ | refine zqb rfl rfl rfl (by assumption) ?_ | refine zq8 rfl rfl rfl ?_ | refine zq9 rfl rfl rfl rfl ?_ | refine wp_condT rfl ?_ | refine wp_condF rfl ?_ | refine wp_region ?_ | refine wp_seq ?_ | refine wp_skip ?_ | refine wp_exit ?_ | refine wp_block ?_)
  refine wp_loop (fun q T M H' => ∃ (i : Nat) (s : AV) (cyc : List AV) (es : List MapEntry) (cl : Nat) (S : Int → Bool) (Y : List AV), q = l.length - i ∧ i ≤ l.length ∧ Keeps H2 H' ∧ H2.next + 1 ≤ H'.next ∧ H'.next ≤ H2.next + 1 + i * 132 ∧ H'.get H2.next = some (.map es cl) ∧ Mb es S ∧ (∀ y : Nat, y < l.length → S (y : Int) = vis f l.length i y) ∧ Gr H' 22 s cyc ∧ (∀ b, s.own = some b → H2.next + 1 ≤ b) ∧ CycR H' (H2.next + 1) s cyc (cycs f l.length i) ∧
      M = [] ∧ T = (lget Y 0 :: lget Y 1 :: lget Y 2 :: lget Y 3 :: p :: lget Y 4 :: s :: .mp H2.next :: lget Y 5 :: lget Y 6 :: lget Y 7 :: lget Y 8 :: lget Y 9 :: lget Y 10 :: lget Y 11 :: lget Y 12 :: lget Y 13 :: lget Y 14 :: lget Y 15 :: p :: iv (l.length : Nat) :: iv (i : Nat) :: lget Y 16 :: lget Y 17 :: lget Y 18 :: lget Y 19 :: lget Y 20 :: lget Y 21 :: lget Y 22 :: lget Y 23 :: lget Y 24 :: lget Y 25 :: lget Y 26 :: lget Y 27 :: lget Y 28 :: lget Y 29 :: lget Y 30 :: lget Y 31 :: lget Y 32 :: lget Y 33 :: lget Y 34 :: lget Y 35 :: lget Y 36 :: lget Y 37 :: lget Y 38 :: lget Y 39 :: lget Y 40 :: [])) l.length
    ⟨0, .v (.slice none 0 0), [], [], 0, fun _ => false, [_,_,_,_,_,_,_,_,_,_,_,_,_,_,_,_,_,_,_,_,_,_,_,_,_,_,_,_,_,_,_,_,_,_,_,_,_,_,_,_,_], rfl, Nat.zero_le _, k3, by omega, by omega, g3, Mb.nil, fun y hy => by simp [vis], .inl ⟨rfl, rfl⟩, (fun b hb => by cases hb), ⟨rfl, (fun j c o hj => by simp at hj)⟩, rfl, rfl⟩ ?_
  rintro q T M H4 ⟨i, s, cyc, es, cl, S, Y, hq2, hi, k4, nlo, nhi, gm, hMb, hS, hG, hso, hcy, rfl, rfl⟩
  have hmul : i * 132 ≤ 64 * 132 := Nat.mul_le_mul_right _ (by omega)
  have r4 : H4.next + 1000 < 2 ^ 39 := by omega
  repeat (first | refine wops_nil ?_ | refine zq2 rfl rfl ?_ | refine zq3 rfl rfl ?_ | refine zq4 rfl rfl rfl rfl (inc (by omega)) ?_ | refine zq5 rfl rfl rfl rfl rfl (by assumption) ?_ | refine zq6 rfl rfl (by assumption) ?_ | refine zqb rfl rfl rfl (by assumption) ?_ | refine zq8 rfl rfl rfl ?_ | refine zq9 rfl rfl rfl rfl ?_ | refine wp_condT rfl ?_ | refine wp_condF rfl ?_ | refine wp_region ?_ | refine wp_seq ?_ | refine wp_skip ?_ | refine wp_exit ?_ | refine wp_block ?_)
  refine wops_cons (wop_cmp rfl rfl rfl rfl rfl (fun h => ?_) (fun h => ?_))
  rotate_left
  · have h : ¬ ((i : Int) < (l.length : Nat)) := of_decide_eq_false h
    have e : i = l.length := by omega
    subst e
    repeat (first | refine wops_nil ?_ | refine zq2 rfl rfl ?_ | refine zq3 rfl rfl ?_ | refine zq4 rfl rfl rfl rfl (inc (by omega)) ?_ | refine zq5 rfl rfl rfl rfl rfl (by assumption) ?_ | refine zq6 rfl rfl (by assumption) ?_ | refine zqb rfl rfl rfl (by assumption) ?_ | refine zq8 rfl rfl rfl ?_ | refine zq9 rfl rfl rfl rfl ?_ | refine wp_condT rfl ?_ | refine wp_condF rfl ?_ | refine wp_region ?_ | refine wp_seq ?_ | refine wp_skip ?_ | refine wp_exit ?_ | refine wp_block ?_)
    refine wp_ret ?_
    exact ⟨_, _, rfl, hk H4 s cyc (k02.trans k4) (by omega) hG (hcy.low (by omega))⟩
  have h' : (i : Int) < (l.length : Nat) := of_decide_eq_true h
  have hi' : i < l.length := by omega
  clear h
  repeat (first | refine wops_nil ?_ | refine zq2 rfl rfl ?_ | refine zq3 rfl rfl ?_ | refine zq4 rfl rfl rfl rfl (inc (by omega)) ?_ | refine zq5 rfl rfl rfl rfl rfl (by assumption) ?_ | refine zq6 rfl rfl (by assumption) ?_ | refine zqb rfl rfl rfl (by assumption) ?_ | refine zq8 rfl rfl rfl ?_ | refine zq9 rfl rfl rfl rfl ?_ | refine wp_condT rfl ?_ | refine wp_condF rfl ?_ | refine wp_region ?_ | refine wp_seq ?_ | refine wp_skip ?_ | refine wp_exit ?_ | refine wp_block ?_)
  refine wops_cons (wop_lookupB rfl rfl u67 u3 z4 rfl rfl gm hMb (hS i hi') ?_)
  cases hv : vis f l.length i i with
  | true =>
    repeat (first | refine wops_nil ?_ | refine zq2 rfl rfl ?_ | refine zq3 rfl rfl ?_ | refine zq4 rfl rfl rfl rfl (inc (by omega)) ?_ | refine zq5 rfl rfl rfl rfl rfl (by assumption) ?_ | refine zq6 rfl rfl (by assumption) ?_ | refine zqb rfl rfl rfl (by assumption) ?_ | refine zq8 rfl rfl rfl ?_ | refine zq9 rfl rfl rfl rfl ?_ | refine wp_condT rfl ?_ | refine wp_condF rfl ?_ | refine wp_region ?_ | refine wp_seq ?_ | refine wp_skip ?_ | refine wp_exit ?_ | refine wp_block ?_)
    refine ⟨l.length - (i + 1), by omega, i + 1, s, cyc, es, cl, S, [_,_,_,_,_,_,_,_,_,_,_,_,_,_,_,_,_,_,_,_,_,_,_,_,_,_,_,_,_,_,_,_,_,_,_,_,_,_,_,_,_], rfl, by omega, k4, nlo, by omega, gm, hMb, fun y hy => ?_, hG, hso, ?_, rfl, rfl⟩
    · rw [hpm.vis_skip hi' hv]; exact hS y hy
    · rw [cycs_succ, if_pos hv, List.append_nil]; exact hcy
  | false =>
  have hpn := (hpm.per_spec hi').2.1
  repeat (first | refine wops_nil ?_ | refine zq2 rfl rfl ?_ | refine zq3 rfl rfl ?_ | refine zq4 rfl rfl rfl rfl (inc (by omega)) ?_ | refine zq5 rfl rfl rfl rfl rfl (by assumption) ?_ | refine zq6 rfl rfl (by assumption) ?_ | refine zqb rfl rfl rfl (by assumption) ?_ | refine zq8 rfl rfl rfl ?_ | refine zq9 rfl rfl rfl rfl ?_ | refine wp_condT rfl ?_ | refine wp_condF rfl ?_ | refine wp_region ?_ | refine wp_seq ?_ | refine wp_skip ?_ | refine wp_exit ?_ | refine wp_block ?_)
  refine wp_loop (fun q T M H' => ∃ (k : Nat) (c : AV) (es : List MapEntry) (cl : Nat) (S : Int → Bool) (Y : List AV), q = per f l.length i - k ∧ k ≤ per f l.length i ∧ H4.next ≤ H'.next ∧ H'.next ≤ H4.next + 2 * k ∧ H'.gl = H4.gl ∧ (∀ b, b < H4.next → b ≠ H2.next → H'.get b = H4.get b) ∧ H'.get H2.next = some (.map es cl) ∧ Mb es S ∧ (∀ y : Nat, y < l.length → S (y : Int) = (vis f l.length i y || ((orb f l.length i).take k).contains y)) ∧ Gr H' 3 c (nvs ((orb f l.length i).take k)) ∧ (∀ b, c.own = some b → H4.next ≤ b) ∧
      M = [] ∧ T = (lget Y 0 :: lget Y 1 :: lget Y 2 :: lget Y 3 :: p :: lget Y 4 :: s :: .mp H2.next :: iv (it f k i : Nat) :: c :: lget Y 5 :: lget Y 6 :: lget Y 7 :: lget Y 8 :: lget Y 9 :: lget Y 10 :: lget Y 11 :: lget Y 12 :: lget Y 13 :: p :: iv (l.length : Nat) :: iv (i : Nat) :: lget Y 14 :: lget Y 15 :: lget Y 16 :: lget Y 17 :: lget Y 18 :: lget Y 19 :: lget Y 20 :: lget Y 21 :: lget Y 22 :: lget Y 23 :: lget Y 24 :: lget Y 25 :: lget Y 26 :: lget Y 27 :: lget Y 28 :: lget Y 29 :: lget Y 30 :: lget Y 31 :: lget Y 32 :: lget Y 33 :: lget Y 34 :: lget Y 35 :: lget Y 36 :: lget Y 37 :: lget Y 38 :: [])) (per f l.length i)
    ⟨0, .v (.slice none 0 0), es, cl, S, [_,_,_,_,_,_,_,_,_,_,_,_,_,_,_,_,_,_,_,_,_,_,_,_,_,_,_,_,_,_,_,_,_,_,_,_,_,_,_], rfl, Nat.zero_le _, Nat.le_refl _, Nat.le_refl _, rfl, fun _ _ _ => rfl, gm, hMb, fun y hy => by rw [hS y hy]; simp, .inl ⟨rfl, rfl⟩, (fun b hb => by cases hb), rfl, rfl⟩ ?_
  clear hMb hS gm es cl S
  rintro q T M H5 ⟨k, c, es, cl, S, Y, hq3, hkp, m1, m2, gl5, g5, gm, hMb, hS, hGc, hco, rfl, rfl⟩
  have hitl := hpm.it_lt hi' k
  have kk5 : Keeps H2 H5 := ⟨by omega, gl5.trans k4.gl, fun b hb => (g5 b (by omega) (by omega)).trans (k4.get b hb)⟩
  by_cases hend : k = per f l.length i
  · subst hend
    have e1 := (hpm.per_spec hi').1
    rw [orb_take_all] at hS hGc
    rw [e1]
    repeat (first | refine wops_nil ?_ | refine zq2 rfl rfl ?_ | refine zq3 rfl rfl ?_ | refine zq4 rfl rfl rfl rfl (inc (by omega)) ?_ | refine zq5 rfl rfl rfl rfl rfl (by assumption) ?_ | refine zq6 rfl rfl (by assumption) ?_ | refine zqb rfl rfl rfl (by assumption) ?_ | refine zq8 rfl rfl rfl ?_ | refine zq9 rfl rfl rfl rfl ?_ | refine wp_condT rfl ?_ | refine wp_condF rfl ?_ | refine wp_region ?_ | refine wp_seq ?_ | refine wp_skip ?_ | refine wp_exit ?_ | refine wp_block ?_)
    refine wops_cons (wop_lookupB rfl rfl u67 u3 z4 rfl rfl gm hMb (c := true) (by rw [hS i hi']; simp [hpm.self_orb hi']) ?_)
    have G5 : Gr H5 22 s cyc := hG.frame m1 fun b hb => g5 b (hG.old b hb) (by have := hso b hb; omega)
    have r5 : H5.next < 2 ^ 39 := by omega
    repeat (first | refine wops_nil ?_ | refine zq2 rfl rfl ?_ | refine zq3 rfl rfl ?_ | refine zq4 rfl rfl rfl rfl (inc (by omega)) ?_ | refine zq5 rfl rfl rfl rfl rfl (by assumption) ?_ | refine zq6 rfl rfl (by assumption) ?_ | refine zqb rfl rfl rfl (by assumption) ?_ | refine zq8 rfl rfl rfl ?_ | refine zq9 rfl rfl rfl rfl ?_ | refine wp_condT rfl ?_ | refine wp_condF rfl ?_ | refine wp_region ?_ | refine wp_seq ?_ | refine wp_skip ?_ | refine wp_exit ?_ | refine wp_block ?_)
    refine wops_cons (o_build1 rfl rfl hGc.sl.one r5 ?_)
    have G6 := G5.frame (H' := H5.add (.cells [c] 22 0)) (Nat.le_succ _) fun b hb => get_add_ne r5 (by have := G5.old b hb; omega)
    have hcyl : cyc.length ≤ i := by
      rw [hcy.1]; unfold cycs; rw [List.length_map]; exact Nat.le_trans (List.length_filter_le _ _) (by simp)
    refine wops_cons (o_append rfl rfl rfl rfl rfl (by omega) (by show H5.next + 1 < _; omega) rfl (get_add_eq r5) hGc.sl.one G6 fun r7 H7 er n7 gl7 b7 _ G7 => ?_)
    have n7 : H7.next = H5.next + 1 + 1 := n7
    have hg7' : ∀ b, b < H5.next → s.own ≠ some b → H7.get b = H5.get b := fun b hb1 hb2 => (b7 b (by show b ≠ H5.next + 1; omega) hb2).trans (get_add_ne r5 (by omega))
    have hg7 : ∀ b, b < H4.next → b ≠ H2.next → s.own ≠ some b → H7.get b = H4.get b := fun b hb1 hb2 hb3 => (hg7' b (by omega) hb3).trans (g5 b hb1 hb2)
    have hsold : ∀ b, s.own = some b → b < H4.next := fun b hb => hG.old b hb
    have hgl7 : H7.gl = H2.gl := gl7.trans kk5.gl
    have hro : ∀ b, r7.own = some b → b = H5.next + 1 := fun b hb => by subst er; cases hb; rfl
    repeat (first | refine wops_nil ?_ | refine zq2 rfl rfl ?_ | refine zq3 rfl rfl ?_ | refine zq4 rfl rfl rfl rfl (inc (by omega)) ?_ | refine zq5 rfl rfl rfl rfl rfl (by assumption) ?_ | refine zq6 rfl rfl (by assumption) ?_ | refine zqb rfl rfl rfl (by assumption) ?_ | refine zq8 rfl rfl rfl ?_ | refine zq9 rfl rfl rfl rfl ?_ | refine wp_condT rfl ?_ | refine wp_condF rfl ?_ | refine wp_region ?_ | refine wp_seq ?_ | refine wp_skip ?_ | refine wp_exit ?_ | refine wp_block ?_)
    refine ⟨l.length - (i + 1), by omega, i + 1, r7, cyc ++ [c], es, cl, S, [_,_,_,_,_,_,_,_,_,_,_,_,_,_,_,_,_,_,_,_,_,_,_,_,_,_,_,_,_,_,_,_,_,_,_,_,_,_,_,_,_], rfl, by omega, ⟨by omega, hgl7, fun b hb => ?_⟩, by omega, by omega, ?_, hMb, fun y hy => ?_, G7, fun b hb => ?_, ⟨?_, fun j c' o hj hoj => ?_⟩, rfl, rfl⟩
    · rw [hg7 b (by omega) (by omega) (fun e => by have := hso b e; omega)]
      exact k4.get b hb
    · rw [hg7' _ (by omega) (fun e => by have := hso _ e; omega)]; exact gm
    · rw [vis_succ]; exact hS y hy
    · have := hro b hb; omega
    · rw [cycs_succ, if_neg (by simp [hv]), List.length_append, List.length_append, hcy.1]; rfl
    · rw [cycs_succ, if_neg (by simp [hv])] at hoj
      rcases Nat.lt_trichotomy j cyc.length with hlt | heq | hgt'
      · rw [List.getElem?_append_left hlt] at hj
        rw [List.getElem?_append_left (by rw [← hcy.1]; exact hlt)] at hoj
        obtain ⟨h1, h2⟩ := hcy.2 j c' o hj hoj
        refine ⟨h1.frame (hgl7.trans k4.gl.symm) fun b hb => ?_, fun b hb => ?_⟩
        · have := h2 b hb; exact hg7 b (by omega) (by omega) this.2.2
        · have := h2 b hb; exact ⟨this.1, by omega, fun e => by have := hro b e; omega⟩
      · subst heq
        rw [List.getElem?_append_right (Nat.le_refl _), Nat.sub_self] at hj
        rw [hcy.1, List.getElem?_append_right (Nat.le_refl _), Nat.sub_self] at hoj
        simp at hj hoj
        subst hj hoj
        refine ⟨hGc.sl.frame gl7 fun b hb => ?_, fun b hb => ?_⟩
        · exact hg7' b (hGc.old b hb) (fun e => by have := hso b e; have := hsold b e; have := hco b hb; omega)
        · have h1 := hco b hb
          have h2 := hGc.old b hb
          exact ⟨by omega, by omega, fun e => by have := hro b e; omega⟩
      · rw [List.getElem?_eq_none (by rw [List.length_append, List.length_singleton]; omega)] at hj
        cases hj
  have hklt : k < per f l.length i := by omega
  have hSf : S (it f k i : Nat) = false := by rw [hS _ hitl, hpm.vis_it hi' hv k, hpm.orb_take hi' hklt]; rfl
  repeat (first | refine wops_nil ?_ | refine zq2 rfl rfl ?_ | refine zq3 rfl rfl ?_ | refine zq4 rfl rfl rfl rfl (inc (by omega)) ?_ | refine zq5 rfl rfl rfl rfl rfl (by assumption) ?_ | refine zq6 rfl rfl (by assumption) ?_ | refine zqb rfl rfl rfl (by assumption) ?_ | refine zq8 rfl rfl rfl ?_ | refine zq9 rfl rfl rfl rfl ?_ | refine wp_condT rfl ?_ | refine wp_condF rfl ?_ | refine wp_region ?_ | refine wp_seq ?_ | refine wp_skip ?_ | refine wp_exit ?_ | refine wp_block ?_)
  refine wops_cons (wop_lookupB rfl rfl u67 u3 z4 rfl rfl gm hMb hSf ?_)
  repeat (first | refine wops_nil ?_ | refine zq2 rfl rfl ?_ | refine zq3 rfl rfl ?_ | refine zq4 rfl rfl rfl rfl (inc (by omega)) ?_ | refine zq5 rfl rfl rfl rfl rfl (by assumption) ?_ | refine zq6 rfl rfl (by assumption) ?_ | refine zqb rfl rfl rfl (by assumption) ?_ | refine zq8 rfl rfl rfl ?_ | refine zq9 rfl rfl rfl rfl ?_ | refine wp_condT rfl ?_ | refine wp_condF rfl ?_ | refine wp_region ?_ | refine wp_seq ?_ | refine wp_skip ?_ | refine wp_exit ?_ | refine wp_block ?_)
  refine wops_cons (wop_markB rfl rfl u67 u3 rfl rfl rfl gm hMb hSf fun es' cl' hMb' => ?_)
  have mb39 : H2.next < 2 ^ 39 := r2
  refine WOps.mem (fun H6 => H6.next = H5.next ∧ H6.gl = H5.gl ∧ (∀ b, b ≠ H2.next → H6.get b = H5.get b) ∧ H6.get H2.next = some (.map es' cl')) ⟨rfl, rfl, fun b hb => get_set_ne mb39 hb, get_set_eq mb39⟩ ?_
  rintro H6 ⟨n6, gl6, g6, gm6⟩
  have r6 : H6.next < 2 ^ 39 := by omega
  repeat (first | refine wops_nil ?_ | refine zq2 rfl rfl ?_ | refine zq3 rfl rfl ?_ | refine zq4 rfl rfl rfl rfl (inc (by omega)) ?_ | refine zq5 rfl rfl rfl rfl rfl (by assumption) ?_ | refine zq6 rfl rfl (by assumption) ?_ | refine zqb rfl rfl rfl (by assumption) ?_ | refine zq8 rfl rfl rfl ?_ | refine zq9 rfl rfl rfl rfl ?_ | refine wp_condT rfl ?_ | refine wp_condF rfl ?_ | refine wp_region ?_ | refine wp_seq ?_ | refine wp_skip ?_ | refine wp_exit ?_ | refine wp_block ?_)
  refine wops_cons (o_build1 rfl rfl rfl r6 ?_)
  have G6 : Gr (H6.add (.cells [iv (it f k i : Nat)] 3 0)) 3 c (nvs ((orb f l.length i).take k)) := hGc.frame (by show H5.next ≤ H6.next + 1; omega) fun b hb => by
    have := hGc.old b hb
    have := hco b hb
    rw [get_add_ne r6 (by omega)]
    exact g6 b (by omega)
  refine wops_cons (o_append rfl rfl rfl rfl rfl (by rw [nvs_length, orb_take_len hkp]; omega) (by show H6.next + 1 < _; omega) rfl (get_add_eq r6) rfl G6 fun r7 H7 er n7 gl7 b7 _ G7 => ?_)
  have n7 : H7.next = H6.next + 1 + 1 := n7
  have hro : ∀ b, r7.own = some b → b = H6.next + 1 := fun b hb => by subst er; cases hb; rfl
  have hg7' : ∀ b, b < H6.next → c.own ≠ some b → H7.get b = H6.get b := fun b hb1 hb2 => (b7 b (by show b ≠ H6.next + 1; omega) hb2).trans (get_add_ne r6 (by omega))
  have hg7 : ∀ b, b < H4.next → b ≠ H2.next → H7.get b = H4.get b := fun b hb1 hb2 => (hg7' b (by omega) (fun e => by have := hco b e; omega)).trans ((g6 b hb2).trans (g5 b hb1 hb2))
  have gl27 : H7.gl = H4.gl := gl7.trans (gl6.trans gl5)
  have kk7 : Keeps H2 H7 := ⟨by omega, gl27.trans k4.gl, fun b hb => (hg7 b (by omega) (by omega)).trans (k4.get b hb)⟩
  have hp7 := hps.keep hpo kk7
  repeat (first | refine wops_nil ?_ | refine zq2 rfl rfl ?_ | refine zq3 rfl rfl ?_ | refine zq4 rfl rfl rfl rfl (inc (by omega)) ?_ | refine zq5 rfl rfl rfl rfl rfl (by assumption) ?_ | refine zq6 rfl rfl (by assumption) ?_ | refine zqb rfl rfl rfl (by assumption) ?_ | refine zq8 rfl rfl rfl ?_ | refine zq9 rfl rfl rfl rfl ?_ | refine wp_condT rfl ?_ | refine wp_condF rfl ?_ | refine wp_region ?_ | refine wp_seq ?_ | refine wp_skip ?_ | refine wp_exit ?_ | refine wp_block ?_)
  refine wops_cons (o_indexI rfl rfl hp7 rfl (hlf _ hitl) fun pp hpp => ?_)
  repeat (first | refine wops_nil ?_ | refine zq2 rfl rfl ?_ | refine zq3 rfl rfl ?_ | refine zq4 rfl rfl rfl rfl (inc (by omega)) ?_ | refine zq5 rfl rfl rfl rfl rfl (by assumption) ?_ | refine zq6 rfl rfl (by assumption) ?_ | refine zqb rfl rfl rfl (by assumption) ?_ | refine zq8 rfl rfl rfl ?_ | refine zq9 rfl rfl rfl rfl ?_ | refine wp_condT rfl ?_ | refine wp_condF rfl ?_ | refine wp_region ?_ | refine wp_seq ?_ | refine wp_skip ?_ | refine wp_exit ?_ | refine wp_block ?_)
  refine ⟨per f l.length i - (k + 1), by omega, k + 1, r7, es', cl', fun y => S y || decide (y = ((it f k i : Nat) : Int)), [_,_,_,_,_,_,_,_,_,_,_,_,_,_,_,_,_,_,_,_,_,_,_,_,_,_,_,_,_,_,_,_,_,_,_,_,_,_,_], rfl, by omega, by omega, by omega, gl27, hg7, ?_, hMb', fun y hy => ?_, ?_, fun b hb => ?_, rfl, rfl⟩
  · rw [hg7' _ (by omega) (fun e => by have := hco _ e; omega)]; exact gm6
  · show (S (y : Int) || decide ((y : Int) = ((it f k i : Nat) : Int))) = _
    rw [hS y hy, orb_take_succ hklt, Bool.or_assoc]
    congr 1
    by_cases e : y = it f k i
    · subst e; simp
    · have e2 : ¬ (y : Int) = ((it f k i : Nat) : Int) := fun h => e (Int.ofNat.inj h)
      simp [e, e2]
  · rw [orb_take_succ hklt, nvs_snoc]; exact G7
  · have := hro b hb; omega
end Go.Ev
namespace Go.Ev
open Go.Proofs
section
variable {O : CallF} {T : List AV} {H H0 : AH} {ops : Array Oper} {o : Oper} {i : Nat} {π0 π : List Stp} {K : List AV → AH → Prop}
def AnyB : Nat → Prop := fun _ => True
theorem wc_move {x : Operand} (hi : i ∈ mobsOf π0) (h1 : ops.toList[i]? = some o) (ho : o.op = .move x) (hg : wantedA o ops T = true) (hk : WDC (ENV O) ops H0 π0 AnyB π (putA T o.dst (av T x)) H K) : WDC (ENV O) ops H0 π0 AnyB (.mob i :: π) T H K :=
  wc_mob hi (wd_move h1 ho hg ⟨rfl, hk⟩) (fun _ _ _ _ => trivial)
theorem wc_index {t e : TypeId} {x y : Operand} {j : Nat} {l : List AV} {v : AV} (hi : i ∈ mobsOf π0) (h1 : ops.toList[i]? = some o) (ho : o.op = .indexAddr t x y) (hg : wantedA o ops T = true) [hu : TyS t e] [hs : Cell e] (hx : Sl H0 (av T x) l) (hy : av T y = iv j) (hl : l[j]? = some v)
    (hk : ∀ p, At H0 p v → WDC (ENV O) ops H0 π0 AnyB π (putA T o.dst p) H K) : WDC (ENV O) ops H0 π0 AnyB (.mob i :: π) T H K :=
  wc_mob hi (d_index h1 ho hg hx hy hl fun p hp => ⟨rfl, hk p hp⟩) (fun _ _ _ _ => trivial)
theorem wc_load {t : TypeId} {x : Operand} {v : AV} (hi : i ∈ mobsOf π0) (h1 : ops.toList[i]? = some o) (ho : o.op = .load t x) (hg : wantedA o ops T = true) [ha : Cell t] (hx : At H0 (av T x) v) (hk : WDC (ENV O) ops H0 π0 AnyB π (putA T o.dst v) H K) : WDC (ENV O) ops H0 π0 AnyB (.mob i :: π) T H K :=
  wc_mob hi (d_load h1 ho hg hx ⟨rfl, hk⟩) (fun _ _ _ _ => trivial)
theorem wc_bin {op : BinOp} {t yt : TypeId} {x y : Operand} {k : IntKind} {a b : Int} {v : Value} (hi : i ∈ mobsOf π0) (h1 : ops.toList[i]? = some o) (ho : o.op = .binOp op t x y yt) (hg : wantedA o ops T = true) (hx : av T x = .v (.int k a)) (hy : av T y = .v (.int k b)) (hv : binI op k k a b = some v) (hk : WDC (ENV O) ops H0 π0 AnyB π (putA T o.dst (.v v)) H K) : WDC (ENV O) ops H0 π0 AnyB (.mob i :: π) T H K :=
  wc_mob hi (wd_bin h1 ho hg hx hy hv ⟨rfl, hk⟩) (fun _ _ _ _ => trivial)
theorem wc_pick {c x y : Operand} {b : Bool} (hi : i ∈ mobsOf π0) (h1 : ops.toList[i]? = some o) (ho : o.op = .pick c x y) (hg : wantedA o ops T = true) (hc : av T c = .v (.bool b)) (hk : WDC (ENV O) ops H0 π0 AnyB π (putA T o.dst (bif b then av T x else av T y)) H K) : WDC (ENV O) ops H0 π0 AnyB (.mob i :: π) T H K :=
  wc_mob hi (wd_pick h1 ho hg hc ⟨rfl, hk⟩) (fun _ _ _ _ => trivial)
theorem wc_not {t : TypeId} {x : Operand} {b : Bool} (hi : i ∈ mobsOf π0) (h1 : ops.toList[i]? = some o) (ho : o.op = .unOp .not t x) (hg : wantedA o ops T = true) (hx : av T x = .v (.bool b)) (hk : WDC (ENV O) ops H0 π0 AnyB π (putA T o.dst (.v (.bool (!b)))) H K) : WDC (ENV O) ops H0 π0 AnyB (.mob i :: π) T H K := by
  refine wc_mob hi (wd_mob h1 hg (r := .v (.bool (!b))) ?_ ⟨rfl, hk⟩) (fun _ _ _ _ => trivial)
  unfold mobEval
  rw [ho]
  simp only
  unfold plainVal
  have h2 : runPure (ENV O).P (execOp (fun x => ((av T x).plain).getD undef) o) = some (.value (.bool (!b))) := by
    obtain ⟨dst, op', type, pos, after, guard⟩ := o
    simp only at ho
    subst ho
    simp only [execOp, hx, AV.plain, Option.getD_some, Op.unary, runPure_bind, runPure_pure, Option.bind_some]
  rw [h2, ho]
  simp [Op.operands, hx, AV.plain]
end
variable {O : CallF} (hq : Quiet O)
include hq
theorem cSame (H : AH) (x y : AV) (l : List Int) (hx : Sl H x (ivs l)) (hy : Sl H y (ivs l)) (hlen : l.length ≤ 100000) (K : AV → AH → Prop) (hk : K (.v (.bool true)) H) : Ca (ENV O) 19 [x, y] H K := by
  refine ca_intro (hq _ _ _ rfl) (fn := Tryz.f19) (by rfl) rfl ?_
  repeat (first | refine wops_nil ?_ | refine zq2 rfl rfl ?_ | refine zq3 rfl rfl ?_ | refine zq4 rfl rfl rfl rfl (inc (by omega)) ?_ | refine zq5 rfl rfl rfl rfl rfl (by assumption) ?_ | refine zq6 rfl rfl (by assumption) ?_ | refine wp_condT rfl ?_ | refine wp_condF rfl ?_ | refine wp_region ?_ | refine wp_seq ?_ | refine wp_skip ?_ | refine wp_exit ?_ | refine wp_block ?_)
  refine wops_cons (wop_bin (op := .neq) (v := .bool false) rfl rfl rfl rfl (by simp [binI]) ?_)
  repeat (first | refine wops_nil ?_ | refine zq2 rfl rfl ?_ | refine zq3 rfl rfl ?_ | refine zq4 rfl rfl rfl rfl (inc (by omega)) ?_ | refine zq5 rfl rfl rfl rfl rfl (by assumption) ?_ | refine zq6 rfl rfl (by assumption) ?_ | refine wp_condT rfl ?_ | refine wp_condF rfl ?_ | refine wp_region ?_ | refine wp_seq ?_ | refine wp_skip ?_ | refine wp_exit ?_ | refine wp_block ?_)
  refine wp_loop (fun k T M H' => ∃ (i : Nat) (Y : List AV), k = l.length - i ∧ i ≤ l.length ∧ M = [] ∧ H' = H ∧ T = (x :: y :: lget Y 0 :: lget Y 1 :: lget Y 2 :: iv (i : Nat) :: lget Y 3 :: lget Y 4 :: lget Y 5 :: lget Y 6 :: lget Y 7 :: lget Y 8 :: lget Y 9 :: lget Y 10 :: lget Y 11 :: lget Y 12 :: lget Y 13 :: lget Y 14 :: lget Y 15 :: lget Y 16 :: lget Y 17 :: lget Y 18 :: lget Y 19 :: lget Y 20 :: lget Y 21 :: lget Y 22 :: [])) l.length
    ⟨0, [_,_,_,_,_,_,_,_,_,_,_,_,_,_,_,_,_,_,_,_,_,_,_], rfl, Nat.zero_le _, rfl, rfl, rfl⟩ ?_
  rintro k T M H' ⟨i, Y, hk1, hi, rfl, rfl, rfl⟩
  repeat (first | refine wops_nil ?_ | refine zq2 rfl rfl ?_ | refine zq3 rfl rfl ?_ | refine zq4 rfl rfl rfl rfl (inc (by omega)) ?_ | refine zq5 rfl rfl rfl rfl rfl (by assumption) ?_ | refine zq6 rfl rfl (by assumption) ?_ | refine wp_condT rfl ?_ | refine wp_condF rfl ?_ | refine wp_region ?_ | refine wp_seq ?_ | refine wp_skip ?_ | refine wp_exit ?_ | refine wp_block ?_)
  refine wops_cons (wop_cmp rfl rfl rfl rfl rfl (fun h => ?_) (fun h => ?_))
  rotate_left
  · repeat (first | refine wops_nil ?_ | refine zq2 rfl rfl ?_ | refine zq3 rfl rfl ?_ | refine zq4 rfl rfl rfl rfl (inc (by omega)) ?_ | refine zq5 rfl rfl rfl rfl rfl (by assumption) ?_ | refine zq6 rfl rfl (by assumption) ?_ | refine wp_condT rfl ?_ | refine wp_condF rfl ?_ | refine wp_region ?_ | refine wp_seq ?_ | refine wp_skip ?_ | refine wp_exit ?_ | refine wp_block ?_)
    refine wp_ret ?_
    exact ⟨_, _, rfl, hk⟩
  have h : (i : Int) < l.length := of_decide_eq_true h
  obtain ⟨z, hz⟩ := l_some (show i < l.length by omega)
  repeat (first | refine wops_nil ?_ | refine zq2 rfl rfl ?_ | refine zq3 rfl rfl ?_ | refine zq4 rfl rfl rfl rfl (inc (by omega)) ?_ | refine zq5 rfl rfl rfl rfl rfl (by assumption) ?_ | refine zq6 rfl rfl (by assumption) ?_ | refine wp_condT rfl ?_ | refine wp_condF rfl ?_ | refine wp_region ?_ | refine wp_seq ?_ | refine wp_skip ?_ | refine wp_exit ?_ | refine wp_block ?_)
  refine wp_drawC AnyB rfl ?_
  repeat (first | refine wc_move (by decide) rfl rfl rfl ?_)
  refine wc_index (by decide) rfl rfl rfl hx rfl (ivs_get hz) fun p hp => ?_
  refine wc_load (by decide) rfl rfl rfl hp ?_
  repeat (first | refine wc_move (by decide) rfl rfl rfl ?_)
  refine wc_index (by decide) rfl rfl rfl hy rfl (ivs_get hz) fun p hp => ?_
  refine wc_load (by decide) rfl rfl rfl hp ?_
  refine wc_bin (v := .bool false) (by decide) rfl rfl rfl rfl rfl (by simp [binI]) ?_
  refine wc_nil ?_
  repeat (first | refine wops_nil ?_ | refine zq2 rfl rfl ?_ | refine zq3 rfl rfl ?_ | refine zq4 rfl rfl rfl rfl (inc (by omega)) ?_ | refine zq5 rfl rfl rfl rfl rfl (by assumption) ?_ | refine zq6 rfl rfl (by assumption) ?_ | refine wp_condT rfl ?_ | refine wp_condF rfl ?_ | refine wp_region ?_ | refine wp_seq ?_ | refine wp_skip ?_ | refine wp_exit ?_ | refine wp_block ?_)
  exact ⟨l.length - (i + 1), by omega, i + 1, [_,_,_,_,_,_,_,_,_,_,_,_,_,_,_,_,_,_,_,_,_,_,_], rfl, by omega, rfl, rfl, rfl⟩
theorem cErr0 (H : AH) (x : AV) (l : List Int) (hx : Sl H x (ivs l)) (hlen : l.length ≤ 1000) (hz : ∀ z ∈ l, z = 0) (K : AV → AH → Prop) (hk : K (iv 0) H) : Ca (ENV O) 41 [x] H K := by
  refine ca_intro (hq _ _ _ rfl) (fn := Tryz.f41) (by rfl) rfl ?_
  repeat (first | refine wops_nil ?_ | refine zq1 rfl rfl ?_ | refine zq2 rfl rfl ?_ | refine zq3 rfl rfl ?_ | refine zq4 rfl rfl rfl rfl (inc (by omega)) ?_ | refine zqa rfl rfl rfl ?_ | refine zq5 rfl rfl rfl rfl rfl (by assumption) ?_ | refine zq6 rfl rfl (by assumption) ?_ | refine zqb rfl rfl rfl (by assumption) ?_ | refine zq7 rfl rfl rfl ?_ | refine zq8 rfl rfl rfl ?_ | refine zq9 rfl rfl rfl rfl ?_ | refine wp_condT rfl ?_ | refine wp_condF rfl ?_ | refine wp_region ?_ | refine wp_seq ?_ | refine wp_skip ?_ | refine wp_exit ?_ | refine wp_block ?_)
  refine wp_loop (fun k T M H' => ∃ (i : Nat) (Y : List AV), k = l.length - i ∧ i ≤ l.length ∧ M = [] ∧ H' = H ∧ T = (x :: lget Y 0 :: iv 0 :: lget Y 1 :: lget Y 2 :: x :: iv l.length :: iv (i : Nat) :: lget Y 3 :: lget Y 4 :: lget Y 5 :: lget Y 6 :: lget Y 7 :: lget Y 8 :: lget Y 9 :: [])) l.length
    ⟨0, [_,_,_,_,_,_,_,_,_,_], rfl, Nat.zero_le _, rfl, rfl, rfl⟩ ?_
  rintro k T M H' ⟨i, Y, hk1, hi, rfl, rfl, rfl⟩
  repeat (first | refine wops_nil ?_ | refine zq1 rfl rfl ?_ | refine zq2 rfl rfl ?_ | refine zq3 rfl rfl ?_ | refine zq4 rfl rfl rfl rfl (inc (by omega)) ?_ | refine zqa rfl rfl rfl ?_ | refine zq5 rfl rfl rfl rfl rfl (by assumption) ?_ | refine zq6 rfl rfl (by assumption) ?_ | refine zqb rfl rfl rfl (by assumption) ?_ | refine zq7 rfl rfl rfl ?_ | refine zq8 rfl rfl rfl ?_ | refine zq9 rfl rfl rfl rfl ?_ | refine wp_condT rfl ?_ | refine wp_condF rfl ?_ | refine wp_region ?_ | refine wp_seq ?_ | refine wp_skip ?_ | refine wp_exit ?_ | refine wp_block ?_)
  refine wops_cons (wop_cmp rfl rfl rfl rfl rfl (fun h => ?_) (fun h => ?_))
  rotate_left
  · repeat (first | refine wops_nil ?_ | refine zq1 rfl rfl ?_ | refine zq2 rfl rfl ?_ | refine zq3 rfl rfl ?_ | refine zq4 rfl rfl rfl rfl (inc (by omega)) ?_ | refine zqa rfl rfl rfl ?_ | refine zq5 rfl rfl rfl rfl rfl (by assumption) ?_ | refine zq6 rfl rfl (by assumption) ?_ | refine zqb rfl rfl rfl (by assumption) ?_ | refine zq7 rfl rfl rfl ?_ | refine zq8 rfl rfl rfl ?_ | refine zq9 rfl rfl rfl rfl ?_ | refine wp_condT rfl ?_ | refine wp_condF rfl ?_ | refine wp_region ?_ | refine wp_seq ?_ | refine wp_skip ?_ | refine wp_exit ?_ | refine wp_block ?_)
    refine wp_ret ?_
    exact ⟨_, _, rfl, hk⟩
  have h : (i : Int) < l.length := of_decide_eq_true h
  obtain ⟨z, hz1⟩ := l_some (show i < l.length by omega)
  have hz0 := hz z (List.mem_of_getElem? hz1)
  subst hz0
  repeat (first | refine wops_nil ?_ | refine zq1 rfl rfl ?_ | refine zq2 rfl rfl ?_ | refine zq3 rfl rfl ?_ | refine zq4 rfl rfl rfl rfl (inc (by omega)) ?_ | refine zqa rfl rfl rfl ?_ | refine zq5 rfl rfl rfl rfl rfl (by assumption) ?_ | refine zq6 rfl rfl (by assumption) ?_ | refine zqb rfl rfl rfl (by assumption) ?_ | refine zq7 rfl rfl rfl ?_ | refine zq8 rfl rfl rfl ?_ | refine zq9 rfl rfl rfl rfl ?_ | refine wp_condT rfl ?_ | refine wp_condF rfl ?_ | refine wp_region ?_ | refine wp_seq ?_ | refine wp_skip ?_ | refine wp_exit ?_ | refine wp_block ?_)
  refine wops_cons (o_indexI rfl rfl hx rfl hz1 fun p hp => ?_)
  repeat (first | refine wops_nil ?_ | refine zq1 rfl rfl ?_ | refine zq2 rfl rfl ?_ | refine zq3 rfl rfl ?_ | refine zq4 rfl rfl rfl rfl (inc (by omega)) ?_ | refine zqa rfl rfl rfl ?_ | refine zq5 rfl rfl rfl rfl rfl (by assumption) ?_ | refine zq6 rfl rfl (by assumption) ?_ | refine zqb rfl rfl rfl (by assumption) ?_ | refine zq7 rfl rfl rfl ?_ | refine zq8 rfl rfl rfl ?_ | refine zq9 rfl rfl rfl rfl ?_ | refine wp_condT rfl ?_ | refine wp_condF rfl ?_ | refine wp_region ?_ | refine wp_seq ?_ | refine wp_skip ?_ | refine wp_exit ?_ | refine wp_block ?_)
  refine wops_cons (wop_bin (op := .neq) (v := .bool false) rfl rfl rfl rfl rfl ?_)
  repeat (first | refine wops_nil ?_ | refine zq1 rfl rfl ?_ | refine zq2 rfl rfl ?_ | refine zq3 rfl rfl ?_ | refine zq4 rfl rfl rfl rfl (inc (by omega)) ?_ | refine zqa rfl rfl rfl ?_ | refine zq5 rfl rfl rfl rfl rfl (by assumption) ?_ | refine zq6 rfl rfl (by assumption) ?_ | refine zqb rfl rfl rfl (by assumption) ?_ | refine zq7 rfl rfl rfl ?_ | refine zq8 rfl rfl rfl ?_ | refine zq9 rfl rfl rfl rfl ?_ | refine wp_condT rfl ?_ | refine wp_condF rfl ?_ | refine wp_region ?_ | refine wp_seq ?_ | refine wp_skip ?_ | refine wp_exit ?_ | refine wp_block ?_)
  exact ⟨l.length - (i + 1), by omega, i + 1, [_,_,_,_,_,_,_,_,_,_], rfl, by omega, rfl, rfl, rfl⟩
theorem cComp (H : AH) (x y : AV) (l m : List Int) (hx : Sl H x (ivs l)) (ho : Old H x) (hy : Sl H y (ivs m)) (ho2 : Old H y) (hl : l.length ≤ 256) (hlm : l.length = m.length) (hokl : OkP l) (hokm : OkP m) (hr : H.next + 4 < 2 ^ 39) (K : AV → AH → Prop)
    (hk : ∀ H' c, Keeps H H' → H'.next ≤ H.next + 4 → Sl H' c (ivs (compL l m)) → Old H' c → K (.tup [c, iv 0]) H') : Ca (ENV O) 14 [x, y] H K := by
  refine ca_intro (hq _ _ _ rfl) (fn := Tryz.f14) (by rfl) rfl ?_
  repeat (first | refine wops_nil ?_ | refine zq2 rfl rfl ?_ | refine zq3 rfl rfl ?_ | refine zq4 rfl rfl rfl rfl (inc (by omega)) ?_ | refine zq5 rfl rfl rfl rfl rfl (by assumption) ?_ | refine zq6 rfl rfl (by assumption) ?_ | refine wp_condT rfl ?_ | refine wp_condF rfl ?_ | refine wp_region ?_ | refine wp_seq ?_ | refine wp_skip ?_ | refine wp_exit ?_ | refine wp_block ?_)
  refine wops_cons (wop_callF rfl rfl rfl (fn := Tryz.f32) (by rfl) ?_)
  refine c12 hq H x l hx ho (by omega) _ fun H1 k1 n1 => ⟨k1.nx, ?_⟩
  rw [permE_ok hl hokl]
  repeat (first | refine wops_nil ?_ | refine zq2 rfl rfl ?_ | refine zq3 rfl rfl ?_ | refine zq4 rfl rfl rfl rfl (inc (by omega)) ?_ | refine zq5 rfl rfl rfl rfl rfl (by assumption) ?_ | refine zq6 rfl rfl (by assumption) ?_ | refine wp_condT rfl ?_ | refine wp_condF rfl ?_ | refine wp_region ?_ | refine wp_seq ?_ | refine wp_skip ?_ | refine wp_exit ?_ | refine wp_block ?_)
  refine wops_cons (wop_callF rfl rfl rfl (fn := Tryz.f32) (by rfl) ?_)
  refine c12 hq H1 y m (hy.keep ho2 k1) (ho2.keep k1) (by omega) _ fun H2 k2 n2 => ⟨k2.nx, ?_⟩
  rw [permE_ok (by omega) hokm]
  have k2 := k1.trans k2
  have r2 : H2.next < 2 ^ 39 := by omega
  refine wops_cons (o_build2 rfl rfl rfl rfl r2 ?_)
  have k3 := k2.add (.cells [iv 0, iv 0] 27 0) r2
  have hs3 : Sl (H2.add (.cells [iv 0, iv 0] 27 0)) (.slc H2.next 0 2 2) (ivs [0, 0]) := sl_cells r2 (get_add_eq r2) rfl fun j v h => h
  refine wops_cons (wop_callF rfl rfl rfl (fn := Tryz.f41) (by rfl) ?_)
  refine cErr0 hq (H2.add (.cells [iv 0, iv 0] 27 0)) _ [0, 0] hs3 (by show 2 ≤ 1000; decide) (by simp) _ ⟨Nat.le_refl _, ?_⟩
  have n3 : (H2.add (.cells [iv 0, iv 0] 27 0)).next = H2.next + 1 := rfl
  clear hs3
  generalize H2.add (.cells [iv 0, iv 0] 27 0) = H3 at k3 n3 ⊢
  have hx3 := hx.keep ho k3
  have hy3 := hy.keep ho2 k3
  repeat (first | refine wops_nil ?_ | refine zq2 rfl rfl ?_ | refine zq3 rfl rfl ?_ | refine zq4 rfl rfl rfl rfl (inc (by omega)) ?_ | refine zq5 rfl rfl rfl rfl rfl (by assumption) ?_ | refine zq6 rfl rfl (by assumption) ?_ | refine wp_condT rfl ?_ | refine wp_condF rfl ?_ | refine wp_region ?_ | refine wp_seq ?_ | refine wp_skip ?_ | refine wp_exit ?_ | refine wp_block ?_)
  refine wops_cons (wop_bin (op := .neq) (v := .bool false) rfl rfl rfl rfl rfl ?_)
  repeat (first | refine wops_nil ?_ | refine zq2 rfl rfl ?_ | refine zq3 rfl rfl ?_ | refine zq4 rfl rfl rfl rfl (inc (by omega)) ?_ | refine zq5 rfl rfl rfl rfl rfl (by assumption) ?_ | refine zq6 rfl rfl (by assumption) ?_ | refine wp_condT rfl ?_ | refine wp_condF rfl ?_ | refine wp_region ?_ | refine wp_seq ?_ | refine wp_skip ?_ | refine wp_exit ?_ | refine wp_block ?_)
  refine wops_cons (wop_bin (op := .neq) (v := .bool false) rfl rfl rfl rfl (by simp [binI, hlm]) ?_)
  repeat (first | refine wops_nil ?_ | refine zq2 rfl rfl ?_ | refine zq3 rfl rfl ?_ | refine zq4 rfl rfl rfl rfl (inc (by omega)) ?_ | refine zq5 rfl rfl rfl rfl rfl (by assumption) ?_ | refine zq6 rfl rfl (by assumption) ?_ | refine wp_condT rfl ?_ | refine wp_condF rfl ?_ | refine wp_region ?_ | refine wp_seq ?_ | refine wp_skip ?_ | refine wp_exit ?_ | refine wp_block ?_)
  refine wops_cons (o_make rfl rfl rfl rfl (by omega) (by omega) ?_)
  have k4 := k3.add (.cells (List.replicate l.length (iv 0)) 3 0) (by omega)
  have g4 : (H3.add (.cells (List.replicate l.length (iv 0)) 3 0)).get H3.next = some (.cells (List.replicate l.length (iv 0)) 3 0) := by rw [AH.get_add _ _ _ (by omega), if_pos rfl]
  have n4 : (H3.add (.cells (List.replicate l.length (iv 0)) 3 0)).next = H3.next + 1 := rfl
  have hb39 : H3.next < 2 ^ 39 := by omega
  have hb0 : H.next ≤ H3.next := k3.nx
  have hb3 : H3.next ≤ H.next + 3 := by omega
  have hxx := hx.keep ho k4
  have hyy := hy.keep ho2 k4
  generalize H3.add (.cells (List.replicate l.length (iv 0)) 3 0) = H4 at k4 g4 n4 hxx hyy ⊢
  generalize H3.next = b at g4 n4 hb39 hb0 hb3 ⊢
  repeat (first | refine wops_nil ?_ | refine zq2 rfl rfl ?_ | refine zq3 rfl rfl ?_ | refine zq4 rfl rfl rfl rfl (inc (by omega)) ?_ | refine zq5 rfl rfl rfl rfl rfl (by assumption) ?_ | refine zq6 rfl rfl (by assumption) ?_ | refine wp_condT rfl ?_ | refine wp_condF rfl ?_ | refine wp_region ?_ | refine wp_seq ?_ | refine wp_skip ?_ | refine wp_exit ?_ | refine wp_block ?_)
  refine wp_loop (fun k T M H' => ∃ (i : Nat) (Y : List AV) (cs : List AV), k = l.length - i ∧ i ≤ l.length ∧ Keeps H H' ∧ H'.next = b + 1 ∧ H'.get b = some (.cells cs 3 0) ∧ cs.length = l.length ∧ (∀ (j : Nat) (z : Int), j < i → (compL l m)[j]? = some z → cs[j]? = some (iv z)) ∧ M = [] ∧ T = (x :: y :: lget Y 0 :: lget Y 1 :: lget Y 2 :: lget Y 3 :: lget Y 4 :: .slc b 0 l.length l.length :: lget Y 5 :: lget Y 6 :: lget Y 7 :: lget Y 8 :: lget Y 9 :: lget Y 10 :: lget Y 11 :: lget Y 12 :: lget Y 13 :: lget Y 14 :: lget Y 15 :: lget Y 16 :: lget Y 17 :: lget Y 18 :: lget Y 19 :: lget Y 20 :: lget Y 21 :: lget Y 22 :: lget Y 23 :: x :: iv l.length :: iv (i : Nat) :: lget Y 24 :: lget Y 25 :: lget Y 26 :: lget Y 27 :: lget Y 28 :: lget Y 29 :: lget Y 30 :: lget Y 31 :: lget Y 32 :: lget Y 33 :: lget Y 34 :: lget Y 35 :: lget Y 36 :: [])) l.length
    ⟨0, [_,_,_,_,_,_,_,_,_,_,_,_,_,_,_,_,_,_,_,_,_,_,_,_,_,_,_,_,_,_,_,_,_,_,_,_,_], _, rfl, Nat.zero_le _, k4, n4, g4, by simp, fun j z h => absurd h (by omega), rfl, rfl⟩ ?_
  rintro k T M H' ⟨i, Y, cs, hk1, hi, hK, hn, hgb, hcs, hcc, rfl, rfl⟩
  have hxx := hx.keep ho hK
  have hyy := hy.keep ho2 hK
  repeat (first | refine wops_nil ?_ | refine zq2 rfl rfl ?_ | refine zq3 rfl rfl ?_ | refine zq4 rfl rfl rfl rfl (inc (by omega)) ?_ | refine zq5 rfl rfl rfl rfl rfl (by assumption) ?_ | refine zq6 rfl rfl (by assumption) ?_ | refine wp_condT rfl ?_ | refine wp_condF rfl ?_ | refine wp_region ?_ | refine wp_seq ?_ | refine wp_skip ?_ | refine wp_exit ?_ | refine wp_block ?_)
  refine wops_cons (wop_cmp rfl rfl rfl rfl rfl (fun h => ?_) (fun h => ?_))
  rotate_left
  · have h : ¬ ((i : Int) < l.length) := of_decide_eq_false h
    have e : i = l.length := by omega
    subst e
    repeat (first | refine wops_nil ?_ | refine zq2 rfl rfl ?_ | refine zq3 rfl rfl ?_ | refine zq4 rfl rfl rfl rfl (inc (by omega)) ?_ | refine zq5 rfl rfl rfl rfl rfl (by assumption) ?_ | refine zq6 rfl rfl (by assumption) ?_ | refine wp_condT rfl ?_ | refine wp_condF rfl ?_ | refine wp_region ?_ | refine wp_seq ?_ | refine wp_skip ?_ | refine wp_exit ?_ | refine wp_block ?_)
    refine wp_ret ?_
    refine ⟨_, _, rfl, ?_⟩
    have hcl : (compL l m).length = l.length := by simp [compL]
    refine hk H' _ hK (by omega) (sl_cells hb39 hgb (by rw [ivs_length, hcl]) fun j v hv => ?_) (fun c hc => by cases hc; omega)
    simp only [ivs, List.getElem?_map, Option.map_eq_some_iff] at hv
    obtain ⟨z, hz, rfl⟩ := hv
    exact hcc j z (by rw [← hcl]; exact (List.getElem?_eq_some_iff.1 hz).1) hz
  have h : (i : Int) < l.length := of_decide_eq_true h
  obtain ⟨z, hz⟩ := l_some (show i < l.length by omega)
  have hzr := hokl.1 i z hz
  obtain ⟨w, hw⟩ := l_some (l := m) (show z.toNat < m.length by omega)
  have hzn : z = (z.toNat : Int) := by omega
  repeat (first | refine wops_nil ?_ | refine zq2 rfl rfl ?_ | refine zq3 rfl rfl ?_ | refine zq4 rfl rfl rfl rfl (inc (by omega)) ?_ | refine zq5 rfl rfl rfl rfl rfl (by assumption) ?_ | refine zq6 rfl rfl (by assumption) ?_ | refine wp_condT rfl ?_ | refine wp_condF rfl ?_ | refine wp_region ?_ | refine wp_seq ?_ | refine wp_skip ?_ | refine wp_exit ?_ | refine wp_block ?_)
  refine wops_cons (o_indexI rfl rfl hxx rfl hz fun p hp => ?_)
  repeat (first | refine wops_nil ?_ | refine zq2 rfl rfl ?_ | refine zq3 rfl rfl ?_ | refine zq4 rfl rfl rfl rfl (inc (by omega)) ?_ | refine zq5 rfl rfl rfl rfl rfl (by assumption) ?_ | refine zq6 rfl rfl (by assumption) ?_ | refine wp_condT rfl ?_ | refine wp_condF rfl ?_ | refine wp_region ?_ | refine wp_seq ?_ | refine wp_skip ?_ | refine wp_exit ?_ | refine wp_block ?_)
  refine wops_cons (o_indexI (j := z.toNat) rfl rfl hyy (by rw [← hzn]; rfl) hw fun p hp => ?_)
  repeat (first | refine wops_nil ?_ | refine zq2 rfl rfl ?_ | refine zq3 rfl rfl ?_ | refine zq4 rfl rfl rfl rfl (inc (by omega)) ?_ | refine zq5 rfl rfl rfl rfl rfl (by assumption) ?_ | refine zq6 rfl rfl (by assumption) ?_ | refine wp_condT rfl ?_ | refine wp_condF rfl ?_ | refine wp_region ?_ | refine wp_seq ?_ | refine wp_skip ?_ | refine wp_exit ?_ | refine wp_block ?_)
  refine wops_cons (o_indexOwn rfl rfl rfl rfl (by omega) ?_)
  refine wops_cons (o_store rfl rfl rfl hgb (by omega) rfl ?_)
  repeat (first | refine wops_nil ?_ | refine zq2 rfl rfl ?_ | refine zq3 rfl rfl ?_ | refine zq4 rfl rfl rfl rfl (inc (by omega)) ?_ | refine zq5 rfl rfl rfl rfl rfl (by assumption) ?_ | refine zq6 rfl rfl (by assumption) ?_ | refine wp_condT rfl ?_ | refine wp_condF rfl ?_ | refine wp_region ?_ | refine wp_seq ?_ | refine wp_skip ?_ | refine wp_exit ?_ | refine wp_block ?_)
  refine ⟨l.length - (i + 1), by omega, i + 1, [_,_,_,_,_,_,_,_,_,_,_,_,_,_,_,_,_,_,_,_,_,_,_,_,_,_,_,_,_,_,_,_,_,_,_,_,_], cs.set i (iv w), rfl, by omega, hK.set _ hb0 hb39, hn, by rw [AH.get_set _ _ _ _ hb39, if_pos rfl]; rfl, by simpa using hcs, fun j v hj hv => ?_, rfl, rfl⟩
  by_cases e : j = i
  · subst e
    rw [compL_get2 hz hw] at hv
    cases hv
    rw [List.getElem?_set_self (by omega)]
  · rw [List.getElem?_set_ne (Ne.symm e)]
    exact hcc j v (by omega) hv
theorem cMPer (hP : Pers O) (H : AH) (a x : AV) (m : Mc) (n : Nat) (ha : a.cells = mc m x) (hx : Sl H x (ivs m.sw)) (ho : Old H x) (hsl : m.sw.length ≤ 1000) (hg : m.g = n) (hn1 : 1 ≤ n) (hn : n ≤ 8) (hm0 : mE m = 0) (hr : H.next + 400000 < 2 ^ 39) (K : AV → AH → Prop)
    (hk : ∀ H', Keeps H H' → H'.next ≤ H.next + 210000 → K (.tup [txt (perd (fOf (permL m n)) (4 * n)), iv 0]) H') : Ca (ENV O) 9 [a] H K := by
  refine ca_intro (hq _ _ _ rfl) (fn := Tryz.f9) (by rfl) rfl ?_
  repeat (first | refine wops_nil ?_ | refine zq2 rfl rfl ?_ | refine zq3 rfl rfl ?_ | refine zq6 rfl rfl (by assumption) ?_ | refine zqb rfl rfl rfl (by assumption) ?_ | refine zq9 rfl rfl rfl rfl ?_ | refine wp_condT rfl ?_ | refine wp_condF rfl ?_ | refine wp_region ?_ | refine wp_seq ?_ | refine wp_skip ?_)
  refine wops_cons (o_boxM rfl rfl ha (by omega) fun H1 n1 k1 b1 => ?_)
  repeat (first | refine wops_nil ?_ | refine zq2 rfl rfl ?_ | refine zq3 rfl rfl ?_ | refine zq6 rfl rfl (by assumption) ?_ | refine zqb rfl rfl rfl (by assumption) ?_ | refine zq9 rfl rfl rfl rfl ?_ | refine wp_condT rfl ?_ | refine wp_condF rfl ?_ | refine wp_region ?_ | refine wp_seq ?_ | refine wp_skip ?_)
  refine wops_cons (wop_callF rfl rfl rfl (fn := Tryz.f7) (by rfl) ?_)
  refine c18 hq H1 _ x m n rfl (hx.keep ho k1) (ho.keep k1) hsl hg hn1 (by omega) hm0 (by omega) _ fun H2 p k2 n2 hp => ⟨k2.nx, ?_⟩
  have k02 := k1.trans k2
  clear b1
  repeat (first | refine wops_nil ?_ | refine zq2 rfl rfl ?_ | refine zq3 rfl rfl ?_ | refine zq6 rfl rfl (by assumption) ?_ | refine zqb rfl rfl rfl (by assumption) ?_ | refine zq9 rfl rfl rfl rfl ?_ | refine wp_condT rfl ?_ | refine wp_condF rfl ?_ | refine wp_region ?_ | refine wp_seq ?_ | refine wp_skip ?_)
  refine wops_cons (wop_bin (op := .neq) (v := .bool false) rfl rfl rfl rfl rfl ?_)
  repeat (first | refine wops_nil ?_ | refine zq2 rfl rfl ?_ | refine zq3 rfl rfl ?_ | refine zq6 rfl rfl (by assumption) ?_ | refine zqb rfl rfl rfl (by assumption) ?_ | refine zq9 rfl rfl rfl rfl ?_ | refine wp_condT rfl ?_ | refine wp_condF rfl ?_ | refine wp_region ?_ | refine wp_seq ?_ | refine wp_skip ?_)
  refine wops_cons (wop_callF rfl rfl rfl (fn := Tryz.f11) (by rfl) ?_)
  refine cPer hq hP H2 p _ hp.sl hp.old n (permL_len hg) (permL_fr hg hn1 hn hm0) (permL_okP hg) (by omega) _ fun H3 k3 n3 => ⟨k3.nx, ?_⟩
  rw [permL_len hg]
  repeat (first | refine wops_nil ?_ | refine zq2 rfl rfl ?_ | refine zq3 rfl rfl ?_ | refine zq6 rfl rfl (by assumption) ?_ | refine zqb rfl rfl rfl (by assumption) ?_ | refine zq9 rfl rfl rfl rfl ?_ | refine wp_condT rfl ?_ | refine wp_condF rfl ?_ | refine wp_region ?_ | refine wp_seq ?_ | refine wp_skip ?_)
  refine wp_ret ?_
  exact ⟨_, _, rfl, hk H3 (k02.trans k3) (by omega)⟩
theorem cSamePerms (H : AH) (x y : AV) (xs ys : List AV) (os : List (List Nat)) (hx : Sl H x xs) (hy : Sl H y ys) (hxl : xs.length = os.length) (hyl : ys.length = os.length) (hxs : ∀ (j : Nat) (c : AV) (o : List Nat), xs[j]? = some c → os[j]? = some o → Sl H c (nvs o)) (hys : ∀ (j : Nat) (c : AV) (o : List Nat), ys[j]? = some c → os[j]? = some o → Sl H c (nvs o))
    (hol : ∀ o ∈ os, o.length ≤ 1000) (hosl : os.length ≤ 1000) (K : AV → AH → Prop) (hk : K (.v (.bool true)) H) : Ca (ENV O) 15 [x, y] H K := by
  refine ca_intro (hq _ _ _ rfl) (fn := Tryz.f15) (by rfl) rfl ?_
  repeat (first | refine wops_nil ?_ | refine zq2 rfl rfl ?_ | refine zq3 rfl rfl ?_ | refine zq4 rfl rfl rfl rfl (inc (by omega)) ?_ | refine zq5 rfl rfl rfl rfl rfl (by assumption) ?_ | refine zq6 rfl rfl (by assumption) ?_ | refine zq8 rfl rfl rfl ?_ | refine wp_condT rfl ?_ | refine wp_condF rfl ?_ | refine wp_region ?_ | refine wp_seq ?_ | refine wp_skip ?_ | refine wp_exit ?_ | refine wp_block ?_)
  refine wops_cons (o_lenN rfl rfl rfl rfl rfl hx hxl ?_)
  repeat (first | refine wops_nil ?_ | refine zq2 rfl rfl ?_ | refine zq3 rfl rfl ?_ | refine zq4 rfl rfl rfl rfl (inc (by omega)) ?_ | refine zq5 rfl rfl rfl rfl rfl (by assumption) ?_ | refine zq6 rfl rfl (by assumption) ?_ | refine zq8 rfl rfl rfl ?_ | refine wp_condT rfl ?_ | refine wp_condF rfl ?_ | refine wp_region ?_ | refine wp_seq ?_ | refine wp_skip ?_ | refine wp_exit ?_ | refine wp_block ?_)
  refine wops_cons (o_lenN rfl rfl rfl rfl rfl hy hyl ?_)
  refine wops_cons (wop_bin (op := .neq) (v := .bool false) rfl rfl rfl rfl (by simp [binI]) ?_)
  repeat (first | refine wops_nil ?_ | refine zq2 rfl rfl ?_ | refine zq3 rfl rfl ?_ | refine zq4 rfl rfl rfl rfl (inc (by omega)) ?_ | refine zq5 rfl rfl rfl rfl rfl (by assumption) ?_ | refine zq6 rfl rfl (by assumption) ?_ | refine zq8 rfl rfl rfl ?_ | refine wp_condT rfl ?_ | refine wp_condF rfl ?_ | refine wp_region ?_ | refine wp_seq ?_ | refine wp_skip ?_ | refine wp_exit ?_ | refine wp_block ?_)
  refine wp_loop (fun k T M H' => ∃ (i : Nat) (Y : List AV), k = os.length - i ∧ i ≤ os.length ∧ M = [] ∧ H' = H ∧ T = (x :: y :: lget Y 0 :: lget Y 1 :: lget Y 2 :: iv (i : Nat) :: lget Y 3 :: lget Y 4 :: lget Y 5 :: lget Y 6 :: lget Y 7 :: lget Y 8 :: lget Y 9 :: lget Y 10 :: lget Y 11 :: lget Y 12 :: lget Y 13 :: lget Y 14 :: lget Y 15 :: lget Y 16 :: lget Y 17 :: lget Y 18 :: lget Y 19 :: lget Y 20 :: lget Y 21 :: lget Y 22 :: lget Y 23 :: [])) os.length
    ⟨0, [_,_,_,_,_,_,_,_,_,_,_,_,_,_,_,_,_,_,_,_,_,_,_,_], rfl, Nat.zero_le _, rfl, rfl, rfl⟩ ?_
  rintro k T M H' ⟨i, Y, hk1, hi, rfl, rfl, rfl⟩
  repeat (first | refine wops_nil ?_ | refine zq2 rfl rfl ?_ | refine zq3 rfl rfl ?_ | refine zq4 rfl rfl rfl rfl (inc (by omega)) ?_ | refine zq5 rfl rfl rfl rfl rfl (by assumption) ?_ | refine zq6 rfl rfl (by assumption) ?_ | refine zq8 rfl rfl rfl ?_ | refine wp_condT rfl ?_ | refine wp_condF rfl ?_ | refine wp_region ?_ | refine wp_seq ?_ | refine wp_skip ?_ | refine wp_exit ?_ | refine wp_block ?_)
  refine wops_cons (o_lenN rfl rfl rfl rfl rfl hx hxl ?_)
  refine wops_cons (wop_cmp rfl rfl rfl rfl rfl (fun h => ?_) (fun h => ?_))
  rotate_left
  · repeat (first | refine wops_nil ?_ | refine zq2 rfl rfl ?_ | refine zq3 rfl rfl ?_ | refine zq4 rfl rfl rfl rfl (inc (by omega)) ?_ | refine zq5 rfl rfl rfl rfl rfl (by assumption) ?_ | refine zq6 rfl rfl (by assumption) ?_ | refine zq8 rfl rfl rfl ?_ | refine wp_condT rfl ?_ | refine wp_condF rfl ?_ | refine wp_region ?_ | refine wp_seq ?_ | refine wp_skip ?_ | refine wp_exit ?_ | refine wp_block ?_)
    refine wp_ret ?_
    exact ⟨_, _, rfl, hk⟩
  have h : (i : Int) < os.length := of_decide_eq_true h
  obtain ⟨o, hoi⟩ : ∃ o, os[i]? = some o := ⟨_, List.getElem?_eq_getElem (by omega)⟩
  obtain ⟨c, hci⟩ : ∃ c, xs[i]? = some c := ⟨_, List.getElem?_eq_getElem (by omega)⟩
  obtain ⟨d, hdi⟩ : ∃ d, ys[i]? = some d := ⟨_, List.getElem?_eq_getElem (by omega)⟩
  repeat (first | refine wops_nil ?_ | refine zq2 rfl rfl ?_ | refine zq3 rfl rfl ?_ | refine zq4 rfl rfl rfl rfl (inc (by omega)) ?_ | refine zq5 rfl rfl rfl rfl rfl (by assumption) ?_ | refine zq6 rfl rfl (by assumption) ?_ | refine zq8 rfl rfl rfl ?_ | refine wp_condT rfl ?_ | refine wp_condF rfl ?_ | refine wp_region ?_ | refine wp_seq ?_ | refine wp_skip ?_ | refine wp_exit ?_ | refine wp_block ?_)
  refine wp_drawC AnyB rfl ?_
  repeat (first | refine wc_move (by decide) rfl rfl rfl ?_)
  refine wc_index (by decide) rfl rfl rfl hx rfl hci fun p hp => ?_
  refine wc_load (by decide) rfl rfl rfl hp ?_
  repeat (first | refine wc_move (by decide) rfl rfl rfl ?_)
  refine wc_index (by decide) rfl rfl rfl hy rfl hdi fun p hp => ?_
  refine wc_load (by decide) rfl rfl rfl hp ?_
  refine wc_loud (wd_loudCall rfl rfl rfl (fun b h => by cases h) ?_)
  refine wop_callF rfl rfl rfl (fn := Tryz.f19) (by rfl) ?_
  have hn : nvs o = ivs (o.map fun (k : Nat) => (k : Int)) := rfl
  refine cSame hq _ c d (o.map fun (k : Nat) => (k : Int)) (hxs i c o hci hoi) (hys i d o hdi hoi) (by rw [List.length_map]; have := hol o (List.mem_of_getElem? hoi); omega) _ ⟨Nat.le_refl _, .inl (by kernel_rfl), ?_⟩
  refine wc_not (by decide) rfl rfl rfl rfl ?_
  refine wc_nil ?_
  repeat (first | refine wops_nil ?_ | refine zq2 rfl rfl ?_ | refine zq3 rfl rfl ?_ | refine zq4 rfl rfl rfl rfl (inc (by omega)) ?_ | refine zq5 rfl rfl rfl rfl rfl (by assumption) ?_ | refine zq6 rfl rfl (by assumption) ?_ | refine zq8 rfl rfl rfl ?_ | refine wp_condT rfl ?_ | refine wp_condF rfl ?_ | refine wp_region ?_ | refine wp_seq ?_ | refine wp_skip ?_ | refine wp_exit ?_ | refine wp_block ?_)
  exact ⟨os.length - (i + 1), by omega, i + 1, [_,_,_,_,_,_,_,_,_,_,_,_,_,_,_,_,_,_,_,_,_,_,_,_], rfl, by omega, rfl, rfl, rfl⟩
end Go.Ev
namespace Go.Ev
open Go.Proofs
theorem now_it {P l : List Int} (h : OkP P) (hl : InR P.length l) (k : Nat) : nowL P l k = l.map fun z => ((it (fOf P) k z.toNat : Nat) : Int) := by
  rw [now_map P l k]
  refine List.map_congr_left fun z hz => ?_
  have hzb := hl z hz
  have hx : z.toNat < P.length := by omega
  induction k with
  | zero => show z = ((z.toNat : Nat) : Int); omega
  | succ k ih =>
    have h1 : (nowL P [z] k).length = 1 := now_length P [z] k
    obtain ⟨w, hw⟩ := List.length_eq_one_iff.1 h1
    rw [hw] at ih
    have ih : w = ((it (fOf P) k z.toNat : Nat) : Int) := ih
    show (thr P (nowL P [z] k)).getD 0 0 = _
    rw [hw]
    show P.getD w.toNat 0 = _
    rw [ih, Int.toNat_natCast, List.getD_eq_getElem?_getD, h.f_get (h.pm.it_lt hx k)]
    rfl
theorem now_get {P l : List Int} (h : OkP P) (hl : InR P.length l) {i : Nat} {z : Int} (hz : l[i]? = some z) (k : Nat) : (nowL P l k)[i]? = some ((it (fOf P) k z.toNat : Nat) : Int) := by
  rw [now_it h hl, List.getElem?_map, hz]; rfl
theorem now_range {P : List Int} (h : OkP P) (k : Nat) : nowL P (rangeI P.length) k = itL P k := by
  rw [now_it h (fun z hz => by have := mem_rangeI.1 hz; omega)]
  unfold itL rangeI
  rw [List.map_map]
  refine List.map_congr_left fun x _ => ?_
  show ((it (fOf P) k ((x : Nat) : Int).toNat : Nat) : Int) = _
  rw [Int.toNat_natCast]
theorem pow_get {P : List Int} (h : OkP P) {x : Nat} (hx : x < P.length) (k : Nat) : (powL' P (k : Int))[x]? = some ((it (fOf P) k x : Nat) : Int) := by
  rw [powL_get hx]
  have h1 : stp (k : Int) (per (fOf P) P.length x) = k % per (fOf P) P.length x := by
    have : ((stp (k : Int) (per (fOf P) P.length x) : Nat) : Int) = ((k % per (fOf P) P.length x : Nat) : Int) := by rw [stp_emod k (per_pos _ _ _)]; rfl
    exact Int.ofNat.inj this
  rw [h1, h.pm.it_mod hx]
theorem comp_get {P : List Int} (h : OkP P) {x : Nat} (hx : x < P.length) : (compL P P)[x]? = some ((it (fOf P) 2 x : Nat) : Int) :=
  compL_get2 (h.f_get hx) (by rw [Int.toNat_natCast]; exact h.f_get (h.pm.lt x hx))
structure Egt (m : Mc) (l : List Int) (n : Nat) : Prop where
  hg : m.g = n
  hn1 : 1 ≤ n
  hn : n ≤ 8
  hm0 : mE m = 0
  hsw : m.sw.length ≤ 1000
  hle : l.length ≤ 4 * n
  hl : InR (4 * n) l
  hd : l.Nodup
theorem egt_of {m : Mc} {l : List Int} (h : fitsB m l 8 40 = true) : ∃ n, Egt m l n := by
  unfold fitsB at h
  simp only [Bool.and_eq_true, decide_eq_true_eq] at h
  obtain ⟨⟨⟨⟨h1, h2⟩, h3⟩, h4⟩, h5⟩ := h
  have hm : mE m = 0 := by
    unfold cE at h5
    split at h5
    · rename_i h6; exact absurd h5 h6
    · rename_i h6; simpa using h6
  have hlE : lE m l = 0 := by
    unfold cE at h5
    rw [if_neg (by simp [hm])] at h5
    exact h5
  have hgb := mE_g hm
  obtain ⟨n, hn⟩ := Int.eq_ofNat_of_zero_le (show 0 ≤ m.g by omega)
  have hgn : m.g = (n : Int) := hn
  obtain ⟨e1, e2, e3⟩ := (lE_zero hgn).1 hlE
  exact ⟨n, hgn, by omega, by omega, hm, by omega, e1, e2, e3⟩
theorem valsL_pos : ∀ v ∈ valsL, 1 ≤ v ∧ v ≤ 60 := by decide
theorem valsL_le {v : Nat} (h : v ∈ valsL) : 1 ≤ v ∧ v ≤ 60 := valsL_pos v h
section
variable {m : Mc} {l : List Int} {n : Nat}
theorem Egt.ok (h : Egt m l n) : OkP (permL m n) := permL_okP h.hg
theorem Egt.len (h : Egt m l n) : (permL m n).length = 4 * n := permL_len h.hg
theorem Egt.fr (h : Egt m l n) : Fr (fOf (permL m n)) n := permL_fr h.hg h.hn1 h.hn h.hm0
theorem Egt.inr (h : Egt m l n) : InR (4 * n) (permL m n) := fun z hz => by
  obtain ⟨i, hi⟩ := List.mem_iff_getElem?.1 hz
  have := h.ok.1 i z hi
  rw [h.len] at this
  omega
theorem Egt.lr (h : Egt m l n) : InR (permL m n).length l := by rw [h.len]; exact h.hl
theorem Egt.all (h : Egt m l n) : Egt m (rangeI (4 * n)) n :=
  { h with hle := by rw [length_rangeI]; exact Nat.le_refl _, hl := fun z hz => by have := mem_rangeI.1 hz; omega, hd := nodup_rangeI _ }
theorem Egt.good (h : Egt m l n) : GoodL m l n (perd (fOf (permL m n)) (4 * n)) := by
  have hv := valsL_le h.fr.perd_mem
  refine ⟨h.hg, h.hn1, by have := h.hn; omega, h.hm0, h.hsw, by have := h.hle; have := h.hn; omega, ?_, h.hl, h.inr, by omega, ?_, by omega⟩
  · unfold cE
    rw [if_neg (by simp [h.hm0])]
    exact (lE_zero h.hg).2 ⟨h.hle, h.hl, h.hd⟩
  · rw [now_it h.ok h.lr]
    refine (List.map_congr_left fun z hz => ?_).trans (List.map_id _)
    have hz := h.hl z hz
    have hr := (h.ok.pm.round (i := perd (fOf (permL m n)) (4 * n))).2 (by rw [h.len]; exact Nat.dvd_refl _) z.toNat (by rw [h.len]; omega)
    rw [hr]
    show ((z.toNat : Nat) : Int) = z
    omega
end
variable {O : CallF} (hq : Quiet O)
include hq
theorem cSteps (H : AH) (a x y : AV) (m : Mc) (l : List Int) (n k : Nat) (ha : a.cells = mc m x) (hx : Sl H x (ivs m.sw)) (ho : Old H x) (hy : Sl H y (ivs l)) (hoy : Old H y) (hcap : CapOk y) (h8 : Egt m l n) (hkb : k ≤ 999999999) (hr : H.next + 1000000 < 2 ^ 39)
    (K : AV → AH → Prop) (hk : ∀ (H' : AH) (r : AV), Keeps H H' → H'.next ≤ H.next + 200000 → Nw H' r (nowL (permL m n) l k) → K (.tup [r, iv 0]) H') : Ca (ENV O) 13 [a, y, iv (k : Int)] H K :=
  c28 hq H a x y m l n _ k ha hx ho hy hoy hcap h8.good h8.ok hkb hr K hk
theorem cSameG (H : AH) (x y : AV) (l m : List Int) (hx : Sl H x (ivs l)) (hy : Sl H y (ivs m)) (hlm : l.length = m.length) (hlen : l.length ≤ 100000) (K : AV → AH → Prop) (hk : K (.v (.bool (decide (l = m)))) H) : Ca (ENV O) 19 [x, y] H K := by
  refine ca_intro (hq _ _ _ rfl) (fn := Tryz.f19) (by rfl) rfl ?_
  repeat (first | refine wops_nil ?_ | refine zq2 rfl rfl ?_ | refine zq3 rfl rfl ?_ | refine zq4 rfl rfl rfl rfl (inc (by omega)) ?_ | refine zq5 rfl rfl rfl rfl rfl (by assumption) ?_ | refine zq6 rfl rfl (by assumption) ?_ | refine wp_condT rfl ?_ | refine wp_condF rfl ?_ | refine wp_region ?_ | refine wp_seq ?_ | refine wp_skip ?_ | refine wp_exit ?_ | refine wp_block ?_)
  refine wops_cons (wop_bin (op := .neq) (v := .bool false) rfl rfl rfl rfl (by simp [binI, hlm]) ?_)
  repeat (first | refine wops_nil ?_ | refine zq2 rfl rfl ?_ | refine zq3 rfl rfl ?_ | refine zq4 rfl rfl rfl rfl (inc (by omega)) ?_ | refine zq5 rfl rfl rfl rfl rfl (by assumption) ?_ | refine zq6 rfl rfl (by assumption) ?_ | refine wp_condT rfl ?_ | refine wp_condF rfl ?_ | refine wp_region ?_ | refine wp_seq ?_ | refine wp_skip ?_ | refine wp_exit ?_ | refine wp_block ?_)
  refine wp_loop (fun k T M H' => ∃ (i : Nat) (Y : List AV), k = l.length - i ∧ i ≤ l.length ∧ (∀ j, j < i → l[j]? = m[j]?) ∧ M = [] ∧ H' = H ∧ T = (x :: y :: lget Y 0 :: lget Y 1 :: lget Y 2 :: iv (i : Nat) :: lget Y 3 :: lget Y 4 :: lget Y 5 :: lget Y 6 :: lget Y 7 :: lget Y 8 :: lget Y 9 :: lget Y 10 :: lget Y 11 :: lget Y 12 :: lget Y 13 :: lget Y 14 :: lget Y 15 :: lget Y 16 :: lget Y 17 :: lget Y 18 :: lget Y 19 :: lget Y 20 :: lget Y 21 :: lget Y 22 :: [])) l.length
    ⟨0, [_,_,_,_,_,_,_,_,_,_,_,_,_,_,_,_,_,_,_,_,_,_,_], rfl, Nat.zero_le _, fun j hj => absurd hj (Nat.not_lt_zero _), rfl, rfl, rfl⟩ ?_
  rintro k T M H' ⟨i, Y, hk1, hi, hr, rfl, rfl, rfl⟩
  repeat (first | refine wops_nil ?_ | refine zq2 rfl rfl ?_ | refine zq3 rfl rfl ?_ | refine zq4 rfl rfl rfl rfl (inc (by omega)) ?_ | refine zq5 rfl rfl rfl rfl rfl (by assumption) ?_ | refine zq6 rfl rfl (by assumption) ?_ | refine wp_condT rfl ?_ | refine wp_condF rfl ?_ | refine wp_region ?_ | refine wp_seq ?_ | refine wp_skip ?_ | refine wp_exit ?_ | refine wp_block ?_)
  refine wops_cons (wop_cmp rfl rfl rfl rfl rfl (fun h => ?_) (fun h => ?_))
  rotate_left
  · have h : ¬ ((i : Int) < l.length) := of_decide_eq_false h
    have e : l = m := List.ext_getElem? fun j => by
      rcases Nat.lt_or_ge j l.length with hj | hj
      · exact hr j (by omega)
      · rw [List.getElem?_eq_none hj, List.getElem?_eq_none (by omega)]
    rw [decide_eq_true e] at hk
    repeat (first | refine wops_nil ?_ | refine zq2 rfl rfl ?_ | refine zq3 rfl rfl ?_ | refine zq4 rfl rfl rfl rfl (inc (by omega)) ?_ | refine zq5 rfl rfl rfl rfl rfl (by assumption) ?_ | refine zq6 rfl rfl (by assumption) ?_ | refine wp_condT rfl ?_ | refine wp_condF rfl ?_ | refine wp_region ?_ | refine wp_seq ?_ | refine wp_skip ?_ | refine wp_exit ?_ | refine wp_block ?_)
    refine wp_ret ?_
    exact ⟨_, _, rfl, hk⟩
  have h : (i : Int) < l.length := of_decide_eq_true h
  obtain ⟨z, hz⟩ := l_some (show i < l.length by omega)
  obtain ⟨w, hw⟩ := l_some (l := m) (show i < m.length by omega)
  repeat (first | refine wops_nil ?_ | refine zq2 rfl rfl ?_ | refine zq3 rfl rfl ?_ | refine zq4 rfl rfl rfl rfl (inc (by omega)) ?_ | refine zq5 rfl rfl rfl rfl rfl (by assumption) ?_ | refine zq6 rfl rfl (by assumption) ?_ | refine wp_condT rfl ?_ | refine wp_condF rfl ?_ | refine wp_region ?_ | refine wp_seq ?_ | refine wp_skip ?_ | refine wp_exit ?_ | refine wp_block ?_)
  by_cases hzw : z = w
  · subst hzw
    refine wp_drawC AnyB rfl ?_
    repeat (first | refine wc_move (by decide) rfl rfl rfl ?_)
    refine wc_index (by decide) rfl rfl rfl hx rfl (ivs_get hz) fun p hp => ?_
    refine wc_load (by decide) rfl rfl rfl hp ?_
    repeat (first | refine wc_move (by decide) rfl rfl rfl ?_)
    refine wc_index (by decide) rfl rfl rfl hy rfl (ivs_get hw) fun p hp => ?_
    refine wc_load (by decide) rfl rfl rfl hp ?_
    refine wc_bin (v := .bool false) (by decide) rfl rfl rfl rfl rfl (by simp [binI]) ?_
    refine wc_nil ?_
    repeat (first | refine wops_nil ?_ | refine zq2 rfl rfl ?_ | refine zq3 rfl rfl ?_ | refine zq4 rfl rfl rfl rfl (inc (by omega)) ?_ | refine zq5 rfl rfl rfl rfl rfl (by assumption) ?_ | refine zq6 rfl rfl (by assumption) ?_ | refine wp_condT rfl ?_ | refine wp_condF rfl ?_ | refine wp_region ?_ | refine wp_seq ?_ | refine wp_skip ?_ | refine wp_exit ?_ | refine wp_block ?_)
    refine ⟨l.length - (i + 1), by omega, i + 1, [_,_,_,_,_,_,_,_,_,_,_,_,_,_,_,_,_,_,_,_,_,_,_], rfl, by omega, fun j hj => ?_, rfl, rfl, rfl⟩
    by_cases e : j = i
    · subst e; rw [hz, hw]
    · exact hr j (by omega)
  · have hne : l ≠ m := fun e => hzw (by rw [e, hw] at hz; cases hz; rfl)
    rw [decide_eq_false hne] at hk
    refine wp_drawC AnyB rfl ?_
    repeat (first | refine wc_move (by decide) rfl rfl rfl ?_)
    refine wc_index (by decide) rfl rfl rfl hx rfl (ivs_get hz) fun p hp => ?_
    refine wc_load (by decide) rfl rfl rfl hp ?_
    repeat (first | refine wc_move (by decide) rfl rfl rfl ?_)
    refine wc_index (by decide) rfl rfl rfl hy rfl (ivs_get hw) fun p hp => ?_
    refine wc_load (by decide) rfl rfl rfl hp ?_
    refine wc_bin (v := .bool true) (by decide) rfl rfl rfl rfl rfl (by simp [binI, hzw]) ?_
    refine wc_nil ?_
    repeat (first | refine wops_nil ?_ | refine zq2 rfl rfl ?_ | refine zq3 rfl rfl ?_ | refine zq4 rfl rfl rfl rfl (inc (by omega)) ?_ | refine zq5 rfl rfl rfl rfl rfl (by assumption) ?_ | refine zq6 rfl rfl (by assumption) ?_ | refine wp_condT rfl ?_ | refine wp_condF rfl ?_ | refine wp_region ?_ | refine wp_seq ?_ | refine wp_skip ?_ | refine wp_exit ?_ | refine wp_block ?_)
    refine wp_ret ?_
    exact ⟨_, _, rfl, hk⟩
end Go.Ev
