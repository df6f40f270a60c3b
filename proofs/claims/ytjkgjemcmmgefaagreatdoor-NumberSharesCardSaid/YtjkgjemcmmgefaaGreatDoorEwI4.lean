/- Part of an evaluator of calls that is proved sound, and of what it gives about this program. No condition of its own. -/
import Derived.Test.YtjkgjemcmmgefaaGreatDoorEwI2
import Derived.Test.YtjkgjemcmmgefaaGreatDoorEwI1
set_option linter.unusedVariables false
set_option linter.unusedSimpArgs false
set_option linter.unusedSectionVars false
set_option maxRecDepth 100000
set_option maxHeartbeats 4000000
namespace Go.Ev
open Go.Proofs
theorem WOps.mem {E : Env} {ops : Array Oper} {l : List Oper} {T : List AV} {H : AH} {K : List AV → AH → Prop} (P : AH → Prop) (h : P H) (hw : ∀ H', P H' → WOps E ops l T H' K) : WOps E ops l T H K := hw H h
theorem WOps.T {E : Env} {ops : Array Oper} {l : List Oper} {T T' : List AV} {H : AH} {K : List AV → AH → Prop} (h : T = T') (hw : WOps E ops l T' H K) : WOps E ops l T H K := h ▸ hw
theorem Wp.T {E : Env} {g : FuncId} {rd : Bool} {T T' : List AV} {M : List Nat} {H : AH} {Q : QX} {c : Code} (h : T = T') (hw : Wp E g rd c T' M H Q) : Wp E g rd c T M H Q := h ▸ hw
theorem WOps.H {E : Env} {ops : Array Oper} {l : List Oper} {T : List AV} {H H' : AH} {K : List AV → AH → Prop} (h : H = H') (hw : WOps E ops l T H' K) : WOps E ops l T H K := h ▸ hw
section
variable {O : CallF} {T : List AV} {H H0 : AH} {ops : Array Oper} {o : Oper} {i : Nat} {π : List Stp} {K : List AV → AH → Prop}
theorem o_sliceTo {Kr : AV → AH → Prop} {t e : TypeId} {x h : Operand} {b n cap m : Nat} (ho : o.op = .slice t x none (some h) none) (hg : wantedA o ops T = true) [hu : TyS t e] [hs : Cell e] (hx : av T x = .slc b 0 n cap) (hh : av T h = iv m) (hm : m ≤ cap) (hk : Kr (.slc b 0 m cap) H) : WOp (ENV O) ops o T H Kr :=
  wop_sliceTo ho hg hu.u hs.s hx hh hm hk
end
theorem sub_bounds {t s q : Int} (h1 : 0 ≤ t - (s + q)) (ht : t ≤ 999999999) (hs : 0 ≤ s) (hq : 0 ≤ q) : -9223372036854775808 ≤ t - s - q ∧ t - s - q < 9223372036854775808 := by omega
variable {O : CallF} (hq : Quiet O)
include hq
end Go.Ev
namespace Go.Ev
open Go.Proofs
theorem intsB_ivs (l : List Int) : intsB (ivs l) = true := by
  induction l with
  | nil => rfl
  | cons x l ih => exact ih
theorem ca_insert {O : CallF} (hi : ∀ args H, O 65 args H = insO 65 3 65 args H) (H : AH) (s : AV) (l : List Int) (k : Nat) (x : Int) (vb cap : Nat) (e : TypeId) (hG : Gr H 3 s (ivs l)) (hv : H.get vb = some (.cells [iv x] e 0)) (hk : k ≤ l.length) (hl : l.length ≤ 4096) (hne : s.own ≠ some vb) (hr : H.next + 1 ≤ 2 ^ 39) (K : AV → AH → Prop)
    (hK : ∀ r H', H'.next = H.next + 1 → H'.gl = H.gl → (∀ b, b ≠ H.next → s.own ≠ some b → H'.get b = H.get b) → (∀ b, r.own = some b → b = H.next) → Gr H' 3 r (ivs (l.take k ++ x :: l.drop k)) → K r H') : Ca (ENV O) 65 [s, iv k, .slc vb 0 1 cap] H K := by
  have h39 : H.next < 2 ^ 39 := by omega
  rcases hG with ⟨rfl, hl0⟩ | ⟨b, hbn, hb39, rfl, hg⟩
  · have hl0 : l = [] := by cases l with | nil => rfl | cons a l => cases hl0
    subst hl0
    have hk0 : k = 0 := by simpa using hk
    subst hk0
    refine ca_oracle (r := .slu H.next 0 1 1) (H' := H.add (.cells [iv x] 3 1)) ?_ (hK _ _ rfl rfl (fun b hb _ => get_add_ne h39 hb) (fun b hb => by cases hb; rfl) (.inr ⟨H.next, Nat.lt_succ_self _, h39, rfl, get_add_eq h39⟩))
    show O 65 _ H = _
    rw [hi]
    show (match H.get vb with
      | some (.cells [.v (.int kv zv)] _ 0) => if Nat.ble (H.next + 1) (2 ^ 39) then insTo 3 (.v (.slice none 0 0)) 0 (.v (.int kv zv)) vb H else none
      | _ => none) = _
    rw [hv]
    simp only
    rw [if_pos (Nat.ble_eq_true_of_le hr)]
    rfl
  · have hbv : b ≠ vb := fun e => hne (by rw [← e]; rfl)
    refine ca_oracle (r := .slu H.next 0 ((ivs l).length + 1) 1) (H' := (H.set b none).add (.cells ((ivs l).take k ++ iv x :: (ivs l).drop k) 3 1)) ?_ (hK _ _ rfl rfl (fun c hc1 hc2 => ?_) (fun b hb => by cases hb; rfl) (.inr ⟨H.next, Nat.lt_succ_self _, h39, ?_, ?_⟩))
    · show O 65 _ H = _
      rw [hi]
      show (match H.get vb with
        | some (.cells [.v (.int kv zv)] _ 0) => if Nat.ble (H.next + 1) (2 ^ 39) then insTo 3 (.slu b 0 (ivs l).length 1) k (.v (.int kv zv)) vb H else none
        | _ => none) = _
      rw [hv]
      simp only
      rw [if_pos (Nat.ble_eq_true_of_le hr)]
      unfold insTo
      simp only [hg]
      have h1 : Nat.ble k (ivs l).length = true := Nat.ble_eq_true_of_le (by rw [ivs_length]; exact hk)
      have h2 : Nat.ble (ivs l).length 4096 = true := Nat.ble_eq_true_of_le (by rw [ivs_length]; exact hl)
      have h3 : Nat.beq b vb = false := by
        cases hh : Nat.beq b vb with
        | false => rfl
        | true => exact absurd (Nat.eq_of_beq_eq_true hh) hbv
      rw [if_pos (by simp [h1, h2, intsB_ivs, h3])]
    · exact (get_add_ne (H := H.set b none) h39 hc1).trans (get_set_ne hb39 (fun e => hc2 (by rw [e]; rfl)))
    · congr 1
      simp only [ivs_length, List.length_append, List.length_take, List.length_cons, List.length_drop]
      omega
    · refine (get_add_eq (H := H.set b none) h39).trans ?_
      simp [ivs, List.map_take, List.map_drop]
variable {O : CallF} (hq : Quiet O)
include hq
theorem c29 (hi : ∀ args H, O 65 args H = insO 65 3 65 args H) (H : AH) (key : Int) (n : Nat) (hkey : 1 ≤ key ∧ key ≤ 2147483646) (hn : n ≤ 256) (hr : H.next + 600 < 2 ^ 39) (K : AV → AH → Prop)
    (hk : ∀ H' c, Keeps H H' → H'.next ≤ H.next + 520 → Sl H' c (ivs (drawL key n)) → Old H' c → K (.tup [c, iv 0]) H') : Ca (ENV O) 29 [iv key, iv n] H K := by
  refine ca_intro (hq _ _ _ rfl) (fn := Tryz.f29) (by rfl) rfl ?_
  repeat (first | refine wops_nil ?_ | refine zq1 rfl rfl ?_ | refine zq2 rfl rfl ?_ | refine zq3 rfl rfl ?_ | refine zq4 rfl rfl rfl rfl (inc (by omega)) ?_ | refine zq5 rfl rfl rfl rfl rfl (by assumption) ?_ | refine zq6 rfl rfl (by assumption) ?_ | refine zq7 rfl rfl rfl ?_ | refine zq8 rfl rfl rfl ?_ | refine zq9 rfl rfl rfl rfl ?_ | refine wp_condT rfl ?_ | refine wp_condF rfl ?_ | refine wp_region ?_ | refine wp_seq ?_ | refine wp_skip ?_ | refine wp_exit ?_ | refine wp_block ?_)
  refine wops_cons (wop_callF rfl rfl rfl (fn := Tryz.f60) (by rfl) ?_)
  refine c60 hq H key 1 2147483646 _ ⟨Nat.le_refl _, ?_⟩
  rw [decide_eq_true hkey]
  repeat (first | refine wops_nil ?_ | refine zq1 rfl rfl ?_ | refine zq2 rfl rfl ?_ | refine zq3 rfl rfl ?_ | refine zq4 rfl rfl rfl rfl (inc (by omega)) ?_ | refine zq5 rfl rfl rfl rfl rfl (by assumption) ?_ | refine zq6 rfl rfl (by assumption) ?_ | refine zq7 rfl rfl rfl ?_ | refine zq8 rfl rfl rfl ?_ | refine zq9 rfl rfl rfl rfl ?_ | refine wp_condT rfl ?_ | refine wp_condF rfl ?_ | refine wp_region ?_ | refine wp_seq ?_ | refine wp_skip ?_ | refine wp_exit ?_ | refine wp_block ?_)
  refine wops_cons (wop_callF rfl rfl rfl (fn := Tryz.f60) (by rfl) ?_)
  refine c60 hq H n 0 256 _ ⟨Nat.le_refl _, ?_⟩
  rw [decide_eq_true (show (0 : Int) ≤ n ∧ (n : Int) ≤ 256 by omega)]
  repeat (first | refine wops_nil ?_ | refine zq1 rfl rfl ?_ | refine zq2 rfl rfl ?_ | refine zq3 rfl rfl ?_ | refine zq4 rfl rfl rfl rfl (inc (by omega)) ?_ | refine zq5 rfl rfl rfl rfl rfl (by assumption) ?_ | refine zq6 rfl rfl (by assumption) ?_ | refine zq7 rfl rfl rfl ?_ | refine zq8 rfl rfl rfl ?_ | refine zq9 rfl rfl rfl rfl ?_ | refine wp_condT rfl ?_ | refine wp_condF rfl ?_ | refine wp_region ?_ | refine wp_seq ?_ | refine wp_skip ?_ | refine wp_exit ?_ | refine wp_block ?_)
  refine wp_loop (fun q T M H' => ∃ (i : Nat) (Y : List AV) (s : AV), q = n - i ∧ i ≤ n ∧ Keeps H H' ∧ H'.next ≤ H.next + 2 * i ∧ Gr H' 3 s (ivs (drawL key i)) ∧ (∀ b, s.own = some b → H.next ≤ b) ∧ M = [] ∧
      T = (iv key :: iv n :: lget Y 0 :: lget Y 1 :: .v (.slice none 0 0) :: iv 0 :: s :: iv (drawX key i) :: lget Y 2 :: lget Y 3 :: lget Y 4 :: lget Y 5 :: lget Y 6 :: lget Y 7 :: lget Y 8 :: lget Y 9 :: lget Y 10 :: lget Y 11 :: iv n :: iv (i : Nat) :: lget Y 12 :: lget Y 13 :: lget Y 14 :: lget Y 15 :: lget Y 16 :: lget Y 17 :: lget Y 18 :: lget Y 19 :: lget Y 20 :: lget Y 21 :: lget Y 22 :: lget Y 23 :: lget Y 24 :: lget Y 25 :: lget Y 26 :: [])) n
    ⟨0, [_,_,_,_,_,_,_,_,_,_,_,_,_,_,_,_,_,_,_,_,_,_,_,_,_,_,_], .v (.slice none 0 0), rfl, Nat.zero_le _, Keeps.refl H, Nat.le_refl _, .inl ⟨rfl, rfl⟩, (fun b hb => by cases hb), rfl, rfl⟩ ?_
  rintro q T M H1 ⟨i, Y, s, hq1, hi1, k1, n1, G1, ho1, rfl, rfl⟩
  repeat (first | refine wops_nil ?_ | refine zq1 rfl rfl ?_ | refine zq2 rfl rfl ?_ | refine zq3 rfl rfl ?_ | refine zq4 rfl rfl rfl rfl (inc (by omega)) ?_ | refine zq5 rfl rfl rfl rfl rfl (by assumption) ?_ | refine zq6 rfl rfl (by assumption) ?_ | refine zq7 rfl rfl rfl ?_ | refine zq8 rfl rfl rfl ?_ | refine zq9 rfl rfl rfl rfl ?_ | refine wp_condT rfl ?_ | refine wp_condF rfl ?_ | refine wp_region ?_ | refine wp_seq ?_ | refine wp_skip ?_ | refine wp_exit ?_ | refine wp_block ?_)
  refine wops_cons (wop_cmp rfl rfl rfl rfl rfl (fun h => ?_) (fun h => ?_))
  rotate_left
  · have h : ¬ ((i : Int) < n) := of_decide_eq_false h
    have e : i = n := by omega
    subst e
    repeat (first | refine wops_nil ?_ | refine zq1 rfl rfl ?_ | refine zq2 rfl rfl ?_ | refine zq3 rfl rfl ?_ | refine zq4 rfl rfl rfl rfl (inc (by omega)) ?_ | refine zq5 rfl rfl rfl rfl rfl (by assumption) ?_ | refine zq6 rfl rfl (by assumption) ?_ | refine zq7 rfl rfl rfl ?_ | refine zq8 rfl rfl rfl ?_ | refine zq9 rfl rfl rfl rfl ?_ | refine wp_condT rfl ?_ | refine wp_condF rfl ?_ | refine wp_region ?_ | refine wp_seq ?_ | refine wp_skip ?_ | refine wp_exit ?_ | refine wp_block ?_)
    refine wp_ret ?_
    exact ⟨_, _, rfl, hk H1 s k1 (by omega) G1.sl G1.old⟩
  have h : (i : Int) < n := of_decide_eq_true h
  have hx := drawX_range hkey i
  have hx2 := drawX_range hkey (i + 1)
  obtain ⟨hK1, hK2⟩ := drawK_le hkey i
  repeat (first | refine wops_nil ?_ | refine zq1 rfl rfl ?_ | refine zq2 rfl rfl ?_ | refine zq3 rfl rfl ?_ | refine zq4 rfl rfl rfl rfl (inc (by omega)) ?_ | refine zq5 rfl rfl rfl rfl rfl (by assumption) ?_ | refine zq6 rfl rfl (by assumption) ?_ | refine zq7 rfl rfl rfl ?_ | refine zq8 rfl rfl rfl ?_ | refine zq9 rfl rfl rfl rfl ?_ | refine wp_condT rfl ?_ | refine wp_condF rfl ?_ | refine wp_region ?_ | refine wp_seq ?_ | refine wp_skip ?_ | refine wp_exit ?_ | refine wp_block ?_)
  refine wops_cons (wop_bin (op := .mul) (v := .int .i64 (drawX key i * 39373)) rfl rfl rfl rfl ?_ ?_)
  · show some (Value.int .i64 (IntKind.i64.wrap (drawX key i * 39373))) = _
    rw [wrap_id (by omega) (by omega)]
  refine wops_cons (wop_rem rfl rfl rfl rfl (by decide) ?_)
  rw [show (drawX key i * 39373).tmod 2147483647 = drawX key (i + 1) from rfl]
  repeat (first | refine wops_nil ?_ | refine zq1 rfl rfl ?_ | refine zq2 rfl rfl ?_ | refine zq3 rfl rfl ?_ | refine zq4 rfl rfl rfl rfl (inc (by omega)) ?_ | refine zq5 rfl rfl rfl rfl rfl (by assumption) ?_ | refine zq6 rfl rfl (by assumption) ?_ | refine zq7 rfl rfl rfl ?_ | refine zq8 rfl rfl rfl ?_ | refine zq9 rfl rfl rfl rfl ?_ | refine wp_condT rfl ?_ | refine wp_condF rfl ?_ | refine wp_region ?_ | refine wp_seq ?_ | refine wp_skip ?_ | refine wp_exit ?_ | refine wp_block ?_)
  refine wops_cons (wop_rem rfl rfl rfl rfl (by omega) ?_)
  rw [show (drawX key (i + 1)).tmod ((i + 1 : Nat) : Int) = (drawK key i : Int) from hK1]
  repeat (first | refine wops_nil ?_ | refine zq1 rfl rfl ?_ | refine zq2 rfl rfl ?_ | refine zq3 rfl rfl ?_ | refine zq4 rfl rfl rfl rfl (inc (by omega)) ?_ | refine zq5 rfl rfl rfl rfl rfl (by assumption) ?_ | refine zq6 rfl rfl (by assumption) ?_ | refine zq7 rfl rfl rfl ?_ | refine zq8 rfl rfl rfl ?_ | refine zq9 rfl rfl rfl rfl ?_ | refine wp_condT rfl ?_ | refine wp_condF rfl ?_ | refine wp_region ?_ | refine wp_seq ?_ | refine wp_skip ?_ | refine wp_exit ?_ | refine wp_block ?_)
  have r1 : H1.next < 2 ^ 39 := by omega
  refine wops_cons (o_build1 rfl rfl rfl r1 ?_)
  have G2 : Gr (H1.add (.cells [iv i] 3 0)) 3 s (ivs (drawL key i)) := G1.frame (Nat.le_succ _) fun b hb => get_add_ne r1 (by have := G1.old b hb; omega)
  have k2 := k1.add (.cells [iv i] 3 0) r1
  refine wops_cons (wop_callF rfl rfl rfl (fn := Tryz.f65) (by rfl) ?_)
  refine ca_insert hi (H1.add (.cells [iv i] 3 0)) s (drawL key i) (drawK key i) i H1.next 1 3 G2 (get_add_eq r1) (by rw [drawL_length]; exact hK2) (by rw [drawL_length]; omega) (fun e => by have := G1.old _ e; omega) (by show H1.next + 1 + 1 ≤ _; omega) _ fun r H3 n3 gl3 g3 ho3 G3 => ⟨by rw [n3]; exact Nat.le_succ _, ?_⟩
  have n3 : H3.next = H1.next + 1 + 1 := n3
  repeat (first | refine wops_nil ?_ | refine zq1 rfl rfl ?_ | refine zq2 rfl rfl ?_ | refine zq3 rfl rfl ?_ | refine zq4 rfl rfl rfl rfl (inc (by omega)) ?_ | refine zq5 rfl rfl rfl rfl rfl (by assumption) ?_ | refine zq6 rfl rfl (by assumption) ?_ | refine zq7 rfl rfl rfl ?_ | refine zq8 rfl rfl rfl ?_ | refine zq9 rfl rfl rfl rfl ?_ | refine wp_condT rfl ?_ | refine wp_condF rfl ?_ | refine wp_region ?_ | refine wp_seq ?_ | refine wp_skip ?_ | refine wp_exit ?_ | refine wp_block ?_)
  refine ⟨n - (i + 1), by omega, i + 1, [_,_,_,_,_,_,_,_,_,_,_,_,_,_,_,_,_,_,_,_,_,_,_,_,_,_,_], r, rfl, by omega, ⟨by have := k1.nx; omega, gl3.trans k2.gl, fun b hb => ?_⟩, by omega, G3, fun b hb => ?_, rfl, rfl⟩
  · rw [g3 b (by show b ≠ H1.next + 1; have := k1.nx; omega) (fun e => by have := ho1 b e; omega)]
    exact k2.get b hb
  · have : b = H1.next + 1 := ho3 b hb
    have := k1.nx
    omega
end Go.Ev
namespace Go.Ev
section
variable {l : List Int} {total : Int}
structure Wts (l : List Int) (total : Int) : Prop where
  w0 : ∀ z ∈ l, 0 ≤ z
  t0 : 0 ≤ total
  s0 : 0 < sumL l
theorem Wts.quo_rem (h : Wts l total) {w : Int} (hw : w ∈ l) : 0 ≤ (total * w).tdiv (sumL l) ∧ 0 ≤ (total * w).tmod (sumL l) ∧ (total * w).tmod (sumL l) < sumL l ∧ (total * w).tdiv (sumL l) * sumL l + (total * w).tmod (sumL l) = total * w := by
  have h1 : 0 ≤ total * w := Int.mul_nonneg h.t0 (h.w0 w hw)
  exact ⟨Int.tdiv_nonneg h1 (Int.le_of_lt h.s0), Int.tmod_nonneg _ h1, Int.tmod_lt_of_pos _ h.s0, Int.tdiv_mul_add_tmod _ _⟩
theorem Wts.quo0 (h : Wts l total) : ∀ z ∈ quoL total (sumL l) l, 0 ≤ z := fun z hz => by
  obtain ⟨w, hw, rfl⟩ := List.mem_map.1 hz
  exact (h.quo_rem hw).1
theorem Wts.rem0 (h : Wts l total) : ∀ z ∈ remL total (sumL l) l, 0 ≤ z ∧ z < sumL l := fun z hz => by
  obtain ⟨w, hw, rfl⟩ := List.mem_map.1 hz
  exact ⟨(h.quo_rem hw).2.1, (h.quo_rem hw).2.2.1⟩
theorem Wts.left (h : Wts l total) : ∃ m : Nat, total - sumL (quoL total (sumL l) l) = m ∧ sumL (remL total (sumL l) l) = m * sumL l ∧ m ≤ l.length := by
  have e := quo_rem_sum (total := total) (sum := sumL l) l
  have hr0 : 0 ≤ sumL (remL total (sumL l) l) := sumL_nonneg fun z hz => (h.rem0 z hz).1
  have hr1 : sumL (remL total (sumL l) l) ≤ l.length * sumL l := by
    have := sumL_le (l := remL total (sumL l) l) (B := sumL l) fun z hz => Int.le_of_lt (h.rem0 z hz).2
    simpa [remL] using this
  have e : sumL (quoL total (sumL l) l) * sumL l + sumL (remL total (sumL l) l) = total * sumL l := e
  have e2 : (total - sumL (quoL total (sumL l) l)) * sumL l = sumL (remL total (sumL l) l) := by rw [Int.sub_mul]; omega
  have h0 : 0 ≤ total - sumL (quoL total (sumL l) l) := by
    rcases Int.lt_or_le (total - sumL (quoL total (sumL l) l)) 0 with hlt | hle
    · have := Int.mul_neg_of_neg_of_pos hlt h.s0
      omega
    · exact hle
  obtain ⟨m, hm⟩ := Int.eq_ofNat_of_zero_le h0
  refine ⟨m, hm, by rw [← e2, hm], ?_⟩
  rw [hm] at e2
  have : (m : Int) * sumL l ≤ l.length * sumL l := by rw [e2]; exact hr1
  have := Int.le_of_mul_le_mul_right this h.s0
  omega
theorem Wts.take (h : Wts l total) (i : Nat) : 0 ≤ total - sumL ((quoL total (sumL l) l).take i) := by
  obtain ⟨m, hm, _⟩ := h.left
  have := take_sum_le h.quo0 i
  omega
theorem Wts.quo_le (h : Wts l total) : ∀ z ∈ quoL total (sumL l) l, 0 ≤ z ∧ z ≤ total := fun z hz => by
  refine ⟨h.quo0 z hz, ?_⟩
  obtain ⟨i, hi⟩ := List.mem_iff_getElem?.1 hz
  have h1 := h.take (i + 1)
  rw [List.take_add_one, hi, sumL_append] at h1
  have h2 := sumL_nonneg (l := (quoL total (sumL l) l).take i) fun z hz => h.quo0 z (List.mem_of_mem_take hz)
  have h3 : sumL (some z).toList = z := by simp [sumL_cons, sumL_nil]
  omega
end
end Go.Ev
