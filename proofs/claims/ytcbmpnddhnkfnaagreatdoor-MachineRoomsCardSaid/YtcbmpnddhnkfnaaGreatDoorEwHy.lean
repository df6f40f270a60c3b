/- Part of an evaluator of calls that is proved sound, and of what it gives about this program. No condition of its own. -/
import Derived.Test.YtcbmpnddhnkfnaaGreatDoorEwHu
set_option linter.unusedVariables false
set_option linter.unusedSimpArgs false
set_option linter.unusedSectionVars false
set_option maxRecDepth 100000
set_option maxHeartbeats 4000000
namespace Go.Ev
open Go.Proofs
def four (n : Nat) : Prop := n = 4 ∨ n = 8 ∨ n = 12 ∨ n = 16 ∨ n = 20 ∨ n = 24 ∨ n = 28 ∨ n = 32 ∨ n = 36 ∨ n = 40 ∨ n = 44 ∨ n = 48 ∨ n = 52 ∨ n = 56 ∨ n = 60 ∨ n = 64
theorem four_of {g : Nat} (h1 : 1 ≤ g) (h2 : g ≤ 16) : four (4 * g) := by unfold four; omega
section
variable {O : CallF} {T : List AV} {H H0 : AH} {ops : Array Oper} {o : Oper} {i : Nat} {π : List Stp} {B : Nat → Prop}
theorem o_copy {K : AV → AH → Prop} {c : Call} {t e xt : TypeId} {d x : Operand} {b off n cap n0 : Nat} {cs vs : List AV} {el : TypeId} {g : Nat} (ho : o.op = .call c) (hg : wantedA o ops T = true) (hc : c.callee = .builtin .copy) (hargs : c.args.toList = [d, x]) (ht : c.argTypes.toList = [t, xt]) [hu : TyS t e] [hs : Cell e]
   (hd : av T d = .slc b off n cap) (hl : lenA (av T x) = some n0) (hf : firstA 1 (Nat.min n0 n) (av T x) H = some vs) (hgb : H.get b = some (.cells cs el g)) (hle : off + vs.length ≤ cs.length) (h1 : vs.all AV.one = true) (hm : Nat.min n0 n < 4611686018427387904)
   (hk : K (iv (Nat.min n0 n : Nat)) (H.set b (some (.cells (wr cs off vs) el g)))) : WOp (ENV O) ops o T H K := by
 refine wop_val (r := iv (Nat.min n0 n : Nat)) (H' := H.set b (some (.cells (wr cs off vs) el g))) (by rw [ho]; simp only [still, hc]) hg ?_ (Nat.le_refl _) hk
 unfold opEval; rw [ho]
 have h2 := hu.u
 have h3 := hs.s
 have hi : goInt (Nat.min n0 n : Nat) = .int .i64 (Nat.min n0 n : Nat) := rfl
 simp only [ENV, oCall, hc, oBuiltin, hargs, copyA, arg0 ht, h2, h3, hl, hd, hf, storeA, hgb]
 rw [if_pos (by rw [Nat.ble_eq_true_of_le hle, h1]; rfl), hi]
 rfl
theorem x_slFrom {K : List AV → AH → Prop} {t e : TypeId} {x l : Operand} {b n k : Nat} (h1 : ops.toList[i]? = some o) (ho : o.op = .slice t x (some l) none none) (hg : wantedA o ops T = true) [hu : TyS t e] [hs : Cell e] (hx : av T x = .slc b 0 n n) (hl : av T l = iv k) (hkn : k < n)
   (hk : WX (ENV O) ops H0 B π (putA T o.dst (.slc b k (n - k) (n - k))) H K) : WX (ENV O) ops H0 B (.mob i :: π) T H K := by
 refine x_mob h1 hg (r := .slc b k (n - k) (n - k)) ?_ (fun b hb => ?_) hk
 · unfold mobEval
   rw [ho]
   have h2 := hu.u
   have h3 := hs.s
   have hne : Nat.beq n k = false := by
     cases h : Nat.beq n k with
     | false => rfl
     | true => have := Nat.eq_of_beq_eq_true h; omega
   simp only [ENV, hx, isV, Bool.false_eq_true, if_false, sliceA, boundA, hl, natA, Option.map_some, h2, h3, Option.getD_none, Option.getD_some]
   rw [if_pos (by simp [Nat.ble_eq_true_of_le (show k ≤ n by omega)])]
   simp [hne]
 · unfold rdA at hb
   rw [ho] at hb
   simp only [hx] at hb
   cases hb
theorem x_slTo {K : List AV → AH → Prop} {t e : TypeId} {x l : Operand} {b n k : Nat} (h1 : ops.toList[i]? = some o) (ho : o.op = .slice t x none (some l) none) (hg : wantedA o ops T = true) [hu : TyS t e] [hs : Cell e] (hx : av T x = .slc b 0 n n) (hl : av T l = iv k) (hkn : k < n)
   (hk : WX (ENV O) ops H0 B π (putA T o.dst (.slc b 0 k n)) H K) : WX (ENV O) ops H0 B (.mob i :: π) T H K := by
 refine x_mob h1 hg (r := .slc b 0 k n) ?_ (fun b hb => ?_) hk
 · unfold mobEval
   rw [ho]
   have h2 := hu.u
   have h3 := hs.s
   simp only [ENV, hx, isV, Bool.false_eq_true, if_false, sliceA, boundA, hl, natA, Option.map_some, h2, h3, Option.getD_none, Option.getD_some]
   rw [if_pos (by simp [Nat.ble_eq_true_of_le (show k ≤ n by omega)])]
   simp
 · unfold rdA at hb
   rw [ho] at hb
   simp only [hx] at hb
   cases hb
end
variable {O : CallF} (hq : Quiet O)
include hq
theorem c218 (H : AH) (n : Nat) (hn : four n) (K : AV → AH → Prop) (hk : K (.tup [.v (.int .u64 0), .v (.int .u64 (n : Int))]) H) : Ca (ENV O) 219 [.v (.int .u64 1), .v (.int .u64 (n : Int))] H K := by
 refine ca_intro (hq _ _ _ rfl) (fn := Tryz.f219) (by rfl) rfl ?_
 repeat (first | apply qN | refine qM rfl rfl ?_ | apply qR | apply qS)
 refine wops_cons (wop_val (r := .v (.int .u64 1)) (H' := H) rfl rfl (by kernel_rfl) (Nat.le_refl _) ?_)
 repeat (first | apply qN | refine qM rfl rfl ?_ | apply qR | apply qS)
 refine wops_cons (wop_val (r := .v (.int .u64 0)) (H' := H) rfl rfl (by kernel_rfl) (Nat.le_refl _) ?_)
 repeat (first | apply qN | refine qM rfl rfl ?_ | apply qR | apply qS)
 refine wops_cons (wop_val (r := .v (.int .u64 (n : Int))) (H' := H) rfl rfl (by rcases hn with rfl | rfl | rfl | rfl | rfl | rfl | rfl | rfl | rfl | rfl | rfl | rfl | rfl | rfl | rfl | rfl <;> kernel_rfl) (Nat.le_refl _) ?_)
 repeat (first | apply qN | refine qM rfl rfl ?_ | apply qR | apply qS)
 refine wops_cons (wop_val (r := .v (.int .u64 0)) (H' := H) rfl rfl (by rcases hn with rfl | rfl | rfl | rfl | rfl | rfl | rfl | rfl | rfl | rfl | rfl | rfl | rfl | rfl | rfl | rfl <;> kernel_rfl) (Nat.le_refl _) ?_)
 repeat (first | apply qN | refine qM rfl rfl ?_ | apply qR | apply qS)
 refine wops_cons (wop_bin (v := .int .u64 (n : Int)) rfl rfl rfl rfl (by rcases hn with rfl | rfl | rfl | rfl | rfl | rfl | rfl | rfl | rfl | rfl | rfl | rfl | rfl | rfl | rfl | rfl <;> rfl) ?_)
 repeat (first | apply qN | refine qM rfl rfl ?_ | apply qR | apply qS)
 refine wops_cons (wop_bin (v := .int .u64 0) rfl rfl rfl rfl (by rcases hn with rfl | rfl | rfl | rfl | rfl | rfl | rfl | rfl | rfl | rfl | rfl | rfl | rfl | rfl | rfl | rfl <;> rfl) ?_)
 repeat (first | refine qM rfl rfl ?_)
 refine wops_cons (wop_val (r := .v (.int .u64 0)) (H' := H) rfl rfl (by rcases hn with rfl | rfl | rfl | rfl | rfl | rfl | rfl | rfl | rfl | rfl | rfl | rfl | rfl | rfl | rfl | rfl <;> kernel_rfl) (Nat.le_refl _) ?_)
 skip
 refine wops_cons (wop_bin (v := .int .u64 0) rfl rfl rfl rfl rfl ?_)
 repeat (first | apply qN | refine qM rfl rfl ?_ | apply qR | apply qS)
 refine wops_cons (wop_val (r := .v (.int .u64 0)) (H' := H) rfl rfl (by kernel_rfl) (Nat.le_refl _) ?_)
 repeat (first | apply qN | refine qM rfl rfl ?_ | apply qR | apply qS)
 refine wops_cons (wop_val (r := .v (.int .u64 0)) (H' := H) rfl rfl (by kernel_rfl) (Nat.le_refl _) ?_)
 repeat (first | apply qN | refine qM rfl rfl ?_ | apply qR | apply qS)
 refine wops_cons (wop_bin (v := .int .u64 0) rfl rfl rfl rfl rfl ?_)
 skip
 refine wops_cons (wop_bin (v := .int .u64 0) rfl rfl rfl rfl rfl ?_)
 repeat (first | apply qN | refine qM rfl rfl ?_ | apply qR | apply qS)
 refine wops_cons (wop_bin (v := .int .u64 0) rfl rfl rfl rfl rfl ?_)
 repeat (first | refine qM rfl rfl ?_)
 refine wops_cons (wop_bin (v := .int .u64 0) rfl rfl rfl rfl rfl ?_)
 repeat (first | refine qM rfl rfl ?_)
 refine wops_cons (wop_val (r := .v (.int .u64 0)) (H' := H) rfl rfl (by kernel_rfl) (Nat.le_refl _) ?_)
 skip
 refine wops_cons (wop_bin (v := .int .u64 0) rfl rfl rfl rfl rfl ?_)
 repeat (first | apply qN | refine qM rfl rfl ?_ | apply qR | apply qS)
 refine wops_cons (wop_bin (v := .int .u64 (n : Int)) rfl rfl rfl rfl (by rcases hn with rfl | rfl | rfl | rfl | rfl | rfl | rfl | rfl | rfl | rfl | rfl | rfl | rfl | rfl | rfl | rfl <;> rfl) ?_)
 repeat (first | apply qN | refine qM rfl rfl ?_)
 refine wp_ret ?_
 exact ⟨_, _, rfl, hk⟩
theorem c193 (H : AH) (n : Nat) (hn : four n) (K : AV → AH → Prop) (hk : K (.tup [.v (.int .u64 0), .v (.int .u64 (n : Int))]) H) : Ca (ENV O) 194 [.v (.int .u64 1), .v (.int .u64 (n : Int))] H K := by
 refine ca_intro (hq _ _ _ rfl) (fn := Tryz.f194) (by rfl) rfl ?_
 repeat (first | apply qN | refine qM rfl rfl ?_ | refine qF rfl ?_ | apply qR | apply qS | apply qK)
 refine wops_cons (wop_callF rfl rfl rfl (fn := Tryz.f219) (by rfl) ?_)
 refine c218 hq H n hn _ ⟨Nat.le_refl _, ?_⟩
 repeat (first | apply qN | refine qM rfl rfl ?_ | refine zq9 rfl rfl rfl rfl ?_ | apply qR | apply qS)
 refine wp_ret ?_
 exact ⟨_, _, rfl, hk⟩
theorem c172 (H : AH) (bx : Nat) (z : Int) (n : Nat) (hn4 : four n) (hbx : bx < H.next) (hx : H.get bx = some (.cells [iv z] 3 0)) (hr : H.next + 10 < 2 ^ 39) (K : AV → AH → Prop) (hk : ∀ H', Keeps H H' → H'.next = H.next + 1 → H'.get H.next = some (.cells (ivs (List.replicate n z)) 3 0) → K (.slc H.next 0 n n) H') : Ca (ENV O) 173 [.slc bx 0 1 1, iv (n : Nat)] H K := by
 have hn : 4 ≤ n ∧ n ≤ 64 := by unfold four at hn4; omega
 have r0 : H.next < 2 ^ 39 := by omega
 have hsl : Sl H (.slc bx 0 1 1) (ivs [z]) := ⟨rfl, by omega, _, _, _, hx, fun j v hv => by rw [Nat.zero_add]; exact hv⟩
 refine ca_intro (hq _ _ _ rfl) (fn := Tryz.f173) (by rfl) rfl ?_
 repeat (first | apply qN | refine qM rfl rfl ?_ | apply qR | apply qS)
 refine wops_cons (wop_cmp rfl rfl rfl rfl rfl (fun h => ?_) (fun h => ?_))
 · exact absurd (of_decide_eq_true h : ((n : Int) < 0)) (by omega)
 clear h
 repeat (first | apply qN | refine qM rfl rfl ?_ | refine zq5 rfl rfl rfl rfl rfl ‹_› ?_ | refine qF rfl ?_ | apply qR | apply qS | apply qK)
 refine wops_cons (wop_val (r := .v (.int .u64 1)) (H' := H) rfl rfl (by kernel_rfl) (Nat.le_refl _) ?_)
 repeat (first | refine qM rfl rfl ?_)
 refine wops_cons (wop_val (r := .v (.int .u64 (n : Int))) (H' := H) rfl rfl ?_ (Nat.le_refl _) ?_)
 · rcases hn4 with rfl | rfl | rfl | rfl | rfl | rfl | rfl | rfl | rfl | rfl | rfl | rfl | rfl | rfl | rfl | rfl <;> kernel_rfl
 refine wops_cons (wop_callF rfl rfl rfl (fn := Tryz.f194) (by rfl) ?_)
 refine c193 hq H n hn4 _ ⟨Nat.le_refl _, ?_⟩
 repeat (first | apply qN | refine qM rfl rfl ?_ | refine zq9 rfl rfl rfl rfl ?_ | apply qR | apply qS)
 refine wops_cons (wop_cmp rfl rfl rfl rfl rfl (fun h => ?_) (fun h => ?_))
 · exact absurd (of_decide_eq_true h : ((0 : Int) > 0)) (by omega)
 clear h
 repeat (first | refine qM rfl rfl ?_)
 refine wops_cons (wop_cmp rfl rfl rfl rfl rfl (fun h => ?_) (fun h => ?_))
 · exact absurd (of_decide_eq_true h : ((n : Int) > 9223372036854775807)) (by omega)
 clear h
 repeat (first | apply qN | refine qM rfl rfl ?_ | refine zq7 rfl rfl rfl ?_ | refine qF rfl ?_ | apply qR | apply qS | apply qK)
 refine wops_cons (wop_val (r := iv (n : Int)) (H' := H) rfl rfl ?_ (Nat.le_refl _) ?_)
 · rcases hn4 with rfl | rfl | rfl | rfl | rfl | rfl | rfl | rfl | rfl | rfl | rfl | rfl | rfl | rfl | rfl | rfl <;> kernel_rfl
 refine wops_cons (o_make (n := n) rfl rfl rfl rfl (by omega) r0 ?_)
 refine WOps.mem (fun H1 => Keeps H H1 ∧ H1.next = H.next + 1 ∧ H1.get H.next = some (.cells (ivs (List.replicate n 0)) 3 0)) ⟨(Keeps.refl H).add _ r0, rfl, by rw [get_add_eq r0, ivs_rep]⟩ ?_
 rintro H1 ⟨k1, n1, g1⟩
 repeat (first | apply qN | refine qM rfl rfl ?_ | apply qR | apply qS)
 have hx1 := (k1.get bx hbx).trans hx
 refine wops_cons (o_copy (n0 := 1) (vs := [iv z]) rfl rfl rfl rfl rfl rfl rfl ?_ g1 (by rw [ivs_length, List.length_replicate]; show 0 + 1 ≤ n; omega) rfl (Nat.lt_of_le_of_lt (Nat.min_le_left _ _) (by decide)) ?_)
 · show firstA 1 (Nat.min 1 n) (.slc bx 0 1 1) H1 = _
   rw [show Nat.min 1 n = 1 from Nat.min_eq_left (by omega)]
   unfold firstA
   simp only [hx1]
   rfl
 rw [show Nat.min 1 n = 1 from Nat.min_eq_left (by omega)]
 refine WOps.mem (fun H1 => Keeps H H1 ∧ H1.next = H.next + 1 ∧ H1.get H.next = some (.cells (ivs (List.replicate 1 z ++ List.replicate (n - 1) 0)) 3 0)) ⟨k1.set _ (Nat.le_refl _) r0, n1, ?_⟩ ?_
 · rw [get_set_eq r0]
   congr 2
   unfold wr
   obtain ⟨k, hk⟩ : ∃ k, n = k + 1 := ⟨n - 1, by omega⟩
   subst hk
   simp [ivs, List.replicate_succ]
 clear k1 n1 g1 hx1 H1
 rintro H1 ⟨k1, n1, g1⟩
 repeat (first | apply qN | refine qM rfl rfl ?_ | apply qS | apply qB)
 refine wp_loop (fun q T M H' => ∃ (i : Nat) (Y : List AV), q = n - i ∧ 1 ≤ i ∧ i ≤ n ∧ Keeps H H' ∧ H'.next = H.next + 1 ∧ H'.get H.next = some (.cells (ivs (List.replicate i z ++ List.replicate (n - i) 0)) 3 0) ∧ M = [] ∧ T = (lget Y 0 :: lget Y 1 :: lget Y 2 :: lget Y 3 :: lget Y 4 :: lget Y 5 :: lget Y 6 :: .slc H.next 0 n n :: iv (i : Nat) :: lget Y 7 :: lget Y 8 :: lget Y 9 :: lget Y 10 :: lget Y 11 :: lget Y 12 :: lget Y 13 :: lget Y 14 :: lget Y 15 :: lget Y 16 :: lget Y 17 :: lget Y 18 :: lget Y 19 :: lget Y 20 :: lget Y 21 :: lget Y 22 :: lget Y 23 :: lget Y 24 :: lget Y 25 :: lget Y 26 :: lget Y 27 :: lget Y 28 :: lget Y 29 :: lget Y 30 :: lget Y 31 :: lget Y 32 :: lget Y 33 :: lget Y 34 :: lget Y 35 :: lget Y 36 :: lget Y 37 :: lget Y 38 :: lget Y 39 :: lget Y 40 :: lget Y 41 :: lget Y 42 :: lget Y 43 :: lget Y 44 :: lget Y 45 :: [])) (n - 1)
   ⟨1, [_,_,_,_,_,_,_,_,_,_,_,_,_,_,_,_,_,_,_,_,_,_,_,_,_,_,_,_,_,_,_,_,_,_,_,_,_,_,_,_,_,_,_,_,_,_], rfl, Nat.le_refl _, by omega, k1, n1, g1, rfl, rfl⟩ ?_
 rintro q T M H2 ⟨i, Y, hq1, hi1, hi, k2, n2, g2, rfl, rfl⟩
 have hlen : (List.replicate i z ++ List.replicate (n - i) (0 : Int)).length = n := by rw [List.length_append, List.length_replicate, List.length_replicate]; omega
 have hsl2 : Sl H2 (.slc H.next 0 n n) (ivs (List.replicate i z ++ List.replicate (n - i) 0)) := ⟨by rw [ivs_length, hlen], by omega, _, _, _, g2, fun j v hv => by rw [Nat.zero_add]; exact hv⟩
 repeat (first | refine qM rfl rfl ?_ | refine zq5 rfl rfl rfl rfl rfl ‹_› ?_ | apply qR | apply qS)
 rw [hlen]
 refine wops_cons (wop_cmp rfl rfl rfl rfl rfl (fun h => ?_) (fun h => ?_))
 rotate_left
 · have h : ¬ ((i : Int) < (n : Nat)) := of_decide_eq_false h
   have e : i = n := by omega
   subst e
   rw [Nat.sub_self, List.replicate_zero, List.append_nil] at g2
   repeat (first | apply qN | refine qM rfl rfl ?_ | refine qF rfl ?_ | apply qR | apply qS | apply qE)
   refine wp_ret ?_
   exact ⟨_, _, rfl, hk _ k2 n2 g2⟩
 have h : (i : Int) < (n : Nat) := of_decide_eq_true h
 have hin : i < n := by omega
 clear hsl2
 repeat (first | apply qN | refine qT rfl ?_ | apply qK | apply qB)
 refine wp_drawX (fun _ => False) (fun _ h => h.elim) rfl ?_
 refine x_move rfl rfl rfl ?_
 refine x_move rfl rfl rfl ?_
 refine x_move rfl rfl rfl ?_
 refine x_slFrom rfl rfl rfl rfl rfl hin ?_
 refine x_move rfl rfl rfl ?_
 refine x_move rfl rfl rfl ?_
 refine x_slTo rfl rfl rfl rfl rfl hin ?_
 have hmin : Nat.min i (n - i) = min i (n - i) := rfl
 have hml : min i (n - i) ≤ i ∧ min i (n - i) ≤ n - i := ⟨Nat.min_le_left _ _, Nat.min_le_right _ _⟩
 have hm1 : 1 ≤ min i (n - i) := by omega
 refine x_loud rfl rfl (o_copy (n0 := i) (vs := ivs (List.replicate (min i (n - i)) z)) rfl rfl rfl rfl rfl rfl rfl ?_ g2 ?_ ?_ (by rw [hmin]; omega) ⟨fun b hb => hb.elim, ?_⟩)
 · show firstA 1 (Nat.min i (n - i)) (.slc H.next 0 i n) H2 = _
   unfold firstA
   simp only [g2, hmin]
   rw [if_pos (Nat.ble_eq_true_of_le (by rw [ivs_length, hlen]; omega))]
   congr 1
   rw [List.drop_zero, Nat.mul_one]
   simp only [ivs, ← List.map_take]
   congr 1
   rw [List.take_append_of_le_length (by rw [List.length_replicate]; omega), List.take_replicate]
   congr 1; omega
 · rw [ivs_length, ivs_length, hlen, List.length_replicate]; omega
 · rw [List.all_eq_true]
   intro v hv
   obtain ⟨w, _, rfl⟩ := List.mem_map.1 hv
   rfl
 rw [hmin]
 refine x_bin (v := .int .i64 ((i + min i (n - i) : Nat) : Int)) rfl rfl rfl rfl rfl ?_ ?_
 · show some (Value.int .i64 (IntKind.i64.wrap ((i : Int) + (min i (n - i) : Nat)))) = _
   rw [wrap_id (by omega) (by omega)]
   rfl
 refine x_assign rfl rfl rfl ?_
 refine x_nil ?_
 refine ⟨n - (i + min i (n - i)), by omega, i + min i (n - i), [_,_,_,_,_,_,_,_,_,_,_,_,_,_,_,_,_,_,_,_,_,_,_,_,_,_,_,_,_,_,_,_,_,_,_,_,_,_,_,_,_,_,_,_,_,_], rfl, by omega, by omega, k2.set _ (Nat.le_refl _) r0, n2, ?_, rfl, rfl⟩
 rw [get_set_eq r0]
 congr 2
 unfold wr
 simp only [ivs, ← List.map_take, ← List.map_drop, ← List.map_append, List.length_map, List.length_replicate]
 congr 1
 rw [List.take_append_of_le_length (by rw [List.length_replicate]; omega), List.take_replicate, Nat.min_self, List.drop_append, List.drop_replicate, List.drop_replicate, List.length_replicate, show i - (i + min i (n - i)) = 0 by omega, show n - i - (i + min i (n - i) - i) = n - (i + min i (n - i)) by omega, List.replicate_zero, List.nil_append, List.append_assoc, ← List.append_assoc, List.replicate_append_replicate]
end Go.Ev
namespace Go.Ev
open Go.Proofs
def cinL (n : Nat) (l : List Int) : Nat → List Int
 | 0 => List.replicate n (-1)
 | i + 1 => (cinL n l i).set (l.getD i 0).toNat (i : Int)
theorem cinL_length (n : Nat) (l : List Int) : ∀ i, (cinL n l i).length = n
 | 0 => List.length_replicate
 | i + 1 => by show ((cinL n l i).set _ _).length = _; rw [List.length_set]; exact cinL_length n l i
theorem cinL_spec {n : Nat} {l : List Int} (hl : ∀ z ∈ l, 0 ≤ z ∧ z < (n : Int)) : ∀ i, i ≤ l.length → ∀ s : Nat, s < n → ∃ v, (cinL n l i)[s]? = some v ∧ (v ≠ -1 ↔ (s : Int) ∈ l.take i)
 | 0, _, s, hs => ⟨-1, by show (List.replicate n (-1 : Int))[s]? = _; rw [List.getElem?_replicate, if_pos hs], by simp⟩
 | i + 1, hi, s, hs => by
   obtain ⟨z, hz⟩ := l_some (show i < l.length by omega)
   have hzb := hl z (List.mem_of_getElem? hz)
   have hzd : l.getD i 0 = z := by rw [List.getD_eq_getElem?_getD, hz]; rfl
   show ∃ v, ((cinL n l i).set (l.getD i 0).toNat (i : Int))[s]? = some v ∧ _
   rw [hzd, ← take_snoc hz]
   by_cases e : z.toNat = s
   · refine ⟨(i : Int), ?_, ?_⟩
     · rw [e, List.getElem?_set_self (by rw [cinL_length]; exact hs)]
     · have : z = (s : Int) := by omega
       simp [this]
   · obtain ⟨v, h1, h2⟩ := cinL_spec hl i (by omega) s hs
     refine ⟨v, ?_, ?_⟩
     · rw [List.getElem?_set_ne e]; exact h1
     · rw [h2, List.mem_append]
       have : ¬ (s : Int) = z := by omega
       simp [this]
variable {O : CallF} (hq : Quiet O)
include hq
theorem c139 (H : AH) (a x y : AV) (m : Mc) (l : List Int) (n : Nat) (ha : a.cells = mc m x) (hg : m.g = n) (hn1 : 1 ≤ n) (hn : n ≤ 16) (hy : Sl H y (ivs l)) (hoy : Old H y) (hl : ∀ z ∈ l, 0 ≤ z ∧ z < ((4 * n : Nat) : Int)) (hll : l.length ≤ 100000) (hr : H.next + 20 < 2 ^ 39)
   (K : AV → AH → Prop) (hk : ∀ H' r, Keeps H H' → H'.next = H.next + 3 → Nw H' r (cinL (4 * n) l l.length) → K r H') : Ca (ENV O) 140 [a, y] H K := by
 refine ca_intro (hq _ _ _ rfl) (fn := Tryz.f140) (by rfl) rfl ?_
 repeat (first | apply qR | apply qS)
 refine wops_cons (o_boxM rfl rfl ha (by omega) fun H1 n1 k1 b1 => ?_)
 have hp1 := b1.p1
 rw [hg] at hp1
 repeat (first | apply qN | refine qM rfl rfl ?_ | apply qR | apply qS)
 have r1 : H1.next < 2 ^ 39 := by omega
 refine wops_cons (o_build1 rfl rfl rfl r1 ?_)
 refine WOps.mem (fun H2 => Keeps H H2 ∧ H2.next = H.next + 2 ∧ Bx H2 H.next 24 m x ∧ H2.get (H.next + 1) = some (.cells [iv (-1)] 3 0)) ⟨k1.add _ r1, by show H1.next + 1 = _; omega, b1.keep (by omega) ((Keeps.refl H1).add _ r1), by rw [show H.next + 1 = H1.next by omega]; exact get_add_eq r1⟩ ?_
 rintro H2 ⟨k2, n2, b2, g2⟩
 rw [show H1.next = H.next + 1 by omega]
 clear hp1
 have hp1 := b2.p1
 rw [hg] at hp1
 repeat (first | refine zqa rfl rfl rfl ?_ | refine zq6 rfl rfl ‹_› ?_)
 refine wops_cons (wop_bin (op := .mul) (v := .int .i64 ((4 * n : Nat) : Int)) rfl rfl rfl rfl ?_ ?_)
 · rw [mul4 (by omega)]; congr 2
 refine wops_cons (wop_callF rfl rfl rfl (fn := Tryz.f173) (by rfl) ?_)
 refine c172 hq H2 (H.next + 1) (-1) (4 * n) (four_of hn1 hn) (by omega) g2 (by omega) _ fun H3 k3 n3 g3 => ⟨k3.nx, ?_⟩
 have k03 := k2.trans k3
 have hy3 := hy.keep hoy k03
 have hb39 : H2.next < 2 ^ 39 := by omega
 have hbn : H.next ≤ H2.next := by omega
 repeat (first | apply qN | refine qM rfl rfl ?_ | refine zq5 rfl rfl rfl rfl rfl ‹_› ?_ | apply qR | apply qS | apply qB)
 rw [n2] at g3 hb39 hbn ⊢
 refine wp_loop (fun q T M H' => ∃ (i : Nat) (Y : List AV), q = l.length - i ∧ i ≤ l.length ∧ Keeps H H' ∧ H'.next = H.next + 3 ∧ H'.get (H.next + 2) = some (.cells (ivs (cinL (4 * n) l i)) 3 0) ∧ M = [] ∧ T = (lget Y 0 :: lget Y 1 :: lget Y 2 :: lget Y 3 :: lget Y 4 :: .slc (H.next + 2) 0 (4 * n) (4 * n) :: lget Y 5 :: lget Y 6 :: lget Y 7 :: lget Y 8 :: lget Y 9 :: lget Y 10 :: lget Y 11 :: y :: iv l.length :: iv (i : Nat) :: lget Y 12 :: lget Y 13 :: lget Y 14 :: lget Y 15 :: lget Y 16 :: lget Y 17 :: lget Y 18 :: lget Y 19 :: lget Y 20 :: lget Y 21 :: [])) l.length
   ⟨0, [_,_,_,_,_,_,_,_,_,_,_,_,_,_,_,_,_,_,_,_,_,_], rfl, Nat.zero_le _, k03, by omega, g3, rfl, rfl⟩ ?_
 rintro q T M H4 ⟨i, Y, hq1, hi, k4, n4, g4, rfl, rfl⟩
 have hy4 := hy.keep hoy k4
 repeat (first | apply qR | apply qS)
 refine wops_cons (wop_cmp rfl rfl rfl rfl rfl (fun h => ?_) (fun h => ?_))
 rotate_left
 · have h : ¬ ((i : Int) < l.length) := of_decide_eq_false h
   have e : i = l.length := by omega
   subst e
   repeat (first | apply qN | refine qM rfl rfl ?_ | refine qF rfl ?_ | apply qR | apply qS | apply qE)
   refine wp_ret ?_
   exact ⟨_, _, rfl, hk H4 _ k4 n4 ⟨H.next + 2, by rw [cinL_length]; rfl, by omega, hb39, g4⟩⟩
 have h : (i : Int) < l.length := of_decide_eq_true h
 obtain ⟨z, hz⟩ := l_some (show i < l.length by omega)
 have hzb := hl z (List.mem_of_getElem? hz)
 have hzd : l.getD i 0 = z := by rw [List.getD_eq_getElem?_getD, hz]; rfl
 repeat (first | apply qN | refine qM rfl rfl ?_ | refine qT rfl ?_ | apply qR | apply qS | apply qK | apply qB)
 refine wops_cons (o_indexI rfl rfl hy4 rfl hz fun p hp => ?_)
 repeat (first | apply qN | refine qM rfl rfl ?_ | refine zq6 rfl rfl ‹_› ?_ | apply qR)
 have hj : z = (z.toNat : Int) := by omega
 refine wops_cons (o_indexOwn (j := z.toNat) rfl rfl rfl (congrArg iv hj) (show z.toNat < 4 * n by omega) ?_)
 refine wops_cons (o_store rfl rfl rfl g4 (by rw [ivs_length, cinL_length]; omega) rfl ?_)
 refine WOps.mem (fun H5 => Keeps H H5 ∧ H5.next = H.next + 3 ∧ H5.get (H.next + 2) = some (.cells (ivs (cinL (4 * n) l (i + 1))) 3 0)) ⟨k4.set _ (by omega) hb39, n4, ?_⟩ ?_
 · refine (get_set_eq hb39).trans ?_
   rw [show cinL (4 * n) l (i + 1) = (cinL (4 * n) l i).set (l.getD i 0).toNat (i : Int) from rfl, hzd, ← ivs_set]
   rfl
 rintro H5 ⟨k5, n5, g5⟩
 repeat (first | apply qN | refine qM rfl rfl ?_ | refine zq4 rfl rfl rfl rfl (inc (by omega)) ?_ | apply qR)
 exact ⟨l.length - (i + 1), by omega, i + 1, [_,_,_,_,_,_,_,_,_,_,_,_,_,_,_,_,_,_,_,_,_,_], rfl, by omega, k5, n5, g5, rfl, rfl⟩
end Go.Ev
