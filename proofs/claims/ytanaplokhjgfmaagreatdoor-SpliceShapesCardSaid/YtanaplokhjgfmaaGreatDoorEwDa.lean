/- Part of an evaluator of calls that is proved sound, and of what it gives about this program. No condition of its own. -/
import Derived.Test.YtanaplokhjgfmaaGreatDoorEwRx
set_option linter.unusedVariables false
set_option linter.unusedSimpArgs false
set_option linter.unusedSectionVars false
set_option maxRecDepth 100000
set_option maxHeartbeats 4000000
namespace Go.Ev
open Go.Proofs
theorem subN {a b : Nat} (h : b ≤ a) (ha : a ≤ 4000000) : binI .sub .i64 .i64 (a : Int) (b : Int) = some (.int .i64 ((a - b : Nat) : Int)) := by
 show some (Value.int .i64 (IntKind.i64.wrap ((a : Int) - b))) = _
 rw [wrap_id (by omega) (by omega)]
 congr 2
 omega
theorem mulN {a b : Nat} (h : a * b ≤ 4000000) : binI .mul .i64 .i64 (a : Int) (b : Int) = some (.int .i64 ((a * b : Nat) : Int)) := by
 show some (Value.int .i64 (IntKind.i64.wrap ((a : Int) * b))) = _
 have e : (a : Int) * (b : Int) = ((a * b : Nat) : Int) := (Int.natCast_mul a b).symm
 rw [e]
 generalize a * b = m at h
 rw [wrap_id (by omega) (by omega)]
section
variable {O : CallF} {T : List AV} {H H0 : AH} {ops : Array Oper} {o : Oper} {i : Nat} {π : List Stp} {K : AV → AH → Prop} {B : Nat → Prop}
theorem o_max {c : Call} {x y : Operand} {a b : Int} (ho : o.op = .call c) (hg : wantedA o ops T = true) (hc : c.callee = .builtin .max) (hargs : c.args.toList = [x, y]) (hx : av T x = iv a) (hy : av T y = iv b) (hk : K (iv (if b > a then b else a)) H) : WOp (ENV O) ops o T H K := by
 refine wop_val (by rw [ho]; simp only [still, hc]) hg (r := iv (if b > a then b else a)) ?_ (Nat.le_refl _) hk
 unfold opEval; rw [ho]
 simp only [ENV, oCall, hc, oBuiltin]
 unfold plainOp
 have h2 : runPure Tryz.prog (execOp (fun x => ((av T x).plain).getD undef) o) = some (.value (.int .i64 (if b > a then b else a))) := by
   obtain ⟨dst, op', type, pos, after, guard⟩ := o
   simp only at ho
   subst ho
   obtain ⟨callee, args, ats⟩ := c
   simp only at hc hargs
   subst hc
   have ha : args = #[x, y] := by apply Array.ext'; simpa using hargs
   subst ha
   simp only [execOp, Go.resolve, runPure_bind, runPure_pure, Option.bind_some, Go.invoke, Go.builtin, Builtin.max_, Builtin.max2, List.map_toArray, List.map_cons, List.map_nil, hx, hy, AV.plain, Option.getD_some, List.foldlM_cons, List.foldlM_nil]
 rw [h2, ho]
 obtain ⟨callee, args, ats⟩ := c
 simp only at hc hargs
 subst hc
 have ha : args = #[x, y] := by apply Array.ext'; simpa using hargs
 subst ha
 simp [Op.operands, Call.operands, hx, hy, AV.plain]
theorem x_load {t : TypeId} {x : Operand} {v : AV} {K : List AV → AH → Prop} (h1 : ops.toList[i]? = some o) (ho : o.op = .load t x) (hg : wantedA o ops T = true) [ha : Cell t] (hx : At H0 (av T x) v) (hL : ∀ b, (av T x).own = some b → B b)
   (hk : WX (ENV O) ops H0 B π (putA T o.dst v) H K) : WX (ENV O) ops H0 B (.mob i :: π) T H K := by
 obtain ⟨o', r', h1', h2, h3⟩ := d_load (O := O) (H0 := H0) (H := H) (π := []) (K := fun T' _ => T' = putA T o.dst v) h1 ho hg hx rfl
 rw [h1] at h1'; cases h1'
 have h3 : putA T o.dst r' = putA T o.dst v := h3
 rcases h2 with ⟨h2, _⟩ | ⟨h2, h4⟩
 · rw [hg] at h2; cases h2
 · refine ⟨o, r', h1, .inr ⟨hg, h4, fun b hb => hL b (rdA_load ho hb)⟩, ?_⟩
   rw [h3]; exact hk
theorem x_bin {op : BinOp} {t yt : TypeId} {x y : Operand} {k : IntKind} {a b : Int} {v : Value} {K : List AV → AH → Prop} (h1 : ops.toList[i]? = some o) (ho : o.op = .binOp op t x y yt) (hg : wantedA o ops T = true) (hx : av T x = .v (.int k a)) (hy : av T y = .v (.int k b)) (hv : binI op k k a b = some v) (hk : WX (ENV O) ops H0 B π (putA T o.dst (.v v)) H K) : WX (ENV O) ops H0 B (.mob i :: π) T H K :=
 x_0 (r := .v v) h1 (by unfold looksB; rw [ho]) hg (wd_bin h1 ho hg hx hy hv rfl) hk
end
theorem load2 {H : AH} {b : Nat} {t : TypeId} {x y : AV} [hs : Stru t 2] (h : H.get b = some (.cells [x, y] t 0)) : loadA Tryz.prog t b 0 H = some (.agg [x, y]) := by
 have h1 := hs.a
 have h2 := hs.s
 unfold loadA
 rw [h]
 simp only [h1, h2]
 rfl
def mN (f l R k : Nat) : Nat := (f * (R - k) + l * k) / R
theorem mN_bd {f l R k : Nat} (hf : f ≤ 500) (hl : l ≤ 500) (hR : R ≤ 64) (hk : k ≤ R) : f * (R - k) ≤ 32000 ∧ l * k ≤ 32000 :=
 ⟨Nat.le_trans (Nat.mul_le_mul hf (show R - k ≤ 64 by omega)) (by decide), Nat.le_trans (Nat.mul_le_mul hl (show k ≤ 64 by omega)) (by decide)⟩
def nums (n : Nat) : List Int := (List.range n).map fun (i : Nat) => (i : Int)
theorem nums_len (n : Nat) : (nums n).length = n := by simp [nums]
theorem nums_get {n i : Nat} (h : i < n) : (nums n)[i]? = some (i : Int) := by simp [nums, h]
def rwN (a b : Nat) : Int × Int := (((b - a : Nat) : Int), ((a - b : Nat) : Int))
theorem mx0 {a b : Nat} : (if (0 : Int) > (b : Int) - (a : Int) then (0 : Int) else (b : Int) - (a : Int)) = ((b - a : Nat) : Int) := by
 split <;> omega
variable {O : CallF} (hq : Quiet O)
include hq
theorem cMesh (H : AH) (n : Int) (K : AV → AH → Prop) (hk : K (iv (if inB n 1 500 = true then 0 else 3)) H) : Ca (ENV O) 84 [iv n] H K := by
 refine ca_intro (hq _ _ _ rfl) (fn := Tryz.f84) (by rfl) rfl ?_
 repeat (first | apply qN | refine qM rfl rfl ?_ | apply qR | apply qS)
 refine wops_cons (wop_callF rfl rfl rfl (fn := Tryz.f69) (by rfl) ?_)
 refine cRange hq H n 1 500 _ ⟨Nat.le_refl _, ?_⟩
 repeat (first | apply qN | refine qM rfl rfl ?_)
 refine wp_ret ?_
 exact ⟨_, _, rfl, hk⟩
theorem cNumbers (H : AH) (n : Nat) (hn : n ≤ 1000) (hr : H.next + 10 < 2 ^ 59) (K : AV → AH → Prop) (hk : ∀ H', Keeps H H' → H'.next = H.next + 1 → H'.get H.next = some (.cells (ivs (nums n)) 3 0) → K (.slc H.next 0 n n) H') : Ca (ENV O) 86 [iv (n : Nat)] H K := by
 refine ca_intro (hq _ _ _ rfl) (fn := Tryz.f86) (by rfl) rfl ?_
 have r0 : H.next < 2 ^ 59 := by omega
 repeat (first | apply qN | refine qM rfl rfl ?_ | apply qR | apply qS)
 refine wops_cons (o_make (n := n) rfl rfl rfl rfl (by omega) r0 ?_)
 refine WOps.mem (fun H1 => Keeps H H1 ∧ H1.next = H.next + 1 ∧ H1.get H.next = some (.cells (ivs (List.replicate n 0)) 3 0)) ⟨(Keeps.refl H).add _ r0, rfl, ?_⟩ ?_
 · rw [← ivs_rep]; exact get_add_eq r0
 rintro H1 ⟨k1, n1, g1⟩
 have hS1 : Sl H1 (.slc H.next 0 n n) (ivs (List.replicate n 0)) := ⟨by simp [ivs], r0, _, _, _, g1, fun j v hv => by rw [Nat.zero_add]; exact hv⟩
 repeat (first | apply qN | refine qM rfl rfl ?_ | refine zq5 rfl rfl rfl rfl rfl ‹_› ?_ | apply qR | apply qS | apply qB)
 rw [List.length_replicate]
 refine wp_loop (fun q T M H' => ∃ (i : Nat) (Y : List AV), q = n - i ∧ i ≤ n ∧ Keeps H H' ∧ H'.next = H.next + 1 ∧ H'.get H.next = some (.cells (ivs ((nums n).take i ++ List.replicate (n - i) 0)) 3 0) ∧ M = [] ∧ T = (lget Y 0 :: lget Y 1 :: lget Y 2 :: .slc H.next 0 n n :: lget Y 3 :: lget Y 4 :: lget Y 5 :: .slc H.next 0 n n :: iv (n : Nat) :: iv (i : Nat) :: lget Y 6 :: lget Y 7 :: lget Y 8 :: lget Y 9 :: lget Y 10 :: lget Y 11 :: lget Y 12 :: lget Y 13 :: [])) n
   ⟨0, [_,_,_,_,_,_,_,_,_,_,_,_,_,_], rfl, Nat.zero_le _, k1, n1, g1, rfl, rfl⟩ ?_
 rintro q T M H2 ⟨i, Y, hq2, hi, k2, n2, g2, rfl, rfl⟩
 repeat (first | apply qR | apply qS)
 refine wops_cons (wop_cmp rfl rfl rfl rfl rfl (fun h => ?_) (fun h => ?_))
 rotate_left
 · have h : ¬ ((i : Int) < (n : Nat)) := of_decide_eq_false h
   have e : i = n := by omega
   subst e
   rw [Nat.sub_self, List.replicate_zero, List.append_nil, List.take_of_length_le (by rw [nums_len]; exact Nat.le_refl _)] at g2
   repeat (first | apply qN | refine qM rfl rfl ?_ | refine qF rfl ?_ | apply qR | apply qS | apply qE)
   refine wp_ret ?_
   exact ⟨_, _, rfl, hk H2 k2 n2 g2⟩
 have hi' : i < n := by have h : (i : Int) < (n : Nat) := of_decide_eq_true h; omega
 clear h
 repeat (first | apply qN | refine qM rfl rfl ?_ | refine qT rfl ?_ | apply qR | apply qS | apply qK | apply qB)
 refine wops_cons (o_indexOwn rfl rfl rfl rfl hi' ?_)
 refine wops_cons (o_store rfl rfl rfl g2 (by rw [ivs_length, List.length_append, List.length_take, List.length_replicate, nums_len]; omega) rfl ?_)
 refine WOps.mem (fun H3 => Keeps H H3 ∧ H3.next = H.next + 1 ∧ H3.get H.next = some (.cells (ivs ((nums n).take (i + 1) ++ List.replicate (n - (i + 1)) 0)) 3 0)) ⟨k2.set _ (Nat.le_refl _) r0, n2, ?_⟩ ?_
 · refine (get_set_eq r0).trans ?_
   rw [← fill_set (nums_len n) hi' (nums_get hi'), ← ivs_set]
   rfl
 rintro H3 ⟨k3, n3, g3⟩
 repeat (first | apply qN | refine qM rfl rfl ?_ | refine zq4 rfl rfl rfl rfl (inc (by omega)) ?_ | apply qR)
 exact ⟨n - (i + 1), by omega, i + 1, [_,_,_,_,_,_,_,_,_,_,_,_,_,_], rfl, by omega, k3, n3, g3, rfl, rfl⟩
theorem cEven (H : AH) (f l R k : Nat) (hf : f ≤ 500) (hl : l ≤ 500) (hR0 : 0 < R) (hR : R ≤ 64) (hk : k ≤ R) (K : AV → AH → Prop) (hK : K (iv ((mN f l R k : Nat) : Int)) H) : Ca (ENV O) 89 [iv (f : Nat), iv (l : Nat), iv (R : Nat), iv (k : Nat)] H K := by
 refine ca_intro (hq _ _ _ rfl) (fn := Tryz.f89) (by rfl) rfl ?_
 obtain ⟨h1, h2⟩ := mN_bd hf hl hR hk
 repeat (first | apply qN | refine qM rfl rfl ?_ | apply qR | apply qS)
 refine wops_cons (wop_bin (op := .sub) (v := .int .i64 ((R - k : Nat) : Int)) rfl rfl rfl rfl (subN hk (by omega)) ?_)
 refine wops_cons (wop_bin (op := .mul) (v := .int .i64 ((f * (R - k) : Nat) : Int)) rfl rfl rfl rfl (mulN (by omega)) ?_)
 repeat (first | refine qM rfl rfl ?_)
 refine wops_cons (wop_bin (op := .mul) (v := .int .i64 ((l * k : Nat) : Int)) rfl rfl rfl rfl (mulN (by omega)) ?_)
 refine wops_cons (wop_bin (op := .add) (v := .int .i64 ((f * (R - k) + l * k : Nat) : Int)) rfl rfl rfl rfl (addN (by omega)) ?_)
 repeat (first | refine qM rfl rfl ?_)
 refine wops_cons (wop_quo rfl rfl rfl rfl (by omega) ?_)
 have e : IntKind.i64.wrap (((f * (R - k) + l * k : Nat) : Int).tdiv (R : Int)) = ((mN f l R k : Nat) : Int) := by
   have e1 : ((f * (R - k) + l * k : Nat) : Int).tdiv (R : Int) = ((mN f l R k : Nat) : Int) := rfl
   rw [e1]
   have : mN f l R k ≤ f * (R - k) + l * k := Nat.div_le_self _ _
   rw [wrap_id (by omega) (by omega)]
 rw [e]
 repeat (first | apply qN | refine qM rfl rfl ?_)
 refine wp_ret ?_
 exact ⟨_, _, rfl, hK⟩
theorem cRowB (H : AH) (a b : Nat) (ha : a ≤ 100000) (hb : b ≤ 100000) (hr : H.next + 10 < 2 ^ 59) (K : AV → AH → Prop) (hk : ∀ H', Keeps H H' → H'.next = H.next + 1 → K (.agg [iv (rwN a b).1, iv (rwN a b).2]) H') : Ca (ENV O) 88 [iv (a : Nat), iv (b : Nat)] H K := by
 refine ca_intro (hq _ _ _ rfl) (fn := Tryz.f88) (by rfl) rfl ?_
 have r0 : H.next < 2 ^ 59 := by omega
 repeat (first | apply qR | apply qS)
 refine wops_cons (o_allocA (zs := [iv 0, iv 0]) rfl rfl (z := .agg #[.int .i64 0, .int .i64 0]) (by kernel_rfl) rfl r0 ?_)
 refine WOps.mem (fun H1 => Keeps H H1 ∧ H1.next = H.next + 1 ∧ H1.get H.next = some (.cells [iv 0, iv 0] 120 0)) ⟨(Keeps.refl H).add _ r0, rfl, get_add_eq r0⟩ ?_
 rintro H1 ⟨k1, n1, g1⟩
 repeat (first | apply qN | refine qM rfl rfl ?_ | apply qR | apply qS)
 refine wops_cons (wop_bin (op := .sub) (v := .int .i64 ((b : Int) - (a : Int))) rfl rfl rfl rfl (subI (by omega)) ?_)
 refine wops_cons (o_max rfl rfl rfl rfl rfl rfl ?_)
 rw [mx0]
 repeat (first | refine qM rfl rfl ?_)
 refine wops_cons (wop_bin (op := .sub) (v := .int .i64 ((a : Int) - (b : Int))) rfl rfl rfl rfl (subI (by omega)) ?_)
 refine wops_cons (o_max rfl rfl rfl rfl rfl rfl ?_)
 rw [mx0]
 skip
 refine wops_cons (o_buildP rfl rfl rfl rfl ?_)
 refine wops_cons (o_storeA (n := 2) (vs := [iv (rwN a b).1, iv (rwN a b).2]) rfl rfl (by kernel_rfl) rfl rfl rfl rfl g1 (Nat.le_refl _) ?_)
 refine WOps.mem (fun H3 => Keeps H H3 ∧ H3.next = H.next + 1 ∧ H3.get H.next = some (.cells [iv (rwN a b).1, iv (rwN a b).2] 120 0)) ⟨k1.set _ (Nat.le_refl _) r0, n1, get_set_eq r0⟩ ?_
 rintro H3 ⟨k3, n3, g3⟩
 repeat (first | apply qN)
 refine Wp.cut (fun T => ∃ Y : List AV, T = (lget Y 0 :: lget Y 1 :: lget Y 2 :: lget Y 3 :: .ptr H.next 0 :: lget Y 4 :: lget Y 5 :: lget Y 6 :: lget Y 7 :: lget Y 8 :: lget Y 9 :: lget Y 10 :: lget Y 11 :: lget Y 12 :: [])) ⟨[_,_,_,_,_,_,_,_,_,_,_,_,_], rfl⟩ ?_
 rintro T ⟨Y, rfl⟩
 refine wp_ret ?_
 refine ⟨.agg [iv (rwN a b).1, iv (rwN a b).2], H3, ?_, hk H3 k3 n3⟩
 have hres : resA Tryz.prog (lget Y 0 :: lget Y 1 :: lget Y 2 :: lget Y 3 :: .ptr H.next 0 :: lget Y 4 :: lget Y 5 :: lget Y 6 :: lget Y 7 :: lget Y 8 :: lget Y 9 :: lget Y 10 :: lget Y 11 :: lget Y 12 :: []) H3 Tryz.f88.results.toList = some [.agg [iv (rwN a b).1, iv (rwN a b).2]] := by
   show (match loadA Tryz.prog 120 H.next 0 H3, (some [] : Option (List AV)) with | some x, some m => some (x :: m) | _, _ => none) = _
   rw [load2 g3]
 unfold leaveM resultsA
 simp only [takeMarks]
 rw [show (ENV O).P = Tryz.prog from rfl, hres]
theorem cShC (H : AH) (pf pl pR : Nat) (f l R i : Nat) (hf : f ≤ 500) (hl : l ≤ 500) (hR0 : 0 < R) (hR : R ≤ 64) (hi : i < R) (g1 : H.get pf = some (.cells [iv (f : Nat)] 3 0)) (g2 : H.get pl = some (.cells [iv (l : Nat)] 3 0)) (g3 : H.get pR = some (.cells [iv (R : Nat)] 3 0)) (l1 : pf < H.next) (l2 : pl < H.next) (l3 : pR < H.next) (hr : H.next + 20 < 2 ^ 59) (K : AV → AH → Prop)
   (hk : ∀ H', Keeps H H' → H'.next = H.next + 2 → K (.agg [iv (rwN (mN f l R i) (mN f l R (i + 1))).1, iv (rwN (mN f l R i) (mN f l R (i + 1))).2]) H') : Ca (ENV O) 87 [iv (i : Nat), .ptr pf 0, .ptr pl 0, .ptr pR 0] H K := by
 refine ca_intro (hq _ _ _ rfl) (fn := Tryz.f87) (by rfl) rfl ?_
 have r0 : H.next < 2 ^ 59 := by omega
 obtain ⟨b1, b2⟩ := mN_bd hf hl hR (Nat.le_of_lt hi)
 obtain ⟨b3, b4⟩ := mN_bd hf hl hR (show i + 1 ≤ R from hi)
 have m1 : mN f l R i ≤ 100000 := Nat.le_trans (Nat.div_le_self _ _) (by omega)
 have m2 : mN f l R (i + 1) ≤ 100000 := Nat.le_trans (Nat.div_le_self _ _) (by omega)
 repeat (first | apply qR | apply qS)
 refine wops_cons (o_allocA (zs := [iv 0, iv 0]) rfl rfl (z := .agg #[.int .i64 0, .int .i64 0]) (by kernel_rfl) rfl r0 ?_)
 refine WOps.mem (fun H1 => Keeps H H1 ∧ H1.next = H.next + 1 ∧ H1.get H.next = some (.cells [iv 0, iv 0] 120 0)) ⟨(Keeps.refl H).add _ r0, rfl, get_add_eq r0⟩ ?_
 rintro H1 ⟨k1, n1, gc⟩
 have a1 : At H1 (.ptr pf 0) (iv (f : Nat)) := at_ptr (by omega) ((k1.get pf l1).trans g1) rfl
 have a2 : At H1 (.ptr pl 0) (iv (l : Nat)) := at_ptr (by omega) ((k1.get pl l2).trans g2) rfl
 have a3 : At H1 (.ptr pR 0) (iv (R : Nat)) := at_ptr (by omega) ((k1.get pR l3).trans g3) rfl
 have hB : ∀ b, (b = pf ∨ b = pl ∨ b = pR) → sameBlk (H1.get b) (H1.get b) = true := fun b hb => by
   rcases hb with rfl | rfl | rfl
   · rw [(k1.get _ l1).trans g1]; simp [sameBlk, beqs, AV.beq, vbeq, iv]
   · rw [(k1.get _ l2).trans g2]; simp [sameBlk, beqs, AV.beq, vbeq, iv]
   · rw [(k1.get _ l3).trans g3]; simp [sameBlk, beqs, AV.beq, vbeq, iv]
 have hlt : ∀ b, (b = pf ∨ b = pl ∨ b = pR) → b < H.next := fun b hb => by rcases hb with rfl | rfl | rfl <;> assumption
 repeat (first | apply qN | apply qS)
 refine wp_drawX (fun b => b = pf ∨ b = pl ∨ b = pR) hB rfl ?_
 refine x_load rfl rfl rfl a1 (fun b hb => by cases hb; exact .inl rfl) ?_
 refine x_load rfl rfl rfl a2 (fun b hb => by cases hb; exact .inr (.inl rfl)) ?_
 refine x_load rfl rfl rfl a3 (fun b hb => by cases hb; exact .inr (.inr rfl)) ?_
 refine x_move rfl rfl rfl ?_
 refine x_load rfl rfl rfl a1 (fun b hb => by cases hb; exact .inl rfl) ?_
 refine x_load rfl rfl rfl a2 (fun b hb => by cases hb; exact .inr (.inl rfl)) ?_
 refine x_load rfl rfl rfl a3 (fun b hb => by cases hb; exact .inr (.inr rfl)) ?_
 refine x_move rfl rfl rfl ?_
 refine x_bin (op := .add) rfl rfl rfl rfl rfl (inc (by omega)) ?_
 refine x_call rfl rfl rfl (fun b h => by cases h) (wop_callF rfl rfl rfl (fn := Tryz.f89) (by rfl) ?_)
 refine cEven hq H1 f l R i hf hl hR0 hR (Nat.le_of_lt hi) _ ⟨Nat.le_refl _, fun _ _ => rfl, ?_⟩
 refine x_call rfl rfl rfl (fun b h => by cases h) (wop_callF rfl rfl rfl (fn := Tryz.f89) (by rfl) ?_)
 refine cEven hq H1 f l R (i + 1) hf hl hR0 hR hi _ ⟨Nat.le_refl _, fun _ _ => rfl, ?_⟩
 refine x_call rfl rfl rfl (fun b h => by cases h) (wop_callF rfl rfl rfl (fn := Tryz.f88) (by rfl) ?_)
 refine cRowB hq H1 _ _ m1 m2 (by omega) _ fun H2 k2 n2 => ⟨k2.nx, fun b hb => k2.get b (by have := hlt b hb; omega), ?_⟩
 generalize rwN (mN f l R i) (mN f l R (i + 1)) = rw1 at hk ⊢
 refine x_loud rfl rfl (o_storeA (n := 2) (vs := [iv rw1.1, iv rw1.2]) rfl rfl (by kernel_rfl) rfl rfl rfl rfl ((k2.get _ (by omega)).trans gc) (Nat.le_refl _) ⟨fun b hb => ?_, ?_⟩)
 · have := hlt b hb
   rw [get_set_ne r0 (by omega)]
   exact k2.get b (by omega)
 refine x_nil ?_
 refine Wp.mem (fun H3 => Keeps H H3 ∧ H3.next = H.next + 2 ∧ H3.get H.next = some (.cells [iv rw1.1, iv rw1.2] 120 0)) ⟨(k1.trans k2).set _ (Nat.le_refl _) r0, by show H2.next = _; omega, get_set_eq r0⟩ ?_
 rintro H3 ⟨k3, n3, gr⟩
 skip
 refine Wp.cut (fun T => ∃ Y : List AV, T = (lget Y 0 :: lget Y 1 :: lget Y 2 :: lget Y 3 :: lget Y 4 :: .ptr H.next 0 :: lget Y 5 :: lget Y 6 :: lget Y 7 :: lget Y 8 :: lget Y 9 :: lget Y 10 :: lget Y 11 :: lget Y 12 :: lget Y 13 :: lget Y 14 :: lget Y 15 :: lget Y 16 :: [])) ⟨[_,_,_,_,_,_,_,_,_,_,_,_,_,_,_,_,_], rfl⟩ ?_
 rintro T ⟨Y, rfl⟩
 refine wp_ret ?_
 refine ⟨.agg [iv rw1.1, iv rw1.2], H3, ?_, hk H3 k3 n3⟩
 have hres : resA Tryz.prog (lget Y 0 :: lget Y 1 :: lget Y 2 :: lget Y 3 :: lget Y 4 :: .ptr H.next 0 :: lget Y 5 :: lget Y 6 :: lget Y 7 :: lget Y 8 :: lget Y 9 :: lget Y 10 :: lget Y 11 :: lget Y 12 :: lget Y 13 :: lget Y 14 :: lget Y 15 :: lget Y 16 :: []) H3 Tryz.f87.results.toList = some [.agg [iv rw1.1, iv rw1.2]] := by
   show (match loadA Tryz.prog 120 H.next 0 H3, (some [] : Option (List AV)) with | some x, some m => some (x :: m) | _, _ => none) = _
   rw [load2 gr]
 unfold leaveM resultsA
 simp only [takeMarks]
 rw [show (ENV O).P = Tryz.prog from rfl, hres]
end Go.Ev
namespace Go.Ev
open Go.Proofs
theorem o_build4 {O : CallF} {T : List AV} {H : AH} {ops : Array Oper} {o : Oper} {K : AV → AH → Prop} {t e : TypeId} {x y w u : Operand} {z0 : Value} (ho : o.op = .buildSlice t 4 #[(0, x), (1, y), (2, w), (3, u)]) (hg : wantedA o ops T = true) [hu : TyS t e] [hs : Cell e] [hz : Zero e z0] (h1 : (av T x).one = true) (h2 : (av T y).one = true) (h3 : (av T w).one = true) (h4 : (av T u).one = true) (hr : H.next < 2 ^ 59)
   (hk : K (.slc H.next 0 4 4) (H.add (.cells [av T x, av T y, av T w, av T u] e 0))) : WOp (ENV O) ops o T H K := by
 refine wop_val (by rw [ho]; rfl) hg (r := .slc H.next 0 4 4) (H' := H.add (.cells [av T x, av T y, av T w, av T u] e 0)) ?_ (Nat.le_succ _) hk
 have hlt : Nat.blt H.next (2 ^ 59) = true := Nat.ble_eq_true_of_le hr
 unfold opEval; rw [ho]
 simp only [ENV, buildSliceA, hu.u, hs.s, hz.z, hz.c]
 rw [if_pos (by decide)]
 simp [fillA, cells_one h1, cells_one h2, cells_one h3, cells_one h4, wr, newA, hlt]
 rw [List.drop_eq_nil_of_le (by simp)]
section
variable {O : CallF} {T : List AV} {H H0 : AH} {ops : Array Oper} {o : Oper} {i : Nat} {π : List Stp} {K : AV → AH → Prop}
theorem o_buildZ {t : TypeId} (ho : o.op = .build t #[]) (hg : wantedA o ops T = true) [hp : PrS t] (hk : K (.agg [iv 0, iv 0]) H) : WOp (ENV O) ops o T H K := by
 refine wop_val (by rw [ho]; rfl) hg (r := .agg [iv 0, iv 0]) (H' := H) ?_ (Nat.le_refl _) hk
 unfold opEval; rw [ho]
 have h1 := hp.z
 have h2 := hp.u
 have h3 := hp.p
 simp only [ENV, buildA, h1, h2, h3]
 rfl
theorem eql_struct (t : TypeId) [h : EqS t] (x y : Operand) (a b c e : Int) :
   runPure Tryz.prog (do Go.eqGuard .eql t x y (.agg #[.int .i64 a, .int .i64 b]) (.agg #[.int .i64 c, .int .i64 e]); Go.binOp .eql t (.agg #[.int .i64 a, .int .i64 b]) (.agg #[.int .i64 c, .int .i64 e])) = some (.bool (a == c && b == e)) := by
 have hpr : runPure Tryz.prog program = some Tryz.prog := rfl
 have hg : runPure Tryz.prog (Go.eqGuard .eql t x y (.agg #[.int .i64 a, .int .i64 b]) (.agg #[.int .i64 c, .int .i64 e])) = some () := by
   unfold Go.eqGuard
   simp only [Bool.not_true, Bool.false_eq_true, if_false, runPure_bind, hpr, Option.bind_some, h.g, Bool.not_false, if_true, runPure_pure]
 rw [runPure_bind, hg]
 show runPure Tryz.prog (do pure (Value.bool (← Op.equal t (.agg #[.int .i64 a, .int .i64 b]) (.agg #[.int .i64 c, .int .i64 e])))) = _
 rw [runPure_bind, show Op.equal t (.agg #[.int .i64 a, .int .i64 b]) (.agg #[.int .i64 c, .int .i64 e]) = Op.equalIn (9998 + 2) t (.agg #[.int .i64 a, .int .i64 b]) (.agg #[.int .i64 c, .int .i64 e]) from rfl, eqStr 9998 t _ _ _ a b c e h.u h.l h.n0 h.n1 h.p0 h.p1 h.s h.i0 h.i1]
 rfl
theorem o_eqS {t yt : TypeId} {x y : Operand} {a b c e : Int} (ho : o.op = .binOp .eql t x y yt) (hg : wantedA o ops T = true) [hs : EqS t] (hx : av T x = .agg [iv a, iv b]) (hy : av T y = .agg [iv c, iv e]) (hk : K (.v (.bool (a == c && b == e))) H) : WOp (ENV O) ops o T H K := by
 refine wop_val (by rw [ho]; rfl) hg (r := .v (.bool (a == c && b == e))) ?_ (Nat.le_refl _) hk
 unfold opEval; rw [ho]
 have h0 : nilEqA Tryz.prog t (.agg [iv a, iv b]) (.agg [iv c, iv e]) = false := by
   unfold nilEqA
   split <;> simp_all
 simp only [ENV, oBin, oBinSlow, hx, hy, h0]
 unfold plainOp
 have p1 : (AV.agg [iv a, iv b]).plain = some (.agg #[.int .i64 a, .int .i64 b]) := rfl
 have p2 : (AV.agg [iv c, iv e]).plain = some (.agg #[.int .i64 c, .int .i64 e]) := rfl
 have h2 : runPure Tryz.prog (execOp (fun x => ((av T x).plain).getD undef) o) = some (.value (.bool (a == c && b == e))) := by
   obtain ⟨dst, op', type, pos, after, guard⟩ := o
   simp only at ho
   subst ho
   have h3 := eql_struct t x y a b c e
   simp only [execOp, hx, hy, p1, p2, Option.getD_some]
   rw [runPure_bind]
   show Option.bind (runPure Tryz.prog _) _ = _
   rw [h3]
   rfl
 rw [h2, ho]
 simp [Op.operands, hx, hy, p1, p2]
end
def rowE (m : Int) (p : Int × Int) : Int := if inB p.1 0 500 = false then 3 else if inB p.2 0 500 = false then 3 else if m < p.1 + 2 * p.2 then 18 else if inB (m + p.1 - p.2) 1 500 = false then 3 else 0
theorem inB_iff {n lo hi : Int} : inB n lo hi = true ↔ lo ≤ n ∧ n ≤ hi := by unfold inB; simp
theorem wr64 {z : Int} (h : -4000000 ≤ z ∧ z ≤ 4000000) : IntKind.i64.wrap z = z := wrap_id (by omega) (by omega)
theorem rowE_eq (m : Int) (p : Int × Int) (hm : 1 ≤ m ∧ m ≤ 500) :
   firstNZ [if inB p.1 0 500 = true then 0 else 3, if inB p.2 0 500 = true then 0 else 3, if decide (IntKind.i64.wrap (p.1 + IntKind.i64.wrap (2 * p.2)) ≤ m) = true then 0 else 18, if inB (IntKind.i64.wrap (IntKind.i64.wrap (m + p.1) - p.2)) 1 500 = true then 0 else 3] = rowE m p := by
 obtain ⟨a, b⟩ := p
 unfold rowE
 simp only [firstNZ_cons]
 cases h1 : inB a 0 500 with
 | false => simp
 | true =>
   cases h2 : inB b 0 500 with
   | false => simp
   | true =>
     have h1 := inB_iff.1 h1
     have h2 := inB_iff.1 h2
     rw [wr64 (z := 2 * b) (by omega), wr64 (z := a + 2 * b) (by omega), wr64 (z := m + a) (by omega), wr64 (z := m + a - b) (by omega)]
     by_cases h3 : m < a + 2 * b
     · rw [decide_eq_false (by omega)]
       simp [h3]
     · rw [decide_eq_true (by omega)]
       simp only [h3, if_false, if_true]
       cases h4 : inB (m + a - b) 1 500 with
       | false => simp
       | true => simp [firstNZ]
theorem rowE_ok {m : Int} {p : Int × Int} (hm : 1 ≤ m ∧ m ≤ 500) (h : rowE m p = 0) : IntKind.i64.wrap (IntKind.i64.wrap (m + p.1) - p.2) = m + p.1 - p.2 ∧ 1 ≤ m + p.1 - p.2 ∧ m + p.1 - p.2 ≤ 500 := by
 obtain ⟨a, b⟩ := p
 unfold rowE at h
 simp only at h
 cases h1 : inB a 0 500 with
 | false => rw [h1] at h; simp at h
 | true =>
   rw [h1] at h
   cases h2 : inB b 0 500 with
   | false => rw [h2] at h; simp at h
   | true =>
     rw [h2] at h
     have h1 := inB_iff.1 h1
     have h2 := inB_iff.1 h2
     by_cases h3 : m < a + 2 * b
     · simp [h3] at h
     · cases h4 : inB (m + a - b) 1 500 with
       | false => simp [h3, h4] at h
       | true =>
         have h4 := inB_iff.1 h4
         refine ⟨?_, h4.1, h4.2⟩
         show IntKind.i64.wrap (IntKind.i64.wrap (m + a) - b) = m + a - b
         rw [wr64 (z := m + a) (by omega), wr64 (z := m + a - b) (by omega)]
variable {O : CallF} (hq : Quiet O)
include hq
theorem c106 (H : AH) (m : Int) (p : Int × Int) (mv : AV) (hmv : mv.cells = [iv p.1, iv p.2]) (hm : 1 ≤ m ∧ m ≤ 500) (hr : H.next + 20 < 2 ^ 59) (K : AV → AH → Prop)
   (hk : ∀ H' nx, Keeps H H' → H'.next ≤ H.next + 2 → (rowE m p = 0 → nx = m + p.1 - p.2) → K (.tup [iv nx, iv (rowE m p)]) H') : Ca (ENV O) 106 [iv m, mv] H K := by
 refine ca_intro (hq _ _ _ rfl) (fn := Tryz.f106) (by rfl) rfl ?_
 have r0 : H.next < 2 ^ 59 := by omega
 repeat (first | apply qR | apply qS)
 refine wops_cons (o_boxS rfl rfl hmv r0 fun H1 n1 k1 b1 => ?_)
 have hp0 : At H1 (.ptr H.next 0) (iv p.1) := b1.at rfl
 have hp1 : At H1 (.ptr H.next 1) (iv p.2) := b1.at rfl
 have hL : ∀ c, (AV.ptr H.next 0).own = some c → Lk H1 c := fun c hc => by
   cases hc
   refine ⟨by omega, ?_⟩
   rw [b1.g]
   simp [sameBlk, beqs, AV.beq, vbeq, iv]
 have hL1 : ∀ c, (AV.ptr H.next 1).own = some c → Lk H1 c := hL
 repeat (first | apply qN | refine qM rfl rfl ?_ | refine zqb rfl rfl rfl ‹_› ?_ | apply qR | apply qS)
 refine wops_cons (o_buildZ rfl rfl ?_)
 refine wops_cons (o_eqS rfl rfl rfl rfl ?_)
 by_cases hz : p.1 = 0 ∧ p.2 = 0
 · obtain ⟨z1, z2⟩ := hz
   have he : rowE m p = 0 := by
     unfold rowE
     rw [z1, z2]
     have h4 : inB (m + 0 - 0) 1 500 = true := inB_iff.2 (by omega)
     rw [h4, show inB 0 0 500 = true from rfl]
     simp
     omega
   have hk := hk H1 m k1 (by omega) (fun _ => by rw [z1, z2]; omega)
   rw [he] at hk
   rw [z1, z2]
   repeat (first | apply qN | refine qM rfl rfl ?_ | refine qT rfl ?_ | apply qR | apply qS)
   refine wp_ret ?_
   exact ⟨_, _, rfl, hk⟩
 have hb : (p.1 == 0 && p.2 == 0) = false := by
   rw [Bool.eq_false_iff]
   intro h
   simp at h
   exact hz h
 rw [hb]
 repeat (first | apply qN | refine qM rfl rfl ?_ | refine zqa rfl rfl rfl ?_ | refine zq6 rfl rfl ‹_› ?_ | refine qF rfl ?_ | apply qR | apply qS | apply qK)
 refine wops_cons (wop_bin (op := .add) (v := .int .i64 (IntKind.i64.wrap (m + p.1))) rfl rfl rfl rfl rfl ?_)
 repeat (first | refine zqa rfl rfl rfl ?_ | refine zq6 rfl rfl ‹_› ?_)
 refine wops_cons (wop_bin (op := .sub) (v := .int .i64 (IntKind.i64.wrap (IntKind.i64.wrap (m + p.1) - p.2))) rfl rfl rfl rfl rfl ?_)
 repeat (first | apply qN | refine qM rfl rfl ?_ | apply qS)
 have hrow := rowE_eq m p hm
 have hok := fun h => (rowE_ok (p := p) hm h).1
 generalize IntKind.i64.wrap (IntKind.i64.wrap (m + p.1) - p.2) = nx at hrow hok ⊢
 refine wp_drawK rfl ?_
 refine k_move rfl rfl rfl ?_
 refine k_field rfl rfl rfl rfl ?_
 refine k_load rfl rfl rfl hp0 hL ?_
 refine k_field rfl rfl rfl rfl ?_
 refine k_load rfl rfl rfl hp1 hL1 ?_
 refine k_field rfl rfl rfl rfl ?_
 refine k_load rfl rfl rfl hp0 hL ?_
 refine k_field rfl rfl rfl rfl ?_
 refine k_load rfl rfl rfl hp1 hL1 ?_
 refine k_bin (op := .mul) (v := .int .i64 (IntKind.i64.wrap (2 * p.2))) rfl rfl rfl rfl rfl rfl ?_
 refine k_bin (op := .add) (v := .int .i64 (IntKind.i64.wrap (p.1 + IntKind.i64.wrap (2 * p.2)))) rfl rfl rfl rfl rfl rfl ?_
 generalize IntKind.i64.wrap (p.1 + IntKind.i64.wrap (2 * p.2)) = sm at hrow ⊢
 refine k_move rfl rfl rfl ?_
 refine k_bin (op := .leq) (v := .bool (decide (sm ≤ m))) rfl rfl rfl rfl rfl rfl ?_
 refine k_move rfl rfl rfl ?_
 refine k_call rfl rfl rfl (fun b h => by cases h) (wop_callF rfl rfl rfl (fn := Tryz.f69) (by rfl) ?_)
 refine cRange hq H1 p.1 0 500 _ ⟨Nat.le_refl _, Keeps.refl _, ?_⟩
 refine k_call rfl rfl rfl (fun b h => by cases h) (wop_callF rfl rfl rfl (fn := Tryz.f69) (by rfl) ?_)
 refine cRange hq H1 p.2 0 500 _ ⟨Nat.le_refl _, Keeps.refl _, ?_⟩
 refine k_call rfl rfl rfl (fun b h => by cases h) (wop_callF rfl rfl rfl (fn := Tryz.f70) (by rfl) ?_)
 refine cThat hq H1 _ 18 _ ⟨Nat.le_refl _, Keeps.refl _, ?_⟩
 refine k_call rfl rfl rfl (fun b h => by cases h) (wop_callF rfl rfl rfl (fn := Tryz.f84) (by rfl) ?_)
 refine cMesh hq H1 nx _ ⟨Nat.le_refl _, Keeps.refl _, ?_⟩
 generalize (if inB p.1 0 500 = true then (0 : Int) else 3) = w1 at hrow ⊢
 generalize (if inB p.2 0 500 = true then (0 : Int) else 3) = w2 at hrow ⊢
 generalize (if decide (sm ≤ m) = true then (0 : Int) else 18) = w3 at hrow ⊢
 generalize (if inB nx 1 500 = true then (0 : Int) else 3) = w4 at hrow ⊢
 have r1 : H1.next < 2 ^ 59 := by omega
 refine k_loud rfl rfl (o_build4 rfl rfl rfl rfl rfl rfl r1 ⟨(Keeps.refl H1).add _ r1, ?_⟩)
 refine WK.mem (fun H2 => Keeps H1 H2 ∧ H2.next = H1.next + 1 ∧ Sl H2 (.slc H1.next 0 4 4) (ivs [w1, w2, w3, w4])) ⟨(Keeps.refl H1).add _ r1, rfl, sl_new (cs := ivs [w1, w2, w3, w4]) r1 4⟩ ?_
 rintro H2 ⟨k2, n2, hs2⟩
 refine k_call rfl rfl rfl (fun b h => by cases h) (wop_callF rfl rfl rfl (fn := Tryz.f68) (by rfl) ?_)
 refine cFirst hq H2 _ _ hs2 (by show 4 ≤ 1000; decide) _ ⟨Nat.le_refl _, k2, ?_⟩
 clear hs2
 show WK _ _ _ _ _ _ _
 rw [hrow]
 have hk := hk H2 nx (k1.trans k2) (by omega) hok
 repeat (first | refine k_nil ?_ | refine k_assign rfl rfl rfl ?_)
 refine wp_ret ?_
 exact ⟨_, _, rfl, hk⟩
end Go.Ev
namespace Go.Ev
open Go.Proofs
section
variable {O : CallF} {T : List AV} {H H0 : AH} {ops : Array Oper} {o : Oper} {i : Nat} {π : List Stp}
theorem slP {H : AH} {b n cp g : Nat} {e : TypeId} {ms : List (Int × Int)} (h39 : b < 2 ^ 59) (hgb : H.get b = some (.cells (fl2 ms) e g)) (hn : ms.length = n) : Sl H (.slc b 0 n cp) ((fl2 ms).take n) :=
 ⟨by rw [List.length_take, fl2_len]; omega, h39, _, _, _, hgb, fun j v hj => by
   rw [Nat.zero_add]
   rw [List.getElem?_take] at hj
   split at hj
   · exact hj
   · cases hj⟩
theorem k_lenP {K : List AV → AH → Prop} {c : Call} {t e e' : TypeId} {x : Operand} {b n cp g : Nat} {ms : List (Int × Int)} (h1 : ops.toList[i]? = some o) (ho : o.op = .call c) (hg : wantedA o ops T = true) (hc : c.callee = .builtin .len) (hargs : c.args.toList = [x]) (ht : c.argTypes.toList = [t]) [hu : TyP t e] (hx : av T x = .slc b 0 n cp) (h39 : b < 2 ^ 59) (hgb : H0.get b = some (.cells (fl2 ms) e' g)) (hn : ms.length = n)
   (hk : WK (ENV O) ops H0 π (putA T o.dst (iv n)) H K) : WK (ENV O) ops H0 (.mob i :: π) T H K := by
 have hS : Sl H0 (av T x) ((fl2 ms).take n) := by rw [hx]; exact slP h39 hgb hn
 have hl : ((fl2 ms).take n).length = n := by rw [List.length_take, fl2_len]; omega
 exact k_0 h1 (by unfold looksB; rw [ho]) hg (wd_lenA h1 ho hg hc hargs ht hu.u hS (by rw [hl]; rfl)) hk
theorem k_allocA {K : List AV → AH → Prop} {t : TypeId} {z : Value} {zs : List AV} (h1 : ops.toList[i]? = some o) (ho : o.op = .alloc t) (hg : wantedA o ops T = true) (hz : runPure Tryz.prog (zeroValue t) = some z) (hc : z.cells.toList.map .v = zs) (hr : H.next < 2 ^ 59)
   (hk : WK (ENV O) ops H0 π (putA T o.dst (.ptr H.next 0)) (H.add (.cells zs t 0)) K) : WK (ENV O) ops H0 (.alc i :: π) T H K := by
 have hlt : Nat.blt H.next (2 ^ 59) = true := Nat.ble_eq_true_of_le hr
 refine ⟨o, h1, .inr ⟨hg, none, zs, t, H.add (.cells zs t 0), ?_, ?_, hk⟩⟩
 · unfold laysA; rw [ho]
   simp only [ENV, hz, hc]
 · simp only [newA, hlt, if_true]
theorem k_makeFunc {K : List AV → AH → Prop} {f : Fn} {a b : Array Operand} (h1 : ops.toList[i]? = some o) (ho : o.op = .makeFunc f a b) (hg : wantedA o ops T = true) (hk : WK (ENV O) ops H0 π (putA T o.dst (.fn f (a.toList.map (av T)) (b.toList.map (av T)))) H K) : WK (ENV O) ops H0 (.mob i :: π) T H K :=
 k_mob h1 hg (by unfold mobEval; rw [ho]) (fun b hb => by rw [rdA_none (by unfold looksB; rw [ho])] at hb; cases hb) hk
class NetS (t : TypeId) : Prop where
 z : runPure Tryz.prog (zeroValue t) = some (.agg #[.int .i64 0, .slice none 0 0])
 u : runPure Tryz.prog (underlying t) = some (.struct (flds t))
 p : runPure Tryz.prog ((flds t).mapM fun f => do pure (f.offset, ← sizeOf f.type)) = some #[(0, 1), (1, 1)]
instance : NetS 67 := ⟨by kernel_rfl, by kernel_rfl, by kernel_rfl⟩
instance : NetS 74 := ⟨by kernel_rfl, by kernel_rfl, by kernel_rfl⟩
theorem k_buildN {K : List AV → AH → Prop} {t : TypeId} {x y : Operand} {a : Int} {b n c : Nat} (h1 : ops.toList[i]? = some o) (ho : o.op = .build t #[(0, x), (1, y)]) (hg : wantedA o ops T = true) [hp : NetS t] (hx : av T x = iv a) (hy : av T y = .slc b 0 n c) (hk : WK (ENV O) ops H0 π (putA T o.dst (.agg [iv a, .slc b 0 n c])) H K) : WK (ENV O) ops H0 (.mob i :: π) T H K := by
 refine k_mob h1 hg ?_ (fun b hb => by rw [rdA_none (by unfold looksB; rw [ho])] at hb; cases hb) hk
 unfold mobEval; rw [ho]
 have h1 := hp.z
 have h2 := hp.u
 have h3 := hp.p
 simp only [ENV, buildA, h1, h2, h3]
 have e : (#[(0, x), (1, y)] : Array (Nat × Operand)).toList.map (fun p => (p.1, av T p.2)) = [(0, iv a), (1, .slc b 0 n c)] := by simp [hx, hy]
 rw [e]
 rfl
theorem o_buildN1 {K : AV → AH → Prop} {t : TypeId} {x : Operand} {a : Int} (ho : o.op = .build t #[(0, x)]) (hg : wantedA o ops T = true) [hp : NetS t] (hx : av T x = iv a) (hk : K (.agg [iv a, .v (.slice none 0 0)]) H) : WOp (ENV O) ops o T H K := by
 refine wop_val (by rw [ho]; rfl) hg (r := .agg [iv a, .v (.slice none 0 0)]) (H' := H) ?_ (Nat.le_refl _) hk
 unfold opEval; rw [ho]
 have h1 := hp.z
 have h2 := hp.u
 have h3 := hp.p
 simp only [ENV, buildA, h1, h2, h3]
 have e : (#[(0, x)] : Array (Nat × Operand)).toList.map (fun p => (p.1, av T p.2)) = [(0, iv a)] := by simp [hx]
 rw [e]
 rfl
theorem o_buildN0 {K : AV → AH → Prop} {t : TypeId} (ho : o.op = .build t #[]) (hg : wantedA o ops T = true) [hp : NetS t] (hk : K (.agg [iv 0, .v (.slice none 0 0)]) H) : WOp (ENV O) ops o T H K := by
 refine wop_val (by rw [ho]; rfl) hg (r := .agg [iv 0, .v (.slice none 0 0)]) (H' := H) ?_ (Nat.le_refl _) hk
 unfold opEval; rw [ho]
 have h1 := hp.z
 have h2 := hp.u
 have h3 := hp.p
 simp only [ENV, buildA, h1, h2, h3]
 rfl
def Mr (H : AH) (r : AV) (l : List Int) : Prop := (∃ b, r = .slc b 0 l.length l.length ∧ b < H.next ∧ b < 2 ^ 59 ∧ H.get b = some (.cells (ivs l) 3 0)) ∨ ∃ b, r = .slu b 0 l.length 1 ∧ b < H.next ∧ b < 2 ^ 59 ∧ H.get b = some (.cells (ivs l) 3 1)
theorem Mr.sl {r : AV} {l : List Int} (h : Mr H r l) : Sl H r (ivs l) := by
 rcases h with ⟨b, rfl, h1, h2, h3⟩ | ⟨b, rfl, h1, h2, h3⟩
 · exact ⟨(ivs_length l).symm, h2, _, _, _, h3, fun j v hv => by rw [Nat.zero_add]; exact hv⟩
 · exact ⟨(ivs_length l).symm, h2, rfl, _, _, _, h3, fun j v hv => by rw [Nat.zero_add]; exact hv⟩
theorem Mr.old {r : AV} {l : List Int} (h : Mr H r l) : Old H r := by
 rcases h with ⟨b, rfl, h1, h2, h3⟩ | ⟨b, rfl, h1, h2, h3⟩ <;> (intro c hc; cases hc; exact h1)
theorem Mr.lk {r : AV} {l : List Int} (h : Mr H r l) : ∀ b, r.own = some b → Lk H b := by
 rcases h with ⟨b, rfl, h1, h2, h3⟩ | ⟨b, rfl, h1, h2, h3⟩ <;> (intro c hc; cases hc; exact ⟨h1, by rw [h3]; simp [sameBlk, beqs_ivs]⟩)
theorem Mr.keep {H' : AH} {r : AV} {l : List Int} (h : Mr H r l) (k : Keeps H H') : Mr H' r l := by
 rcases h with ⟨b, h0, h1, h2, h3⟩ | ⟨b, h0, h1, h2, h3⟩
 · exact .inl ⟨b, h0, Nat.lt_of_lt_of_le h1 k.nx, h2, (k.get b h1).trans h3⟩
 · exact .inr ⟨b, h0, Nat.lt_of_lt_of_le h1 k.nx, h2, (k.get b h1).trans h3⟩
theorem o_append1M {K : AV → AH → Prop} {c : Call} {t xt e' : TypeId} {s x : Operand} {l : List Int} {z : Int} {bx : Nat} {ex : TypeId} {gx : Nat} (ho : o.op = .call c) (hg : wantedA o ops T = true) (hc : c.callee = .builtin .append) (hargs : c.args.toList = [s, x]) (ht : c.argTypes.toList = [t, xt]) [hu : TyS t 3] [hux : TyS xt e']
   (hlen : l.length < 2 ^ 20) (hr : H.next < 2 ^ 59) (hx : av T x = .slc bx 0 1 1) (hbx : H.get bx = some (.cells [iv z] ex gx)) (hM : Mr H (av T s) l)
   (hk : ∀ H1, H1.next = H.next + 1 → H1.gl = H.gl → (∀ b, b ≠ H.next → (av T s).own ≠ some b → H1.get b = H.get b) → H1.get H.next = some (.cells (ivs (l ++ [z])) 3 1) → K (.slu H.next 0 (l.length + 1) 1) H1) : WOp (ENV O) ops o T H K := by
 rcases hM with ⟨b, hs0, h1, h2, h3⟩ | ⟨b, hs0, h1, h2, h3⟩
 · have hlt : Nat.blt H.next (2 ^ 59) = true := Nat.ble_eq_true_of_le hr
   have hz : Zero 3 (.int .i64 0) := inferInstance
   have hs : Cell 3 := inferInstance
   have ht0 := arg0 ht
   have ht1 := arg1 ht
   have hux' := hux.u
   have hu' := hu.u
   have hi := hz.i
   have hss := hs.s
   have hzz := hz.z
   have hz0 : (Value.int .i64 0).cells.size = 1 := by rw [hz.c]; rfl
   have e1 : Nat.ble ((l.length + 1) * (ti 3).bytes) (2 ^ 47) = true := Nat.ble_eq_true_of_le (by
     have := Nat.mul_le_mul (show l.length + 1 ≤ 2 ^ 20 from hlen) (Nat.le_of_ble_eq_true hz.b)
     exact Nat.le_trans this (by decide))
   have e2 : Nat.ble (l.length + 1) (2 ^ 47) = true := Nat.ble_eq_true_of_le (Nat.le_trans hlen (by decide))
   have e3 : Nat.ble (l.length + 1) l.length = false := by
     rw [Bool.eq_false_iff]; intro h; have := Nat.le_of_ble_eq_true h; omega
   have hf' : firstA (0 + 1) 1 (av T x) H = some [iv z] := by rw [hx]; simp [firstA, hbx]
   have hall : (([iv z] : List AV).all AV.one && Nat.beq ([iv z] : List AV).length (1 * (0 + 1))) = true := rfl
   refine wop_val (by rw [ho]; simp only [still, hc]) hg (r := .slu H.next 0 (l.length + 1) 1) (H' := H.add (.cells (ivs (l ++ [z])) 3 1)) ?_ (Nat.le_succ _) (hk _ rfl rfl (fun d hd _ => get_add_ne hr hd) (get_add_eq hr))
   unfold opEval; rw [ho]
   simp only [ENV, oCall, hc, oBuiltin, hargs, appendA, ht0, ht1, hu', hux', isIntD, hi, hss, hzz, hz0, hx, lenA]
   rw [← hx, if_pos (by decide), hf']
   simp only
   rw [if_pos hall]
   simp only [hs0, e3, h3, Bool.false_eq_true, if_false]
   rw [if_pos (by rw [e1, e2, ivs_length]; simp)]
   have hcs : ((ivs l).drop 0).take (l.length * (0 + 1)) ++ [iv z] = ivs (l ++ [z]) := by
     rw [List.drop_zero, List.take_of_length_le (by rw [ivs_length]; omega), ivs_snoc]
   rw [hcs]
   simp only [newU, hlt, if_true, Option.map_some]
 · refine o_append (cs := ivs l) (v := iv z) ho hg hc hargs ht (by rw [ivs_length]; omega) hr hx hbx rfl (.inr ⟨b, h1, h2, by rw [ivs_length]; exact hs0, h3⟩) fun r H1 e1 n1 gl1 g1 g2 _ => ?_
   rw [ivs_length] at e1
   subst e1
   exact hk H1 n1 gl1 g1 (by rw [g2, ivs_snoc])
end
def netE : Int → List (Int × Int) → Int
 | _, [] => 0
 | m, p :: ps => if rowE m p = 0 then netE (m + p.1 - p.2) ps else rowE m p
def netM : Int → List (Int × Int) → List Int
 | m, [] => [m]
 | m, p :: ps => m :: netM (m + p.1 - p.2) ps
def chkN (f : Int) (ms : List (Int × Int)) : Int := firstNZ [if inB f 1 500 = true then 0 else 3, if decide ((ms.length : Int) ≤ 64) = true then 0 else 5]
def mshE (f : Int) (ms : List (Int × Int)) : Int := if chkN f ms = 0 then netE f ms else chkN f ms
theorem first2n {a b : Int} (h : firstNZ [a, b] = 0) : a = 0 ∧ b = 0 := by
 unfold firstNZ at h
 by_cases ha : a = 0
 · refine ⟨ha, ?_⟩
   rw [if_neg (by simpa using ha)] at h
   unfold firstNZ at h
   by_cases hb : b = 0
   · exact hb
   · rw [if_pos hb] at h; exact h
 · rw [if_pos ha] at h; exact absurd h ha
theorem chkN_ok {f : Int} {ms : List (Int × Int)} (h : chkN f ms = 0) : (1 ≤ f ∧ f ≤ 500) ∧ ms.length ≤ 64 := by
 obtain ⟨h1, h2⟩ := first2n h
 constructor
 · cases hb : inB f 1 500 with
   | true => exact inB_iff.1 hb
   | false => rw [hb] at h1; simp at h1
 · by_cases hb : (ms.length : Int) ≤ 64
   · omega
   · rw [decide_eq_false hb] at h2; simp at h2
theorem drop_consP {l : List (Int × Int)} {i : Nat} {z : Int × Int} (h : l[i]? = some z) : l.drop i = z :: l.drop (i + 1) := by
 have hl := (List.getElem?_eq_some_iff.1 h).1
 rw [List.drop_eq_getElem_cons hl]
 congr 1
 exact (List.getElem?_eq_some_iff.1 h).2
variable {O : CallF} (hq : Quiet O)
include hq
theorem c46 (H : AH) (f : Int) (xb : Nat) (ms : List (Int × Int)) (hxb : xb < H.next) (hgx : H.get xb = some (.cells (fl2 ms) 120 0)) (hr : H.next + 20000 < 2 ^ 59) (K : AV → AH → Prop)
   (hke : mshE f ms ≠ 0 → ∀ H', Keeps H H' → H'.next ≤ H.next + 1000 → K (.tup [.v (.slice none 0 0), iv (mshE f ms)]) H')
   (hk : mshE f ms = 0 → ∀ H' r, Keeps H H' → H'.next ≤ H.next + 1000 → Mr H' r (netM f ms) → (∀ d, r.own = some d → H.next ≤ d) → K (.tup [r, iv 0]) H') : Ca (ENV O) 46 [.agg [iv f, .slc xb 0 ms.length ms.length]] H K := by
 refine ca_intro (hq _ _ _ rfl) (fn := Tryz.f46) (by rfl) rfl ?_
 have r0 : H.next < 2 ^ 59 := by omega
 repeat (first | apply qR | apply qS)
 refine wops_cons (o_boxS (cs := [iv f, .slc xb 0 ms.length ms.length]) rfl rfl rfl r0 fun H1 n1 k1 b1 => ?_)
 have hp0 : At H1 (.ptr H.next 0) (iv f) := b1.at rfl
 have hp1 : At H1 (.ptr H.next 1) (.slc xb 0 ms.length ms.length) := b1.at rfl
 have hL : ∀ c, (AV.ptr H.next 0).own = some c → Lk H1 c := fun c hc => by
   cases hc
   refine ⟨by omega, ?_⟩
   rw [b1.g]
   simp [sameBlk, beqs, AV.beq, vbeq, iv]
 have hL1 : ∀ c, (AV.ptr H.next 1).own = some c → Lk H1 c := hL
 have gx1 := (k1.get xb hxb).trans hgx
 have r1 : H1.next < 2 ^ 59 := by omega
 repeat (first | apply qN | refine qM rfl rfl ?_ | apply qS)
 refine wp_drawK rfl ?_
 refine k_field rfl rfl rfl rfl ?_
 refine k_load rfl rfl rfl hp0 hL ?_
 refine k_field rfl rfl rfl rfl ?_
 refine k_load rfl rfl rfl hp1 hL1 ?_
 refine k_lenP rfl rfl rfl rfl rfl rfl rfl (by omega) gx1 rfl ?_
 refine k_bin (op := .leq) (v := .bool (decide ((ms.length : Int) ≤ 64))) rfl rfl rfl rfl rfl rfl ?_
 refine k_call rfl rfl rfl (fun b h => by cases h) (wop_callF rfl rfl rfl (fn := Tryz.f84) (by rfl) ?_)
 refine cMesh hq H1 f _ ⟨Nat.le_refl _, Keeps.refl _, ?_⟩
 refine k_call rfl rfl rfl (fun b h => by cases h) (wop_callF rfl rfl rfl (fn := Tryz.f70) (by rfl) ?_)
 refine cThat hq H1 _ 5 _ ⟨Nat.le_refl _, Keeps.refl _, ?_⟩
 refine k_loud rfl rfl (o_build2 rfl rfl rfl rfl r1 ⟨(Keeps.refl H1).add _ r1, ?_⟩)
 refine WK.mem (fun H2 => Keeps H1 H2 ∧ H2.next = H1.next + 1 ∧ Sl H2 (.slc H1.next 0 2 2) (ivs [if inB f 1 500 = true then 0 else 3, if decide ((ms.length : Int) ≤ 64) = true then 0 else 5])) ⟨(Keeps.refl H1).add _ r1, rfl, sl_new (cs := ivs [if inB f 1 500 = true then 0 else 3, if decide ((ms.length : Int) ≤ 64) = true then 0 else 5]) r1 2⟩ ?_
 rintro H2 ⟨k2, n2, hs2⟩
 refine k_call rfl rfl rfl (fun b h => by cases h) (wop_callF rfl rfl rfl (fn := Tryz.f68) (by rfl) ?_)
 refine cFirst hq H2 _ _ hs2 (by show 2 ≤ 1000; decide) _ ⟨Nat.le_refl _, k2, ?_⟩
 clear hs2
 show WK _ _ _ _ _ _ _
 rw [show firstNZ [if inB f 1 500 = true then 0 else 3, if decide ((ms.length : Int) ≤ 64) = true then 0 else 5] = chkN f ms from rfl]
 have k02 := k1.trans k2
 have b2 := b1.keep (by omega) k2
 have hp02 : At H2 (.ptr H.next 0) (iv f) := b2.at rfl
 have hp12 : At H2 (.ptr H.next 1) (.slc xb 0 ms.length ms.length) := b2.at rfl
 repeat (first | refine qM rfl rfl ?_ | refine k_nil ?_ | refine k_assign rfl rfl rfl ?_ | apply qR | apply qS)
 refine WOps.cut (fun T => ∃ Y : List AV, T = (lget Y 0 :: .ptr H.next 0 :: lget Y 1 :: lget Y 2 :: iv (chkN f ms) :: lget Y 3 :: lget Y 4 :: lget Y 5 :: lget Y 6 :: lget Y 7 :: lget Y 8 :: lget Y 9 :: lget Y 10 :: lget Y 11 :: lget Y 12 :: lget Y 13 :: lget Y 14 :: lget Y 15 :: lget Y 16 :: lget Y 17 :: iv (chkN f ms) :: lget Y 18 :: lget Y 19 :: lget Y 20 :: lget Y 21 :: lget Y 22 :: lget Y 23 :: lget Y 24 :: lget Y 25 :: lget Y 26 :: lget Y 27 :: lget Y 28 :: lget Y 29 :: lget Y 30 :: lget Y 31 :: lget Y 32 :: lget Y 33 :: lget Y 34 :: lget Y 35 :: lget Y 36 :: lget Y 37 :: lget Y 38 :: lget Y 39 :: lget Y 40 :: lget Y 41 :: lget Y 42 :: lget Y 43 :: lget Y 44 :: lget Y 45 :: lget Y 46 :: lget Y 47 :: lget Y 48 :: [])) ⟨[_,_,_,_,_,_,_,_,_,_,_,_,_,_,_,_,_,_,_,_,_,_,_,_,_,_,_,_,_,_,_,_,_,_,_,_,_,_,_,_,_,_,_,_,_,_,_,_,_], rfl⟩ ?_
 rintro T ⟨Y, rfl⟩
 by_cases h0 : chkN f ms = 0
 rotate_left
 · have e : mshE f ms = chkN f ms := by unfold mshE; rw [if_neg h0]
   rw [e] at hke
   have hke := hke h0 H2 k02 (by omega)
   generalize chkN f ms = w at h0 hke ⊢
   refine wops_cons (wop_bin (op := .neq) (v := .bool true) rfl rfl rfl rfl (by simp [binI, h0]) ?_)
   repeat (first | apply qN | refine qM rfl rfl ?_ | refine qT rfl ?_ | apply qR | apply qS)
   refine wp_ret ?_
   exact ⟨_, _, rfl, hke⟩
 have e : mshE f ms = netE f ms := by unfold mshE; rw [if_pos h0]
 rw [e] at hk hke
 obtain ⟨hf, hml⟩ := chkN_ok h0
 rw [h0]
 refine wops_cons (wop_bin (op := .neq) (v := .bool false) rfl rfl rfl rfl rfl ?_)
 repeat (first | apply qN | refine zqa rfl rfl rfl ?_ | refine zq6 rfl rfl ‹_› ?_ | refine qF rfl ?_ | apply qR | apply qS | apply qK)
 have r2 : H2.next < 2 ^ 59 := by omega
 refine wops_cons (o_build1 rfl rfl rfl r2 ?_)
 refine WOps.mem (fun H3 => Keeps H H3 ∧ H3.next = H2.next + 1 ∧ H3.get H2.next = some (.cells (ivs [f]) 3 0) ∧ Bk H3 H.next 67 [iv f, .slc xb 0 ms.length ms.length]) ⟨k02.add _ r2, rfl, get_add_eq r2, b2.keep (by omega) ((Keeps.refl H2).add _ r2)⟩ ?_
 rintro H3 ⟨k3, n3, g3, b3⟩
 have hp13 : At H3 (.ptr H.next 1) (.slc xb 0 ms.length ms.length) := b3.at rfl
 have hx3 : S2 H3 120 (.slc xb 0 ms.length ms.length) ms := .inr ⟨xb, by have := k3.nx; omega, by omega, .inl ⟨_, rfl, (k3.get xb hxb).trans hgx⟩⟩
 repeat (first | apply qN | refine qM rfl rfl ?_ | refine zqa rfl rfl rfl ?_ | refine zq6 rfl rfl ‹_› ?_ | apply qR | apply qS)
 refine wops_cons (o_len2 rfl rfl rfl rfl rfl hx3 ?_)
 repeat (first | apply qN | refine qM rfl rfl ?_ | apply qB)
 refine wp_loop (fun q T M H' => ∃ (i : Nat) (r : AV) (l : List Int) (m : Int) (Y : List AV), q = ms.length - i ∧ i ≤ ms.length ∧ Keeps H H' ∧ H3.next ≤ H'.next ∧ H'.next ≤ H3.next + 5 * i ∧ Mr H' r (l ++ [m]) ∧ (∀ d, r.own = some d → H.next < d) ∧ l.length = i ∧ (1 ≤ m ∧ m ≤ 500) ∧ netE f ms = netE m (ms.drop i) ∧ netM f ms = l ++ netM m (ms.drop i) ∧ M = [] ∧ T = (lget Y 0 :: lget Y 1 :: lget Y 2 :: lget Y 3 :: lget Y 4 :: r :: lget Y 5 :: lget Y 6 :: lget Y 7 :: lget Y 8 :: lget Y 9 :: lget Y 10 :: lget Y 11 :: lget Y 12 :: lget Y 13 :: lget Y 14 :: lget Y 15 :: lget Y 16 :: lget Y 17 :: lget Y 18 :: lget Y 19 :: lget Y 20 :: lget Y 21 :: lget Y 22 :: lget Y 23 :: lget Y 24 :: lget Y 25 :: .slc xb 0 ms.length ms.length :: iv (ms.length : Nat) :: iv (i : Nat) :: lget Y 26 :: lget Y 27 :: lget Y 28 :: lget Y 29 :: lget Y 30 :: lget Y 31 :: lget Y 32 :: lget Y 33 :: lget Y 34 :: lget Y 35 :: lget Y 36 :: lget Y 37 :: lget Y 38 :: lget Y 39 :: lget Y 40 :: lget Y 41 :: lget Y 42 :: lget Y 43 :: lget Y 44 :: lget Y 45 :: lget Y 46 :: lget Y 47 :: [])) ms.length
   ⟨0, .slc H2.next 0 1 1, [], f, [_,_,_,_,_,_,_,_,_,_,_,_,_,_,_,_,_,_,_,_,_,_,_,_,_,_,_,_,_,_,_,_,_,_,_,_,_,_,_,_,_,_,_,_,_,_,_,_], rfl, Nat.zero_le _, k3, Nat.le_refl _, Nat.le_refl _, .inl ⟨H2.next, rfl, by omega, r2, g3⟩, (fun d hd => by cases hd; omega), rfl, hf, rfl, rfl, rfl, rfl⟩ ?_
 rintro q T M H4 ⟨i, r, l, m, Y, hq4, hi, k4, n4, n4', hM, hown, hll, hm, hE, hN, rfl, rfl⟩
 repeat (first | apply qR | apply qS)
 refine wops_cons (wop_cmp rfl rfl rfl rfl rfl (fun h => ?_) (fun h => ?_))
 rotate_left
 · have h : ¬ ((i : Int) < (ms.length : Nat)) := of_decide_eq_false h
   have e : i = ms.length := by omega
   subst e
   rw [List.drop_length] at hE hN
   have hN : netM f ms = l ++ [m] := hN
   rw [← hN] at hM
   repeat (first | apply qN | refine qM rfl rfl ?_ | refine qF rfl ?_ | apply qR | apply qS | apply qE)
   refine wp_ret ?_
   exact ⟨_, _, rfl, hk hE H4 r k4 (by omega) hM (fun d hd => Nat.le_of_lt (hown d hd))⟩
 have hi' : i < ms.length := by have h : (i : Int) < (ms.length : Nat) := of_decide_eq_true h; omega
 clear h
 obtain ⟨p, hp⟩ : ∃ p, ms[i]? = some p := ⟨ms[i], List.getElem?_eq_getElem hi'⟩
 rw [drop_consP hp] at hE hN
 have hx4 : S2 H4 120 (.slc xb 0 ms.length ms.length) ms := .inr ⟨xb, by have := k4.nx; omega, by omega, .inl ⟨_, rfl, (k4.get xb hxb).trans hgx⟩⟩
 repeat (first | apply qN | refine qM rfl rfl ?_ | refine qT rfl ?_ | apply qR | apply qS | apply qK | apply qB)
 refine wops_cons (o_index2 rfl rfl hx4 rfl hp fun xb' gr hxb' hxg => ?_)
 refine wops_cons (o_loadA (r := [iv p.1, iv p.2]) (n := 2) rfl rfl (by kernel_rfl) (by kernel_rfl) rfl hxg (by rw [Nat.zero_add]; exact fl2_get hp) (by rw [fl2_len]; omega) ?_)
 have r4 : H4.next < 2 ^ 59 := by omega
 refine wops_cons (o_allocA (zs := [iv 0, iv 0]) rfl rfl (z := .agg #[.int .i64 0, .int .i64 0]) (by kernel_rfl) rfl r4 ?_)
 repeat (first | refine qM rfl rfl ?_)
 refine wops_cons (o_storeA (n := 2) (vs := [iv p.1, iv p.2]) rfl rfl (by kernel_rfl) rfl rfl rfl rfl (get_add_eq r4) (Nat.le_refl _) ?_)
 refine WOps.mem (fun H5 => Keeps H4 H5 ∧ H5.next = H4.next + 1 ∧ Bk H5 H4.next 120 [iv p.1, iv p.2]) ⟨((Keeps.refl H4).add _ r4).set _ (Nat.le_refl _) r4, rfl, ⟨r4, get_set_eq r4⟩⟩ ?_
 rintro H5 ⟨k5, n5, b5⟩
 have hM5 := hM.keep k5
 have hget : (l ++ [m])[i]? = some m := by rw [List.getElem?_append_right (by omega), hll, Nat.sub_self]; rfl
 have hLb : ∀ c, (AV.ptr H4.next 0).own = some c → Lk H5 c := fun c hc => by
   cases hc
   refine ⟨by omega, ?_⟩
   rw [b5.g]
   simp [sameBlk, beqs, AV.beq, vbeq, iv]
 show WOps _ _ _ _ _ _
 repeat (first | apply qN | apply qS)
 refine wp_drawK rfl ?_
 refine k_move rfl rfl rfl ?_
 refine k_move rfl rfl rfl ?_
 refine k_indexI rfl rfl rfl hM5.sl rfl hget hM5.lk fun pp hpp hpo => ?_
 refine k_load rfl rfl rfl hpp hpo ?_
 refine k_load4 rfl rfl rfl rfl b5 hLb ?_
 refine k_call rfl rfl rfl (fun b h => by cases h) (wop_callF rfl rfl rfl (fn := Tryz.f106) (by rfl) ?_)
 refine c106 hq H5 m p _ rfl hm (by omega) _ fun H6 nx k6 n6 hnx => ⟨k6.nx, k6, ?_⟩
 refine k_move rfl rfl rfl ?_
 refine k_extract rfl rfl rfl rfl rfl ?_
 refine k_extract rfl rfl rfl rfl rfl ?_
 repeat (first | refine qM rfl rfl ?_ | refine k_nil ?_ | refine k_assign rfl rfl rfl ?_ | apply qR | apply qS)
 have hM6 := hM5.keep k6
 have k46 := k5.trans k6
 have k06 := k4.trans k46
 by_cases hz : rowE m p = 0
 · rw [netE, if_pos hz] at hE
   have hnx := hnx hz
   subst hnx
   obtain ⟨_, hm1, hm2⟩ := rowE_ok hm hz
   rw [hz]
   refine wops_cons (wop_bin (op := .neq) (v := .bool false) rfl rfl rfl rfl rfl ?_)
   repeat (first | apply qN | refine qM rfl rfl ?_ | refine qF rfl ?_ | apply qR | apply qK)
   have r6 : H6.next < 2 ^ 59 := by omega
   refine wops_cons (o_build1 rfl rfl rfl r6 ?_)
   refine WOps.mem (fun H7 => Keeps H6 H7 ∧ H7.next = H6.next + 1 ∧ H7.get H6.next = some (.cells [iv (m + p.1 - p.2)] 3 0)) ⟨(Keeps.refl H6).add _ r6, rfl, get_add_eq r6⟩ ?_
   rintro H7 ⟨k7, n7, g7⟩
   have r7 : H7.next < 2 ^ 59 := by omega
   refine wops_cons (o_append1M (l := l ++ [m]) (z := m + p.1 - p.2) rfl rfl rfl rfl rfl (by rw [List.length_append]; show l.length + 1 < 2 ^ 20; omega) r7 rfl g7 (hM6.keep k7) fun H8 n8 gl8 f8 g8 => ?_)
   have k07 := k06.trans k7
   have k08 : Keeps H H8 := ⟨by have := k07.nx; omega, gl8.trans k07.gl, fun d hd => (f8 d (by have := k07.nx; omega) (fun e => by have := hown d e; omega)).trans (k07.get d hd)⟩
   repeat (first | apply qN | refine qM rfl rfl ?_ | refine zq4 rfl rfl rfl rfl (inc (by omega)) ?_ | apply qR)
   refine ⟨ms.length - (i + 1), by omega, i + 1, .slu H7.next 0 ((l ++ [m]).length + 1) 1, l ++ [m], m + p.1 - p.2, [_,_,_,_,_,_,_,_,_,_,_,_,_,_,_,_,_,_,_,_,_,_,_,_,_,_,_,_,_,_,_,_,_,_,_,_,_,_,_,_,_,_,_,_,_,_,_,_], rfl, by omega, k08, by have := k46.nx; have := k7.nx; omega, by omega, .inr ⟨H7.next, by simp, by omega, r7, g8⟩, (fun d hd => by cases hd; have h1 := k4.nx; have h2 := k46.nx; have h3 := k7.nx; have h4 := k3.nx; omega), by rw [List.length_append]; show l.length + 1 = i + 1; omega, ⟨hm1, hm2⟩, hE, by rw [hN, netM]; simp, rfl, rfl⟩
 · rw [netE, if_neg hz] at hE
   have hke := hke (by rw [hE]; exact hz) H6 k06 (by omega)
   rw [hE] at hke
   generalize rowE m p = w at hz hke ⊢
   refine wops_cons (wop_bin (op := .neq) (v := .bool true) rfl rfl rfl rfl (by simp [binI, hz]) ?_)
   repeat (first | apply qN | refine qM rfl rfl ?_ | refine qT rfl ?_ | apply qR | apply qS)
   refine wp_ret ?_
   exact ⟨_, _, rfl, hke⟩
theorem c45 (H : AH) (f : Int) (xb : Nat) (ms : List (Int × Int)) (mv : AV) (hmv : mv = .agg [iv f, .slc xb 0 ms.length ms.length]) (hxb : xb < H.next) (hgx : H.get xb = some (.cells (fl2 ms) 120 0)) (hr : H.next + 30000 < 2 ^ 59) (K : AV → AH → Prop)
   (hk : ∀ H', Keeps H H' → H'.next ≤ H.next + 1100 → K (iv (mshE f ms)) H') : Ca (ENV O) 45 [mv] H K := by
 subst hmv
 refine ca_intro (hq _ _ _ rfl) (fn := Tryz.f45) (by rfl) rfl ?_
 have r0 : H.next < 2 ^ 59 := by omega
 repeat (first | apply qR | apply qS)
 refine wops_cons (o_boxS (cs := [iv f, .slc xb 0 ms.length ms.length]) rfl rfl rfl r0 fun H1 n1 k1 b1 => ?_)
 repeat (first | apply qN | refine qM rfl rfl ?_ | refine zqb rfl rfl rfl ‹_› ?_ | apply qR | apply qS)
 refine wops_cons (wop_callF rfl rfl rfl (fn := Tryz.f46) (by rfl) ?_)
 refine c46 hq H1 f xb ms (by omega) ((k1.get xb hxb).trans hgx) (by omega) _ (fun h0 H2 k2 n2 => ⟨k2.nx, ?_⟩) (fun h0 H2 r k2 n2 hM hown => ⟨k2.nx, ?_⟩)
 · repeat (first | apply qN | refine qM rfl rfl ?_ | refine zq9 rfl rfl rfl rfl ?_ | apply qR | apply qS)
   refine wp_ret ?_
   exact ⟨_, _, rfl, hk H2 (k1.trans k2) (by omega)⟩
 · rw [h0] at hk
   repeat (first | apply qN | refine qM rfl rfl ?_ | refine zq9 rfl rfl rfl rfl ?_ | apply qR | apply qS)
   refine wp_ret ?_
   exact ⟨_, _, rfl, hk H2 (k1.trans k2) (by omega)⟩
end Go.Ev
