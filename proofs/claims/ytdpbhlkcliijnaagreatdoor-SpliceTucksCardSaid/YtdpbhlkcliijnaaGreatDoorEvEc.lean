/- Part of an evaluator of calls that is proved sound, and of what it gives about this program. No condition of its own. -/
import Derived.Test.YtdpbhlkcliijnaaGreatDoorEvEa
set_option linter.unusedVariables false
set_option linter.unusedSimpArgs false
set_option linter.unusedSectionVars false
set_option maxRecDepth 100000
set_option maxHeartbeats 4000000
namespace Go.Ev
open Go.Proofs
section
variable {E : Env} {ops : Array Oper} {H0 : AH}
theorem WK.mono {K K' : List AV → AH → Prop} (hq : ∀ T H, K T H → K' T H) : ∀ {π : List Stp} {T : List AV} {H : AH}, WK E ops H0 π T H K → WK E ops H0 π T H K'
 | [], T, H, h => hq T H h
 | .mob i :: π, T, H, ⟨o, r, h1, h2, h3⟩ => ⟨o, r, h1, h2, WK.mono hq h3⟩
 | .loud i :: π, T, H, ⟨o, h1, n, r, H1, h2, h5, h3⟩ => ⟨o, h1, n, r, H1, h2, h5, WK.mono hq h3⟩
 | .alc i :: π, T, H, ⟨o, h1, .inl ⟨hw, h4⟩⟩ => ⟨o, h1, .inl ⟨hw, WK.mono hq h4⟩⟩
 | .alc i :: π, T, H, ⟨o, h1, .inr ⟨hw, k, cs, t, H1, h2, h3, h4⟩⟩ => ⟨o, h1, .inr ⟨hw, k, cs, t, H1, h2, h3, WK.mono hq h4⟩⟩
theorem wk_split : ∀ (n : Nat) {π : List Stp} {T : List AV} {H : AH} {K : List AV → AH → Prop}, WK E ops H0 (π.take n) T H (fun T' H' => WK E ops H0 (π.drop n) T' H' K) → WK E ops H0 π T H K
 | 0, π, T, H, K, h => h
 | n + 1, [], T, H, K, h => h
 | n + 1, .mob i :: π, T, H, K, ⟨o, r, h1, h2, h3⟩ => ⟨o, r, h1, h2, wk_split n h3⟩
 | n + 1, .loud i :: π, T, H, K, ⟨o, h1, m, r, H1, h2, h5, h3⟩ => ⟨o, h1, m, r, H1, h2, h5, wk_split n h3⟩
 | n + 1, .alc i :: π, T, H, K, ⟨o, h1, .inl ⟨hw, h4⟩⟩ => ⟨o, h1, .inl ⟨hw, wk_split n h4⟩⟩
 | n + 1, .alc i :: π, T, H, K, ⟨o, h1, .inr ⟨hw, k, cs, t, H1, h2, h3, h4⟩⟩ => ⟨o, h1, .inr ⟨hw, k, cs, t, H1, h2, h3, wk_split n h4⟩⟩
end
section
variable {O : CallF} {T : List AV} {H H0 : AH} {ops : Array Oper} {o : Oper} {i : Nat} {π : List Stp} {K : AV → AH → Prop} {B : Nat → Prop}
theorem o_min {c : Call} {x y : Operand} {a b : Int} (ho : o.op = .call c) (hg : wantedA o ops T = true) (hc : c.callee = .builtin .min) (hargs : c.args.toList = [x, y]) (hx : av T x = iv a) (hy : av T y = iv b) (hk : K (iv (if b < a then b else a)) H) : WOp (ENV O) ops o T H K := by
 refine wop_val (by rw [ho]; simp only [still, hc]) hg (r := iv (if b < a then b else a)) ?_ (Nat.le_refl _) hk
 unfold opEval; rw [ho]
 simp only [ENV, oCall, hc, oBuiltin]
 unfold plainOp
 have h2 : runPure Tryz.prog (execOp (fun x => ((av T x).plain).getD undef) o) = some (.value (.int .i64 (if b < a then b else a))) := by
   obtain ⟨dst, op', type, pos, after, guard⟩ := o
   simp only at ho
   subst ho
   obtain ⟨callee, args, ats⟩ := c
   simp only at hc hargs
   subst hc
   have ha : args = #[x, y] := by apply Array.ext'; simpa using hargs
   subst ha
   simp only [execOp, Go.resolve, runPure_bind, runPure_pure, Option.bind_some, Go.invoke, Go.builtin, Builtin.min_, Builtin.min2, List.map_toArray, List.map_cons, List.map_nil, hx, hy, AV.plain, Option.getD_some, List.foldlM_cons, List.foldlM_nil]
 rw [h2, ho]
 obtain ⟨callee, args, ats⟩ := c
 simp only at hc hargs
 subst hc
 have ha : args = #[x, y] := by apply Array.ext'; simpa using hargs
 subst ha
 simp [Op.operands, Call.operands, hx, hy, AV.plain]
end
def mxF : Int → List Int → Int
 | a, [] => a
 | a, b :: l => mxF (if b > a then b else a) l
def mnF : Int → List Int → Int
 | a, [] => a
 | a, b :: l => mnF (if b < a then b else a) l
theorem mxF_p : ∀ (l : List Int) (a : Int), (a ≤ mxF a l ∧ ∀ z ∈ l, z ≤ mxF a l) ∧ (mxF a l = a ∨ mxF a l ∈ l)
 | [], a => ⟨⟨Int.le_refl _, fun z h => by simp at h⟩, .inl rfl⟩
 | b :: l, a => by
   obtain ⟨⟨h1, h2⟩, h3⟩ := mxF_p l (if b > a then b else a)
   rw [mxF]
   generalize mxF (if b > a then b else a) l = m at h1 h2 h3 ⊢
   refine ⟨⟨by split at h1 <;> omega, fun z hz => ?_⟩, ?_⟩
   · rcases List.mem_cons.1 hz with rfl | hz
     · split at h1 <;> omega
     · exact h2 z hz
   · rcases h3 with h3 | h3
     · split at h3
       · exact .inr (by rw [h3]; simp)
       · exact .inl h3
     · exact .inr (List.mem_cons_of_mem _ h3)
theorem mnF_p : ∀ (l : List Int) (a : Int), (mnF a l ≤ a ∧ ∀ z ∈ l, mnF a l ≤ z) ∧ (mnF a l = a ∨ mnF a l ∈ l)
 | [], a => ⟨⟨Int.le_refl _, fun z h => by simp at h⟩, .inl rfl⟩
 | b :: l, a => by
   obtain ⟨⟨h1, h2⟩, h3⟩ := mnF_p l (if b < a then b else a)
   rw [mnF]
   generalize mnF (if b < a then b else a) l = m at h1 h2 h3 ⊢
   refine ⟨⟨by split at h1 <;> omega, fun z hz => ?_⟩, ?_⟩
   · rcases List.mem_cons.1 hz with rfl | hz
     · split at h1 <;> omega
     · exact h2 z hz
   · rcases h3 with h3 | h3
     · split at h3
       · exact .inr (by rw [h3]; simp)
       · exact .inl h3
     · exact .inr (List.mem_cons_of_mem _ h3)
def mxL (l : List Int) : Int := mxF (l.headD 0) l.tail
def mnL (l : List Int) : Int := mnF (l.headD 0) l.tail
theorem even_iff {l : List Int} (h : l ≠ []) : mxL l - mnL l ≤ 1 ↔ ∀ x ∈ l, ∀ y ∈ l, ¬ x > y + 1 := by
 cases l with
 | nil => exact absurd rfl h
 | cons a l =>
   show mxF a l - mnF a l ≤ 1 ↔ _
   obtain ⟨⟨h1, h2⟩, h3⟩ := mxF_p l a
   obtain ⟨⟨g1, g2⟩, g3⟩ := mnF_p l a
   generalize mxF a l = M at h1 h2 h3 ⊢
   generalize mnF a l = m at g1 g2 g3 ⊢
   have hM : M ∈ a :: l := by rcases h3 with e | e <;> simp [e]
   have hm : m ∈ a :: l := by rcases g3 with e | e <;> simp [e]
   have h4 : ∀ x ∈ a :: l, m ≤ x ∧ x ≤ M := fun x hx => by
     rcases List.mem_cons.1 hx with rfl | hx
     · exact ⟨g1, h1⟩
     · exact ⟨g2 x hx, h2 x hx⟩
   constructor
   · intro e x hx y hy
     have := h4 x hx
     have := h4 y hy
     omega
   · intro e
     have := e M hM m hm
     omega
theorem mnL_min {l : List Int} (h : l ≠ []) {z : Int} (hz : z ∈ l) : z = mnL l ↔ ∀ x ∈ l, ¬ x < z := by
 cases l with
 | nil => exact absurd rfl h
 | cons a l =>
   show z = mnF a l ↔ _
   obtain ⟨⟨g1, g2⟩, g3⟩ := mnF_p l a
   generalize mnF a l = m at g1 g2 g3 ⊢
   have hm : m ∈ a :: l := by rcases g3 with e | e <;> simp [e]
   have h4 : ∀ x ∈ a :: l, m ≤ x := fun x hx => by
     rcases List.mem_cons.1 hx with rfl | hx
     · exact g1
     · exact g2 x hx
   constructor
   · rintro rfl x hx
     have := h4 x hx
     omega
   · intro e
     have h5 := e m hm
     have h6 := h4 z hz
     omega
def prs (tk gp : List Int) : List (Int × Int) := tk.zip gp
theorem prs_get {tk gp : List Int} {i : Nat} {a b : Int} (h1 : tk[i]? = some a) (h2 : gp[i]? = some b) : (prs tk gp)[i]? = some (a, b) := by
 unfold prs
 exact List.getElem?_zip_eq_some.2 ⟨h1, h2⟩
variable {O : CallF} (hq : Quiet O)
include hq
theorem c75 (H : AH) (y : AV) (a : Int) (l : List Int) (hy : Sl H y (ivs (a :: l))) (hl : l.length ≤ 100000) (K : AV → AH → Prop) (hk : K (iv (mxL (a :: l))) H) : Ca (ENV O) 75 [y] H K := by
 refine ca_intro (hq _ _ _ rfl) (fn := Tryz.f75) (by rfl) rfl ?_
 have hcl : (a :: l).length ≤ 100001 := by simp; omega
 repeat (first | apply qN | refine qM rfl rfl ?_ | refine zq5 rfl rfl rfl rfl rfl ‹_› ?_ | apply qR | apply qS)
 refine wops_cons (wop_bin (op := .lss) (v := .bool false) rfl rfl rfl rfl (by show some (Value.bool (decide (((a :: l).length : Int) < 1))) = _; rw [decide_eq_false (by simp; omega)]) ?_)
 repeat (first | apply qN | refine qM rfl rfl ?_ | refine qF rfl ?_ | apply qR | apply qS | apply qK)
 refine wops_cons (o_indexI (j := 0) (z := a) rfl rfl hy rfl rfl fun p hp => ?_)
 repeat (first | apply qN | refine qM rfl rfl ?_ | refine zq6 rfl rfl ‹_› ?_ | apply qR | apply qS | apply qB)
 refine wp_loop (fun q T M H' => ∃ (i : Nat) (m : Int) (Y : List AV), q = (a :: l).length - i ∧ i ≤ (a :: l).length ∧ H' = H ∧ mxL (a :: l) = mxF m ((a :: l).drop i) ∧ M = [] ∧ T = (y :: lget Y 0 :: lget Y 1 :: iv m :: iv (i : Nat) :: lget Y 2 :: lget Y 3 :: lget Y 4 :: lget Y 5 :: lget Y 6 :: lget Y 7 :: lget Y 8 :: lget Y 9 :: lget Y 10 :: lget Y 11 :: lget Y 12 :: lget Y 13 :: lget Y 14 :: lget Y 15 :: lget Y 16 :: lget Y 17 :: lget Y 18 :: lget Y 19 :: lget Y 20 :: lget Y 21 :: [])) l.length
   ⟨1, a, [_,_,_,_,_,_,_,_,_,_,_,_,_,_,_,_,_,_,_,_,_,_], by simp, by simp, rfl, rfl, rfl, rfl⟩ ?_
 rintro q T M H1 ⟨i, m, Y, hq1, hi, rfl, hm, rfl, rfl⟩
 repeat (first | refine qM rfl rfl ?_ | refine zq5 rfl rfl rfl rfl rfl ‹_› ?_ | apply qR | apply qS)
 refine wops_cons (wop_cmp rfl rfl rfl rfl rfl (fun h => ?_) (fun h => ?_))
 rotate_left
 · have h : ¬ ((i : Int) < ((a :: l).length : Nat)) := of_decide_eq_false h
   have e : i = (a :: l).length := by omega
   subst e
   rw [List.drop_length] at hm
   rw [hm] at hk
   repeat (first | apply qN | refine qM rfl rfl ?_ | refine qF rfl ?_ | apply qR | apply qS | apply qE)
   refine wp_ret ?_
   exact ⟨_, _, rfl, hk⟩
 have hi' : i < (a :: l).length := by have h : (i : Int) < ((a :: l).length : Nat) := of_decide_eq_true h; omega
 clear h
 obtain ⟨z, hz⟩ := l_some hi'
 rw [drop_cons hz, mxF] at hm
 repeat (first | apply qN | refine qM rfl rfl ?_ | refine qT rfl ?_ | apply qR | apply qS | apply qK | apply qB)
 refine wops_cons (o_indexI rfl rfl hy rfl hz fun p hp => ?_)
 repeat (first | refine zq6 rfl rfl ‹_› ?_)
 refine wops_cons (o_max rfl rfl rfl rfl rfl rfl ?_)
 repeat (first | apply qN | refine qM rfl rfl ?_ | refine zq4 rfl rfl rfl rfl (inc (by omega)) ?_ | apply qR)
 exact ⟨(a :: l).length - (i + 1), by omega, i + 1, _, [_,_,_,_,_,_,_,_,_,_,_,_,_,_,_,_,_,_,_,_,_,_], rfl, by omega, rfl, hm, rfl, rfl⟩
theorem c76 (H : AH) (y : AV) (a : Int) (l : List Int) (hy : Sl H y (ivs (a :: l))) (hl : l.length ≤ 100000) (K : AV → AH → Prop) (hk : K (iv (mnL (a :: l))) H) : Ca (ENV O) 76 [y] H K := by
 refine ca_intro (hq _ _ _ rfl) (fn := Tryz.f76) (by rfl) rfl ?_
 have hcl : (a :: l).length ≤ 100001 := by simp; omega
 repeat (first | apply qN | refine qM rfl rfl ?_ | refine zq5 rfl rfl rfl rfl rfl ‹_› ?_ | apply qR | apply qS)
 refine wops_cons (wop_bin (op := .lss) (v := .bool false) rfl rfl rfl rfl (by show some (Value.bool (decide (((a :: l).length : Int) < 1))) = _; rw [decide_eq_false (by simp; omega)]) ?_)
 repeat (first | apply qN | refine qM rfl rfl ?_ | refine qF rfl ?_ | apply qR | apply qS | apply qK)
 refine wops_cons (o_indexI (j := 0) (z := a) rfl rfl hy rfl rfl fun p hp => ?_)
 repeat (first | apply qN | refine qM rfl rfl ?_ | refine zq6 rfl rfl ‹_› ?_ | apply qR | apply qS | apply qB)
 refine wp_loop (fun q T M H' => ∃ (i : Nat) (m : Int) (Y : List AV), q = (a :: l).length - i ∧ i ≤ (a :: l).length ∧ H' = H ∧ mnL (a :: l) = mnF m ((a :: l).drop i) ∧ M = [] ∧ T = (y :: lget Y 0 :: lget Y 1 :: iv m :: iv (i : Nat) :: lget Y 2 :: lget Y 3 :: lget Y 4 :: lget Y 5 :: lget Y 6 :: lget Y 7 :: lget Y 8 :: lget Y 9 :: lget Y 10 :: lget Y 11 :: lget Y 12 :: lget Y 13 :: lget Y 14 :: lget Y 15 :: lget Y 16 :: lget Y 17 :: lget Y 18 :: lget Y 19 :: lget Y 20 :: lget Y 21 :: [])) l.length
   ⟨1, a, [_,_,_,_,_,_,_,_,_,_,_,_,_,_,_,_,_,_,_,_,_,_], by simp, by simp, rfl, rfl, rfl, rfl⟩ ?_
 rintro q T M H1 ⟨i, m, Y, hq1, hi, rfl, hm, rfl, rfl⟩
 repeat (first | refine qM rfl rfl ?_ | refine zq5 rfl rfl rfl rfl rfl ‹_› ?_ | apply qR | apply qS)
 refine wops_cons (wop_cmp rfl rfl rfl rfl rfl (fun h => ?_) (fun h => ?_))
 rotate_left
 · have h : ¬ ((i : Int) < ((a :: l).length : Nat)) := of_decide_eq_false h
   have e : i = (a :: l).length := by omega
   subst e
   rw [List.drop_length] at hm
   rw [hm] at hk
   repeat (first | apply qN | refine qM rfl rfl ?_ | refine qF rfl ?_ | apply qR | apply qS | apply qE)
   refine wp_ret ?_
   exact ⟨_, _, rfl, hk⟩
 have hi' : i < (a :: l).length := by have h : (i : Int) < ((a :: l).length : Nat) := of_decide_eq_true h; omega
 clear h
 obtain ⟨z, hz⟩ := l_some hi'
 rw [drop_cons hz, mnF] at hm
 repeat (first | apply qN | refine qM rfl rfl ?_ | refine qT rfl ?_ | apply qR | apply qS | apply qK | apply qB)
 refine wops_cons (o_indexI rfl rfl hy rfl hz fun p hp => ?_)
 repeat (first | refine zq6 rfl rfl ‹_› ?_)
 refine wops_cons (o_min rfl rfl rfl rfl rfl rfl ?_)
 repeat (first | apply qN | refine qM rfl rfl ?_ | refine zq4 rfl rfl rfl rfl (inc (by omega)) ?_ | apply qR)
 exact ⟨(a :: l).length - (i + 1), by omega, i + 1, _, [_,_,_,_,_,_,_,_,_,_,_,_,_,_,_,_,_,_,_,_,_,_], rfl, by omega, rfl, hm, rfl, rfl⟩
theorem c77 (H : AH) (x y : AV) (tk gp : List Int) (hx : Ky H x tk) (hy : Ky H y gp) (hn : gp.length = tk.length) (hl : tk.length ≤ 100000) (hr : H.next + 20 < 2 ^ 39) (K : AV → AH → Prop)
   (hk : ∀ H' es cl, Keeps H H' → H'.next = H.next + 2 → H'.get (H.next + 1) = some (.map es cl) → Sp es (spt [] (prs tk gp)) → K (.mp (H.next + 1)) H') : Ca (ENV O) 77 [.agg [x, y]] H K := by
 refine ca_intro (hq _ _ _ rfl) (fn := Tryz.f77) (by rfl) rfl ?_
 have r0 : H.next < 2 ^ 39 := by omega
 repeat (first | apply qR | apply qS)
 refine wops_cons (o_boxS (cs := [x, y]) rfl rfl rfl r0 fun H1 n1 k1 b1 => ?_)
 have r1 : H1.next < 2 ^ 39 := by omega
 repeat (first | apply qN | refine qM rfl rfl ?_ | apply qR | apply qS)
 refine wops_cons (wop_makeMap rfl rfl r1 ?_)
 refine WOps.mem (fun H2 => Keeps H H2 ∧ H2.next = H.next + 2 ∧ H2.get H1.next = some (.map [] 0) ∧ Bk H2 H.next 26 [x, y]) ⟨k1.add _ r1, by show H1.next + 1 = _; omega, get_add_eq r1, b1.keep (by omega) ((Keeps.refl H1).add _ r1)⟩ ?_
 rintro H2 ⟨k2, n2, g2, b2⟩
 have p0 : At H2 (.ptr H.next 0) x := b2.at rfl
 have hx2 := (hx.keep k2).sl
 show WOps _ _ _ _ _ _
 rw [show H1.next = H.next + 1 from n1] at g2 ⊢
 repeat (first | apply qN | refine qM rfl rfl ?_ | refine zqa rfl rfl rfl ?_ | refine zq5 rfl rfl rfl rfl rfl ‹_› ?_ | refine zq6 rfl rfl ‹_› ?_ | apply qR | apply qS | apply qB)
 refine wp_loop (fun q T M H' => ∃ (i : Nat) (es : List MapEntry) (cl : Nat) (L : List (Int × Int)) (Y : List AV), q = tk.length - i ∧ i ≤ tk.length ∧ Keeps H H' ∧ H'.next = H.next + 2 ∧ Bk H' H.next 26 [x, y] ∧ H'.get (H.next + 1) = some (.map es cl) ∧ Sp es L ∧ spt [] (prs tk gp) = spt L ((prs tk gp).drop i) ∧ M = [] ∧ T = (lget Y 0 :: .ptr H.next 0 :: lget Y 1 :: .mp (H.next + 1) :: lget Y 2 :: lget Y 3 :: lget Y 4 :: lget Y 5 :: x :: iv (tk.length : Nat) :: iv (i : Nat) :: lget Y 6 :: lget Y 7 :: lget Y 8 :: lget Y 9 :: lget Y 10 :: lget Y 11 :: lget Y 12 :: lget Y 13 :: lget Y 14 :: lget Y 15 :: lget Y 16 :: lget Y 17 :: lget Y 18 :: lget Y 19 :: [])) tk.length
   ⟨0, [], 0, [], [_,_,_,_,_,_,_,_,_,_,_,_,_,_,_,_,_,_,_,_], rfl, Nat.zero_le _, k2, n2, b2, g2, Sp.nil, rfl, rfl, rfl⟩ ?_
 rintro q T M H3 ⟨i, es, cl, L, Y, hq3, hi, k3, n3, b3, g3, hS, hL, rfl, rfl⟩
 repeat (first | apply qR | apply qS)
 refine wops_cons (wop_cmp rfl rfl rfl rfl rfl (fun h => ?_) (fun h => ?_))
 rotate_left
 · have h : ¬ ((i : Int) < (tk.length : Nat)) := of_decide_eq_false h
   have e : i = tk.length := by omega
   subst e
   have hz : (prs tk gp).drop tk.length = [] := List.drop_eq_nil_of_le (by unfold prs; rw [List.length_zip]; omega)
   rw [hz] at hL
   rw [show spt L [] = L from rfl] at hL
   rw [← hL] at hS
   repeat (first | apply qN | refine qM rfl rfl ?_ | refine qF rfl ?_ | apply qR | apply qS | apply qE)
   refine wp_ret ?_
   exact ⟨_, _, rfl, hk H3 es cl k3 n3 g3 hS⟩
 have hi' : i < tk.length := by have h : (i : Int) < (tk.length : Nat) := of_decide_eq_true h; omega
 clear h
 obtain ⟨a, ha⟩ := l_some hi'
 obtain ⟨b, hb⟩ := l_some (show i < gp.length by omega)
 rw [drop_consP (prs_get ha hb), spt] at hL
 have hx3 := (hx.keep k3).sl
 have hy3 := (hy.keep k3).sl
 have p1 : At H3 (.ptr H.next 1) y := b3.at rfl
 repeat (first | apply qN | refine qM rfl rfl ?_ | refine qT rfl ?_ | apply qR | apply qS | apply qK | apply qB)
 refine wops_cons (o_indexI rfl rfl hx3 rfl ha fun p hp => ?_)
 repeat (first | apply qN | refine qM rfl rfl ?_ | refine zqa rfl rfl rfl ?_ | refine zq6 rfl rfl ‹_› ?_ | apply qR)
 refine wops_cons (o_indexI rfl rfl hy3 rfl hb fun p2 hp2 => ?_)
 repeat (first | refine zq6 rfl rfl ‹_› ?_)
 refine wops_cons (o_buildP rfl rfl rfl rfl ?_)
 have rm : H.next + 1 < 2 ^ 39 := by omega
 refine wops_cons (o_putS (p := (a, b)) rfl rfl rfl rfl rfl g3 hS fun es' cl' hS' => ?_)
 refine WOps.mem (fun H4 => Keeps H H4 ∧ H4.next = H.next + 2 ∧ Bk H4 H.next 26 [x, y] ∧ H4.get (H.next + 1) = some (.map es' cl')) ⟨k3.set _ (by omega) rm, n3, ⟨b3.lt, by rw [get_set_ne rm (by omega)]; exact b3.g⟩, get_set_eq rm⟩ ?_
 rintro H4 ⟨k4, n4, b4, g4⟩
 repeat (first | apply qN | refine qM rfl rfl ?_ | refine zq4 rfl rfl rfl rfl (inc (by omega)) ?_ | apply qR)
 exact ⟨tk.length - (i + 1), by omega, i + 1, es', cl', _, [_,_,_,_,_,_,_,_,_,_,_,_,_,_,_,_,_,_,_,_], rfl, by omega, k4, n4, b4, g4, hS', hL, rfl, rfl⟩
end Go.Ev
